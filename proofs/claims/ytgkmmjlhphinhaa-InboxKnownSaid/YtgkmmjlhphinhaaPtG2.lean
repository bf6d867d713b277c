/-
  What is proved here: contracts of graph.Check and of the document's own Check: may a graph be? Conditions: numbers and counts fit an int.
-/
import Derived.Test.YtgkmmjlhphinhaaPtG1
import Derived.Outline
namespace Go.Proofs.Ytgkmmjlhphinhaa.Gr
open Go.RowKit Wd Ws

theorem mixedO : Try.prog.follows .mixedOrders = true := by kernel_rfl
def prv (L : List Ed) (k : Nat) : Option Ed := if k = 0 then none else L[k - 1]?
theorem eb_cells {w : World} {b : Nat} {x y z : Int} (h : w.heap[b]? = some (.cells #[.int .i64 x, .int .i64 y, .int .i64 z] 120 (0, 0))) :
    w.cell? ⟨b, 0, none⟩ = some (.int .i64 x) ∧ w.cell? ⟨b, 1, none⟩ = some (.int .i64 y) ∧ w.cell? ⟨b, 2, none⟩ = some (.int .i64 z) ∧ b < w.heap.size :=
  ⟨by rw [Lib.cell_of_heap h]; rfl, by rw [Lib.cell_of_heap h]; rfl, by rw [Lib.cell_of_heap h]; rfl, lt_of_block h⟩

end Go.Proofs.Ytgkmmjlhphinhaa.Gr
