/-
  What is proved here: contracts of inbox.with and of inbox.together: what came to whom. Conditions: vertices fit an int, fewer than 10^9 messages. What is proved here: a contract of inbox.together: what came to whom of rows of messages. Conditions: vertices fit an int, fewer than 10^9 messages.
-/
import Derived.Test.YtfbfckdabbaocaaQaInMapx
import Derived.Test.YtfbfckdabbaocaaRows
import Derived.StillTail
import Derived.Deep.QuietTactic
import Derived.BigQuiet
import Derived.Lib.QuietBelow
import Derived.Carry
namespace Go.Proofs.Ytfbfckdabbaocaa.In
open Go.RowKit Go.Maps Gr Wd Ws Fx Rk Lb Al
theorem mixedI : Try.prog.follows .mixedOrders = true := by kernel_rfl
theorem ml_cells {W : World} {b : Nat} {p : Bool} {x : Int} (h : W.heap[b]? = some (.cells #[.bool p, .int .i64 x] 61 (0, 0))) : W.cell? ⟨b, 0, none⟩ = some (.bool p) ∧ W.cell? ⟨b, 1, none⟩ = some (.int .i64 x) ∧ (∀ j, W.frozen? ⟨b, j, none⟩ = false) ∧ b < W.heap.size :=
  ⟨by rw [Lib.cell_of_heap h]; rfl, by rw [Lib.cell_of_heap h]; rfl, fun j => Lib.frozen_of_heap h j, lt_of_block h⟩
end Go.Proofs.Ytfbfckdabbaocaa.In
namespace Go.Proofs.Ytfbfckdabbaocaa.In
open Go.RowKit Go.Maps Gr Wd Ws Fx Rk Lb Al
def RMs (w : World) (A : Option Addr) (Ls : List (List Ms)) : Prop := ∀ (k : Nat) (L : List Ms), Ls[k]? = some L → ∃ bk o A' c, A = some ⟨bk, o, none⟩ ∧ w.cell? ⟨bk, o + k, none⟩ = some (.slice A' L.length c) ∧ MAt w A' L
theorem RMs.below {w w' : World} {A : Option Addr} {Ls : List (List Ms)} (h : RMs w A Ls) (hb : Below w.heap.size w w') : RMs w' A Ls := fun k L hk => by
  obtain ⟨bk, o, A', c, e, c0, hm⟩ := h k L hk
  exact ⟨bk, o, A', c, e, (hb.cell (block_lt_of_cell c0)).trans c0, hm.below hb⟩
end Go.Proofs.Ytfbfckdabbaocaa.In
