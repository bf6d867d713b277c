/-
  What is proved here: contracts of algos.Combine, of the document's own Combine and Add. Conditions: the row that Add is handed is one that the call has made, of fewer than 1000000 messages. What is proved here: the map of what came to whom, in memory: what a lookup tells, what a store leaves. Conditions: vertices fit an int, fewer than 10^9 messages came.
-/
import Derived.Test.YtfbfckdabbaocaaQaAlM
import Derived.Test.YtfbfckdabbaocaaQaAlMem
import Derived.Test.YtfbfckdabbaocaaQaFxMath
import Derived.WalkKit
import Derived.WalkSpells
import Derived.Deep.LoopGhost
import Derived.Lib.Hide
import Derived.Deep.CutRange
import Derived.Deep.Fields
import Derived.Deep.RegionLaw
import Derived.Deep.AppendLies
import Derived.Laws.OwnMore
import Derived.Laws.StructEq
import Derived.Test.YtfbfckdabbaocaaQaSqMathx
import Derived.Maps.OwnSet
import Derived.Maps.Views
namespace Go.Proofs.Ytfbfckdabbaocaa.Al
open Go.RowKit Go.Sort Gr Wd Ws Fx Rk Lb
def Low (l : List Ms) (t : Int) (q : Nat) : Prop := ∀ (j : Nat) (x : Ms), j < q → l[j]? = some x → x.1 < t
theorem Low.step {l : List Ms} {t : Int} {q : Nat} {x : Ms} (h : Low l t q) (hx : l[q]? = some x) (e : x.1 < t) : Low l t (q + 1) := by
  intro j z hj hz
  by_cases he : j = q
  · subst he; rw [hx] at hz; cases hz; exact e
  · exact h j z (by omega) hz
theorem at_alloc {w : World} {i : Nat} {x : Obj} (h : w.heap[i]? = some x) (o : Obj) : (w.alloc o).heap[i]? = some x := (((Below.refl _ w).alloc (Nat.le_refl _) o).block i (lt_of_block h)).trans h
theorem al2 (w : World) (a b : Obj) : ((w.alloc a).alloc b).heap[w.heap.size]? = some a ∧ ((w.alloc a).alloc b).heap[w.heap.size + 1]? = some b ∧ Below w.heap.size w ((w.alloc a).alloc b) := by
  refine ⟨at_alloc (heap_alloc_new w a) b, ?_, ((Below.refl _ w).alloc (Nat.le_refl _) a).alloc (by simp) b⟩
  have := heap_alloc_new (w.alloc a) b
  rw [show (w.alloc a).heap.size = w.heap.size + 1 by simp] at this; exact this
theorem keep {w w' : World} {i : Nat} {o : Obj} (h : w.heap[i]? = some o) (hb : Below w.heap.size w w') : w'.heap[i]? = some o := (hb.block i (lt_of_block h)).trans h
end Go.Proofs.Ytfbfckdabbaocaa.Al
namespace Go.Proofs.Ytfbfckdabbaocaa.In
open Go.RowKit Go.Maps Gr Wd Ws Fx Rk Lb Al
def mlD (m : Ml) : DataW Unit := .agg [.lit (.bool m.1), .lit (.int .i64 m.2)]
def mlElem : Value → Option (DataW Unit × List MemPlace)
  | .agg a => match a.toList with
    | [.bool h, .int .i64 x] => some (mlD (h, x), [])
    | _ => none
  | _ => none
structure CMd (D : DataW Unit) (k : Int) (L : List Ms) : Prop where
  has_ : ∀ v : Int, has D (.int .i64 v) = (mailM k v L).isSome
  at_ : ∀ (v y : Int), mailM k v L = some y → ∀ z, D.atKey (.int .i64 v) z = mlD (true, y)
def CM (w : World) (M : Nat) (k : Int) (L : List Ms) : Prop := ∃ D : DataW Unit, w.ownsMap Try.prog 3 mlElem M L.length D ∧ CMd D k L
theorem CM.made (w : World) (k : Int) : CM (w.alloc (.map #[] 0)) w.heap.size k [] := ⟨.map [], World.ownsMap_made _ _ _ _, ⟨fun _ => rfl, fun v y h => by cases h⟩⟩
theorem CM.lt {w : World} {M : Nat} {k : Int} {L : List Ms} (h : CM w M k L) : M < w.heap.size := by
  obtain ⟨D, h1, _⟩ := h; exact h1.lt
theorem CM.kept {w w' : World} {M : Nat} {k : Int} {L : List Ms} (h : CM w M k L) (hk : w'.heap[M]? = w.heap[M]?) : CM w' M k L := by
  obtain ⟨D, ⟨es, clock, h1, h2⟩, h3⟩ := h
  exact ⟨D, ⟨es, clock, hk.trans h1, h2⟩, h3⟩
theorem CM.below {w w' : World} {M : Nat} {k : Int} {L : List Ms} (h : CM w M k L) (hb : Below w.heap.size w w') : CM w' M k L := h.kept (hb.block M h.lt)
end Go.Proofs.Ytfbfckdabbaocaa.In
