/-
  What is proved here: words for messages in memory: a slice of messages that can be read, and one that the call made; append of one message, of a whole slice. No condition.
-/
import Derived.Test.YtfbfckdabbaocaaQbAlMem
import Derived.Test.YtfbfckdabbaocaaQbAlRow
import Derived.Laws.OwnMore
namespace Go.Proofs.Ytfbfckdabbaocaa.Al
open Go.RowKit Go.Sort Gr Wd Ws Lb
def MAt (w : World) (A : Option Addr) (L : List Ms) : Prop := ∀ (k : Nat) (e : Ms), L[k]? = some e → ∃ bk o, A = some ⟨bk, o, none⟩ ∧
  w.cell? ⟨bk, o + k * 2, none⟩ = some (.int .i64 e.1) ∧ w.cell? ⟨bk, o + k * 2 + 1, none⟩ = some (.int .i64 e.2)
theorem MAt.below {w w' : World} {A : Option Addr} {L : List Ms} (h : MAt w A L) (hb : Below w.heap.size w w') : MAt w' A L := by
  intro k e hx
  obtain ⟨bk, o, hA, c0, c1⟩ := h k e hx
  exact ⟨bk, o, hA, (hb.cell (block_lt_of_cell c0)).trans c0, (hb.cell (block_lt_of_cell c1)).trans c1⟩
theorem MAt.nil (w : World) (A : Option Addr) : MAt w A [] := fun k e h => by simp at h
theorem MAt.take {w : World} {A : Option Addr} {L : List Ms} (h : MAt w A L) (k : Nat) : MAt w A (L.take k) := fun i e hi => h i e (by
  rw [List.getElem?_take] at hi; split at hi
  · exact hi
  · cases hi)
theorem MAt.drop {w : World} {g o : Nat} {L : List Ms} (h : MAt w (some ⟨g, o, none⟩) L) (k : Nat) : MAt w (some ⟨g, o + k * 2, none⟩) (L.drop k) := fun i e hi => by
  rw [List.getElem?_drop] at hi
  obtain ⟨bk, o', e1, c0, c1⟩ := h (k + i) e hi
  cases e1
  rw [Nat.add_mul, ← Nat.add_assoc] at c0 c1
  exact ⟨g, o + k * 2, rfl, c0, c1⟩
end Go.Proofs.Ytfbfckdabbaocaa.Al
