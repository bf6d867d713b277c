/-
  What is proved here: words for messages in memory: a slice of messages that can be read, and one that the call made; append of one message, of a whole slice. No condition.
-/
import Derived.Test.YtkbmmlombigkmaaGreatQbMnMkx
import Derived.Test.YtkbmmlombigkmaaGreatQbAlS2x
import Derived.Laws.OwnMore
namespace Go.Proofs.YtkbmmlombigkmaaGreat.Al
open Go.RowKit Go.Sort Gr Wd Ws Lb
def mcs (L : List Ms) : List Value := L.flatMap mc
theorem mcs_at : ∀ (L : List Ms) (k : Nat) (e : Ms), L[k]? = some e → (mcs L)[k * 2]? = some (.int .i64 e.1) ∧ (mcs L)[k * 2 + 1]? = some (.int .i64 e.2)
  | [], k, e, h => by simp at h
  | x :: L, 0, e, h => by
    simp at h; subst h
    exact ⟨rfl, rfl⟩
  | x :: L, k + 1, e, h => by
    have h' : L[k]? = some e := by simpa using h
    obtain ⟨h0, h1⟩ := mcs_at L k e h'
    have key : ∀ j, (mcs (x :: L))[j + 2]? = (mcs L)[j]? := fun j => by
      show (mc x ++ mcs L)[j + 2]? = _
      rw [List.getElem?_append_right (by rw [mc_len]; omega), mc_len]; congr 1
    refine ⟨?_, ?_⟩
    · rw [show (k + 1) * 2 = k * 2 + 2 by omega, key]; exact h0
    · rw [show (k + 1) * 2 + 1 = k * 2 + 1 + 2 by omega, key]; exact h1
def MAt (w : World) (A : Option Addr) (L : List Ms) : Prop := ∀ (k : Nat) (e : Ms), L[k]? = some e → ∃ bk o, A = some ⟨bk, o, none⟩ ∧
  w.cell? ⟨bk, o + k * 2, none⟩ = some (.int .i64 e.1) ∧ w.cell? ⟨bk, o + k * 2 + 1, none⟩ = some (.int .i64 e.2)
theorem MAt.below {w w' : World} {A : Option Addr} {L : List Ms} (h : MAt w A L) (hb : Below w.heap.size w w') : MAt w' A L := by
  intro k e hx
  obtain ⟨bk, o, hA, c0, c1⟩ := h k e hx
  exact ⟨bk, o, hA, (hb.cell (block_lt_of_cell c0)).trans c0, (hb.cell (block_lt_of_cell c1)).trans c1⟩
theorem MAt.nil (w : World) (A : Option Addr) : MAt w A [] := fun k e h => by simp at h
theorem MAt.take {w : World} {A : Option Addr} {L : List Ms} (h : MAt w A L) (k : Nat) : MAt w A (L.take k) := fun i e hi => h i e (by
  rw [List.getElem?_take] at hi; split at hi
  · exact hi
  · cases hi)
theorem MAt.drop {w : World} {g o : Nat} {L : List Ms} (h : MAt w (some ⟨g, o, none⟩) L) (k : Nat) : MAt w (some ⟨g, o + k * 2, none⟩) (L.drop k) := fun i e hi => by
  rw [List.getElem?_drop] at hi
  obtain ⟨bk, o', e1, c0, c1⟩ := h (k + i) e hi
  cases e1
  rw [Nat.add_mul, ← Nat.add_assoc] at c0 c1
  exact ⟨g, o + k * 2, rfl, c0, c1⟩
def MOwn (w : World) (B : Nat) (v : Value) (L : List Ms) : Prop := w.ownsRow B 155 2 v L.length (mcs L)
theorem MOwn.none_ (w : World) (B : Nat) : MOwn w B (.slice none 0 0) [] := World.ownsRow_nil _ _ _ _
theorem MOwn.below {w w' : World} {B : Nat} {v : Value} {L : List Ms} (h : MOwn w B v L) (hb : Below w.heap.size w w') : MOwn w' B v L := own_below h hb
theorem MOwn.alloc {w : World} {B : Nat} {v : Value} {L : List Ms} (h : MOwn w B v L) (o : Obj) : MOwn (w.alloc o) B v L := World.ownsRow.alloc h o
theorem MOwn.mono {w : World} {B B' : Nat} {v : Value} {L : List Ms} (h : MOwn w B v L) (hb : B' ≤ B) : MOwn w B' v L := own_mono h hb
theorem MOwn.room {w : World} {B : Nat} {v : Value} {L : List Ms} (h : MOwn w B v L) : ∃ A c, v = .slice A L.length c ∧ MAt w A L ∧ L.length ≤ c ∧ c ≤ maxLen ∧ ((A = none ∧ c = 0) ∨ ∃ g, A = some ⟨g, 0, none⟩ ∧ B ≤ g ∧ g < w.heap.size ∧ ∀ j, w.frozen? ⟨g, j, none⟩ = false) := by
  obtain ⟨h0, h1 | ⟨g, cap, cur, h1, h2, h3, h4, h5, h6, h7⟩⟩ := h
  · have : L = [] := List.eq_nil_of_length_eq_zero h1.2
    subst this
    exact ⟨none, 0, h1.1, MAt.nil _ _, Nat.le_refl _, Nat.zero_le _, Or.inl ⟨rfl, rfl⟩⟩
  · refine ⟨some ⟨g, 0, none⟩, cap, h1, fun k e hx => ?_, h4, h5, Or.inr ⟨g, rfl, h2, lt_of_block h3, fun j => Lib.frozen_of_heap h3 j⟩⟩
    have hk := lt_at hx
    have key : ∀ j, j < L.length * 2 → w.cell? ⟨g, 0 + j, none⟩ = (mcs L)[j]? := fun j hj => by
      rw [Nat.zero_add, cell_of_row w g j _ 155 (0, 0) h3]
      have e1 : cur[j]? = (cur.toList.take (L.length * 2))[j]? := by
        rw [List.getElem?_take, if_pos hj, Array.getElem?_toList]
      rw [e1, h7]
    obtain ⟨a0, a1⟩ := mcs_at L k e hx
    refine ⟨g, 0, rfl, ?_, ?_⟩
    · rw [key _ (by omega)]; exact a0
    · rw [Nat.add_assoc, key _ (by omega)]; exact a1
theorem MOwn.lt {w : World} {B : Nat} {v : Value} {L : List Ms} (h : MOwn w B v L) (j : Nat) (e : v.ownBlock = some j) : B ≤ j := (own_lt h j e).1
theorem MOwn.row {w : World} {B g n c : Nat} {L : List Ms} (hn : L.length = n) (h : MOwn w B (.slice (some ⟨g, 0, none⟩) n c) L) : ∃ N, SWm w w g N L.toArray := by
  subst hn
  obtain ⟨h0, h1 | ⟨g', cap, cur, h1, h2, h3, h4, h5, h6, h7⟩⟩ := h
  · cases h1.1
  · cases h1
    refine ⟨cur.size, ?_, ⟨rfl, rfl, rfl, Nat.le_refl _, fun _ _ _ => rfl⟩, ⟨cur, h3, rfl⟩, lt_of_block h3⟩
    intro j hj
    rw [size_flatK] at hj
    have hj2 : j < L.length * 2 := by simpa using hj
    refine ⟨?_, Lib.frozen_of_heap h3 _⟩
    rw [Nat.zero_add, cell_of_row w g j _ 155 (0, 0) h3]
    have e1 : cur[j]? = (cur.toList.take (L.length * 2))[j]? := by
      rw [List.getElem?_take, if_pos hj2, Array.getElem?_toList]
    rw [e1, h7]
    rw [get_flatK mc 2 L.toArray j (by simpa using hj2)]
    have hj3 : j / 2 < L.length := by omega
    obtain ⟨m, hm⟩ := at_lt L (j / 2) hj3
    obtain ⟨a0, a1⟩ := mcs_at L (j / 2) m hm
    have em : L.toArray[j / 2]! = m := by
      rw [getElem!_pos L.toArray (j / 2) (by rw [List.size_toArray]; exact hj3)]
      obtain ⟨_, q⟩ := List.getElem?_eq_some_iff.1 hm
      simpa using q
    rw [em]
    rcases (show j % 2 = 0 ∨ j % 2 = 1 by omega) with h | h
    · have e2 : j / 2 * 2 = j := by omega
      rw [e2] at a0; rw [a0, h]; rfl
    · have e2 : j / 2 * 2 + 1 = j := by omega
      rw [e2] at a1; rw [a1, h]; rfl
end Go.Proofs.YtkbmmlombigkmaaGreat.Al
