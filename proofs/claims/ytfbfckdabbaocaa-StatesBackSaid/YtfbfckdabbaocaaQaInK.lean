/-
  What is proved here: words for mail in memory: a slice of mail that can be read, and one that the call made; append of one. No condition.
-/
import Derived.Test.YtfbfckdabbaocaaQaInMapx
namespace Go.Proofs.Ytfbfckdabbaocaa.In
open Go.RowKit Go.Sort Gr Wd Ws Lb Al
def kc (m : Ml) : List Value := [.bool m.1, .int .i64 m.2]
theorem kc_len (m : Ml) : (kc m).length = 2 := rfl
def kcs (L : List Ml) : List Value := L.flatMap kc
theorem kcs_append (a b : List Ml) : kcs (a ++ b) = kcs a ++ kcs b := by simp [kcs]
theorem kcs_at : ∀ (L : List Ml) (k : Nat) (e : Ml), L[k]? = some e → (kcs L)[k * 2]? = some (.bool e.1) ∧ (kcs L)[k * 2 + 1]? = some (.int .i64 e.2)
  | [], k, e, h => by simp at h
  | x :: L, 0, e, h => by
    simp at h; subst h
    exact ⟨rfl, rfl⟩
  | x :: L, k + 1, e, h => by
    have h' : L[k]? = some e := by simpa using h
    obtain ⟨h0, h1⟩ := kcs_at L k e h'
    have key : ∀ j, (kcs (x :: L))[j + 2]? = (kcs L)[j]? := fun j => by
      show (kc x ++ kcs L)[j + 2]? = _
      rw [List.getElem?_append_right (by rw [kc_len]; omega), kc_len]; congr 1
    refine ⟨?_, ?_⟩
    · rw [show (k + 1) * 2 = k * 2 + 2 by omega, key]; exact h0
    · rw [show (k + 1) * 2 + 1 = k * 2 + 1 + 2 by omega, key]; exact h1
def KAt (w : World) (A : Option Addr) (L : List Ml) : Prop := ∀ (k : Nat) (e : Ml), L[k]? = some e → ∃ bk o, A = some ⟨bk, o, none⟩ ∧
  w.cell? ⟨bk, o + k * 2, none⟩ = some (.bool e.1) ∧ w.cell? ⟨bk, o + k * 2 + 1, none⟩ = some (.int .i64 e.2)
theorem KAt.below {w w' : World} {A : Option Addr} {L : List Ml} (h : KAt w A L) (hb : Below w.heap.size w w') : KAt w' A L := by
  intro k e hx
  obtain ⟨bk, o, hA, c0, c1⟩ := h k e hx
  exact ⟨bk, o, hA, (hb.cell (block_lt_of_cell c0)).trans c0, (hb.cell (block_lt_of_cell c1)).trans c1⟩
theorem KAt.nil (w : World) (A : Option Addr) : KAt w A [] := fun k e h => by simp at h
theorem KAt.take {w : World} {A : Option Addr} {L : List Ml} (h : KAt w A L) (k : Nat) : KAt w A (L.take k) := fun i e hi => h i e (by
  rw [List.getElem?_take] at hi; split at hi
  · exact hi
  · cases hi)
theorem KAt.drop {w : World} {g o : Nat} {L : List Ml} (h : KAt w (some ⟨g, o, none⟩) L) (k : Nat) : KAt w (some ⟨g, o + k * 2, none⟩) (L.drop k) := fun i e hi => by
  rw [List.getElem?_drop] at hi
  obtain ⟨bk, o', e1, c0, c1⟩ := h (k + i) e hi
  cases e1
  rw [Nat.add_mul, ← Nat.add_assoc] at c0 c1
  exact ⟨g, o + k * 2, rfl, c0, c1⟩
def KOwn (w : World) (B : Nat) (v : Value) (L : List Ml) : Prop := w.ownsRow B 61 2 v L.length (kcs L)
theorem KOwn.none_ (w : World) (B : Nat) : KOwn w B (.slice none 0 0) [] := World.ownsRow_nil _ _ _ _
theorem KOwn.below {w w' : World} {B : Nat} {v : Value} {L : List Ml} (h : KOwn w B v L) (hb : Below w.heap.size w w') : KOwn w' B v L := own_below h hb
theorem KOwn.alloc {w : World} {B : Nat} {v : Value} {L : List Ml} (h : KOwn w B v L) (o : Obj) : KOwn (w.alloc o) B v L := World.ownsRow.alloc h o
theorem KOwn.mono {w : World} {B B' : Nat} {v : Value} {L : List Ml} (h : KOwn w B v L) (hb : B' ≤ B) : KOwn w B' v L := own_mono h hb
theorem KOwn.room {w : World} {B : Nat} {v : Value} {L : List Ml} (h : KOwn w B v L) : ∃ A c, v = .slice A L.length c ∧ KAt w A L ∧ L.length ≤ c ∧ c ≤ maxLen ∧ ((A = none ∧ c = 0) ∨ ∃ g, A = some ⟨g, 0, none⟩ ∧ B ≤ g ∧ g < w.heap.size ∧ ∀ j, w.frozen? ⟨g, j, none⟩ = false) := by
  obtain ⟨h0, h1 | ⟨g, cap, cur, h1, h2, h3, h4, h5, h6, h7⟩⟩ := h
  · have : L = [] := List.eq_nil_of_length_eq_zero h1.2
    subst this
    exact ⟨none, 0, h1.1, KAt.nil _ _, Nat.le_refl _, Nat.zero_le _, Or.inl ⟨rfl, rfl⟩⟩
  · refine ⟨some ⟨g, 0, none⟩, cap, h1, fun k e hx => ?_, h4, h5, Or.inr ⟨g, rfl, h2, lt_of_block h3, fun j => Lib.frozen_of_heap h3 j⟩⟩
    have hk := lt_at hx
    have key : ∀ j, j < L.length * 2 → w.cell? ⟨g, 0 + j, none⟩ = (kcs L)[j]? := fun j hj => by
      rw [Nat.zero_add, cell_of_row w g j _ 61 (0, 0) h3]
      have e1 : cur[j]? = (cur.toList.take (L.length * 2))[j]? := by
        rw [List.getElem?_take, if_pos hj, Array.getElem?_toList]
      rw [e1, h7]
    obtain ⟨a0, a1⟩ := kcs_at L k e hx
    refine ⟨g, 0, rfl, ?_, ?_⟩
    · rw [key _ (by omega)]; exact a0
    · rw [Nat.add_assoc, key _ (by omega)]; exact a1
theorem KOwn.lt {w : World} {B : Nat} {v : Value} {L : List Ml} (h : KOwn w B v L) (j : Nat) (e : v.ownBlock = some j) : B ≤ j := (own_lt h j e).1
theorem infoK : (Try.prog.info? 61).map (fun i => (i.zero, i.size, i.bytes)) = some (some (.agg #[.bool false, .int .i64 0]), 2, 16) := by kernel_rfl
end Go.Proofs.Ytfbfckdabbaocaa.In
