/-
  What is proved here: plain words for memory that the texts of this seat share: what lies below is left, rows that the call made. No condition. What is proved here: plain facts on graphs: which may be, that ordered edges are one list. No program.
-/
import Derived.Test.YtfbfckdabbaocaaRows
import Derived.WalkKit
import Derived.WalkSpells
import Derived.Deep.LoopGhost
import Derived.Lib.Hide
import Derived.Lib.Builder
import Derived.Laws.CopyOwn
import Derived.Deep.OwnRows
import Derived.Deep.QuietTactic
import Derived.BigQuiet
import Derived.Shelf.SlSortCmp.QuietGrown
namespace Go.Proofs.Ytfbfckdabbaocaa.Wd
def base : Unit := ()
end Go.Proofs.Ytfbfckdabbaocaa.Wd
namespace Go.Proofs.Ytfbfckdabbaocaa.Ws
open Go.RowKit
theorem add_plain (g o k : Nat) : (⟨g, o, none⟩ : Addr).add k = ⟨g, o + k, none⟩ := by unfold Addr.add; split <;> simp_all
theorem add_block (a : Addr) (n : Nat) : (a.add n).block = a.block := by unfold Addr.add; split <;> rfl
theorem below_drewN {B : Nat} {a w : World} (h : Below B a w) (n : Nat) : Below B a (w.drewN n) := ⟨h.os, h.tape, h.output, h.size, h.block⟩
theorem below_grow (w : World) (k : Nat) (os : Array Obj) : Below w.heap.size w (Sort.grow (w.drewN k) os) := by
  have h : (w.drewN k).heap = w.heap := by simp
  refine ⟨rfl, rfl, rfl, by simp [Sort.grow], fun i hi => ?_⟩
  show ((w.drewN k).heap ++ os)[i]? = _
  rw [h, Array.getElem?_append_left hi]
theorem own_kept {w w' : World} {B : Nat} {e : TypeId} {s : Nat} {v : Value} {n : Nat} {xs : List Value} (h : w.ownsRow B e s v n xs) (hk : ∀ g c fz, v.ownBlock = some g → w.heap[g]? = some (.cells c e fz) → w'.heap[g]? = w.heap[g]?) : w'.ownsRow B e s v n xs := by
  obtain ⟨h0, h1 | ⟨g, cap, cur, h1, h2, h3, h4⟩⟩ := h
  · exact ⟨h0, Or.inl h1⟩
  · exact ⟨h0, Or.inr ⟨g, cap, cur, h1, h2, (hk g cur (0, 0) (by rw [h1]; rfl) h3).trans h3, h4⟩⟩
theorem own_lt {w : World} {B : Nat} {e : TypeId} {s : Nat} {v : Value} {n : Nat} {xs : List Value} (h : w.ownsRow B e s v n xs) : ∀ g, v.ownBlock = some g → B ≤ g ∧ ∃ c, w.heap[g]? = some (.cells c e (0, 0)) := by
  intro g hg
  obtain ⟨_, h1 | ⟨g', cap, cur, h1, h2, h3, _⟩⟩ := h
  · rw [h1.1] at hg; cases hg
  · rw [h1] at hg
    have : g' = g := by simpa [Value.ownBlock] using hg
    subst this
    exact ⟨h2, cur, h3⟩
theorem own_below {w w' : World} {B : Nat} {e : TypeId} {s : Nat} {v : Value} {n : Nat} {xs : List Value} (h : w.ownsRow B e s v n xs) (hb : Below w.heap.size w w') : w'.ownsRow B e s v n xs :=
  own_kept h fun g _ _ _ hc => hb.block g (lt_of_block hc)
theorem own_mono {w : World} {B B' : Nat} {e : TypeId} {s : Nat} {v : Value} {n : Nat} {xs : List Value} (h : w.ownsRow B e s v n xs) (hb : B' ≤ B) : w.ownsRow B' e s v n xs := by
  obtain ⟨h0, h1 | ⟨g, cap, cur, h1, h2, h3, h4⟩⟩ := h
  · exact ⟨h0, Or.inl h1⟩
  · exact ⟨h0, Or.inr ⟨g, cap, cur, h1, by omega, h3, h4⟩⟩
end Go.Proofs.Ytfbfckdabbaocaa.Ws
namespace Go.Proofs.Ytfbfckdabbaocaa.Gr
open Go Go.Lib Wd
abbrev Ed := Int × Int × Int
def ahd (a b : Ed) : Bool := decide (a.1 < b.1) || (decide (a.1 = b.1) && decide (a.2.1 < b.2.1))
def fitE (V : Int) (e : Ed) : Bool := decide (0 ≤ e.1) && decide (e.1 < V) && decide (0 ≤ e.2.1) && decide (e.2.1 < V) && decide (0 ≤ e.2.2) && decide (e.2.2 < 2147483648)
def Rise (L : List Ed) : Prop := L.Pairwise fun a b => ahd a b = true
def ahdO : Option Ed → Ed → Bool
  | none, _ => true
  | some q, e => ahd q e
def okL (V : Int) : Option Ed → List Ed → Bool
  | _, [] => true
  | p, e :: L => fitE V e && ahdO p e && okL V (some e) L
def chk (V : Int) (L : List Ed) : Int := if 512 < V ∨ 8192 < L.length then 3 else if V < 1 then 40 else if okL V none L then 0 else 40
theorem ahd_iff (a b : Ed) : ahd a b = true ↔ a.1 < b.1 ∨ (a.1 = b.1 ∧ a.2.1 < b.2.1) := by
  unfold ahd; simp
theorem ahd_trans {a b c : Ed} (h : ahd a b = true) (k : ahd b c = true) : ahd a c = true := by
  rw [ahd_iff] at *; omega
theorem okL_iff (V : Int) : ∀ (L : List Ed) (p : Option Ed), okL V p L = true ↔ (∀ e ∈ L, fitE V e = true) ∧ Rise L ∧ ∀ q, p = some q → ∀ e ∈ L, ahd q e = true
  | [], p => by simp [okL, Rise]
  | e :: L, p => by
    rw [okL, Bool.and_eq_true, Bool.and_eq_true, okL_iff V L (some e)]
    constructor
    · rintro ⟨⟨h1, h2⟩, h3, h4, h5⟩
      have h6 := h5 e rfl
      refine ⟨fun x hx => ?_, List.pairwise_cons.2 ⟨h6, h4⟩, fun q hq x hx => ?_⟩
      · rcases List.mem_cons.1 hx with rfl | hx
        · exact h1
        · exact h3 x hx
      · subst hq
        rcases List.mem_cons.1 hx with rfl | hx
        · exact h2
        · exact ahd_trans h2 (h6 x hx)
    · rintro ⟨h1, h2, h3⟩
      obtain ⟨h4, h5⟩ := List.pairwise_cons.1 h2
      refine ⟨⟨h1 e List.mem_cons_self, ?_⟩, fun x hx => h1 x (List.mem_cons_of_mem _ hx), h5, fun q hq => by cases hq; exact h4⟩
      cases p with
      | none => rfl
      | some q => exact h3 q rfl e List.mem_cons_self
theorem chk_zero (V : Int) (L : List Ed) : chk V L = 0 ↔ 1 ≤ V ∧ V ≤ 512 ∧ L.length ≤ 8192 ∧ (∀ e ∈ L, fitE V e = true) ∧ Rise L := by
  unfold chk
  by_cases h1 : 512 < V ∨ 8192 < L.length
  · rw [if_pos h1]; omega
  · rw [if_neg h1]
    by_cases h2 : V < 1
    · rw [if_pos h2]; omega
    · rw [if_neg h2]
      cases h3 : okL V none L with
      | true =>
        obtain ⟨g1, g2, _⟩ := (okL_iff V L none).1 h3
        simp only [if_true, true_iff]
        exact ⟨by omega, by omega, by omega, g1, g2⟩
      | false =>
        simp only [Bool.false_eq_true, if_false]
        constructor
        · intro h; omega
        · rintro ⟨_, _, _, g1, g2⟩
          rw [(okL_iff V L none).2 ⟨g1, g2, by simp⟩] at h3; cases h3
end Go.Proofs.Ytfbfckdabbaocaa.Gr
