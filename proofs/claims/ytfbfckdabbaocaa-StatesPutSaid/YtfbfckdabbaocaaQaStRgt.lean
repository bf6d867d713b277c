/-
  What is proved here: plain facts on which parts are right, said as the program asks it: numbers rise from a least one; no value, no mail is bad. No program.
-/
import Derived.Test.YtfbfckdabbaocaaQaStJoin
namespace Go.Proofs.Ytfbfckdabbaocaa.Fld
end Go.Proofs.Ytfbfckdabbaocaa.Fld
namespace Go.Proofs.Ytfbfckdabbaocaa.In
end Go.Proofs.Ytfbfckdabbaocaa.In
namespace Go.Proofs.Ytfbfckdabbaocaa.Pt
end Go.Proofs.Ytfbfckdabbaocaa.Pt
namespace Go.Proofs.Ytfbfckdabbaocaa.St
open Fld In Pt
def asc : List Int → Int → Bool
  | [], _ => true
  | v :: l, m => if v < m ∨ 512 ≤ v then false else asc l (v + 1)
def outB (x : Int) : Bool := !decide (InR x)
def badM (m : Ml) : Bool := m.1 && outB m.2
theorem nu_cons (x : Int) (l : List Int) (i : Nat) : nu (x :: l) (i + 1) = nu l i := rfl
theorem asc_iff : ∀ (l : List Int) (m : Int), asc l m = true ↔ ∀ i, i < l.length → nu l i < 512 ∧ (i = 0 → m ≤ nu l i) ∧ (0 < i → nu l (i - 1) < nu l i)
  | [], m => by simp [asc]
  | v :: l, m => by
    unfold asc
    split
    · rename_i h
      constructor
      · intro h; cases h
      · intro h1
        obtain ⟨h2, h3, _⟩ := h1 0 (by simp)
        have h4 := h3 rfl
        have e : nu (v :: l) 0 = v := rfl
        omega
    · rename_i h
      rw [asc_iff l (v + 1)]
      constructor
      · intro h1 i hi
        rcases i with _ | i
        · have e : nu (v :: l) 0 = v := rfl
          exact ⟨by omega, fun _ => by omega, fun h => by omega⟩
        · obtain ⟨a, b, c⟩ := h1 i (by simp at hi; omega)
          rw [nu_cons]
          refine ⟨a, fun h => by omega, fun _ => ?_⟩
          rcases i with _ | i
          · have := b rfl
            show nu (v :: l) 0 < _
            have e : nu (v :: l) 0 = v := rfl
            omega
          · have := c (by omega)
            simpa [nu_cons] using this
      · intro h1 i hi
        obtain ⟨a, b, c⟩ := h1 (i + 1) (by simp; omega)
        rw [nu_cons] at a c
        refine ⟨a, fun h => ?_, fun h => ?_⟩
        · subst h
          have := c (by omega)
          have e : nu (v :: l) 0 = v := rfl
          simp only [Nat.zero_add, Nat.sub_self] at this
          omega
        · have := c (by omega)
          rw [Nat.add_sub_cancel] at this
          obtain ⟨j, rfl⟩ : ∃ j, i = j + 1 := ⟨i - 1, by omega⟩
          simpa [nu_cons] using this
theorem asc_low {l : List Int} (h : asc l 0 = true) : ∀ i, i < l.length → 0 ≤ nu l i := by
  intro i
  induction i with
  | zero => intro hi; exact ((asc_iff l 0).1 h 0 hi).2.1 rfl
  | succ i ih =>
    intro hi
    have := ih (by omega)
    have h2 := ((asc_iff l 0).1 h (i + 1) hi).2.2 (by omega)
    rw [Nat.add_sub_cancel] at h2
    omega
theorem any_no {α : Type} {l : List α} {f : α → Bool} : l.any f = false ↔ ∀ (i : Nat) (x : α), l[i]? = some x → f x = false := by
  rw [List.any_eq_false]
  constructor
  · intro h i x hx
    have := h x (List.mem_of_getElem? hx)
    simpa using this
  · intro h x hx
    obtain ⟨i, hi, e⟩ := List.mem_iff_getElem.1 hx
    have := h i x (by rw [List.getElem?_eq_getElem hi, e])
    simp [this]
theorem lt_at' {α : Type} {l : List α} {i : Nat} {x : α} (h : l[i]? = some x) : i < l.length := (List.getElem?_eq_some_iff.1 h).1
theorem rgt_iff (p : Pr) : Rgt p ↔ 0 ≤ p.st ∧ p.st ≤ 2000 ∧ asc p.own 0 = true ∧ LenP p ∧ p.vals.any outB = false ∧ p.inb.any badM = false := by
  constructor
  · rintro ⟨⟨a, b⟩, hl, h⟩
    obtain ⟨l1, l2, l3⟩ := hl
    refine ⟨a, b, (asc_iff _ _).2 fun i hi => ?_, ⟨l1, l2, l3⟩, any_no.2 fun i x hx => ?_, any_no.2 fun i x hx => ?_⟩
    · obtain ⟨c, d, e, _⟩ := h i hi
      exact ⟨d, fun _ => c, e⟩
    · have hi := lt_at' hx
      obtain ⟨_, _, _, e, _⟩ := h i (by omega)
      rw [nu_of hx] at e
      unfold outB; rw [decide_eq_true e]; rfl
    · have hi := lt_at' hx
      obtain ⟨_, _, _, _, e⟩ := h i (by omega)
      rw [mi_of hx] at e
      unfold badM outB
      cases hx1 : x.1 with
      | false => rfl
      | true => rw [decide_eq_true (e hx1)]; rfl
  · rintro ⟨a, b, c, hl, d, e⟩
    obtain ⟨l1, l2, l3⟩ := hl
    refine ⟨⟨a, b⟩, ⟨l1, l2, l3⟩, fun i hi => ?_⟩
    obtain ⟨c1, _, c3⟩ := (asc_iff _ _).1 c i hi
    have d1 := any_no.1 d i _ (nu_at (by omega))
    have e1 := any_no.1 e i _ (mi_at (by omega))
    refine ⟨asc_low c i hi, c1, c3, ?_, fun h => ?_⟩
    · unfold outB at d1; simpa using d1
    · unfold badM outB at e1; rw [h] at e1; simpa using e1
end Go.Proofs.Ytfbfckdabbaocaa.St
