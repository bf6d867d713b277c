/-
  What is proved here: plain facts on a state's parts: each is right; joined, they are the state (mail that there is none of does not count). No program. What is proved here: plain facts on which parts are right, said as the program asks it: numbers rise from a least one; no value, no mail is bad. No program.
-/
import Derived.Test.YtfbfckdabbaocaaQbStPart
namespace Go.Proofs.Ytfbfckdabbaocaa.Fld
end Go.Proofs.Ytfbfckdabbaocaa.Fld
namespace Go.Proofs.Ytfbfckdabbaocaa.In
end Go.Proofs.Ytfbfckdabbaocaa.In
namespace Go.Proofs.Ytfbfckdabbaocaa.Pt
end Go.Proofs.Ytfbfckdabbaocaa.Pt
namespace Go.Proofs.Ytfbfckdabbaocaa.St
open Fld In Pt
structure Stt where
  st : Int
  vals : List Int
  chg : List Bool
  inb : List Ml
def wholeP (s : Stt) : Pr := ⟨s.st, vs s.vals.length, s.vals, s.chg, s.inb⟩
def takeP (s : Stt) (k w : Int) : Pr :=
  ⟨s.st, ow k w s.vals.length, (ow k w s.vals.length).map fun v => nu s.vals v.toNat, (ow k w s.vals.length).map fun v => bo s.chg v.toNat, (ow k w s.vals.length).map fun v => mi s.inb v.toNat⟩
def MayP (s : Stt) : Prop := 0 < s.vals.length ∧ Rgt (wholeP s)
instance (s : Stt) : Decidable (MayP s) := inferInstanceAs (Decidable (_ ∧ _))
def sameP (a b : Pr) : Prop := a.st = b.st ∧ a.own = b.own ∧ a.vals = b.vals ∧ a.chg = b.chg ∧ sameB a.inb b.inb = true
instance (a b : Pr) : Decidable (sameP a b) := inferInstanceAs (Decidable (_ ∧ _))
def sameS (a b : Stt) : Prop := a.st = b.st ∧ a.vals = b.vals ∧ a.chg = b.chg ∧ sameB a.inb b.inb = true
instance (a b : Stt) : Decidable (sameS a b) := inferInstanceAs (Decidable (_ ∧ _))
theorem nrmL_iff (x y : Ml) : (x.1 == y.1 && (!x.1 || x.2 == y.2)) = true ↔ nrmL x = nrmL y := by
  obtain ⟨a, b⟩ := x; obtain ⟨c, d⟩ := y
  cases a <;> cases c <;> simp [nrmL]
theorem sameB_iff : ∀ (a b : List Ml), sameB a b = true ↔ a.map nrmL = b.map nrmL
  | [], [] => by simp [sameB]
  | [], _ :: _ => by simp [sameB]
  | _ :: _, [] => by simp [sameB]
  | x :: a, y :: b => by
    have ih := sameB_iff a b
    have hx := nrmL_iff x y
    unfold sameB at ih ⊢
    simp only [List.zip_cons_cons, List.all_cons, List.length_cons, List.map_cons, List.cons.injEq, Bool.and_eq_true, beq_iff_eq] at ih hx ⊢
    rw [← ih, ← hx]
    constructor
    · rintro ⟨h1, h2, h3⟩; exact ⟨h2, by omega, h3⟩
    · rintro ⟨h2, h1, h3⟩; exact ⟨by omega, h2, h3⟩
theorem sameP_iff (a b : Pr) : sameP a b ↔ nrmP a = nrmP b := by
  unfold sameP nrmP
  rw [sameB_iff]
  simp only [Pr.mk.injEq]
theorem sameP_nrm (a : Pr) : sameP a (nrmP a) := by
  rw [sameP_iff]
  unfold nrmP
  simp only [List.map_map, Pr.mk.injEq, true_and]
  apply List.map_congr_left
  intro m _
  show nrmL m = nrmL (nrmL m)
  unfold nrmL
  split
  · rfl
  · rfl
theorem may_few {s : Stt} (h : MayP s) : s.vals.length ≤ 512 ∧ s.chg.length = s.vals.length ∧ s.inb.length = s.vals.length := by
  have h1 := rgt_few h.2
  have h2 := h.2.2.1
  unfold LenP wholeP at h2
  simp only [vs_len] at h2
  have h3 : (wholeP s).own.length = s.vals.length := by simp [wholeP, vs_len]
  exact ⟨by omega, h2.2.1, h2.2.2⟩
def noPr : Pr := ⟨0, [], [], [], []⟩
def prt (l : List Pr) (w : Int) : Pr := l.getD w.toNat noPr
def plcV (l : List Pr) (v : Nat) : Int := plc (prt l (ofI v l.length)).own v
def gather (l : List Pr) (n : Nat) : Stt :=
  ⟨(prt l 0).st, (List.range n).map fun (v : Nat) => nu (prt l (ofI v l.length)).vals (plcV l v).toNat, (List.range n).map fun (v : Nat) => bo (prt l (ofI v l.length)).chg (plcV l v).toNat, (List.range n).map fun (v : Nat) => mi (prt l (ofI v l.length)).inb (plcV l v).toNat⟩
def allO (l : List Pr) : Nat := (l.map fun p => p.own.length).sum
def JoinsR (l : List Pr) : Prop := 1 ≤ l.length ∧ l.length ≤ 64 ∧ (∀ p ∈ l, Rgt p) ∧ allO l ≤ 512 ∧ (∀ v, v < allO l → 0 ≤ plcV l v) ∧ MayP (gather l (allO l)) ∧ ∀ w : Nat, w < l.length → sameP (takeP (gather l (allO l)) l.length w) (prt l w)
instance (l : List Pr) : Decidable (JoinsR l) := inferInstanceAs (Decidable (_ ∧ _))
end Go.Proofs.Ytfbfckdabbaocaa.St
namespace Go.Proofs.Ytfbfckdabbaocaa.St
open Fld In Pt
def asc : List Int → Int → Bool
  | [], _ => true
  | v :: l, m => if v < m ∨ 512 ≤ v then false else asc l (v + 1)
def outB (x : Int) : Bool := !decide (InR x)
def badM (m : Ml) : Bool := m.1 && outB m.2
theorem nu_cons (x : Int) (l : List Int) (i : Nat) : nu (x :: l) (i + 1) = nu l i := rfl
theorem asc_iff : ∀ (l : List Int) (m : Int), asc l m = true ↔ ∀ i, i < l.length → nu l i < 512 ∧ (i = 0 → m ≤ nu l i) ∧ (0 < i → nu l (i - 1) < nu l i)
  | [], m => by simp [asc]
  | v :: l, m => by
    unfold asc
    split
    · rename_i h
      constructor
      · intro h; cases h
      · intro h1
        obtain ⟨h2, h3, _⟩ := h1 0 (by simp)
        have h4 := h3 rfl
        have e : nu (v :: l) 0 = v := rfl
        omega
    · rename_i h
      rw [asc_iff l (v + 1)]
      constructor
      · intro h1 i hi
        rcases i with _ | i
        · have e : nu (v :: l) 0 = v := rfl
          exact ⟨by omega, fun _ => by omega, fun h => by omega⟩
        · obtain ⟨a, b, c⟩ := h1 i (by simp at hi; omega)
          rw [nu_cons]
          refine ⟨a, fun h => by omega, fun _ => ?_⟩
          rcases i with _ | i
          · have := b rfl
            show nu (v :: l) 0 < _
            have e : nu (v :: l) 0 = v := rfl
            omega
          · have := c (by omega)
            simpa [nu_cons] using this
      · intro h1 i hi
        obtain ⟨a, b, c⟩ := h1 (i + 1) (by simp; omega)
        rw [nu_cons] at a c
        refine ⟨a, fun h => ?_, fun h => ?_⟩
        · subst h
          have := c (by omega)
          have e : nu (v :: l) 0 = v := rfl
          simp only [Nat.zero_add, Nat.sub_self] at this
          omega
        · have := c (by omega)
          rw [Nat.add_sub_cancel] at this
          obtain ⟨j, rfl⟩ : ∃ j, i = j + 1 := ⟨i - 1, by omega⟩
          simpa [nu_cons] using this
theorem asc_low {l : List Int} (h : asc l 0 = true) : ∀ i, i < l.length → 0 ≤ nu l i := by
  intro i
  induction i with
  | zero => intro hi; exact ((asc_iff l 0).1 h 0 hi).2.1 rfl
  | succ i ih =>
    intro hi
    have := ih (by omega)
    have h2 := ((asc_iff l 0).1 h (i + 1) hi).2.2 (by omega)
    rw [Nat.add_sub_cancel] at h2
    omega
theorem any_no {α : Type} {l : List α} {f : α → Bool} : l.any f = false ↔ ∀ (i : Nat) (x : α), l[i]? = some x → f x = false := by
  rw [List.any_eq_false]
  constructor
  · intro h i x hx
    have := h x (List.mem_of_getElem? hx)
    simpa using this
  · intro h x hx
    obtain ⟨i, hi, e⟩ := List.mem_iff_getElem.1 hx
    have := h i x (by rw [List.getElem?_eq_getElem hi, e])
    simp [this]
theorem lt_at' {α : Type} {l : List α} {i : Nat} {x : α} (h : l[i]? = some x) : i < l.length := (List.getElem?_eq_some_iff.1 h).1
theorem rgt_iff (p : Pr) : Rgt p ↔ 0 ≤ p.st ∧ p.st ≤ 2000 ∧ asc p.own 0 = true ∧ LenP p ∧ p.vals.any outB = false ∧ p.inb.any badM = false := by
  constructor
  · rintro ⟨⟨a, b⟩, hl, h⟩
    obtain ⟨l1, l2, l3⟩ := hl
    refine ⟨a, b, (asc_iff _ _).2 fun i hi => ?_, ⟨l1, l2, l3⟩, any_no.2 fun i x hx => ?_, any_no.2 fun i x hx => ?_⟩
    · obtain ⟨c, d, e, _⟩ := h i hi
      exact ⟨d, fun _ => c, e⟩
    · have hi := lt_at' hx
      obtain ⟨_, _, _, e, _⟩ := h i (by omega)
      rw [nu_of hx] at e
      unfold outB; rw [decide_eq_true e]; rfl
    · have hi := lt_at' hx
      obtain ⟨_, _, _, _, e⟩ := h i (by omega)
      rw [mi_of hx] at e
      unfold badM outB
      cases hx1 : x.1 with
      | false => rfl
      | true => rw [decide_eq_true (e hx1)]; rfl
  · rintro ⟨a, b, c, hl, d, e⟩
    obtain ⟨l1, l2, l3⟩ := hl
    refine ⟨⟨a, b⟩, ⟨l1, l2, l3⟩, fun i hi => ?_⟩
    obtain ⟨c1, _, c3⟩ := (asc_iff _ _).1 c i hi
    have d1 := any_no.1 d i _ (nu_at (by omega))
    have e1 := any_no.1 e i _ (mi_at (by omega))
    refine ⟨asc_low c i hi, c1, c3, ?_, fun h => ?_⟩
    · unfold outB at d1; simpa using d1
    · unfold badM outB at e1; rw [h] at e1; simpa using e1
def wholeC (c : Nat) (s : Stt) : Pr := ⟨s.st, vs (min s.vals.length c), s.vals, s.chg, s.inb⟩
theorem wholeC_iff {c : Nat} (hc : 512 ≤ c) (s : Stt) : Rgt (wholeC c s) ↔ Rgt (wholeP s) := by
  constructor
  · intro h
    have h1 := h.2.1.1
    simp only [wholeC, vs_len] at h1
    have : min s.vals.length c = s.vals.length := by omega
    unfold wholeC at h
    rw [this] at h; exact h
  · intro h
    have h1 := rgt_few h
    simp only [wholeP, vs_len] at h1
    have : min s.vals.length c = s.vals.length := by omega
    unfold wholeC
    rw [this]; exact h
end Go.Proofs.Ytfbfckdabbaocaa.St
