/-
  What is proved here: plain facts on parts of states: which are right; what is put is got as it was; what is got is put as the same bytes; no beginning of bytes is a part. No program.
-/
import Derived.Test.YtfbfckdabbaocaaQbStMath
namespace Go.Proofs.Ytfbfckdabbaocaa.Fld
end Go.Proofs.Ytfbfckdabbaocaa.Fld
namespace Go.Proofs.Ytfbfckdabbaocaa.In
end Go.Proofs.Ytfbfckdabbaocaa.In
namespace Go.Proofs.Ytfbfckdabbaocaa.St
open Fld In
def InR (x : Int) : Prop := 0 ≤ x ∧ x ≤ 4611686018427387904
instance (x : Int) : Decidable (InR x) := inferInstanceAs (Decidable (_ ∧ _))
structure Pr where
  st : Int
  own : List Int
  vals : List Int
  chg : List Bool
  inb : List Ml
def nu (l : List Int) (k : Nat) : Int := l.getD k 0
def bo (l : List Bool) (k : Nat) : Bool := l.getD k false
def mi (l : List Ml) (k : Nat) : Ml := l.getD k (false, 0)
def OkAt (p : Pr) (i : Nat) : Prop := 0 ≤ nu p.own i ∧ nu p.own i < 512 ∧ (0 < i → nu p.own (i - 1) < nu p.own i) ∧ InR (nu p.vals i) ∧ ((mi p.inb i).1 = true → InR (mi p.inb i).2)
instance (p : Pr) (i : Nat) : Decidable (OkAt p i) := inferInstanceAs (Decidable (_ ∧ _))
def LenP (p : Pr) : Prop := p.vals.length = p.own.length ∧ p.chg.length = p.own.length ∧ p.inb.length = p.own.length
instance (p : Pr) : Decidable (LenP p) := inferInstanceAs (Decidable (_ ∧ _))
def Rgt (p : Pr) : Prop := (0 ≤ p.st ∧ p.st ≤ 2000) ∧ LenP p ∧ ∀ i, i < p.own.length → OkAt p i
instance (p : Pr) : Decidable (Rgt p) := inferInstanceAs (Decidable (_ ∧ _))
theorem nu_of {l : List Int} {k : Nat} {x : Int} (h : l[k]? = some x) : nu l k = x := by unfold nu; rw [List.getD_eq_getElem?_getD, h]; rfl
theorem nu_at {l : List Int} {k : Nat} (h : k < l.length) : l[k]? = some (nu l k) := by unfold nu; rw [List.getD_eq_getElem?_getD, List.getElem?_eq_getElem h]; rfl
theorem bo_of {l : List Bool} {k : Nat} {x : Bool} (h : l[k]? = some x) : bo l k = x := by unfold bo; rw [List.getD_eq_getElem?_getD, h]; rfl
theorem bo_at {l : List Bool} {k : Nat} (h : k < l.length) : l[k]? = some (bo l k) := by unfold bo; rw [List.getD_eq_getElem?_getD, List.getElem?_eq_getElem h]; rfl
theorem mi_of {l : List Ml} {k : Nat} {x : Ml} (h : l[k]? = some x) : mi l k = x := by unfold mi; rw [List.getD_eq_getElem?_getD, h]; rfl
theorem mi_at {l : List Ml} {k : Nat} (h : k < l.length) : l[k]? = some (mi l k) := by unfold mi; rw [List.getD_eq_getElem?_getD, List.getElem?_eq_getElem h]; rfl
def entP (p : Pr) (i : Nat) : En := ⟨nu p.own i, nu p.vals i, bo p.chg i, mi p.inb i⟩
def ents (p : Pr) : List En := (List.range p.own.length).map (entP p)
def ofE (st : Int) (l : List En) : Pr := ⟨st, l.map (·.v), l.map (·.x), l.map (·.c), l.map (·.m)⟩
def nrmP (p : Pr) : Pr := { p with inb := p.inb.map nrmL }
theorem ents_len (p : Pr) : (ents p).length = p.own.length := by simp [ents]
theorem ents_at {p : Pr} {i : Nat} (h : i < p.own.length) : (ents p)[i]? = some (entP p i) := by simp [ents, h]
theorem ents_of (st : Int) (l : List En) : ents (ofE st l) = l := by
  apply List.ext_getElem?
  intro i
  rcases Nat.lt_or_ge i l.length with h | h
  · rw [ents_at (by simpa [ofE] using h)]
    have hl : l[i]? = some l[i] := List.getElem?_eq_getElem h
    unfold entP ofE
    simp only
    rw [nu_of (x := l[i].v) (by rw [List.getElem?_map, hl]; rfl), nu_of (x := l[i].x) (by rw [List.getElem?_map, hl]; rfl), bo_of (x := l[i].c) (by rw [List.getElem?_map, hl]; rfl), mi_of (x := l[i].m) (by rw [List.getElem?_map, hl]; rfl), hl]
  · rw [List.getElem?_eq_none (by rw [ents_len]; simpa [ofE] using h), List.getElem?_eq_none h]
theorem of_ents {p : Pr} (h : LenP p) : ofE p.st (ents p) = p := by
  obtain ⟨h1, h2, h3⟩ := h
  have e1 : (ents p).map (·.v) = p.own := by
    apply List.ext_getElem?; intro i
    rw [List.getElem?_map]
    rcases Nat.lt_or_ge i p.own.length with h | h
    · rw [ents_at h, nu_at h]; rfl
    · rw [List.getElem?_eq_none (by rw [ents_len]; exact h), List.getElem?_eq_none h]; rfl
  have e2 : (ents p).map (·.x) = p.vals := by
    apply List.ext_getElem?; intro i
    rw [List.getElem?_map]
    rcases Nat.lt_or_ge i p.own.length with h | h
    · rw [ents_at h, nu_at (by omega)]; rfl
    · rw [List.getElem?_eq_none (by rw [ents_len]; exact h), List.getElem?_eq_none (by omega)]; rfl
  have e3 : (ents p).map (·.c) = p.chg := by
    apply List.ext_getElem?; intro i
    rw [List.getElem?_map]
    rcases Nat.lt_or_ge i p.own.length with h | h
    · rw [ents_at h, bo_at (by omega)]; rfl
    · rw [List.getElem?_eq_none (by rw [ents_len]; exact h), List.getElem?_eq_none (by omega)]; rfl
  have e4 : (ents p).map (·.m) = p.inb := by
    apply List.ext_getElem?; intro i
    rw [List.getElem?_map]
    rcases Nat.lt_or_ge i p.own.length with h | h
    · rw [ents_at h, mi_at (by omega)]; rfl
    · rw [List.getElem?_eq_none (by rw [ents_len]; exact h), List.getElem?_eq_none (by omega)]; rfl
  unfold ofE
  rw [e1, e2, e3, e4]
theorem of_nrm (st : Int) (l : List En) : ofE st (l.map nrmE) = nrmP (ofE st l) := by
  unfold ofE nrmP
  simp only [List.map_map, Function.comp_def, nrmE]
theorem nrm_mi (l : List Ml) (i : Nat) : mi (l.map nrmL) i = nrmL (mi l i) := by
  rcases Nat.lt_or_ge i l.length with h | h
  · exact mi_of (by rw [List.getElem?_map, mi_at h]; rfl)
  · unfold mi; rw [List.getD_eq_getElem?_getD, List.getD_eq_getElem?_getD, List.getElem?_eq_none (by simpa using h), List.getElem?_eq_none h]; rfl
theorem nrm_has (m : Ml) : (nrmL m).1 = m.1 := by
  unfold nrmL
  split
  · rfl
  · rename_i h; simpa using h
theorem nrm_val {m : Ml} (h : m.1 = true) : nrmL m = m := by unfold nrmL; rw [if_pos h]
theorem rgt_nrm (p : Pr) : Rgt (nrmP p) ↔ Rgt p := by
  have key : ∀ i, OkAt (nrmP p) i ↔ OkAt p i := fun i => by
    unfold OkAt nrmP
    simp only
    rw [nrm_mi, nrm_has]
    constructor
    · rintro ⟨a, b, c, d, e⟩
      exact ⟨a, b, c, d, fun h => by have := e h; rwa [nrm_val h] at this⟩
    · rintro ⟨a, b, c, d, e⟩
      exact ⟨a, b, c, d, fun h => by rw [nrm_val h]; exact e h⟩
  unfold Rgt LenP
  simp only [key]
  simp [nrmP]
theorem rgt_fit {p : Pr} (h : Rgt p) : ∀ e ∈ ents p, FitE e := by
  intro e he
  obtain ⟨i, hi, rfl⟩ := List.mem_map.1 he
  obtain ⟨a, b, _, c, d⟩ := h.2.2 i (List.mem_range.1 hi)
  unfold InR at c d
  refine ⟨a, ?_, c.1, ?_, fun hh => ?_⟩
  · show nu p.own i < _; omega
  · show nu p.vals i < _; omega
  · have := d hh
    exact ⟨this.1, by show (mi p.inb i).2 < _; omega⟩
theorem rgt_few {p : Pr} (h : Rgt p) : p.own.length ≤ 512 := by
  rcases Nat.lt_or_ge 512 p.own.length with hl | hl
  · exfalso
    have key : ∀ i, i < p.own.length → (i : Int) ≤ nu p.own i := by
      intro i
      induction i with
      | zero => intro hi; exact (h.2.2 0 hi).1
      | succ i ih =>
        intro hi
        have h1 := ih (by omega)
        have h2 := (h.2.2 (i + 1) hi).2.2.1 (by omega)
        rw [Nat.add_sub_cancel] at h2
        push_cast
        omega
    have h1 := key 512 hl
    have h2 := (h.2.2 512 hl).2.1
    omega
  · exact hl
def putP (p : Pr) : List Nat := dg 4 p.st.toNat ++ (dg 2 p.own.length ++ (ents p).flatMap putE)
def getP (b : List Nat) : Option Pr :=
  if b.length < 6 then none else
  match getAll (num ((b.drop 4).take 2)) (b.drop 6) with
  | none => none
  | some l => if Rgt (ofE (num (b.take 4) : Nat) l) then some (ofE (num (b.take 4) : Nat) l) else none
theorem putP_lt (p : Pr) : ∀ x ∈ putP p, x < 256 := by
  intro x hx
  unfold putP at hx
  rcases List.mem_append.1 hx with hx | hx
  · exact dg_lt _ _ x hx
  rcases List.mem_append.1 hx with hx | hx
  · exact dg_lt _ _ x hx
  obtain ⟨e, _, hx⟩ := List.mem_flatMap.1 hx
  unfold putE at hx
  rcases List.mem_append.1 hx with hx | hx
  · rcases List.mem_append.1 hx with hx | hx
    · exact dg_lt _ _ x hx
    · exact dg_lt _ _ x hx
  split at hx
  · rcases List.mem_cons.1 hx with rfl | hx
    · unfold flg; cases e.c <;> decide
    · exact dg_lt _ _ x hx
  · rcases List.mem_cons.1 hx with rfl | hx
    · unfold flg; cases e.c <;> decide
    · cases hx
theorem putP_parts (p : Pr) : (putP p).take 4 = dg 4 p.st.toNat ∧ ((putP p).drop 4).take 2 = dg 2 p.own.length ∧ (putP p).drop 6 = (ents p).flatMap putE ∧ 6 ≤ (putP p).length := by
  have l4 : (dg 4 p.st.toNat).length = 4 := dg_length _ _
  have l2 : (dg 2 p.own.length).length = 2 := dg_length _ _
  have d4 : (putP p).drop 4 = dg 2 p.own.length ++ (ents p).flatMap putE := by unfold putP; rw [List.drop_left' l4]
  refine ⟨by unfold putP; rw [List.take_left' l4], by rw [d4, List.take_left' l2], ?_, ?_⟩
  · rw [show (6 : Nat) = 4 + 2 from rfl, ← List.drop_drop, d4, List.drop_left' l2]
  · unfold putP; rw [List.length_append, List.length_append, l4, l2]; omega
theorem getP_put {p : Pr} (h : Rgt p) : getP (putP p) = some (nrmP p) := by
  obtain ⟨a, b, c, d⟩ := putP_parts p
  have hf := rgt_few h
  unfold getP
  rw [if_neg (by omega), a, b, c, num_dg_int 4 h.1.1 (by have := h.1.2; omega), num_dg, Nat.mod_eq_of_lt (by omega)]
  have g := getAll_put (ents p) (rgt_fit h)
  rw [ents_len] at g
  rw [g]
  simp only
  rw [of_nrm, of_ents h.2.1, if_pos ((rgt_nrm p).2 h)]
theorem getP_back {b : List Nat} {p : Pr} (hb : ∀ x ∈ b, x < 256) (h : getP b = some p) : Rgt p ∧ putP p = b ∧ nrmP p = p := by
  unfold getP at h
  split at h
  · cases h
  rename_i h1
  split at h
  · cases h
  rename_i l hl
  split at h
  · rename_i hr
    obtain rfl := Option.some.inj h
    obtain ⟨c1, c2, c3, c4⟩ := getAll_back (fun x hx => hb x (List.mem_of_mem_drop hx)) hl
    refine ⟨hr, ?_, by rw [← of_nrm, c4]⟩
    have p1 := dg_take hb 0 4 (by omega)
    have p2 := dg_take hb 4 2 (by omega)
    rw [List.drop_zero] at p1
    have ho : (ofE (num (b.take 4) : Nat) l).own.length = num ((b.drop 4).take 2) := by simp [ofE, c1]
    unfold putP
    rw [ho, ents_of, c2, p2]
    show dg 4 (((num (b.take 4) : Nat) : Int)).toNat ++ _ = b
    rw [Int.toNat_natCast, p1]
    have : (b.drop 4).take 2 ++ b.drop 6 = b.drop 4 := by rw [show b.drop 6 = (b.drop 4).drop 2 by rw [List.drop_drop]]; exact List.take_append_drop _ _
    rw [this]; exact List.take_append_drop _ _
  · cases h
end Go.Proofs.Ytfbfckdabbaocaa.St
