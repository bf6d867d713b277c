/-
  What is proved here: plain facts on reading a part's bytes entry by entry, with numbers whose first bit is set brought below 0. No program.
-/
import Derived.Test.YtfbfckdabbaocaaQbStPart
namespace Go.Proofs.Ytfbfckdabbaocaa.Fld
end Go.Proofs.Ytfbfckdabbaocaa.Fld
namespace Go.Proofs.Ytfbfckdabbaocaa.In
end Go.Proofs.Ytfbfckdabbaocaa.In
namespace Go.Proofs.Ytfbfckdabbaocaa.St
open Fld In
theorem getN_snoc : ∀ (n : Nat) (b : List Nat), getN (n + 1) b = (getN n b).bind fun p => (getE p.2).map fun q => (p.1 ++ [q.1], q.2)
  | 0, b => by
    show (getE b).bind (fun p => (getN 0 p.2).map fun q => (p.1 :: q.1, q.2)) = (getE b).map fun q => ([q.1], q.2)
    cases getE b <;> rfl
  | n + 1, b => by
    rw [show getN (n + 1 + 1) b = (getE b).bind fun p => (getN (n + 1) p.2).map fun q => (p.1 :: q.1, q.2) from rfl]
    rw [show getN (n + 1) b = (getE b).bind fun p => (getN n p.2).map fun q => (p.1 :: q.1, q.2) from rfl]
    cases he : getE b with
    | none => rfl
    | some p =>
      simp only [Option.bind_some]
      rw [getN_snoc n p.2]
      cases getN n p.2 with
      | none => rfl
      | some q =>
        simp only [Option.bind_some, Option.map_some]
        cases getE q.2 <;> rfl
theorem getN_none {n : Nat} {b : List Nat} (h : getN n b = none) : ∀ m, n ≤ m → getN m b = none := by
  intro m hm
  induction m with
  | zero => obtain rfl : n = 0 := by omega
            exact h
  | succ m ih =>
    rcases Nat.lt_or_ge n (m + 1) with h1 | h1
    · rw [getN_snoc, ih (by omega)]; rfl
    · obtain rfl : n = m + 1 := by omega
      exact h
def wI (x : Int) : Int := if x < 9223372036854775808 then x else x - 18446744073709551616
def wrE (e : En) : En := { e with x := wI e.x, m := (e.m.1, wI e.m.2) }
theorem wI_in {x : Int} (h0 : 0 ≤ x) (h1 : x < 18446744073709551616) : InR (wI x) ↔ InR x := by
  unfold InR wI; split <;> omega
theorem wI_same {x : Int} (h : InR x) : wI x = x := by
  unfold InR at h; unfold wI; rw [if_pos (by omega)]
theorem nu_wr {l : List En} {i : Nat} (h : i < l.length) (f : En → Int) : nu (l.map f) i = f l[i] := nu_of (by rw [List.getElem?_map, List.getElem?_eq_getElem h]; rfl)
theorem mi_wr {l : List En} {i : Nat} (h : i < l.length) (f : En → Ml) : mi (l.map f) i = f l[i] := mi_of (by rw [List.getElem?_map, List.getElem?_eq_getElem h]; rfl)
theorem rgt_wr {st : Int} {l : List En} (hf : ∀ e ∈ l, FitE e) : Rgt (ofE st (l.map wrE)) ↔ Rgt (ofE st l) := by
  have eo : (ofE st (l.map wrE)).own = (ofE st l).own := by unfold ofE; simp only [List.map_map, Function.comp_def, wrE]
  have key : ∀ i, i < l.length → (OkAt (ofE st (l.map wrE)) i ↔ OkAt (ofE st l) i) := fun i hi => by
    have he := hf _ (List.getElem_mem hi)
    unfold OkAt
    rw [eo]
    have a1 : nu (ofE st (l.map wrE)).vals i = wI l[i].x := by unfold ofE; simp only [List.map_map]; rw [nu_wr hi]; rfl
    have a2 : nu (ofE st l).vals i = l[i].x := by unfold ofE; simp only; rw [nu_wr hi]
    have a3 : mi (ofE st (l.map wrE)).inb i = (l[i].m.1, wI l[i].m.2) := by unfold ofE; simp only [List.map_map]; rw [mi_wr hi]; rfl
    have a4 : mi (ofE st l).inb i = l[i].m := by unfold ofE; simp only; rw [mi_wr hi]
    rw [a1, a2, a3, a4]
    simp only
    rw [wI_in he.2.2.1 he.2.2.2.1]
    constructor
    · rintro ⟨a, b, c, d, e⟩
      exact ⟨a, b, c, d, fun h => (wI_in (he.2.2.2.2 h).1 (he.2.2.2.2 h).2).1 (e h)⟩
    · rintro ⟨a, b, c, d, e⟩
      exact ⟨a, b, c, d, fun h => (wI_in (he.2.2.2.2 h).1 (he.2.2.2.2 h).2).2 (e h)⟩
  have hl : (ofE st (l.map wrE)).own.length = l.length := by simp [ofE]
  have hl2 : (ofE st l).own.length = l.length := by simp [ofE]
  unfold Rgt
  constructor
  · rintro ⟨a, _, c⟩
    exact ⟨a, ⟨by simp [ofE], by simp [ofE], by simp [ofE]⟩, fun i hi => (key i (by rw [← hl2]; exact hi)).1 (c i (by rw [hl, ← hl2]; exact hi))⟩
  · rintro ⟨a, _, c⟩
    exact ⟨a, ⟨by simp [ofE], by simp [ofE], by simp [ofE]⟩, fun i hi => (key i (by rw [← hl]; exact hi)).2 (c i (by rw [hl2, ← hl]; exact hi))⟩
theorem wr_same {st : Int} {l : List En} (h : Rgt (ofE st l)) (hn : l.map nrmE = l) : l.map wrE = l := by
  have : ∀ e ∈ l, wrE e = e := by
    intro e he
    obtain ⟨i, hi, rfl⟩ := List.mem_iff_getElem.1 he
    have ho := h.2.2 i (by simpa [ofE] using hi)
    unfold OkAt at ho
    have a2 : nu (ofE st l).vals i = l[i].x := by unfold ofE; simp only; rw [nu_wr hi]
    have a4 : mi (ofE st l).inb i = l[i].m := by unfold ofE; simp only; rw [mi_wr hi]
    rw [a2, a4] at ho
    have hne : nrmE l[i] = l[i] := by
      have h2 : (l.map nrmE)[i]? = l[i]? := by rw [hn]
      rw [List.getElem?_map, List.getElem?_eq_getElem hi] at h2
      exact Option.some.inj h2
    unfold wrE
    rw [wI_same ho.2.2.2.1]
    cases hh : l[i].m.1 with
    | true => rw [wI_same (ho.2.2.2.2 hh), ← hh]
    | false =>
      have : l[i].m = (false, 0) := by
        have h3 : (nrmE l[i]).m = l[i].m := by rw [hne]
        rw [← h3]
        unfold nrmE nrmL
        simp [hh]
      have h4 : wI l[i].m.2 = 0 := by rw [this]; rfl
      rw [h4]
      have h5 : ((false, 0) : Ml) = l[i].m := this.symm
      rw [h5]
  have h2 : l.map wrE = l.map id := List.map_congr_left fun e he => this e he
  rw [h2, List.map_id]
theorem getP_of {b : List Nat} (hl : 6 ≤ b.length) {l : List En} (h : getN (num ((b.drop 4).take 2)) (b.drop 6) = some (l, [])) : getP b = if Rgt (ofE (num (b.take 4) : Nat) l) then some (ofE (num (b.take 4) : Nat) l) else none := by
  unfold getP getAll
  rw [if_neg (by omega), h]
theorem getP_no {b : List Nat} (h : getN (num ((b.drop 4).take 2)) (b.drop 6) = none) : getP b = none := by
  unfold getP getAll
  split
  · rfl
  · rw [h]
theorem getP_rest {b : List Nat} {l : List En} {x : Nat} {r : List Nat} (h : getN (num ((b.drop 4).take 2)) (b.drop 6) = some (l, x :: r)) : getP b = none := by
  unfold getP getAll
  split
  · rfl
  · rw [h]
theorem getP_few {b : List Nat} (h : b.length < 6) : getP b = none := by unfold getP; rw [if_pos h]
end Go.Proofs.Ytfbfckdabbaocaa.St
