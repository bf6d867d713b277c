/-
  What is proved here: plain facts on the bytes of parts of states: what is put is got as it was; what is got is put as the same bytes; no beginning of bytes is a part. No program.
-/
import Derived.Test.YtfbfckdabbaocaaQbFMath
import Derived.Test.YtfbfckdabbaocaaQbPtMathx
import Derived.Test.YtfbfckdabbaocaaQbSqMathx
namespace Go.Proofs.Ytfbfckdabbaocaa.Fld
end Go.Proofs.Ytfbfckdabbaocaa.Fld
namespace Go.Proofs.Ytfbfckdabbaocaa.In
end Go.Proofs.Ytfbfckdabbaocaa.In
namespace Go.Proofs.Ytfbfckdabbaocaa.St
open Fld In
structure En where
  v : Int
  x : Int
  c : Bool
  m : Ml
def nrmL (m : Ml) : Ml := if m.1 then m else (false, 0)
def nrmE (e : En) : En := { e with m := nrmL e.m }
def flg (c h : Bool) : Nat := (if c then 1 else 0) + (if h then 2 else 0)
def putE (e : En) : List Nat := dg 2 e.v.toNat ++ dg 8 e.x.toNat ++ (if e.m.1 then flg e.c true :: dg 8 e.m.2.toNat else [flg e.c false])
def FitE (e : En) : Prop := 0 ≤ e.v ∧ e.v < 65536 ∧ 0 ≤ e.x ∧ e.x < 18446744073709551616 ∧ (e.m.1 = true → 0 ≤ e.m.2 ∧ e.m.2 < 18446744073709551616)
def getE (b : List Nat) : Option (En × List Nat) :=
  if b.length < 11 then none else
  if 3 < b.getD 10 0 then none else
  if b.getD 10 0 < 2 then some (⟨(num (b.take 2) : Nat), (num ((b.drop 2).take 8) : Nat), decide (b.getD 10 0 % 2 = 1), (false, 0)⟩, b.drop 11) else
  if b.length < 19 then none else
  some (⟨(num (b.take 2) : Nat), (num ((b.drop 2).take 8) : Nat), decide (b.getD 10 0 % 2 = 1), (true, (num ((b.drop 11).take 8) : Nat))⟩, b.drop 19)
def getN : Nat → List Nat → Option (List En × List Nat)
  | 0, b => some ([], b)
  | n + 1, b => (getE b).bind fun p => (getN n p.2).map fun q => (p.1 :: q.1, q.2)
theorem num_dg_int (k : Nat) {x : Int} (h0 : 0 ≤ x) (h : x.toNat < 256 ^ k) : ((num (dg k x.toNat) : Nat) : Int) = x := by
  rw [num_dg, Nat.mod_eq_of_lt h]; omega
theorem putE_len (e : En) : (putE e).length = if e.m.1 then 19 else 11 := by
  unfold putE; split <;> simp [dg_length]
theorem getE_put {e : En} (h : FitE e) (r : List Nat) : getE (putE e ++ r) = some (nrmE e, r) := by
  obtain ⟨v0, v1, x0, x1, hm⟩ := h
  have la : (dg 2 e.v.toNat).length = 2 := dg_length _ _
  have lb : (dg 8 e.x.toNat).length = 8 := dg_length _ _
  have lab : (dg 2 e.v.toNat ++ dg 8 e.x.toNat).length = 10 := by rw [List.length_append, la, lb]
  have na := num_dg_int 2 v0 (by omega)
  have nb := num_dg_int 8 x0 (by omega)
  obtain ⟨t, ht⟩ : ∃ t, (if e.m.1 then flg e.c true :: dg 8 e.m.2.toNat else [flg e.c false]) = t := ⟨_, rfl⟩
  have eb : putE e ++ r = dg 2 e.v.toNat ++ (dg 8 e.x.toNat ++ (t ++ r)) := by unfold putE; rw [ht]; simp [List.append_assoc]
  have t2 : (putE e ++ r).take 2 = dg 2 e.v.toNat := by rw [eb, List.take_left' la]
  have d2 : (putE e ++ r).drop 2 = dg 8 e.x.toNat ++ (t ++ r) := by rw [eb, List.drop_left' la]
  have t8 : ((putE e ++ r).drop 2).take 8 = dg 8 e.x.toNat := by rw [d2, List.take_left' lb]
  have d10 : (putE e ++ r).drop 10 = t ++ r := by
    rw [show (10 : Nat) = 2 + 8 from rfl, ← List.drop_drop, d2, List.drop_left' lb]
  have g10 : (putE e ++ r).getD 10 0 = (t ++ r).getD 0 0 := by
    rw [← d10, List.getD_eq_getElem?_getD, List.getD_eq_getElem?_getD, List.getElem?_drop]
  have ll : (putE e ++ r).length = (if e.m.1 then 19 else 11) + r.length := by rw [List.length_append, putE_len]
  unfold getE
  rw [g10, t2, t8, na, nb]
  cases hh : e.m.1 with
  | false =>
    rw [hh] at ll ht
    simp only [Bool.false_eq_true, if_false] at ll ht
    have d11 : (putE e ++ r).drop 11 = r := by rw [show (11 : Nat) = 10 + 1 from rfl, ← List.drop_drop, d10, ← ht]; rfl
    have f0 : (t ++ r).getD 0 0 = flg e.c false := by rw [← ht]; rfl
    rw [if_neg (by omega), f0, d11]
    have f1 : flg e.c false < 2 := by unfold flg; cases e.c <;> decide
    rw [if_neg (by omega), if_pos f1]
    have f2 : decide (flg e.c false % 2 = 1) = e.c := by unfold flg; cases e.c <;> decide
    rw [f2]
    unfold nrmE nrmL
    simp [hh]
  | true =>
    rw [hh] at ll ht
    simp only [if_true] at ll ht
    have d11 : (putE e ++ r).drop 11 = dg 8 e.m.2.toNat ++ r := by rw [show (11 : Nat) = 10 + 1 from rfl, ← List.drop_drop, d10, ← ht]; rfl
    have lc : (dg 8 e.m.2.toNat).length = 8 := dg_length _ _
    have d19 : (putE e ++ r).drop 19 = r := by rw [show (19 : Nat) = 11 + 8 from rfl, ← List.drop_drop, d11, List.drop_left' lc]
    have f0 : (t ++ r).getD 0 0 = flg e.c true := by rw [← ht]; rfl
    have hm' := hm hh
    have nc := num_dg_int 8 hm'.1 (by omega)
    rw [if_neg (by omega), f0]
    have f1 : ¬ flg e.c true < 2 := by unfold flg; cases e.c <;> decide
    have f3 : ¬ 3 < flg e.c true := by unfold flg; cases e.c <;> decide
    rw [if_neg f3, if_neg f1, if_neg (by omega), d11, List.take_left' lc, nc, d19]
    have f2 : decide (flg e.c true % 2 = 1) = e.c := by unfold flg; cases e.c <;> decide
    rw [f2]
    unfold nrmE nrmL
    simp only [hh, if_true]
    rw [← hh]
theorem getN_put : ∀ (l : List En) (r : List Nat), (∀ e ∈ l, FitE e) → getN l.length (l.flatMap putE ++ r) = some (l.map nrmE, r)
  | [], r, _ => rfl
  | e :: l, r, h => by
    rw [List.flatMap_cons, List.append_assoc]
    show (getE (putE e ++ (l.flatMap putE ++ r))).bind _ = _
    rw [getE_put (h e List.mem_cons_self)]
    simp only [Option.bind_some]
    rw [getN_put l r fun x hx => h x (List.mem_cons_of_mem _ hx)]
    rfl
theorem flg_back {f : Nat} (h : f ≤ 3) : flg (decide (f % 2 = 1)) (decide (2 ≤ f)) = f := by
  have : f = 0 ∨ f = 1 ∨ f = 2 ∨ f = 3 := by omega
  rcases this with rfl | rfl | rfl | rfl <;> rfl
theorem cut_at (b : List Nat) (k : Nat) (h : k < b.length) : b.drop k = b.getD k 0 :: b.drop (k + 1) := by
  rw [List.drop_eq_getElem_cons h, List.getD_eq_getElem?_getD, List.getElem?_eq_getElem h]; rfl
theorem dg_take {b : List Nat} (hb : ∀ x ∈ b, x < 256) (k n : Nat) (h : k + n ≤ b.length) : dg n (num ((b.drop k).take n)) = (b.drop k).take n := by
  have hl : ((b.drop k).take n).length = n := by rw [List.length_take, List.length_drop]; omega
  have := dg_num ((b.drop k).take n) fun x hx => hb x (List.mem_of_mem_drop (List.mem_of_mem_take hx))
  rw [hl] at this; exact this
theorem num_fit {b : List Nat} (hb : ∀ x ∈ b, x < 256) (k n : Nat) (h : k + n ≤ b.length) : num ((b.drop k).take n) < 256 ^ n := by
  have hl : ((b.drop k).take n).length = n := by rw [List.length_take, List.length_drop]; omega
  have := num_lt ((b.drop k).take n) fun x hx => hb x (List.mem_of_mem_drop (List.mem_of_mem_take hx))
  rwa [hl] at this
theorem getE_back {b r : List Nat} {e : En} (hb : ∀ x ∈ b, x < 256) (h : getE b = some (e, r)) : putE e ++ r = b ∧ FitE e ∧ nrmE e = e := by
  unfold getE at h
  split at h
  · cases h
  rename_i h1
  split at h
  · cases h
  rename_i h2
  have p1 := dg_take hb 0 2 (by omega)
  have p2 := dg_take hb 2 8 (by omega)
  have q1 := num_fit hb 0 2 (by omega)
  have q2 := num_fit hb 2 8 (by omega)
  rw [List.drop_zero] at p1 q1
  have s1 : b.take 2 ++ ((b.drop 2).take 8 ++ b.drop 10) = b := by
    have : (b.drop 2).take 8 ++ b.drop 10 = b.drop 2 := by rw [show b.drop 10 = (b.drop 2).drop 8 by rw [List.drop_drop]]; exact List.take_append_drop _ _
    rw [this]; exact List.take_append_drop _ _
  have s2 := cut_at b 10 (by omega)
  split at h
  · rename_i h3
    obtain ⟨rfl, rfl⟩ := Prod.mk.inj (Option.some.inj h)
    refine ⟨?_, ⟨by simp, by simp only; omega, by simp, by simp only; omega, fun hh => by cases hh⟩, rfl⟩
    have f := flg_back (f := b.getD 10 0) (by omega)
    rw [show decide (2 ≤ b.getD 10 0) = false from decide_eq_false (by omega)] at f
    unfold putE
    simp only [Int.toNat_natCast, Bool.false_eq_true, if_false]
    rw [p1, p2, f]
    rw [List.append_assoc, List.append_assoc, List.singleton_append, ← s2]
    exact s1
  · rename_i h3
    split at h
    · cases h
    rename_i h4
    obtain ⟨rfl, rfl⟩ := Prod.mk.inj (Option.some.inj h)
    have p3 := dg_take hb 11 8 (by omega)
    have q3 := num_fit hb 11 8 (by omega)
    refine ⟨?_, ⟨by simp, by simp only; omega, by simp, by simp only; omega, fun _ => ⟨by simp, by simp only; omega⟩⟩, rfl⟩
    have f := flg_back (f := b.getD 10 0) (by omega)
    rw [show decide (2 ≤ b.getD 10 0) = true from decide_eq_true (by omega)] at f
    unfold putE
    simp only [Int.toNat_natCast, if_true]
    rw [p1, p2, p3, f]
    have s3 : (b.drop 11).take 8 ++ b.drop 19 = b.drop 11 := by rw [show b.drop 19 = (b.drop 11).drop 8 by rw [List.drop_drop]]; exact List.take_append_drop _ _
    rw [List.append_assoc, List.append_assoc, List.cons_append, s3, ← s2]
    exact s1
theorem getE_rest {b r : List Nat} {e : En} (h : getE b = some (e, r)) (x : Nat) (hx : x ∈ r) : x ∈ b := by
  unfold getE at h
  split at h; · cases h
  split at h; · cases h
  split at h
  · obtain ⟨_, rfl⟩ := Prod.mk.inj (Option.some.inj h); exact List.mem_of_mem_drop hx
  · split at h; · cases h
    obtain ⟨_, rfl⟩ := Prod.mk.inj (Option.some.inj h); exact List.mem_of_mem_drop hx
theorem getN_back : ∀ (n : Nat) (b r : List Nat) (l : List En), (∀ x ∈ b, x < 256) → getN n b = some (l, r) → l.length = n ∧ l.flatMap putE ++ r = b ∧ (∀ e ∈ l, FitE e) ∧ l.map nrmE = l
  | 0, b, r, l, _, h => by
    obtain ⟨rfl, rfl⟩ := Prod.mk.inj (Option.some.inj h)
    exact ⟨rfl, rfl, (fun e he => by cases he), rfl⟩
  | n + 1, b, r, l, hb, h => by
    unfold getN at h
    cases he : getE b with
    | none => rw [he] at h; cases h
    | some p =>
      obtain ⟨e, b'⟩ := p
      rw [he] at h
      simp only [Option.bind_some] at h
      cases hn : getN n b' with
      | none => rw [hn] at h; cases h
      | some q =>
        obtain ⟨l', r'⟩ := q
        rw [hn] at h
        obtain ⟨rfl, rfl⟩ := Prod.mk.inj (Option.some.inj h)
        obtain ⟨a1, a2, a3⟩ := getE_back hb he
        obtain ⟨c1, c2, c3, c4⟩ := getN_back n b' r' l' (fun x hx => hb x (getE_rest he x hx)) hn
        refine ⟨by simp [c1], ?_, ?_, by simp [a3, c4]⟩
        · rw [List.flatMap_cons, List.append_assoc, c2]; exact a1
        · intro x hx
          rcases List.mem_cons.1 hx with rfl | hx
          · exact a2
          · exact c3 x hx
def getAll (n : Nat) (b : List Nat) : Option (List En) := match getN n b with | some (l, []) => some l | _ => none
theorem getAll_put (l : List En) (h : ∀ e ∈ l, FitE e) : getAll l.length (l.flatMap putE) = some (l.map nrmE) := by
  have := getN_put l [] h
  rw [List.append_nil] at this
  unfold getAll; rw [this]
theorem getAll_some {n : Nat} {b : List Nat} {l : List En} (h : getAll n b = some l) : getN n b = some (l, []) := by
  unfold getAll at h
  split at h
  · rename_i h1; rw [h1, Option.some.inj h]
  · cases h
theorem getAll_back {n : Nat} {b : List Nat} {l : List En} (hb : ∀ x ∈ b, x < 256) (h : getAll n b = some l) : l.length = n ∧ l.flatMap putE = b ∧ (∀ e ∈ l, FitE e) ∧ l.map nrmE = l := by
  obtain ⟨a, b, c, d⟩ := getN_back n b [] l hb (getAll_some h)
  rw [List.append_nil] at b
  exact ⟨a, b, c, d⟩
end Go.Proofs.Ytfbfckdabbaocaa.St
