/-
  What is proved here: plain facts on rows of coefficients ('hr': what a row leaves, the highest power first): a turned coefficient, rows of noughts, and how a check, a product and a power are such rows' remainders. No condition; nothing of the program is met.
-/
import Derived.Test.YtgfofmcgfmhaeaaMath
namespace Go.Proofs.Ytgfofmcgfmhaeaa.Crc

def wt (b : Bool) (x : BitVec 32) : BitVec 32 := if b then x else 0#32
theorem wt_not (b : Bool) (x : BitVec 32) : wt (!b) x = wt b x ^^^ x := by cases b <;> simp [wt]
theorem wt_rp (b : Bool) (n : Nat) (x : BitVec 32) : rp n (wt b x) = wt b (rp n x) := by cases b <;> simp [wt, rp_zero]
def hr : List Bool → BitVec 32
  | [] => 0#32
  | b :: R => wt b (pw R.length) ^^^ hr R
theorem pw_succ (n : Nat) : pw (n + 1) = raise (pw n) := by unfold pw; rw [rp, rp_raise]
theorem raise_wt (b : Bool) (x : BitVec 32) : raise (wt b x) = wt b (raise x) := by cases b <;> simp [wt, raise_zero]
theorem hr_snoc (T : List Bool) (b : Bool) : hr (T ++ [b]) = raise (hr T) ^^^ wt b one := by
  induction T with
  | nil => show wt b (pw 0) ^^^ 0#32 = raise 0#32 ^^^ wt b one; rw [raise_zero, BitVec.xor_zero, BitVec.zero_xor]; rfl
  | cons x T ih =>
    show wt x (pw (T ++ [b]).length) ^^^ hr (T ++ [b]) = raise (wt x (pw T.length) ^^^ hr T) ^^^ wt b one
    rw [ih, List.length_append, List.length_singleton, pw_succ, raise_xor, raise_wt]
    ac_rfl
theorem hr_flip (R : List Bool) (p : Nat) (b : Bool) (h : R[p]? = some b) : hr (R.set p (!b)) = hr R ^^^ pw (R.length - 1 - p) := by
  induction R generalizing p with
  | nil => simp at h
  | cons x R ih =>
    cases p with
    | zero =>
      simp at h; subst h
      show wt (!x) (pw R.length) ^^^ hr R = wt x (pw R.length) ^^^ hr R ^^^ pw (R.length + 1 - 1 - 0)
      rw [wt_not]; simp only [Nat.add_sub_cancel, Nat.sub_zero]; ac_rfl
    | succ p =>
      have h' : R[p]? = some b := by simpa using h
      show wt x (pw (R.set p (!b)).length) ^^^ hr (R.set p (!b)) = wt x (pw R.length) ^^^ hr R ^^^ pw (R.length + 1 - 1 - (p + 1))
      rw [ih p h', List.length_set]
      have e : R.length + 1 - 1 - (p + 1) = R.length - 1 - p := by omega
      rw [e]; ac_rfl
theorem hr_put (R : List Bool) (p : Nat) (b : Bool) (h : R[p]? = some false) : hr (R.set p b) = hr R ^^^ wt b (pw (R.length - 1 - p)) := by
  cases b with
  | true => exact hr_flip R p false h
  | false =>
    have hp : p < R.length := by
      rcases Nat.lt_or_ge p R.length with h1 | h1
      · exact h1
      · rw [List.getElem?_eq_none h1] at h; cases h
    have : R.set p false = R := by
      apply List.ext_getElem?
      intro i
      rw [List.getElem?_set]
      by_cases e : p = i
      · subst e; rw [h]; simp [hp]
      · simp [e]
    rw [this]; simp [wt]
theorem hr_false (n : Nat) : hr (List.replicate n false) = 0#32 := by
  induction n with
  | zero => rfl
  | succ n ih => rw [List.replicate_succ]; show wt false _ ^^^ hr _ = _; rw [ih]; simp [wt]
theorem hr_pad (n : Nat) (L : List Bool) : hr (List.replicate n false ++ L) = hr L := by
  induction n with
  | zero => simp
  | succ n ih => rw [List.replicate_succ, List.cons_append]; show wt false _ ^^^ hr _ = _; rw [ih]; simp [wt]
theorem hr_lead (n : Nat) : hr (true :: List.replicate n false) = pw n := by
  show wt true (pw (List.replicate n false).length) ^^^ hr _ = _
  rw [hr_false, List.length_replicate]; simp [wt]

/- The powers of P. -/
def pl : List Nat := [32, 28, 27, 26, 25, 23, 22, 20, 19, 18, 14, 13, 11, 10, 9, 8, 6, 0]
def pk (k : Nat) : Nat := pl.getD k 0
def ps : Nat → BitVec 32
  | 0 => 0#32
  | k + 1 => ps k ^^^ pw (pk k)
theorem ps_all : ps 18 = 0#32 := by decide +kernel
theorem pk_le : ∀ k, k < 18 → pk k ≤ 32 := by decide
theorem pk_lt : ∀ k, k < 18 → 0 < k → pk k < 32 := by decide
theorem pk_zero : pk 0 = 32 := rfl

/- The last 32 places as a number. -/
def nb (T : List Bool) (j : Nat) : BitVec 32 := rp (32 - j) (hr (T.take j))
theorem nb_zero (T : List Bool) : nb T 0 = 0#32 := by unfold nb; simp only [List.take_zero]; exact rp_zero _
theorem nb_succ (T : List Bool) (j : Nat) (b : Bool) (hj : j < 32) (h : T[j]? = some b) : nb T (j + 1) = nb T j ^^^ wt b (bs j) := by
  have hl : j < T.length := by
    rcases Nat.lt_or_ge j T.length with h1 | h1
    · exact h1
    · rw [List.getElem?_eq_none h1] at h; cases h
  have hb : T[j] = b := by rw [List.getElem?_eq_getElem hl] at h; simpa using h
  unfold nb
  rw [List.take_succ_eq_append_getElem hl, hb, hr_snoc, rp_xor, wt_rp]
  have e : 32 - j = (32 - (j + 1)) + 1 := by omega
  have e2 : 31 - j = 32 - (j + 1) := by omega
  rw [e, rp, bs_pw j hj, e2]
  rfl
theorem nb_all (T : List Bool) (h : T.length = 32) : nb T 32 = hr T := by
  unfold nb; rw [List.take_of_length_le (by omega)]; rfl
theorem nb_lt (T : List Bool) (j : Nat) (hj : j ≤ 32) (hT : T.length = 32) : (nb T j).toNat < 2 ^ j := by
  induction j with
  | zero => rw [nb_zero]; decide
  | succ j ih =>
    have hl : j < T.length := by omega
    rw [nb_succ T j T[j] (by omega) (List.getElem?_eq_getElem hl), BitVec.toNat_xor]
    refine Nat.xor_lt_two_pow (Nat.lt_trans (ih (by omega)) (Nat.pow_lt_pow_right (by decide) (by omega))) ?_
    cases T[j]
    · show (0#32 : BitVec 32).toNat < _
      exact Nat.pow_pos (by decide)
    · show (bs j).toNat < _
      unfold bs
      rw [BitVec.toNat_twoPow, Nat.mod_eq_of_lt (Nat.pow_lt_pow_right (by decide) (by omega))]
      exact Nat.pow_lt_pow_right (by decide) (by omega)
theorem nb_add (T : List Bool) (j : Nat) (hj : j < 32) (hT : T.length = 32) (h : T[j]? = some true) : (nb T (j + 1)).toNat = (nb T j).toNat + 2 ^ j := by
  rw [nb_succ T j true hj h, BitVec.toNat_xor]
  show (nb T j).toNat ^^^ (bs j).toNat = _
  unfold bs
  rw [BitVec.toNat_twoPow, Nat.mod_eq_of_lt (Nat.pow_lt_pow_right (by decide) (by omega))]
  have hlt := nb_lt T j (by omega) hT
  apply Nat.eq_of_testBit_eq
  intro i
  rw [Nat.testBit_xor, Nat.add_comm, Nat.testBit_two_pow]
  by_cases e : j = i
  · subst e
    rw [Nat.testBit_two_pow_add_eq, Nat.testBit_lt_two_pow hlt]; simp
  · by_cases l : i < j
    · rw [Nat.testBit_two_pow_add_gt l]; simp [e]
    · have h1 : (nb T j).toNat.testBit i = false := Nat.testBit_lt_two_pow (Nat.lt_of_lt_of_le hlt (Nat.pow_le_pow_right (by decide) (by omega)))
      have h2 : (2 ^ j + (nb T j).toNat).testBit i = false := Nat.testBit_lt_two_pow (by
        have : 2 ^ (j + 1) ≤ 2 ^ i := Nat.pow_le_pow_right (by decide) (by omega)
        rw [Nat.pow_succ] at this; omega)
      rw [h1, h2]; simp [e]

/- Sums of powers, a bit each. -/
theorem acc_succ (n : Nat) (x : BitVec 32) : acc (n + 1) x = acc n x ^^^ wt (x.getLsbD n) (bs n) := rfl
theorem acc_eight (c : Nat) (h : c < 256) : acc 8 (BitVec.ofNat 32 c) = BitVec.ofNat 32 c := by
  apply BitVec.eq_of_getLsbD_eq
  intro i hi
  rw [acc_bit 8 _ i hi]
  by_cases l : i < 8
  · simp [l]
  · have : (BitVec.ofNat 32 c).getLsbD i = false := by
      rw [BitVec.getLsbD_ofNat]
      have : c.testBit i = false := Nat.testBit_lt_two_pow (Nat.lt_of_lt_of_le h (by
        have : 2 ^ 8 ≤ 2 ^ i := Nat.pow_le_pow_right (by decide) (by omega)
        omega))
      simp [this]
    simp [l, this]
theorem T_acc (i : Nat) (hi : i < 32) (a b : BitVec 32) : T (acc (i + 1) a) b = T (acc i a) b ^^^ wt (a.getLsbD i) (rp (31 - i) b) := by
  rw [acc_succ, T_xor_left]
  cases a.getLsbD i
  · simp [wt, T_zero_left]
  · simp only [wt, if_true]; rw [T_bs i hi]
/- A place of a product's row. -/
theorem place_pw (i k : Nat) (hi : i < 32) (hk : k < 32) : pw (63 - 1 - (i + k)) = rp (31 - i) (bs k) := by
  rw [bs_pw k hk, rp_pw]; congr 1; omega
/- A byte's place in a check's row. -/
theorem byte_pw (n i k : Nat) (hi : i < n) (hk : k < 8) : pw (8 * n + 32 - 1 - (8 * i + k)) = rp (8 * (n - i)) (bs k) := by
  rw [bs_pw k (by omega), rp_pw]; congr 1; omega
theorem head_pw (n k : Nat) (hk : k < 32) : pw (8 * n + 32 - 1 - k) = rp (8 * n) (bs k) := by
  rw [bs_pw k hk, rp_pw]; congr 1; omega
def vb (b : List Nat) (n i : Nat) : BitVec 32 := rp (8 * (n - i)) (fld 0#32 (b.take i))
theorem vb_zero (b : List Nat) (n : Nat) : vb b n 0 = 0#32 := by unfold vb; simp only [List.take_zero, fld, List.foldl_nil]; exact rp_zero _
theorem vb_succ (b : List Nat) (i : Nat) (hi : i < b.length) : vb b b.length (i + 1) = vb b b.length i ^^^ rp (8 * (b.length - i)) (BitVec.ofNat 32 b[i]) := by
  unfold vb
  rw [List.take_succ_eq_append_getElem hi, fld_append]
  show rp _ (stp (fld 0#32 (b.take i)) b[i]) = _
  unfold stp
  rw [← rp_add, ← rp_xor]
  congr 1; omega
theorem vb_all (b : List Nat) : vb b b.length b.length = fld 0#32 b := by
  unfold vb; rw [Nat.sub_self, List.take_length]; rfl
theorem sum_of_row (b : List Nat) : (vb b b.length b.length ^^^ rp (8 * b.length) (acc 32 full)) ^^^ full = sumB b := by
  rw [vb_all, acc_all]
  have := fld_xor b 0#32 full
  rw [BitVec.zero_xor] at this
  unfold sumB; rw [this]

end Go.Proofs.Ytgfofmcgfmhaeaa.Crc
