/-
  What is proved here: plain facts on numbers in fixed point, distances, and decimal digits. No condition.
-/
import Derived.Test.YtbbmgandkmlojaaGreatRows
namespace Go.Proofs.YtbbmgandkmlojaaGreat.Fx

def dst (a : Int) : Int := if a < 0 then 0 else if 4611686018427387904 < a then 4611686018427387904 else a
def addI (a b : Int) : Int := if 4611686018427387904 < dst a + dst b then 4611686018427387904 else dst a + dst b
def apt (a b : Int) : Int := if dst a < dst b then dst b - dst a else dst a - dst b
def mulI (a b : Int) : Int × Int := if a < 0 ∨ b < 0 then (0, 2) else if 4611686018427387904 < a * b / 4294967296 then (0, 50) else (a * b / 4294967296, 0)
def shareI (a n : Int) : Int × Int := if a < 0 ∨ n < 1 then (0, 2) else (a / n, 0)

theorem dst_in (a : Int) : 0 ≤ dst a ∧ dst a ≤ 4611686018427387904 := by unfold dst; split <;> (try split) <;> omega
theorem dst_id (a : Int) (h0 : 0 ≤ a) (h1 : a ≤ 4611686018427387904) : dst a = a := by unfold dst; rw [if_neg (by omega), if_neg (by omega)]
theorem dst_ge (a : Int) : dst a ≤ a ∨ dst a = 0 := by unfold dst; split <;> (try split) <;> omega
theorem dst_le (a : Int) : a ≤ dst a ∨ dst a = 4611686018427387904 := by unfold dst; split <;> (try split) <;> omega

theorem addI_in (a b : Int) : 0 ≤ addI a b ∧ addI a b ≤ 4611686018427387904 := by
  have ha := dst_in a; have hb := dst_in b
  unfold addI; split <;> omega
theorem addI_comm (a b : Int) : addI a b = addI b a := by
  unfold addI; rw [Int.add_comm]
theorem addI_dst (a b : Int) : addI (dst a) b = addI a b := by
  unfold addI; rw [dst_id (dst a) (dst_in a).1 (dst_in a).2]
theorem dst_addI (a b : Int) : dst (addI a b) = addI a b := dst_id _ (addI_in a b).1 (addI_in a b).2
theorem addI_assoc (a b c : Int) : addI (addI a b) c = addI a (addI b c) := by
  have ha := dst_in a; have hb := dst_in b; have hc := dst_in c
  have e1 : addI (addI a b) c = if 4611686018427387904 < addI a b + dst c then 4611686018427387904 else addI a b + dst c := by
    rw [show addI (addI a b) c = if 4611686018427387904 < dst (addI a b) + dst c then 4611686018427387904 else dst (addI a b) + dst c from rfl, dst_addI]
  have e2 : addI a (addI b c) = if 4611686018427387904 < dst a + addI b c then 4611686018427387904 else dst a + addI b c := by
    rw [show addI a (addI b c) = if 4611686018427387904 < dst a + dst (addI b c) then 4611686018427387904 else dst a + dst (addI b c) from rfl, dst_addI]
  have e3 : addI a b = if 4611686018427387904 < dst a + dst b then 4611686018427387904 else dst a + dst b := rfl
  have e4 : addI b c = if 4611686018427387904 < dst b + dst c then 4611686018427387904 else dst b + dst c := rfl
  rw [e1, e2, e3, e4]
  repeat' split
  all_goals omega
theorem addI_ge (a b : Int) : addI a b = 4611686018427387904 ∨ (a ≤ addI a b ∧ b ≤ addI a b) := by
  have ha := dst_in a; have hb := dst_in b
  have ga := dst_le a; have gb := dst_le b
  have e3 : addI a b = if 4611686018427387904 < dst a + dst b then 4611686018427387904 else dst a + dst b := rfl
  rw [e3]
  split <;> omega
theorem apt_comm (a b : Int) : apt a b = apt b a := by unfold apt; split <;> split <;> omega
theorem apt_self (a : Int) : apt a a = 0 := by unfold apt; rw [if_neg (by omega)]; omega
theorem apt_in (a b : Int) : 0 ≤ apt a b ∧ apt a b ≤ 4611686018427387904 := by
  have ha := dst_in a; have hb := dst_in b
  unfold apt; split <;> omega

theorem mulI_comm (a b : Int) : mulI a b = mulI b a := by
  unfold mulI; rw [Int.mul_comm a b]
  by_cases h : a < 0 ∨ b < 0
  · rw [if_pos h, if_pos (show b < 0 ∨ a < 0 by omega)]
  · rw [if_neg h, if_neg (show ¬ (b < 0 ∨ a < 0) by omega)]
theorem mulI_one (a : Int) (h0 : 0 ≤ a) (h1 : a ≤ 4611686018427387904) : mulI a 4294967296 = (a, 0) := by
  unfold mulI; rw [if_neg (by omega), if_neg (by omega)]
  have : a * 4294967296 / 4294967296 = a := by omega
  rw [this]
theorem mulI_bad (a b : Int) (h : a < 0 ∨ b < 0) : mulI a b = (0, 2) := by unfold mulI; rw [if_pos h]
theorem mulI_nat (a b : Nat) : mulI a b = if 4611686018427387904 < a * b / 4294967296 then (0, 50) else (((a * b / 4294967296 : Nat) : Int), 0) := by
  unfold mulI; rw [if_neg (by omega)]
  have e : (a : Int) * (b : Int) / 4294967296 = ((a * b / 4294967296 : Nat) : Int) := by rw [← Int.natCast_mul]; omega
  rw [e]
  by_cases h : 4611686018427387904 < a * b / 4294967296
  · rw [if_pos h, if_pos (by omega)]
  · rw [if_neg h, if_neg (by omega)]
/-- What is told is a number from 0 to Inf; the error is 0, 2 or 50. -/
theorem mulI_in (a b : Int) : 0 ≤ (mulI a b).1 ∧ (mulI a b).1 ≤ 4611686018427387904 := by
  by_cases h : a < 0 ∨ b < 0
  · rw [mulI_bad a b h]; decide
  · obtain ⟨m, rfl⟩ : ∃ m : Nat, a = (m : Int) := ⟨a.toNat, by omega⟩
    obtain ⟨n, rfl⟩ : ∃ n : Nat, b = (n : Int) := ⟨b.toNat, by omega⟩
    rw [mulI_nat]
    split
    · decide
    · constructor
      · show (0 : Int) ≤ ((m * n / 4294967296 : Nat) : Int); omega
      · show ((m * n / 4294967296 : Nat) : Int) ≤ 4611686018427387904; omega
theorem shareI_in (a n : Int) : (shareI a n).2 = 0 ∨ (shareI a n).2 = 2 := by unfold shareI; split <;> simp
theorem shareI_bad (a n : Int) (h : a < 0 ∨ n < 1) : shareI a n = (0, 2) := by unfold shareI; rw [if_pos h]
theorem shareI_ok (a n : Int) (h0 : 0 ≤ a) (h1 : 1 ≤ n) : shareI a n = (a / n, 0) := by unfold shareI; rw [if_neg (by omega)]
theorem share_mul (a n : Int) (h1 : 1 ≤ n) : a / n * n ≤ a ∧ a - n < a / n * n := by
  have h := Int.emod_add_mul_ediv a n
  have h2 := Int.emod_nonneg a (show n ≠ 0 by omega)
  have h3 := Int.emod_lt_of_pos a (show 0 < n by omega)
  rw [Int.mul_comm n (a / n)] at h
  omega
theorem share_le (a n : Int) (h0 : 0 ≤ a) (h1 : 1 ≤ n) : 0 ≤ a / n ∧ a / n ≤ a :=
  ⟨Int.ediv_nonneg h0 (by omega), Int.ediv_le_self _ h0⟩

/-- The digits of n, at least k of them. -/
def pd (k n : Nat) : List UInt8 := if k = 0 ∧ n = 0 then [] else pd (k - 1) (n / 10) ++ [UInt8.ofNat (48 + n % 10)]
termination_by k + n
decreasing_by omega
theorem pd_nil : pd 0 0 = [] := by rw [pd]; simp
theorem pd_cons (k n : Nat) (h : ¬ (k = 0 ∧ n = 0)) : pd k n = pd (k - 1) (n / 10) ++ [UInt8.ofNat (48 + n % 10)] := by rw [pd, if_neg h]
theorem pd_pos (n : Nat) (h : 0 < n) : pd 1 n = pd 0 n := by rw [pd_cons 1 n (by omega), pd_cons 0 n (by omega)]
theorem pd_small (n : Nat) (h : n < 10) : pd 1 n = [UInt8.ofNat (48 + n)] := by
  rw [pd_cons 1 n (by omega), show 1 - 1 = 0 from rfl, show n / 10 = 0 by omega, pd_nil, show n % 10 = n by omega]; rfl
theorem pd_big (n : Nat) (h : 9 < n) : pd 1 n = pd 1 (n / 10) ++ [UInt8.ofNat (48 + n % 10)] := by
  rw [pd_cons 1 n (by omega), show 1 - 1 = 0 from rfl, pd_pos (n / 10) (by omega)]
theorem pd_step (k q d : Nat) (h : d < 10) : pd (k + 1) (10 * q + d) = pd k q ++ [UInt8.ofNat (48 + d)] := by
  rw [pd_cons _ _ (by omega), show k + 1 - 1 = k by omega, show (10 * q + d) / 10 = q by omega, show (10 * q + d) % 10 = d by omega]
theorem pd_ge : ∀ k n : Nat, k ≤ (pd k n).length
  | 0, _ => Nat.zero_le _
  | k + 1, n => by
    rw [pd_cons _ _ (by omega), List.length_append, show k + 1 - 1 = k by omega]
    have := pd_ge k (n / 10)
    simp; omega
theorem pd_le : ∀ m k n : Nat, n < 10 ^ m → (pd k n).length ≤ max k m
  | 0, 0, n, h => by
    obtain rfl : n = 0 := by simpa using h
    rw [pd_nil]; simp
  | 0, k + 1, n, h => by
    obtain rfl : n = 0 := by simpa using h
    have := pd_le 0 k 0 (by simp)
    rw [pd_cons _ _ (by omega), List.length_append, show k + 1 - 1 = k by omega]
    simp; omega
  | m + 1, k, n, h => by
    by_cases h0 : k = 0 ∧ n = 0
    · obtain ⟨rfl, rfl⟩ := h0; rw [pd_nil]; simp
    · have := pd_le m (k - 1) (n / 10) (by rw [Nat.pow_succ] at h; omega)
      rw [pd_cons _ _ h0, List.length_append]
      simp; omega
theorem pd_nine (q : Nat) (h : q < 1000000000) : (pd 9 q).length = 9 := by
  have h1 := pd_le 9 9 q (by simpa using h)
  have h2 := pd_ge 9 q
  omega
theorem pd_ten (q : Nat) (h : q < 10000000000) : 1 ≤ (pd 1 q).length ∧ (pd 1 q).length ≤ 10 := by
  have h1 := pd_le 10 1 q (by simpa using h)
  have h2 := pd_ge 1 q
  omega
/-- A number's text. -/
def txtN (a : Nat) : List UInt8 := pd 1 (a / 4294967296) ++ 46 :: pd 9 (a % 4294967296 * 1000000000 / 4294967296)
def txt (a : Int) : List UInt8 := if a < 0 then [] else txtN a.toNat
theorem txt_nat (a : Nat) : txt a = txtN a := by unfold txt; rw [if_neg (by omega)]; rfl
theorem txt_neg (a : Int) (h : a < 0) : txt a = [] := by unfold txt; rw [if_pos h]
theorem txtN_len (a : Nat) (h : a ≤ 9223372036854775807) : (txtN a).length ≤ 20 := by
  have h1 := pd_ten (a / 4294967296) (by omega)
  have h2 := pd_nine (a % 4294967296 * 1000000000 / 4294967296) (by omega)
  unfold txtN; rw [List.length_append, List.length_cons]; omega

end Go.Proofs.YtbbmgandkmlojaaGreat.Fx
