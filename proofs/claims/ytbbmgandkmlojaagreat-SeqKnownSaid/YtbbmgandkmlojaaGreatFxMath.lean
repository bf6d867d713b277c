/-
  What is proved here: plain facts on numbers in fixed point, distances, and decimal digits. No condition.
-/
import Derived.Test.YtbbmgandkmlojaaGreatRows
namespace Go.Proofs.YtbbmgandkmlojaaGreat.Fx
def dst (a : Int) : Int := if a < 0 then 0 else if 4611686018427387904 < a then 4611686018427387904 else a
def addI (a b : Int) : Int := if 4611686018427387904 < dst a + dst b then 4611686018427387904 else dst a + dst b
def apt (a b : Int) : Int := if dst a < dst b then dst b - dst a else dst a - dst b
def mulI (a b : Int) : Int × Int := if a < 0 ∨ b < 0 then (0, 2) else if 4611686018427387904 < a * b / 4294967296 then (0, 50) else (a * b / 4294967296, 0)
def shareI (a n : Int) : Int × Int := if a < 0 ∨ n < 1 then (0, 2) else (a / n, 0)
theorem dst_in (a : Int) : 0 ≤ dst a ∧ dst a ≤ 4611686018427387904 := by unfold dst; split <;> (try split) <;> omega
theorem dst_id (a : Int) (h0 : 0 ≤ a) (h1 : a ≤ 4611686018427387904) : dst a = a := by unfold dst; rw [if_neg (by omega), if_neg (by omega)]
theorem dst_ge (a : Int) : dst a ≤ a ∨ dst a = 0 := by unfold dst; split <;> (try split) <;> omega
theorem dst_le (a : Int) : a ≤ dst a ∨ dst a = 4611686018427387904 := by unfold dst; split <;> (try split) <;> omega
theorem addI_in (a b : Int) : 0 ≤ addI a b ∧ addI a b ≤ 4611686018427387904 := by
  have ha := dst_in a; have hb := dst_in b
  unfold addI; split <;> omega
theorem addI_comm (a b : Int) : addI a b = addI b a := by
  unfold addI; rw [Int.add_comm]
theorem dst_addI (a b : Int) : dst (addI a b) = addI a b := dst_id _ (addI_in a b).1 (addI_in a b).2
theorem addI_assoc (a b c : Int) : addI (addI a b) c = addI a (addI b c) := by
  have ha := dst_in a; have hb := dst_in b; have hc := dst_in c
  have e1 : addI (addI a b) c = if 4611686018427387904 < addI a b + dst c then 4611686018427387904 else addI a b + dst c := by
    rw [show addI (addI a b) c = if 4611686018427387904 < dst (addI a b) + dst c then 4611686018427387904 else dst (addI a b) + dst c from rfl, dst_addI]
  have e2 : addI a (addI b c) = if 4611686018427387904 < dst a + addI b c then 4611686018427387904 else dst a + addI b c := by
    rw [show addI a (addI b c) = if 4611686018427387904 < dst a + dst (addI b c) then 4611686018427387904 else dst a + dst (addI b c) from rfl, dst_addI]
  have e3 : addI a b = if 4611686018427387904 < dst a + dst b then 4611686018427387904 else dst a + dst b := rfl
  have e4 : addI b c = if 4611686018427387904 < dst b + dst c then 4611686018427387904 else dst b + dst c := rfl
  rw [e1, e2, e3, e4]
  repeat' split
  all_goals omega
theorem addI_ge (a b : Int) : addI a b = 4611686018427387904 ∨ (a ≤ addI a b ∧ b ≤ addI a b) := by
  have ha := dst_in a; have hb := dst_in b
  have ga := dst_le a; have gb := dst_le b
  have e3 : addI a b = if 4611686018427387904 < dst a + dst b then 4611686018427387904 else dst a + dst b := rfl
  rw [e3]
  split <;> omega
theorem apt_in (a b : Int) : 0 ≤ apt a b ∧ apt a b ≤ 4611686018427387904 := by
  have ha := dst_in a; have hb := dst_in b
  unfold apt; split <;> omega
theorem mulI_bad (a b : Int) (h : a < 0 ∨ b < 0) : mulI a b = (0, 2) := by unfold mulI; rw [if_pos h]
theorem mulI_nat (a b : Nat) : mulI a b = if 4611686018427387904 < a * b / 4294967296 then (0, 50) else (((a * b / 4294967296 : Nat) : Int), 0) := by
  unfold mulI; rw [if_neg (by omega)]
  have e : (a : Int) * (b : Int) / 4294967296 = ((a * b / 4294967296 : Nat) : Int) := by rw [← Int.natCast_mul]; omega
  rw [e]
  by_cases h : 4611686018427387904 < a * b / 4294967296
  · rw [if_pos h, if_pos (by omega)]
  · rw [if_neg h, if_neg (by omega)]
theorem shareI_bad (a n : Int) (h : a < 0 ∨ n < 1) : shareI a n = (0, 2) := by unfold shareI; rw [if_pos h]
theorem shareI_ok (a n : Int) (h0 : 0 ≤ a) (h1 : 1 ≤ n) : shareI a n = (a / n, 0) := by unfold shareI; rw [if_neg (by omega)]
theorem share_mul (a n : Int) (h1 : 1 ≤ n) : a / n * n ≤ a ∧ a - n < a / n * n := by
  have h := Int.emod_add_mul_ediv a n
  have h2 := Int.emod_nonneg a (show n ≠ 0 by omega)
  have h3 := Int.emod_lt_of_pos a (show 0 < n by omega)
  rw [Int.mul_comm n (a / n)] at h
  omega
theorem share_le (a n : Int) (h0 : 0 ≤ a) (h1 : 1 ≤ n) : 0 ≤ a / n ∧ a / n ≤ a :=
  ⟨Int.ediv_nonneg h0 (by omega), Int.ediv_le_self _ h0⟩
end Go.Proofs.YtbbmgandkmlojaaGreat.Fx
