/-
  What is proved here: plain facts on numbers in fixed point, distances, and decimal digits. No condition. What is proved here: plain facts on ranks: what is given along all edges is not more than there was, and what all have next is not more than One. No condition.
-/
import Derived.Test.YtkbmmlombigkmaaGreatRows
namespace Go.Proofs.YtkbmmlombigkmaaGreat.Fx
def dst (a : Int) : Int := if a < 0 then 0 else if 4611686018427387904 < a then 4611686018427387904 else a
def addI (a b : Int) : Int := if 4611686018427387904 < dst a + dst b then 4611686018427387904 else dst a + dst b
def apt (a b : Int) : Int := if dst a < dst b then dst b - dst a else dst a - dst b
def shareI (a n : Int) : Int × Int := if a < 0 ∨ n < 1 then (0, 2) else (a / n, 0)
theorem dst_in (a : Int) : 0 ≤ dst a ∧ dst a ≤ 4611686018427387904 := by unfold dst; split <;> (try split) <;> omega
theorem dst_id (a : Int) (h0 : 0 ≤ a) (h1 : a ≤ 4611686018427387904) : dst a = a := by unfold dst; rw [if_neg (by omega), if_neg (by omega)]
theorem dst_le (a : Int) : a ≤ dst a ∨ dst a = 4611686018427387904 := by unfold dst; split <;> (try split) <;> omega
theorem addI_in (a b : Int) : 0 ≤ addI a b ∧ addI a b ≤ 4611686018427387904 := by
  have ha := dst_in a; have hb := dst_in b
  unfold addI; split <;> omega
theorem addI_ge (a b : Int) : addI a b = 4611686018427387904 ∨ (a ≤ addI a b ∧ b ≤ addI a b) := by
  have ha := dst_in a; have hb := dst_in b
  have ga := dst_le a; have gb := dst_le b
  have e3 : addI a b = if 4611686018427387904 < dst a + dst b then 4611686018427387904 else dst a + dst b := rfl
  rw [e3]
  split <;> omega
theorem shareI_bad (a n : Int) (h : a < 0 ∨ n < 1) : shareI a n = (0, 2) := by unfold shareI; rw [if_pos h]
theorem shareI_ok (a n : Int) (h0 : 0 ≤ a) (h1 : 1 ≤ n) : shareI a n = (a / n, 0) := by unfold shareI; rw [if_neg (by omega)]
theorem share_le (a n : Int) (h0 : 0 ≤ a) (h1 : 1 ≤ n) : 0 ≤ a / n ∧ a / n ≤ a :=
  ⟨Int.ediv_nonneg h0 (by omega), Int.ediv_le_self _ h0⟩
end Go.Proofs.YtkbmmlombigkmaaGreat.Fx
namespace Go.Proofs.YtkbmmlombigkmaaGreat.Rk
open Fx
def giveI (v n : Int) : Int := if v < 0 ∨ n < 1 then 0 else v / n
def takeI (n d m s : Int) : Int := if n < 1 ∨ d < 0 ∨ 4294967296 < d ∨ m < 0 ∨ s < 0 then 0 else (4294967296 - d) / n + d * addI m (s / n) / 4294967296
theorem giveI_bad {v n : Int} (h : v < 0 ∨ n < 1) : giveI v n = 0 := by unfold giveI; rw [if_pos h]
theorem giveI_ok {v n : Int} (h0 : 0 ≤ v) (h1 : 1 ≤ n) : giveI v n = v / n := by unfold giveI; rw [if_neg (by omega)]
end Go.Proofs.YtkbmmlombigkmaaGreat.Rk
