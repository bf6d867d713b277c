/-
  What is proved here: the contract of package fixed's Mul: the product, or why there is none. No condition.
-/
import Derived.Test.YtbbmgandkmlojaaGreatFxShelf
namespace Go.Proofs.YtbbmgandkmlojaaGreat.Fx
open Go.RowKit

set_option maxRecDepth 100000 in
theorem mul_any (a b x e : Int) (w : World) (hx : Hid (mulI a b = (x, e))) (_h0 : -9223372036854775808 ≤ a) (h1 : a ≤ 9223372036854775807) (_h2 : -9223372036854775808 ≤ b) (h3 : b ≤ 9223372036854775807) : Calls Tryz.prog 149 #[.int .i64 a, .int .i64 b] w fun r w' => r = .returned (.tuple #[.int .i64 x, .int .i64 e]) ∧ Below w.heap.size w w' := by
  by_cases h : a < 0 ∨ b < 0
  · rw [mulI_bad a b h] at hx
    obtain ⟨rfl, rfl⟩ : 0 = x ∧ 2 = e := by have := hx.out; simpa using this
    clear hx
    rcases (show a < 0 ∨ (0 ≤ a ∧ b < 0) by omega) with ha | ⟨ha, hb⟩
    all_goals
      go_enter Tryz.func149, Tryz.ntmps149
      go_wp2
      go_ret2
      exact ⟨rfl, Below.refl _ _⟩
  · obtain ⟨m, rfl⟩ : ∃ m : Nat, a = (m : Int) := ⟨a.toNat, by omega⟩
    obtain ⟨n, rfl⟩ : ∃ n : Nat, b = (n : Int) := ⟨b.toNat, by omega⟩
    have hm : m < 9223372036854775808 := by omega
    have hn : n < 9223372036854775808 := by omega
    clear h _h0 h1 _h2 h3
    have hmn : m * n < 9223372036854775808 * 9223372036854775808 := Nat.mul_lt_mul'' hm hn
    rw [mulI_nat] at hx
    obtain ⟨M, hM⟩ : ∃ M, m * n = M := ⟨_, rfl⟩
    rw [hM] at hx hmn
    obtain ⟨H, hH, hH1⟩ : ∃ H : Nat, M / 18446744073709551616 = H ∧ H < 18446744073709551616 := ⟨_, rfl, by omega⟩
    obtain ⟨L, hL, hL1⟩ : ∃ L : Nat, M % 18446744073709551616 = L ∧ L < 18446744073709551616 := ⟨_, rfl, by omega⟩
    obtain ⟨Q, hQ⟩ : ∃ Q : Nat, H * 4294967296 + L / 4294967296 = Q := ⟨_, rfl⟩
    have hQM : M / 4294967296 = Q := by omega
    rw [hQM] at hx
    have HH := Lib.hid (show m * n / 18446744073709551616 = H by rw [hM]; exact hH)
    have HL := Lib.hid (show m * n % 18446744073709551616 = L by rw [hM]; exact hL)
    have HQ := Lib.hid hQ
    by_cases hb : H < 4294967296
    · have hQ1 : Q < 18446744073709551616 := by omega
      clear hM hH hL hQ hQM hmn
      have t1 : decide ((4294967296 : Int) ≤ (H : Int)) = false := by simp; omega
      by_cases hi : 4611686018427387904 < Q
      · rw [if_pos hi] at hx
        obtain ⟨rfl, rfl⟩ : 0 = x ∧ 50 = e := by have := hx.out; simpa using this
        have t2 : decide ((4611686018427387904 : Int) < (Q : Int)) = true := by simp; omega
        go_enter Tryz.func149, Tryz.ntmps149
        go_wp2_with fail
        refine (mul_at m n H L (by omega) (by omega) _ HH HL).mono ?_
        rintro r w' ⟨rfl, rfl⟩
        go_wp2_with fail
        refine (div_at H L Q _ _ hb hL1 HQ (Lib.hid rfl)).mono ?_
        rintro r w' ⟨rfl, hbl⟩
        have HB := Lib.hid hbl; clear hbl
        go_wp2
        go_ret2
        exact ⟨rfl, HB.out⟩
      · rw [if_neg hi] at hx
        obtain ⟨rfl, rfl⟩ : (Q : Int) = x ∧ 0 = e := by have := hx.out; simpa using this
        have t2 : decide ((4611686018427387904 : Int) < (Q : Int)) = false := by simp; omega
        go_enter Tryz.func149, Tryz.ntmps149
        go_wp2_with fail
        refine (mul_at m n H L (by omega) (by omega) _ HH HL).mono ?_
        rintro r w' ⟨rfl, rfl⟩
        go_wp2_with fail
        refine (div_at H L Q _ _ hb hL1 HQ (Lib.hid rfl)).mono ?_
        rintro r w' ⟨rfl, hbl⟩
        have HB := Lib.hid hbl; clear hbl
        go_wp2
        go_ret2
        exact ⟨rfl, HB.out⟩
    · have hi : 4611686018427387904 < Q := by omega
      rw [if_pos hi] at hx
      obtain ⟨rfl, rfl⟩ : 0 = x ∧ 50 = e := by have := hx.out; simpa using this
      clear hM hH hL hQ hQM hmn hi
      have t1 : decide ((4294967296 : Int) ≤ (H : Int)) = true := by simp; omega
      go_enter Tryz.func149, Tryz.ntmps149
      go_wp2_with fail
      refine (mul_at m n H L (by omega) (by omega) _ HH HL).mono ?_
      rintro r w' ⟨rfl, rfl⟩
      go_wp2
      go_ret2
      exact ⟨rfl, Below.refl _ _⟩

end Go.Proofs.YtbbmgandkmlojaaGreat.Fx
