/-
  What is proved here: the contract of the document's own Mul: the product, or why there is none. No condition.
-/
import Derived.Test.YtbbmgandkmlojaaGreatFxShelf
namespace Go.Proofs.YtbbmgandkmlojaaGreat.Fx
open Go.RowKit

def RmRel (Q x1 x2 x3 g : Nat) (i s : Value) : Prop := ∃ S : Nat, s = .int .i64 (S : Int) ∧ S ≤ 4611686018427387904 ∧ ((g = 3 ∧ i = .int .i64 0 ∧ S + x1 + x2 + x3 = Q) ∨ (g = 2 ∧ i = .int .i64 1 ∧ S + x2 + x3 = Q) ∨ (g = 1 ∧ i = .int .i64 2 ∧ S + x3 = Q) ∨ (g = 0 ∧ i = .int .i64 3 ∧ S = Q))

theorem mul_split (m n p q r s : Nat) (hp : m / 4294967296 = p) (hq : m % 4294967296 = q) (hr : n / 4294967296 = r) (hs : n % 4294967296 = s) :
    m * n / 4294967296 = p * r * 4294967296 + p * s + q * r + q * s / 4294967296 := by
  have hm : m = p * 4294967296 + q := by omega
  have hn : n = r * 4294967296 + s := by omega
  have e := Lib.split_mul p q r s 4294967296
  rw [hm, hn, e]
  generalize p * r = a; generalize p * s = b; generalize q * r = c; generalize q * s = d
  omega

theorem div_test (p r : Nat) (h : 0 < p) : (1073741824 / p < r → 1073741824 < p * r) ∧ (¬ 1073741824 / p < r → p * r ≤ 1073741824) := by
  have h1 := Nat.div_add_mod 1073741824 p
  have h2 := Nat.mod_lt 1073741824 h
  constructor
  · intro g
    have : p * (1073741824 / p + 1) ≤ p * r := Nat.mul_le_mul_left p g
    rw [Nat.mul_add, Nat.mul_one] at this
    omega
  · intro g
    have : p * r ≤ p * (1073741824 / p) := Nat.mul_le_mul_left p (by omega)
    omega

set_option maxRecDepth 100000 in
set_option maxHeartbeats 2000000 in
theorem rmul_any (a b x e : Int) (w : World) (hx : Hid (mulI a b = (x, e))) (_h0 : -9223372036854775808 ≤ a) (h1 : a ≤ 9223372036854775807) (_h2 : -9223372036854775808 ≤ b) (h3 : b ≤ 9223372036854775807) : Calls Tryz.prog 104 #[.int .i64 a, .int .i64 b] w fun r w' => r = .returned (.tuple #[.int .i64 x, .int .i64 e]) ∧ Below w.heap.size w w' := by
  by_cases h : a < 0 ∨ b < 0
  · rw [mulI_bad a b h] at hx
    obtain ⟨rfl, rfl⟩ : 0 = x ∧ 2 = e := by have := hx.out; simpa using this
    clear hx
    rcases (show a < 0 ∨ (0 ≤ a ∧ b < 0) by omega) with ha | ⟨ha, hb⟩
    all_goals
      go_enter Tryz.func104, Tryz.ntmps104
      go_wp2
      go_ret2
      exact ⟨rfl, Below.refl _ _⟩
  · obtain ⟨m, rfl⟩ : ∃ m : Nat, a = (m : Int) := ⟨a.toNat, by omega⟩
    obtain ⟨n, rfl⟩ : ∃ n : Nat, b = (n : Int) := ⟨b.toNat, by omega⟩
    have hm : m < 9223372036854775808 := by omega
    have hn : n < 9223372036854775808 := by omega
    clear h _h0 h1 _h2 h3
    rw [mulI_nat] at hx
    obtain ⟨Q, hQ⟩ : ∃ Q, m * n / 4294967296 = Q := ⟨_, rfl⟩
    rw [hQ] at hx
    obtain ⟨p, hp, hp1⟩ : ∃ p : Nat, m / 4294967296 = p ∧ p < 2147483648 := ⟨_, rfl, by omega⟩
    obtain ⟨q, hq, hq1⟩ : ∃ q : Nat, m % 4294967296 = q ∧ q < 4294967296 := ⟨_, rfl, by omega⟩
    obtain ⟨r, hr, hr1⟩ : ∃ r : Nat, n / 4294967296 = r ∧ r < 2147483648 := ⟨_, rfl, by omega⟩
    obtain ⟨s, hs, hs1⟩ : ∃ s : Nat, n % 4294967296 = s ∧ s < 4294967296 := ⟨_, rfl, by omega⟩
    have hall := mul_split m n p q r s hp hq hr hs
    rw [hQ] at hall
    have b1 : p * s < 2147483648 * 4294967296 := Nat.mul_lt_mul'' hp1 hs1
    have b2 : q * r < 4294967296 * 2147483648 := Nat.mul_lt_mul'' hq1 hr1
    have b3 : q * s < 4294967296 * 4294967296 := Nat.mul_lt_mul'' hq1 hs1
    have dt := div_test p r
    have pz : p = 0 → p * r = 0 := fun h => by rw [h, Nat.zero_mul]
    obtain ⟨PR, hPR⟩ : ∃ PR, p * r = PR := ⟨_, rfl⟩
    obtain ⟨x1, hx1⟩ : ∃ x1, p * s = x1 := ⟨_, rfl⟩
    obtain ⟨x2, hx2⟩ : ∃ x2, q * r = x2 := ⟨_, rfl⟩
    obtain ⟨y3, hy3⟩ : ∃ y3, q * s = y3 := ⟨_, rfl⟩
    rw [hPR] at dt pz
    rw [hPR, hx1, hx2, hy3] at hall
    rw [hx1] at b1; rw [hx2] at b2; rw [hy3] at b3
    obtain ⟨x3, hx3, b4⟩ : ∃ x3, y3 / 4294967296 = x3 ∧ x3 < 4294967296 := ⟨_, rfl, by omega⟩
    rw [hx3] at hall
    have f1 : (m : Int) / 4294967296 = (p : Int) := by omega
    have f2 : (m : Int) % 4294967296 = (q : Int) := by omega
    have f3 : (n : Int) / 4294967296 = (r : Int) := by omega
    have f4 : (n : Int) % 4294967296 = (s : Int) := by omega
    have f5 : (p : Int) * (r : Int) = (PR : Int) := by rw [← Int.natCast_mul, hPR]
    have f6 : (p : Int) * (s : Int) = (x1 : Int) := by rw [← Int.natCast_mul, hx1]
    have f7 : (q : Int) * (r : Int) = (x2 : Int) := by rw [← Int.natCast_mul, hx2]
    have f8 : (q : Int) * (s : Int) = (y3 : Int) := by rw [← Int.natCast_mul, hy3]
    have f9 : (y3 : Int) / 4294967296 = (x3 : Int) := by omega
    have HA := Lib.hid hall
    clear hQ hp hq hr hs hall hPR hx1 hx2 hy3 hx3
    by_cases hov : 0 < p ∧ 1073741824 / p < r
    · have hbig := (dt hov.1).1 hov.2
      obtain ⟨hp0, hpr⟩ := hov
      rw [if_pos (show 4611686018427387904 < Q by have := HA.out; omega)] at hx
      obtain ⟨rfl, rfl⟩ : 0 = x ∧ 50 = e := by have := hx.out; simpa using this
      obtain ⟨U, hU⟩ : ∃ U, 1073741824 / p = U := ⟨_, rfl⟩
      rw [hU] at hpr
      have f10 : (1073741824 : Int) / (p : Int) = (U : Int) := by rw [← hU]; rfl
      clear hU dt pz
      go_enter Tryz.func104, Tryz.ntmps104
      go_wp2_with fail
      go_quiet (fail)
      go_wp2
      go_ret2
      exact ⟨rfl, below_drewN (Below.refl _ _) _⟩
    · have hPR1 : PR ≤ 1073741824 := by
        by_cases hp0 : p = 0
        · rw [pz hp0]; omega
        · exact (dt (by omega)).2 (fun g => hov ⟨by omega, g⟩)
      obtain ⟨U, hU⟩ : ∃ U, 1073741824 / p = U := ⟨_, rfl⟩
      rw [hU] at hov
      have f10 : (1073741824 : Int) / (p : Int) = (U : Int) := by rw [← hU]; rfl
      obtain ⟨S0, hS0⟩ : ∃ S0, PR * 4294967296 = S0 := ⟨_, rfl⟩
      have f11 : (PR : Int) * 4294967296 = (S0 : Int) := by omega
      have g0 : S0 ≤ 4611686018427387904 := by omega
      have HA := Lib.hid (show S0 + x1 + x2 + x3 = Q by rw [HA.out, hS0])
      clear hU dt pz hS0
      by_cases hp0 : 0 < p
      · have hpr : ¬ U < r := fun g => hov ⟨hp0, g⟩
        clear hov
        go_enter Tryz.func104, Tryz.ntmps104
        go_wp2_with fail
        go_quiet (fail)
        obtain ⟨w1, hw1⟩ : ∃ w1, w.drewN nq = w1 := ⟨_, rfl⟩
        have HB1 := Lib.hid (show Below w.heap.size w w1 by rw [← hw1]; exact below_drewN (Below.refl _ w) nq)
        rw [hw1]
        clear hw1
        go_wp2_with fail
        go_loopg [12, 67] 3 (fun g s i wr => RmRel Q x1 x2 x3 g i s ∧ wr = w1.alloc (.cells #[.int .u64 (x1 : Int), .int .u64 (x2 : Int), .int .u64 (x3 : Int)] 155))
        case atStart => exact ⟨⟨S0, rfl, g0, Or.inl ⟨rfl, rfl, HA.out⟩⟩, rfl⟩
        case round =>
          obtain ⟨⟨S, rfl, hS, hall⟩, rfl⟩ := hrel
          clear f1 f2 f3 f4 f5 f6 f7 f8 f9 f10 f11
          have HB := Lib.hid (show Below w.heap.size w (w1.alloc (.cells #[.int .u64 (x1 : Int), .int .u64 (x2 : Int), .int .u64 (x3 : Int)] 155)) from HB1.out.alloc HB1.out.size _)
          rcases hall with ⟨rfl, rfl, hall⟩ | ⟨rfl, rfl, hall⟩ | ⟨rfl, rfl, hall⟩ | ⟨rfl, rfl, hall⟩
          · by_cases ho : 4611686018427387904 - S < x1
            · rw [if_pos (show 4611686018427387904 < Q by omega)] at hx
              obtain ⟨rfl, rfl⟩ : 0 = x ∧ 50 = e := by have := hx.out; simpa using this
              have t1 : decide (4611686018427387904 - (S : Int) < (x1 : Int)) = true := by simp; omega
              clear hall
              go_wp2
              go_ret2
              exact ⟨rfl, HB.out⟩
            · have t1 : decide (4611686018427387904 - (S : Int) < (x1 : Int)) = false := by simp; omega
              have HE := Lib.hid hall; clear hall
              go_wp2
              go_roundg 2
              case measure => omega
              case rel => exact ⟨⟨S + x1, by go_num, by omega, Or.inr (Or.inl ⟨rfl, rfl, HE.out⟩)⟩, rfl⟩
          · by_cases ho : 4611686018427387904 - S < x2
            · rw [if_pos (show 4611686018427387904 < Q by omega)] at hx
              obtain ⟨rfl, rfl⟩ : 0 = x ∧ 50 = e := by have := hx.out; simpa using this
              have t1 : decide (4611686018427387904 - (S : Int) < (x2 : Int)) = true := by simp; omega
              clear hall
              go_wp2
              go_ret2
              exact ⟨rfl, HB.out⟩
            · have t1 : decide (4611686018427387904 - (S : Int) < (x2 : Int)) = false := by simp; omega
              have HE := Lib.hid hall; clear hall
              go_wp2
              go_roundg 1
              case measure => omega
              case rel => exact ⟨⟨S + x2, by go_num, by omega, Or.inr (Or.inr (Or.inl ⟨rfl, rfl, HE.out⟩))⟩, rfl⟩
          · by_cases ho : 4611686018427387904 - S < x3
            · rw [if_pos (show 4611686018427387904 < Q by omega)] at hx
              obtain ⟨rfl, rfl⟩ : 0 = x ∧ 50 = e := by have := hx.out; simpa using this
              have t1 : decide (4611686018427387904 - (S : Int) < (x3 : Int)) = true := by simp; omega
              clear hall
              go_wp2
              go_ret2
              exact ⟨rfl, HB.out⟩
            · have t1 : decide (4611686018427387904 - (S : Int) < (x3 : Int)) = false := by simp; omega
              have HE := Lib.hid hall; clear hall
              go_wp2
              go_roundg 0
              case measure => omega
              case rel => exact ⟨⟨S + x3, by go_num, by omega, Or.inr (Or.inr (Or.inr ⟨rfl, rfl, HE.out⟩))⟩, rfl⟩
          · rw [if_neg (show ¬ 4611686018427387904 < Q by omega)] at hx
            obtain ⟨rfl, rfl⟩ : (Q : Int) = x ∧ 0 = e := by have := hx.out; simpa using this
            subst hall
            go_wp2
            go_ret2
            exact ⟨rfl, HB.out⟩
      · obtain rfl : p = 0 := by omega
        clear hov hp0 f10
        have f5 : (PR : Int) = 0 := by rw [← f5]; simp
        obtain rfl : x1 = 0 := by have := f6; simp at this; omega
        clear f6 b1
        obtain rfl : S0 = 0 := by omega
        clear f11
        go_enter Tryz.func104, Tryz.ntmps104
        go_wp2_with fail
        go_quiet (fail)
        obtain ⟨w1, hw1⟩ : ∃ w1, w.drewN nq = w1 := ⟨_, rfl⟩
        have HB1 := Lib.hid (show Below w.heap.size w w1 by rw [← hw1]; exact below_drewN (Below.refl _ w) nq)
        rw [hw1]
        clear hw1
        go_wp2_with fail
        go_loopg [12, 67] 3 (fun g s i wr => RmRel Q 0 x2 x3 g i s ∧ wr = w1.alloc (.cells #[.int .u64 (0 : Int), .int .u64 (x2 : Int), .int .u64 (x3 : Int)] 155))
        case atStart => exact ⟨⟨0, rfl, g0, Or.inl ⟨rfl, rfl, HA.out⟩⟩, rfl⟩
        case round =>
          obtain ⟨⟨S, rfl, hS, hall⟩, rfl⟩ := hrel
          clear f1 f2 f3 f4 f5 f7 f8 f9
          have HB := Lib.hid (show Below w.heap.size w (w1.alloc (.cells #[.int .u64 (0 : Int), .int .u64 (x2 : Int), .int .u64 (x3 : Int)] 155)) from HB1.out.alloc HB1.out.size _)
          rcases hall with ⟨rfl, rfl, hall⟩ | ⟨rfl, rfl, hall⟩ | ⟨rfl, rfl, hall⟩ | ⟨rfl, rfl, hall⟩
          · by_cases ho : 4611686018427387904 - S < 0
            · rw [if_pos (show 4611686018427387904 < Q by omega)] at hx
              obtain ⟨rfl, rfl⟩ : 0 = x ∧ 50 = e := by have := hx.out; simpa using this
              have t1 : decide (4611686018427387904 - (S : Int) < (0 : Int)) = true := by simp; omega
              clear hall
              go_wp2
              go_ret2
              exact ⟨rfl, HB.out⟩
            · have t1 : decide (4611686018427387904 - (S : Int) < (0 : Int)) = false := by simp; omega
              have HE := Lib.hid hall; clear hall
              go_wp2
              go_roundg 2
              case measure => omega
              case rel => exact ⟨⟨S + 0, by go_num, by omega, Or.inr (Or.inl ⟨rfl, rfl, HE.out⟩)⟩, rfl⟩
          · by_cases ho : 4611686018427387904 - S < x2
            · rw [if_pos (show 4611686018427387904 < Q by omega)] at hx
              obtain ⟨rfl, rfl⟩ : 0 = x ∧ 50 = e := by have := hx.out; simpa using this
              have t1 : decide (4611686018427387904 - (S : Int) < (x2 : Int)) = true := by simp; omega
              clear hall
              go_wp2
              go_ret2
              exact ⟨rfl, HB.out⟩
            · have t1 : decide (4611686018427387904 - (S : Int) < (x2 : Int)) = false := by simp; omega
              have HE := Lib.hid hall; clear hall
              go_wp2
              go_roundg 1
              case measure => omega
              case rel => exact ⟨⟨S + x2, by go_num, by omega, Or.inr (Or.inr (Or.inl ⟨rfl, rfl, HE.out⟩))⟩, rfl⟩
          · by_cases ho : 4611686018427387904 - S < x3
            · rw [if_pos (show 4611686018427387904 < Q by omega)] at hx
              obtain ⟨rfl, rfl⟩ : 0 = x ∧ 50 = e := by have := hx.out; simpa using this
              have t1 : decide (4611686018427387904 - (S : Int) < (x3 : Int)) = true := by simp; omega
              clear hall
              go_wp2
              go_ret2
              exact ⟨rfl, HB.out⟩
            · have t1 : decide (4611686018427387904 - (S : Int) < (x3 : Int)) = false := by simp; omega
              have HE := Lib.hid hall; clear hall
              go_wp2
              go_roundg 0
              case measure => omega
              case rel => exact ⟨⟨S + x3, by go_num, by omega, Or.inr (Or.inr (Or.inr ⟨rfl, rfl, HE.out⟩))⟩, rfl⟩
          · rw [if_neg (show ¬ 4611686018427387904 < Q by omega)] at hx
            obtain ⟨rfl, rfl⟩ : (Q : Int) = x ∧ 0 = e := by have := hx.out; simpa using this
            subst hall
            go_wp2
            go_ret2
            exact ⟨rfl, HB.out⟩

end Go.Proofs.YtbbmgandkmlojaaGreat.Fx
