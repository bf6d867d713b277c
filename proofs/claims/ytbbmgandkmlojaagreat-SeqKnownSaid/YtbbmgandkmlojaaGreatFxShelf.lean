/-
  What is proved here: contracts of the library's functions that package fixed calls: math/bits.Mul64 (out of the library's own theorem over any program), and math/bits.Div64 by 2^32 (walked here). Condition of the latter: what is divided has fewer than 2^96.
-/
import Derived.Test.YtbbmgandkmlojaaGreatFxW1
import Derived.Shelf.Bits.Mul64
import Derived.Laws.Bits64b
import Derived.Lib.BitFns
import Derived.Deep.CutRange
import Derived.Deep.QuietTactic
import Derived.BigQuiet
namespace Go.Proofs
open Go.Shelf
def Tryz.lays264_ren : Go.Shelf.Ren := ⟨fun | 264 => 150 | n => n, fun | 46 => 160 | 53 => 155 | n => n, fun | n => n⟩
theorem Tryz.lays264 : Go.Proofs.Lays.n264 Tryz.prog Tryz.lays264_ren := {
  mixed := by kernel_rfl
  f264 := Tryz.func150.trans (congrArg some (by kernel_rfl))
  t46 := Tryz.underlying160
  a46 := Tryz.isAgg160
  z46 := Tryz.sizeOf160
  v46 := Tryz.zeroValue160
  t53 := Tryz.underlying155
  a53 := Tryz.isAgg155
  z53 := Tryz.sizeOf155
  v53 := Tryz.zeroValue155 }
open Go.RowKit in
theorem Tryz.bits_Mul64 (x y : Nat) (hx : x < 18446744073709551616) (hy : y < 18446744073709551616) (w : World) :
    Calls Tryz.prog 150 #[.int .u64 x, .int .u64 y] w fun e w' => e = .returned (.tuple #[.int .u64 ((x * y / 18446744073709551616 : Nat) : Int), .int .u64 ((x * y % 18446744073709551616 : Nat) : Int)]) ∧ w' = w := Any.bits_Mul64 Tryz.lays264 x y hx hy w

namespace YtbbmgandkmlojaaGreat.Fx
open Go.RowKit

theorem below_drewN {B : Nat} {a w : World} (h : Below B a w) (n : Nat) : Below B a (w.drewN n) := ⟨h.os, h.tape, h.output, h.size, h.block⟩
set_option maxRecDepth 100000 in
set_option maxHeartbeats 1000000 in
theorem len_33 (x : Int) (w : World) (h0 : 4294967296 ≤ x) (h1 : x < 8589934592) (h : Hid (x = 4294967296)) : Calls Tryz.prog 153 #[.int .u64 x] w fun e w' => e = .returned (.int .i64 33) ∧ w = w' := by
  have hi : ∀ w : World, (Instr.index 9 (.string Lib.len8tab) (.int .u8 (x / 4294967296))).run Tryz.prog w = .ok (.int .u8 1) w := by rw [h.out]; exact fun _ => by kernel_rfl
  go_enter Tryz.func153, Tryz.ntmps153
  go_wp2
  go_ret
  exact ⟨rfl, rfl⟩
set_option maxRecDepth 100000 in
theorem leading (x : Int) (w : World) (h0 : 4294967296 ≤ x) (h1 : x < 8589934592) (h : Hid (x = 4294967296)) : Calls Tryz.prog 152 #[.int .u64 x] w fun e w' => e = .returned (.int .i64 31) ∧ w = w' := by
  go_enter Tryz.func152, Tryz.ntmps152
  go_wp2_with fail
  refine (len_33 x _ h0 h1 h).mono ?_
  rintro e w' ⟨rfl, rfl⟩
  go_wp2
  go_ret
  exact ⟨rfl, rfl⟩

set_option maxRecDepth 100000 in
set_option maxHeartbeats 1000000 in
theorem div_low (l : Nat) (w : World) (hl : l < 18446744073709551616) : Calls Tryz.prog 151 #[.int .u64 0, .int .u64 (l : Int), .int .u64 4294967296] w fun e w' => e = .returned (.tuple #[.int .u64 ((l / 4294967296 : Nat) : Int), .int .u64 ((l % 4294967296 : Nat) : Int)]) ∧ Below w.heap.size w w' := by
  go_enter Tryz.func151, Tryz.ntmps151
  go_wp2_with fail
  go_quiet (fail)
  go_wp2
  go_ret2
  exact ⟨ret_two (by omega) (by omega), below_drewN (Below.refl _ _) _⟩
theorem wrap_chain (x b y v : Int) (h : x + b - y = v) (h0 : 0 ≤ v) (h1 : v < 18446744073709551616) :
    IntKind.u64.wrap (IntKind.u64.wrap (IntKind.u64.wrap x + b) - IntKind.u64.wrap y) = v := by
  rw [IntKind.wrap_u64, IntKind.wrap_u64, IntKind.wrap_u64, IntKind.wrap_u64, Int.emod_add_emod, ← Int.sub_emod, h]
  exact Int.emod_eq_of_lt h0 h1
theorem shift_or (h c : Nat) (hc : c < 2147483648) (hh : h < 4294967296) : bits .or .u64 ((h : Int) * 2147483648) (c : Int) = ((h * 2147483648 + c : Nat) : Int) := by
  have := bits_or_u64_nat (h * 2147483648) c (by omega) (by omega)
  rw [Int.natCast_mul] at this
  rw [show (2147483648 : Int) = ((2147483648 : Nat) : Int) from rfl, this]
  have e : h * 2147483648 ||| c = h * 2147483648 + c := by
    rw [Nat.mul_comm, show (2147483648 : Nat) = 2 ^ 31 from rfl]
    exact (Nat.two_pow_add_eq_or_of_lt (show c < 2 ^ 31 by simpa using hc) h).symm
  rw [e]
set_option maxRecDepth 100000 in
set_option maxHeartbeats 1000000 in
theorem div_high (h l : Nat) (y : Int) (w : World) (h0 : 0 < h) (h1 : h < 4294967296) (hl : l < 18446744073709551616) (y0 : 4294967296 ≤ y) (y1 : y < 8589934592) (hy : Hid (y = 4294967296)) : Calls Tryz.prog 151 #[.int .u64 (h : Int), .int .u64 (l : Int), .int .u64 y] w fun e w' => e = .returned (.tuple #[.int .u64 ((h * 4294967296 + l / 4294967296 : Nat) : Int), .int .u64 ((l % 4294967296 : Nat) : Int)]) ∧ w = w' := by
  obtain ⟨K, k0, k1, hK⟩ : ∃ K : Int, 2147483648 ≤ K ∧ K < 2147483649 ∧ 9223372036854775808 / 4294967296 = K := ⟨2147483648, by omega, by omega, rfl⟩
  obtain ⟨Y, Y0, Y1, hY⟩ : ∃ Y : Int, 9223372036854775808 ≤ Y ∧ Y < 9223372036854775809 ∧ y * 2147483648 = Y := ⟨9223372036854775808, by omega, by omega, by rw [hy.out]; rfl⟩
  obtain ⟨c, hc, hc1⟩ : ∃ c : Nat, l / 8589934592 = c ∧ c < 2147483648 := ⟨_, rfl, by omega⟩
  obtain ⟨A, hA, hA1⟩ : ∃ A : Nat, h * 2147483648 + c = A ∧ A < 9223372036854775808 := ⟨_, rfl, by omega⟩
  obtain ⟨B, hB, hB1⟩ : ∃ B : Nat, l % 8589934592 / 2 = B ∧ B < 4294967296 := ⟨_, rfl, by omega⟩
  obtain ⟨D, hD, hD1⟩ : ∃ D : Nat, l % 2 * 2147483648 = D ∧ D < 4294967296 := ⟨_, rfl, by omega⟩
  have hYv : Y = 9223372036854775808 := by omega
  have e1 : bits .and .u64 Y 4294967295 = 0 := by rw [hYv]; decide +kernel
  have e0 : Y / 4294967296 = K := by rw [hYv]; exact hK
  have e00 : (0 : Int) ≤ A - h * 2147483648 ∧ (A : Int) - h * 2147483648 = c := by omega
  obtain ⟨Pr, hP, hP1⟩ : ∃ Pr : Nat, h * 2147483648 = Pr ∧ Pr ≤ A := ⟨_, rfl, by omega⟩
  have e2 : bits .or .u64 ((h : Int) * 2147483648) ((l : Int) / 8589934592) = (A : Int) := by
    rw [show (l : Int) / 8589934592 = (c : Int) by omega, shift_or h c hc1 h1, hA]
  have e3 : IntKind.u64.wrap ((l : Int) * 2147483648) / 4294967296 = (B : Int) := by rw [IntKind.wrap_u64]; omega
  have e4 : bits .and .u64 (IntKind.u64.wrap ((l : Int) * 2147483648)) 4294967295 = (D : Int) := by
    have g : IntKind.u64.wrap ((l : Int) * 2147483648) = ((l * 2147483648 % 18446744073709551616 : Nat) : Int) := by rw [IntKind.wrap_u64]; omega
    rw [g, Mul64.maskN _ (by omega)]
    omega
  have E0 := Lib.hid e0; have E1 := Lib.hid e1; have E2 := Lib.hid e2; have E3 := Lib.hid e3; have E4 := Lib.hid e4; have E5 := Lib.hid hY
  have HC := Lib.hid hc; have HA := Lib.hid hA; have HB := Lib.hid hB; have HD := Lib.hid hD
  clear hK e0 e1 e2 e3 e4 hc hA hB hD hY hYv e00
  have hKv : K = 2147483648 := by omega
  have e6 : (A : Int) / K = (h : Int) := by rw [hKv]; have := HA.out; omega
  have e7 : (h : Int) * K = (Pr : Int) := by rw [hKv]; omega
  have e8 : (A : Int) - (Pr : Int) = (c : Int) := by have := HA.out; omega
  obtain ⟨L, hL, hL1⟩ : ∃ L : Nat, l / 2 = L ∧ L < 9223372036854775808 := ⟨_, rfl, by omega⟩
  obtain ⟨Q, hQ, hQ1⟩ : ∃ Q : Nat, l / 4294967296 = Q ∧ Q < 4294967296 := ⟨_, rfl, by omega⟩
  obtain ⟨S, hS, hS1⟩ : ∃ S : Nat, Q * 2147483648 = S ∧ S ≤ L := ⟨_, rfl, by omega⟩
  obtain ⟨R, hR, hR1⟩ : ∃ R : Nat, L - S = R ∧ R < 2147483648 := ⟨_, rfl, by omega⟩
  obtain ⟨F, hF, hF1⟩ : ∃ F : Nat, l % 4294967296 * 2147483648 = F ∧ F < 9223372036854775808 := ⟨_, rfl, by omega⟩
  have e9 : IntKind.u64.wrap (IntKind.u64.wrap (IntKind.u64.wrap ((A : Int) * 4294967296) + (B : Int)) - IntKind.u64.wrap ((h : Int) * Y)) = (L : Int) := by
    have hYv : Y = 9223372036854775808 := by omega
    have h1 := HA.out; have h2 := HB.out; have h3 := HC.out
    refine wrap_chain _ _ _ _ ?_ (by omega) (by omega)
    rw [hYv]; omega
  have e10 : (L : Int) / K = (Q : Int) := by rw [hKv]; omega
  have e11 : (Q : Int) * K = (S : Int) := by rw [hKv]; omega
  have e12 : (L : Int) - (S : Int) = (R : Int) := by omega
  have e13 : IntKind.u64.wrap (IntKind.u64.wrap (IntKind.u64.wrap ((L : Int) * 4294967296) + (D : Int)) - IntKind.u64.wrap ((Q : Int) * Y)) = (F : Int) := by
    have hYv : Y = 9223372036854775808 := by omega
    have h1 := HD.out
    refine wrap_chain _ _ _ _ ?_ (by omega) (by omega)
    rw [hYv]; omega
  have E9 := Lib.hid e9; have E10 := Lib.hid e10; have E11 := Lib.hid e11; have E12 := Lib.hid e12; have E13 := Lib.hid e13
  have HL := Lib.hid hL; have HQ := Lib.hid hQ; have HS := Lib.hid hS; have HR := Lib.hid hR; have HF := Lib.hid hF
  have HP := Lib.hid hP; clear hP hKv e9 e10 e11 e12 e13 hL hQ hS hR hF
  go_enter Tryz.func151, Tryz.ntmps151
  go_wp2_with fail
  refine (leading _ _ y0 y1 hy).mono ?_
  rintro e w' ⟨rfl, rfl⟩
  go_upto_region 15 with (fail)
  simp only [E5.out]
  simp only [E0.out, E1.out, E2.out, E3.out, E4.out]
  go_wp2_with fail
  go_loopg [15, 16] 0 (fun _ q r wr => q = .int .u64 (h : Int) ∧ r = .int .u64 (c : Int) ∧ w = wr)
  case atStart => exact ⟨rfl, rfl, rfl⟩
  case round =>
    obtain ⟨rfl, rfl, rfl⟩ := hrel
    clear e6 e7 e8
    have t1 : decide ((4294967296 : Int) ≤ (h : Int)) = false := by simp; omega
    have e9 := E9.out; have e10 := E10.out; have e11 := E11.out; have e12 := E12.out
    go_wp2_with fail
    all_goals (try (exfalso; omega))
    clear t1 e9 e10 e11 e12
    go_loopg [18, 16] 0 (fun _ q r wr => q = .int .u64 (Q : Int) ∧ r = .int .u64 (R : Int) ∧ w = wr)
    case atStart => exact ⟨rfl, rfl, rfl⟩
    case round =>
      obtain ⟨rfl, rfl, rfl⟩ := hrel
      have t1 : decide ((4294967296 : Int) ≤ (Q : Int)) = false := by simp; omega
      have e13 := E13.out
      go_wp2_with fail
      all_goals (try (exfalso; omega))
      go_ret2
      clear e13 t1
      refine ⟨ret_two ?_ ?_, rfl⟩
      · rw [← HQ.out]; omega
      · have := HF.out; omega

theorem div_any (h l : Nat) (w : World) (h1 : h < 4294967296) (hl : l < 18446744073709551616) : Calls Tryz.prog 151 #[.int .u64 (h : Int), .int .u64 (l : Int), .int .u64 4294967296] w fun e w' => e = .returned (.tuple #[.int .u64 ((h * 4294967296 + l / 4294967296 : Nat) : Int), .int .u64 ((l % 4294967296 : Nat) : Int)]) ∧ Below w.heap.size w w' := by
  by_cases h0 : h = 0
  · subst h0
    refine (div_low l w hl).mono fun e w' ⟨he, hb⟩ => ⟨?_, hb⟩
    rw [he, Nat.zero_mul, Nat.zero_add]
  · refine (div_high h l 4294967296 w (by omega) h1 hl (by omega) (by omega) (Lib.hid rfl)).mono fun e w' ⟨he, hb⟩ => ⟨he, ?_⟩
    rw [← hb]; exact Below.refl _ _
theorem div_at (h l q r : Nat) (w : World) (h1 : h < 4294967296) (hl : l < 18446744073709551616) (hq : Hid (h * 4294967296 + l / 4294967296 = q)) (hr : Hid (l % 4294967296 = r)) : Calls Tryz.prog 151 #[.int .u64 (h : Int), .int .u64 (l : Int), .int .u64 4294967296] w fun e w' => e = .returned (.tuple #[.int .u64 (q : Int), .int .u64 (r : Int)]) ∧ Below w.heap.size w w' := by
  rw [← hq.out, ← hr.out]; exact div_any h l w h1 hl
theorem mul_at (x y h l : Nat) (hx : x < 18446744073709551616) (hy : y < 18446744073709551616) (w : World) (hh : Hid (x * y / 18446744073709551616 = h)) (hl : Hid (x * y % 18446744073709551616 = l)) : Calls Tryz.prog 150 #[.int .u64 x, .int .u64 y] w fun e w' => e = .returned (.tuple #[.int .u64 (h : Int), .int .u64 (l : Int)]) ∧ w = w' := by
  refine (Tryz.bits_Mul64 x y hx hy w).mono fun e w' ⟨he, hw⟩ => ⟨?_, hw.symm⟩
  rw [he, hh.out, hl.out]

end YtbbmgandkmlojaaGreat.Fx
end Go.Proofs
