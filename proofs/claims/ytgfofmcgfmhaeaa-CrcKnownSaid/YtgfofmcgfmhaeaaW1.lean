/-
  What is proved here: contracts of the program's functions crc.raise, crc.Times, crc.Power, crc.Join: for all words and counts each returns what the plain facts of the Math text say, and leaves the world as it was.
-/
import Derived.Test.YtgfofmcgfmhaeaaRows
import Derived.Test.YtgfofmcgfmhaeaaMath
import Derived.WalkKit
import Derived.WalkSpells
import Derived.Deep.LoopGhost
import Derived.Lib.Hide
namespace Go.Proofs.Ytgfofmcgfmhaeaa
open Go.RowKit

def iv (x : BitVec 32) : Int := (x.toNat : Int)
theorem ret_int {k : IntKind} {a b : Int} (h : a = b) : Ending.returned (.int k a) = .returned (.int k b) := by rw [h]
theorem iv_ge (x : BitVec 32) : 0 ≤ iv x := Int.natCast_nonneg _
theorem iv_lt (x : BitVec 32) : iv x < 4294967296 := by unfold iv; have := x.isLt; omega
theorem iv_inj {x y : BitVec 32} (h : iv x = iv y) : x = y := BitVec.eq_of_toNat_eq (by unfold iv at h; omega)
theorem iv_xor (x y : BitVec 32) : bits .xor .u32 (iv x) (iv y) = iv (x ^^^ y) := by
  unfold iv; rw [u32_xor_nat _ _ x.isLt y.isLt, BitVec.toNat_xor]
theorem iv_and (x y : BitVec 32) : bits .and .u32 (iv x) (iv y) = iv (x &&& y) := by
  unfold iv; rw [u32_and_nat _ _ x.isLt y.isLt, BitVec.toNat_and]
theorem iv_shr1 (x : BitVec 32) : iv x / (2 : Int) = iv (x >>> (1 : Nat)) := by
  unfold iv; rw [BitVec.toNat_ushiftRight, Nat.shiftRight_eq_div_pow]; omega
theorem iv_shr4 (x : BitVec 32) : iv x / (16 : Int) = iv (x >>> (4 : Nat)) := by
  unfold iv; rw [BitVec.toNat_ushiftRight, Nat.shiftRight_eq_div_pow]; omega
theorem iv_shl1 (x : BitVec 32) : iv x * (2 : Int) % (4294967296 : Int) = iv (x <<< (1 : Nat)) := by
  unfold iv; rw [BitVec.toNat_shiftLeft, Nat.shiftLeft_eq]; omega
theorem iv_of (n : Nat) (h : n < 4294967296) : (n : Int) = iv (BitVec.ofNat 32 n) := by
  unfold iv; rw [BitVec.toNat_ofNat, Nat.mod_eq_of_lt h]
theorem lit_rest : (2197175160 : Int) = iv Crc.rest := by decide
theorem lit_one : (2147483648 : Int) = iv Crc.one := by decide
theorem lit_1 : (1 : Int) = iv 1#32 := by decide
theorem lit_0 : (0 : Int) = iv 0#32 := by decide
theorem lit_15 : (15 : Int) = iv 15#32 := by decide
theorem lit_full : (4294967295 : Int) = iv Crc.full := by decide
theorem low_bit (x : BitVec 32) : (bits .and .u32 (iv x) 1 == 0) = !x.getLsbD 0 := by
  rw [lit_1, iv_and, lit_0]
  have h : ∀ b : Bool, (iv (if b then 1#32 else 0#32) == iv 0#32) = !b := by decide
  have e : x &&& 1#32 = if x.getLsbD 0 then 1#32 else 0#32 := by
    apply BitVec.eq_of_getLsbD_eq; intro i hi
    by_cases hz : i = 0
    · subst hz; rw [BitVec.getLsbD_and]; cases hx : x.getLsbD 0 <;> rfl
    · have : (1#32).getLsbD i = false := by simp [BitVec.getLsbD_one]; omega
      cases x.getLsbD 0 <;> simp [hz]
  rw [e, h]
theorem high_bit (x : BitVec 32) : (bits .and .u32 (iv x) 2147483648 != 0) = x.msb := by
  rw [lit_one, iv_and, lit_0]
  have h : ∀ b : Bool, (iv (if b then Crc.one else 0#32) != iv 0#32) = b := by decide
  have e : x &&& Crc.one = if x.msb then Crc.one else 0#32 := by
    have h1 : Crc.one = BitVec.twoPow 32 31 := by decide
    rw [h1, BitVec.and_twoPow, BitVec.msb_eq_getLsbD_last]
  rw [e, h]
theorem zero_test (x : BitVec 32) : (iv x != 0) = decide (x ≠ 0#32) := by
  rw [lit_0]
  by_cases h : x = 0#32
  · subst h; decide
  · have : iv x ≠ iv 0#32 := fun e => h (iv_inj e)
    simp [h, this]

set_option maxHeartbeats 400000 in
theorem raise_any (x : BitVec 32) (w : World) :
    Calls Try.prog 21 #[.int .u32 (iv x)] w fun e w' => e = .returned (.int .u32 (iv (Crc.raise x))) ∧ w = w' := by
  have hl := low_bit x
  cases hb : x.getLsbD 0
  · rw [hb] at hl
    have H := Lib.hid hb; clear hb
    go_enter Try.func21, Try.ntmps21
    go_wp2
    go_ret
    exact ⟨ret_int (by rw [iv_shr1]; unfold Crc.raise; rw [H.out]; simp), rfl⟩
  · rw [hb] at hl
    have H := Lib.hid hb; clear hb
    go_enter Try.func21, Try.ntmps21
    go_wp2
    go_ret
    exact ⟨ret_int (by rw [iv_shr1, lit_rest, iv_xor]; unfold Crc.raise; rw [H.out]; simp), rfl⟩

theorem tm_step (n : Nat) (a b p q : BitVec 32) (h : p ^^^ Crc.tm n a b = q) (hz : a.toNat % 2 ^ (32 - n) = 0) (hn : n ≤ 32) (ha : a ≠ 0#32) :
    0 < n ∧ ((p ^^^ if a.msb then b else 0#32) ^^^ Crc.tm (n - 1) (a <<< 1) (Crc.raise b) = q) ∧ (a <<< 1).toNat % 2 ^ (32 - (n - 1)) = 0 := by
  have h0 : 0 < n := by
    rcases Nat.eq_zero_or_pos n with e | e
    · subst e
      have := a.isLt
      rw [Nat.mod_eq_of_lt (by simpa using this)] at hz
      exact absurd (BitVec.eq_of_toNat_eq (by simpa using hz)) ha
    · exact e
  obtain ⟨m, rfl⟩ : ∃ m, n = m + 1 := ⟨n - 1, by omega⟩
  refine ⟨h0, ?_, ?_⟩
  · rw [← h]; simp only [Crc.tm, Nat.add_sub_cancel]; ac_rfl
  · rw [BitVec.toNat_shiftLeft, Nat.shiftLeft_eq]
    have e : 32 - (m + 1 - 1) = (32 - (m + 1)) + 1 := by omega
    rw [e]
    have d : 2 ^ (32 - (m + 1) + 1) ∣ 2 ^ 32 := Nat.pow_dvd_pow 2 (by omega)
    rw [Nat.mod_mod_of_dvd _ d]
    have e1 : (2 : Nat) ^ 1 = 2 := rfl
    rw [e1, Nat.pow_succ, Nat.mul_mod_mul_right, hz, Nat.zero_mul]

def TimesRel (q : BitVec 32) (w : World) (k : Nat) (x y p : Value) (wr : World) : Prop :=
  ∃ a b c : BitVec 32, x = .int .u32 (iv a) ∧ y = .int .u32 (iv b) ∧ p = .int .u32 (iv c) ∧ wr = w ∧ k ≤ 32 ∧ a.toNat % 2 ^ (32 - k) = 0 ∧ c ^^^ Crc.tm k a b = q

set_option maxHeartbeats 400000 in
theorem times_any (a b : BitVec 32) (w : World) :
    Calls Try.prog 15 #[.int .u32 (iv a), .int .u32 (iv b)] w fun e w' => e = .returned (.int .u32 (iv (Crc.T a b))) ∧ w = w' := by
  go_enter Try.func15, Try.ntmps15
  go_wp2
  go_loopg [0, 1, 5] 32 (fun k x y p wr => TimesRel (Crc.T a b) w k x y p wr)
  case atStart => exact ⟨a, b, 0#32, rfl, rfl, rfl, rfl, Nat.le_refl _, Nat.mod_one _, BitVec.zero_xor⟩
  case round =>
    obtain ⟨a', b', p', rfl, rfl, rfl, rfl, hk, hz, hq⟩ := hrel
    have HQ := Lib.hid hq; clear hq
    have ht := zero_test a'
    by_cases ha : a' = 0#32
    · rw [decide_eq_false (by simpa using ha)] at ht
      have HA := Lib.hid ha; clear ha
      have HZ := Lib.hid hz; clear hz
      go_wp2
      go_ret
      exact ⟨ret_int (by have h := HQ.out; rw [HA.out, Crc.tm_zero_left, BitVec.xor_zero] at h; rw [h]), rfl⟩
    · rw [decide_eq_true ha] at ht
      have hs := Lib.hid (tm_step gk a' b' p' _ HQ.out hz hk ha)
      clear hz HQ
      have HA := Lib.hid ha; clear ha
      have hh := high_bit a'
      cases hm : a'.msb
      · rw [hm] at hh
        have HM := Lib.hid hm; clear hm
        go_wp2_with (go_at_call 21; refine (raise_any _ _).mono ?_; rintro e w' ⟨rfl, rfl⟩)
        go_roundg (gk - 1)
        case measure => have := hs.out.1; omega
        case rel => exact ⟨a' <<< 1, Crc.raise b', p', by rw [iv_shl1], rfl, rfl, rfl, by omega, hs.out.2.2, by have := hs.out.2.1; rw [HM.out] at this; simpa using this⟩
      · rw [hm] at hh
        have HM := Lib.hid hm; clear hm
        go_wp2_with (go_at_call 21; refine (raise_any _ _).mono ?_; rintro e w' ⟨rfl, rfl⟩)
        go_roundg (gk - 1)
        case measure => have := hs.out.1; omega
        case rel => exact ⟨a' <<< 1, Crc.raise b', p' ^^^ b', by rw [iv_shl1], rfl, by rw [iv_xor], rfl, by omega, hs.out.2.2, by have := hs.out.2.1; rw [HM.out] at this; simpa using this⟩

theorem odd_bit (m : Nat) (h : m ≤ 9223372036854775807) : (bits .and .i64 (m : Int) 1 == 1) = decide (m % 2 = 1) := by
  have h1 : (BitVec.ofInt 64 1).toNat = 2 ^ 1 - 1 := by decide
  have key : (BitVec.ofInt 64 (m : Int) &&& BitVec.ofInt 64 1).toNat = ((m : Int) % ((2 ^ 64 : Nat) : Int)).toNat % 2 ^ 1 := by
    rw [BitVec.toNat_and, BitVec.toNat_ofInt, h1, Nat.and_two_pow_sub_one_eq_mod]
  have e : bits .and .i64 (m : Int) 1 = ((m % 2 : Nat) : Int) := by
    show IntKind.i64.wrap ((BitVec.ofInt 64 (m : Int) &&& BitVec.ofInt 64 1).toNat : Nat) = _
    rw [key, IntKind.wrap_i64]
    omega
  rw [e]
  rcases Nat.mod_two_eq_zero_or_one m with h | h <;> rw [h] <;> decide
theorem pw_two (e s : Nat) : Crc.T (Crc.pw (8 * e)) (Crc.pw (8 * s)) = Crc.pw (8 * (e + s)) := by rw [Crc.pw_add, Nat.mul_add]
theorem pow_odd (n m e s : Nat) (h : e + s * m = n) (ho : m % 2 = 1) : (e + s) + (s + s) * (m / 2) = n := by
  obtain ⟨k, rfl⟩ : ∃ k, m = 2 * k + 1 := ⟨m / 2, by omega⟩
  have : (2 * k + 1) / 2 = k := by omega
  rw [this, ← h, Nat.mul_add, Nat.add_mul, ← Nat.mul_assoc, Nat.mul_comm s 2, Nat.mul_assoc]; omega
theorem pow_even (n m e s : Nat) (h : e + s * m = n) (ho : ¬ m % 2 = 1) : e + (s + s) * (m / 2) = n := by
  obtain ⟨k, rfl⟩ : ∃ k, m = 2 * k := ⟨m / 2, by omega⟩
  have : (2 * k) / 2 = k := by omega
  rw [this, ← h, Nat.add_mul, ← Nat.mul_assoc, Nat.mul_comm s 2, Nat.mul_assoc]; omega

theorem lit_pw0 : (2147483648 : Int) = iv (Crc.pw (8 * 0)) := by decide
theorem lit_pw1 : (8388608 : Int) = iv (Crc.pw (8 * 1)) := by decide

def PowRel (n : Nat) (w : World) (a' : Act) (w' : World) : Prop :=
  w' = w ∧ ∃ (m e s : Nat) (u5 u6 u7 u8 u9 u10 u11 u12 u13 u14 u15 u16 u17 u18 : Value), a' = { tmps := #[.int .i64 m, undef, .int .u32 0, .int .u32 (iv (Crc.pw (8 * e))), .int .u32 (iv (Crc.pw (8 * s))), u5, u6, u7, u8, u9, u10, u11, u12, u13, u14, u15, u16, u17, u18], defers := [] } ∧ e + s * m = n ∧ m ≤ 9223372036854775807

set_option maxHeartbeats 400000 in
theorem power_pos (n : Nat) (w : World) (h1 : 0 < n) (h2 : n ≤ 9223372036854775807) :
    Calls Try.prog 13 #[.int .i64 n] w fun e w' => e = .returned (.int .u32 (iv (Crc.pw (8 * n)))) ∧ w = w' := by
  go_enter Try.func13, Try.ntmps13
  go_wp2
  refine wp_scope_jumps 0 (PowRel n w) (fun a' _ => (intOf (a'.tmps.getD 0 undef)).toNat) rfl ?_ ?_
  · go_wp2
    go_step3
    rw [lit_pw0, lit_pw1]
    have hb := odd_bit n h2
    by_cases ho : n % 2 = 1
    · rw [decide_eq_true ho] at hb
      have HO := Lib.hid ho; clear ho
      go_wp2_with (go_at_call 15; refine (times_any _ _ _).mono ?_; rintro e w' ⟨rfl, rfl⟩)
      go_step3
      exact ⟨rfl, rfl, n / 2, 0 + 1, 1 + 1, _, _, _, _, _, _, _, _, _, _, _, _, _, _, by rw [pw_two 0 1, pw_two 1 1]; rfl, pow_odd n n 0 1 (by omega) HO.out, by omega⟩
    · rw [decide_eq_false ho] at hb
      have HO := Lib.hid ho; clear ho
      go_wp2_with (go_at_call 15; refine (times_any _ _ _).mono ?_; rintro e w' ⟨rfl, rfl⟩)
      go_step3
      exact ⟨rfl, rfl, n / 2, 0, 1 + 1, _, _, _, _, _, _, _, _, _, _, _, _, _, _, by rw [pw_two 1 1]; rfl, pow_even n n 0 1 (by omega) HO.out, by omega⟩
  · rintro a' w' ⟨rfl, m, e, s, u5, u6, u7, u8, u9, u10, u11, u12, u13, u14, u15, u16, u17, u18, rfl, hs, hm⟩
    have HS := Lib.hid hs; clear hs
    by_cases hz : m = 0
    · subst hz
      go_wp2
      simp only [Exit.jump]
      go_ret
      exact ⟨ret_int (by have := HS.out; rw [← this]; rfl), rfl⟩
    · have hb := odd_bit m hm
      by_cases ho : m % 2 = 1
      · rw [decide_eq_true ho] at hb
        have HO := Lib.hid ho; clear ho
        go_wp2_with (go_at_call 15; refine (times_any _ _ _).mono ?_; rintro e w' ⟨rfl, rfl⟩)
        go_step3
        refine ⟨rfl, ⟨rfl, m / 2, e + s, s + s, _, _, _, _, _, _, _, _, _, _, _, _, _, _, by rw [pw_two, pw_two]; rfl, pow_odd n m e s HS.out HO.out, by omega⟩, ?_⟩
        simp [intOf]; omega
      · rw [decide_eq_false ho] at hb
        have HO := Lib.hid ho; clear ho
        go_wp2_with (go_at_call 15; refine (times_any _ _ _).mono ?_; rintro e w' ⟨rfl, rfl⟩)
        go_step3
        refine ⟨rfl, ⟨rfl, m / 2, e, s + s, _, _, _, _, _, _, _, _, _, _, _, _, _, _, by rw [pw_two]; rfl, pow_even n m e s HS.out HO.out, by omega⟩, ?_⟩
        simp [intOf]; omega

set_option maxHeartbeats 400000 in
theorem power_neg (n : Int) (w : World) (h1 : n ≤ 0) :
    Calls Try.prog 13 #[.int .i64 n] w fun e w' => e = .returned (.int .u32 (iv (Crc.pw (8 * 0)))) ∧ w = w' := by
  go_enter Try.func13, Try.ntmps13
  go_wp2
  refine wp_scope_jumps 0 (fun _ _ => False) (fun a' _ => 0) rfl ?_ (fun _ _ h => h.elim)
  go_wp2
  go_step3
  go_wp2
  simp only [Exit.jump]
  go_ret
  exact ⟨ret_int lit_pw0, rfl⟩

theorem power_any (n : Int) (w : World) (h2 : n ≤ 9223372036854775807) :
    Calls Try.prog 13 #[.int .i64 n] w fun e w' => e = .returned (.int .u32 (iv (Crc.pw (8 * n.toNat)))) ∧ w = w' := by
  by_cases h : n ≤ 0
  · have e : n.toNat = 0 := by omega
    rw [e]; exact power_neg n w h
  · obtain ⟨m, rfl⟩ : ∃ m : Nat, n = m := ⟨n.toNat, by omega⟩
    exact power_pos m w (by omega) (by omega)

set_option maxHeartbeats 400000 in
theorem join_any (a b : BitVec 32) (n : Nat) (w : World) (h2 : n ≤ 9223372036854775807) :
    Calls Try.prog 17 #[.int .u32 (iv a), .int .u32 (iv b), .int .i64 n] w fun e w' => e = .returned (.int .u32 (iv (Crc.joinB a b n))) ∧ w = w' := by
  go_enter Try.func17, Try.ntmps17
  go_wp2_with (first | (go_at_call 13; refine (power_any _ _ (by omega)).mono ?_; rintro e w' ⟨rfl, rfl⟩) | (go_at_call 15; refine (times_any _ _ _).mono ?_; rintro e w' ⟨rfl, rfl⟩))
  go_ret
  exact ⟨ret_int (by rw [iv_xor]; rfl), rfl⟩

end Go.Proofs.Ytgfofmcgfmhaeaa
