/-
  What is proved here: the laws FixedMul, FixedShare, FixedAdd, FixedSums and FixedText walked: each returns true, and no block that was there has changed. No condition.
-/
import Derived.Test.YtjdchadjadopbaaFxW2
import Derived.Test.YtjdchadjadopbaaFxR1
import Derived.Test.YtjdchadjadopbaaFxR2
namespace Go.Proofs.Ytjdchadjadopbaa.Fx
open Go.RowKit

theorem add_at (a b V : Int) (w : World) (hV : Hid (addI a b = V)) (h0 : -9223372036854775808 ≤ a) (h1 : a ≤ 9223372036854775807) (h2 : -9223372036854775808 ≤ b) (h3 : b ≤ 9223372036854775807) : Calls Try.prog 14 #[.int .i64 a, .int .i64 b] w fun e w' => e = .returned (.int .i64 V) ∧ w = w' := by
  rw [← hV.out]; exact add_any a b w h0 h1 h2 h3
theorem apart_at (a b V : Int) (w : World) (hV : Hid (apt a b = V)) (h0 : -9223372036854775808 ≤ a) (h1 : a ≤ 9223372036854775807) (h2 : -9223372036854775808 ≤ b) (h3 : b ≤ 9223372036854775807) : Calls Try.prog 16 #[.int .i64 a, .int .i64 b] w fun e w' => e = .returned (.int .i64 V) ∧ w = w' := by
  rw [← hV.out]; exact apart_any a b w h0 h1 h2 h3
theorem radd_at (a b V : Int) (w : World) (hV : Hid (addI a b = V)) (h0 : -9223372036854775808 ≤ a) (h1 : a ≤ 9223372036854775807) (h2 : -9223372036854775808 ≤ b) (h3 : b ≤ 9223372036854775807) : Calls Try.prog 15 #[.int .i64 a, .int .i64 b] w fun e w' => e = .returned (.int .i64 V) ∧ w = w' := by
  rw [← hV.out]; exact radd_any a b w h0 h1 h2 h3
theorem rapart_at (a b V : Int) (w : World) (hV : Hid (apt a b = V)) (h0 : -9223372036854775808 ≤ a) (h1 : a ≤ 9223372036854775807) (h2 : -9223372036854775808 ≤ b) (h3 : b ≤ 9223372036854775807) : Calls Try.prog 17 #[.int .i64 a, .int .i64 b] w fun e w' => e = .returned (.int .i64 V) ∧ w = w' := by
  rw [← hV.out]; exact rapart_any a b w h0 h1 h2 h3
theorem text_at (a : Int) (t : List UInt8) (s : ByteArray) (w : World) (ht : Hid (txt a = t)) (hs : sb t = s) (h1 : a ≤ 9223372036854775807) : Calls Try.prog 18 #[.int .i64 a] w fun r w' => r = .returned (.string s) ∧ Hid (Below w.heap.size w w') := by
  rw [← hs, ← ht.out]; exact (text_any a w h1).mono fun _ _ ⟨h, g⟩ => ⟨h, Lib.hid g⟩
theorem rtext_at (a : Int) (t : List UInt8) (s : ByteArray) (w : World) (ht : Hid (txt a = t)) (hs : sb t = s) (h1 : a ≤ 9223372036854775807) : Calls Try.prog 19 #[.int .i64 a] w fun r w' => r = .returned (.string s) ∧ Hid (Below w.heap.size w w') := by
  rw [← hs, ← ht.out]; exact (rtext_any a w h1).mono fun _ _ ⟨h, g⟩ => ⟨h, Lib.hid g⟩
theorem mul_hid (a b x e : Int) (w : World) (hx : Hid (mulI a b = (x, e))) (h0 : -9223372036854775808 ≤ a) (h1 : a ≤ 9223372036854775807) (h2 : -9223372036854775808 ≤ b) (h3 : b ≤ 9223372036854775807) : Calls Try.prog 9 #[.int .i64 a, .int .i64 b] w fun r w' => r = .returned (.tuple #[.int .i64 x, .int .i64 e]) ∧ Hid (Below w.heap.size w w') :=
  (mul_any a b x e w hx h0 h1 h2 h3).mono fun _ _ ⟨h, g⟩ => ⟨h, Lib.hid g⟩
theorem rmul_hid (a b x e : Int) (w : World) (hx : Hid (mulI a b = (x, e))) (h0 : -9223372036854775808 ≤ a) (h1 : a ≤ 9223372036854775807) (h2 : -9223372036854775808 ≤ b) (h3 : b ≤ 9223372036854775807) : Calls Try.prog 10 #[.int .i64 a, .int .i64 b] w fun r w' => r = .returned (.tuple #[.int .i64 x, .int .i64 e]) ∧ Hid (Below w.heap.size w w') :=
  (rmul_any a b x e w hx h0 h1 h2 h3).mono fun _ _ ⟨h, g⟩ => ⟨h, Lib.hid g⟩

theorem txt_half : txt 6442450944 = [49, 46, 53, 48, 48, 48, 48, 48, 48, 48, 48] := by
  rw [show (6442450944 : Int) = ((6442450944 : Nat) : Int) from rfl, txt_nat]; unfold txtN
  rw [show 6442450944 / 4294967296 = 1 from rfl, show 6442450944 % 4294967296 * 1000000000 / 4294967296 = 500000000 from rfl, pd_small 1 (by omega)]
  rw [show (500000000 : Nat) = 10 * (10 * (10 * (10 * (10 * (10 * (10 * (10 * (10 * 0 + 5) + 0) + 0) + 0) + 0) + 0) + 0) + 0) + 0 from rfl]
  rw [pd_step 8 _ 0 (by omega), pd_step 7 _ 0 (by omega), pd_step 6 _ 0 (by omega), pd_step 5 _ 0 (by omega), pd_step 4 _ 0 (by omega), pd_step 3 _ 0 (by omega), pd_step 2 _ 0 (by omega), pd_step 1 _ 0 (by omega), pd_step 0 _ 5 (by omega), pd_nil]
  rfl

set_option maxRecDepth 100000 in
set_option maxHeartbeats 1000000 in
theorem works_any (w : World) : Calls Try.prog 11 #[] w fun e w' => e = .returned (.bool true) ∧ Hid (Below w.heap.size w w') := by
  go_enter Try.func11, Try.ntmps11
  go_wp2_with fail
  refine (mul_hid 2147483648 3 1 0 _ (Lib.hid (by decide +kernel)) (by omega) (by omega) (by omega) (by omega)).mono ?_
  rintro e w1 ⟨rfl, HB1⟩
  go_wp2_with fail
  refine (mul_hid 4611686018427387904 4294967297 0 50 _ (Lib.hid (by decide +kernel)) (by omega) (by omega) (by omega) (by omega)).mono ?_
  rintro e w2 ⟨rfl, HB2⟩
  have HB2 := Lib.hid (below_trans HB1.out HB2.out)
  go_wp2_with fail
  refine (mul_hid (-1) 1 0 2 _ (Lib.hid (by decide +kernel)) (by omega) (by omega) (by omega) (by omega)).mono ?_
  rintro e w3 ⟨rfl, HB3⟩
  have HB3 := Lib.hid (below_trans HB2.out HB3.out)
  go_wp2_with fail
  refine (share_any 7 2 3 0 _ (Lib.hid (by decide +kernel)) (by omega) (by omega) (by omega) (by omega)).mono ?_
  rintro e w4 ⟨rfl, rfl⟩
  go_wp2_with fail
  refine (add_at 4611686018427387903 5 4611686018427387904 _ (Lib.hid (by decide +kernel)) (by omega) (by omega) (by omega) (by omega)).mono ?_
  rintro e w4 ⟨rfl, rfl⟩
  go_wp2_with fail
  refine (add_at (-3) 4 4 _ (Lib.hid (by decide +kernel)) (by omega) (by omega) (by omega) (by omega)).mono ?_
  rintro e w4 ⟨rfl, rfl⟩
  go_wp2_with fail
  refine (apart_at 2 9 7 _ (Lib.hid (by decide +kernel)) (by omega) (by omega) (by omega) (by omega)).mono ?_
  rintro e w4 ⟨rfl, rfl⟩
  go_wp2_with fail
  refine (text_at 6442450944 _ ⟨#[49, 46, 53, 48, 48, 48, 48, 48, 48, 48, 48]⟩ _ (Lib.hid txt_half) rfl (by omega)).mono ?_
  rintro e w5 ⟨rfl, HB5⟩
  have HB5 := Lib.hid (below_trans HB3.out HB5.out)
  go_wp2
  go_ret
  exact ⟨rfl, HB5⟩

set_option maxRecDepth 100000 in
set_option maxHeartbeats 1000000 in
theorem mul_law (a b : Int) (w : World) (h0 : -9223372036854775808 ≤ a) (h1 : a ≤ 9223372036854775807) (h2 : -9223372036854775808 ≤ b) (h3 : b ≤ 9223372036854775807) : Calls Try.prog 3 #[.int .i64 a, .int .i64 b] w fun e w' => e = .returned (.bool true) ∧ Below w.heap.size w w' := by
  obtain ⟨x, e, hx⟩ : ∃ x e, mulI a b = (x, e) := ⟨_, _, rfl⟩
  have HX := Lib.hid hx
  have HY := Lib.hid (show mulI b a = (x, e) by rw [mulI_comm]; exact hx)
  obtain ⟨z, g, hz⟩ : ∃ z g, mulI a 4294967296 = (z, g) := ⟨_, _, rfl⟩
  by_cases hin : 0 ≤ a ∧ a ≤ 4611686018427387904
  · obtain ⟨i0, i1⟩ := hin
    rw [mulI_one a i0 i1] at hz
    obtain ⟨rfl, rfl⟩ : a = z ∧ 0 = g := by simpa using hz
    have HZ := Lib.hid (mulI_one a i0 i1)
    clear hx hz
    go_enter Try.func3, Try.ntmps3
    go_wp2_with fail
    refine (mul_hid a b x e _ HX h0 h1 h2 h3).mono ?_
    rintro r w1 ⟨rfl, HB1⟩
    go_wp2_with fail
    refine (rmul_hid a b x e _ HX h0 h1 h2 h3).mono ?_
    rintro r w2 ⟨rfl, HB2⟩
    have HB2 := Lib.hid (below_trans HB1.out HB2.out)
    go_wp2_with fail
    refine (mul_hid b a x e _ HY h2 h3 h0 h1).mono ?_
    rintro r w3 ⟨rfl, HB3⟩
    have HB3 := Lib.hid (below_trans HB2.out HB3.out)
    go_wp2_with fail
    refine (mul_hid a 4294967296 a 0 _ HZ h0 h1 (by omega) (by omega)).mono ?_
    rintro r w4 ⟨rfl, HB4⟩
    have HB4 := Lib.hid (below_trans HB3.out HB4.out)
    go_wp2_with fail
    refine (works_any _).mono ?_
    rintro r w5 ⟨rfl, HB5⟩
    have HB5 := Lib.hid (below_trans HB4.out HB5.out)
    go_wp2
    go_ret
    exact ⟨rfl, HB5.out⟩
  · have HZ := Lib.hid hz
    clear hx hz
    rcases (show a < 0 ∨ (0 ≤ a ∧ 4611686018427387904 < a) by omega) with hn | ⟨hn, hn2⟩
    all_goals
      clear hin
      go_enter Try.func3, Try.ntmps3
      go_wp2_with fail
      refine (mul_hid a b x e _ HX h0 h1 h2 h3).mono ?_
      rintro r w1 ⟨rfl, HB1⟩
      go_wp2_with fail
      refine (rmul_hid a b x e _ HX h0 h1 h2 h3).mono ?_
      rintro r w2 ⟨rfl, HB2⟩
      have HB2 := Lib.hid (below_trans HB1.out HB2.out)
      go_wp2_with fail
      refine (mul_hid b a x e _ HY h2 h3 h0 h1).mono ?_
      rintro r w3 ⟨rfl, HB3⟩
      have HB3 := Lib.hid (below_trans HB2.out HB3.out)
      go_wp2_with fail
      refine (mul_hid a 4294967296 z g _ HZ h0 h1 (by omega) (by omega)).mono ?_
      rintro r w4 ⟨rfl, HB4⟩
      have HB4 := Lib.hid (below_trans HB3.out HB4.out)
      go_wp2_with fail
      refine (works_any _).mono ?_
      rintro r w5 ⟨rfl, HB5⟩
      have HB5 := Lib.hid (below_trans HB4.out HB5.out)
      go_wp2
      go_ret
      exact ⟨rfl, HB5.out⟩

set_option maxRecDepth 100000 in
set_option maxHeartbeats 1000000 in
theorem share_law (a n : Int) (w : World) (h0 : -9223372036854775808 ≤ a) (h1 : a ≤ 9223372036854775807) (h2 : -9223372036854775808 ≤ n) (h3 : n ≤ 9223372036854775807) : Calls Try.prog 4 #[.int .i64 a, .int .i64 n] w fun e w' => e = .returned (.bool true) ∧ Below w.heap.size w w' := by
  by_cases hbad : a < 0 ∨ n < 1
  · have HX := Lib.hid (shareI_bad a n hbad)
    clear hbad
    go_enter Try.func4, Try.ntmps4
    go_wp2_with fail
    refine (share_any a n 0 2 _ HX h0 h1 h2 h3).mono ?_
    rintro r w1 ⟨rfl, rfl⟩
    go_wp2_with fail
    refine (rshare_any a n 0 2 _ HX h0 h1 h2 h3).mono ?_
    rintro r w1 ⟨rfl, rfl⟩
    go_wp2_with fail
    refine (works_any _).mono ?_
    rintro r w5 ⟨rfl, HB5⟩
    go_wp2
    go_ret
    exact ⟨rfl, HB5.out⟩
  · have ha : 0 ≤ a := by omega
    have hn : 1 ≤ n := by omega
    clear hbad
    obtain ⟨x, hx⟩ : ∃ x, a / n = x := ⟨_, rfl⟩
    have HX := Lib.hid (show shareI a n = (x, 0) by rw [shareI_ok a n ha hn, hx])
    have hm := share_mul a n hn
    rw [hx] at hm
    obtain ⟨p, hp⟩ : ∃ p, x * n = p := ⟨_, rfl⟩
    rw [hp] at hm
    obtain ⟨hm1, hm2⟩ := hm
    clear hx
    have t1 : decide (p ≤ a) = true := by simpa using hm1
    have t2 : decide (a - n < p) = true := by simpa using hm2
    go_enter Try.func4, Try.ntmps4
    go_wp2_with fail
    refine (share_any a n x 0 _ HX h0 h1 h2 h3).mono ?_
    rintro r w1 ⟨rfl, rfl⟩
    go_wp2_with fail
    refine (rshare_any a n x 0 _ HX h0 h1 h2 h3).mono ?_
    rintro r w1 ⟨rfl, rfl⟩
    go_wp2_with fail
    refine (works_any _).mono ?_
    rintro r w5 ⟨rfl, HB5⟩
    go_wp2
    go_ret
    exact ⟨rfl, HB5.out⟩

set_option maxRecDepth 100000 in
set_option maxHeartbeats 1000000 in
theorem add_law (a b : Int) (w : World) (h0 : -9223372036854775808 ≤ a) (h1 : a ≤ 9223372036854775807) (h2 : -9223372036854775808 ≤ b) (h3 : b ≤ 9223372036854775807) : Calls Try.prog 5 #[.int .i64 a, .int .i64 b] w fun e w' => e = .returned (.bool true) ∧ Below w.heap.size w w' := by
  obtain ⟨x, hx⟩ : ∃ x, addI a b = x := ⟨_, rfl⟩
  obtain ⟨y, hy⟩ : ∃ y, apt a b = y := ⟨_, rfl⟩
  have HX := Lib.hid hx; have HY := Lib.hid hy; clear hx hy
  go_enter Try.func5, Try.ntmps5
  go_wp2_with fail
  refine (add_at a b x _ HX h0 h1 h2 h3).mono ?_
  rintro r w1 ⟨rfl, rfl⟩
  go_wp2_with fail
  refine (radd_at a b x _ HX h0 h1 h2 h3).mono ?_
  rintro r w1 ⟨rfl, rfl⟩
  go_wp2_with fail
  refine (apart_at a b y _ HY h0 h1 h2 h3).mono ?_
  rintro r w1 ⟨rfl, rfl⟩
  go_wp2_with fail
  refine (rapart_at a b y _ HY h0 h1 h2 h3).mono ?_
  rintro r w1 ⟨rfl, rfl⟩
  go_wp2_with fail
  refine (works_any _).mono ?_
  rintro r w5 ⟨rfl, HB5⟩
  go_wp2
  go_ret
  exact ⟨rfl, HB5.out⟩

set_option maxRecDepth 100000 in
set_option maxHeartbeats 1000000 in
theorem sums_law (a b c : Int) (w : World) (h0 : -9223372036854775808 ≤ a) (h1 : a ≤ 9223372036854775807) (h2 : -9223372036854775808 ≤ b) (h3 : b ≤ 9223372036854775807) (h4 : -9223372036854775808 ≤ c) (h5 : c ≤ 9223372036854775807) : Calls Try.prog 6 #[.int .i64 a, .int .i64 b, .int .i64 c] w fun e w' => e = .returned (.bool true) ∧ Below w.heap.size w w' := by
  obtain ⟨x, hx⟩ : ∃ x, addI a b = x := ⟨_, rfl⟩
  obtain ⟨y, hy⟩ : ∃ y, addI b c = y := ⟨_, rfl⟩
  obtain ⟨z, hz⟩ : ∃ z, addI x c = z := ⟨_, rfl⟩
  obtain ⟨u, hu⟩ : ∃ u, apt a b = u := ⟨_, rfl⟩
  have bx := addI_in a b; have byy := addI_in b c
  rw [hx] at bx; rw [hy] at byy
  have hge := addI_ge a b
  rw [hx] at hge
  have HX := Lib.hid hx; have HY := Lib.hid hy; have HZ := Lib.hid hz; have HU := Lib.hid hu
  have HX2 := Lib.hid (show addI b a = x by rw [addI_comm]; exact hx)
  have HZ2 := Lib.hid (show addI a y = z by rw [← hy, ← addI_assoc, hx]; exact hz)
  have HU2 := Lib.hid (show apt b a = u by rw [apt_comm]; exact hu)
  have HS := Lib.hid (apt_self a)
  obtain ⟨bx0, bx1⟩ := bx; obtain ⟨by0, by1⟩ := byy
  clear hx hy hz hu
  rcases hge with hge | ⟨g1, g2⟩
  · subst hge
    go_enter Try.func6, Try.ntmps6
    go_wp2_with fail
    refine (add_at a b 4611686018427387904 _ HX h0 h1 h2 h3).mono ?_
    rintro r w1 ⟨rfl, rfl⟩
    go_wp2_with fail
    refine (add_at b a 4611686018427387904 _ HX2 h2 h3 h0 h1).mono ?_
    rintro r w1 ⟨rfl, rfl⟩
    go_wp2_with fail
    refine (add_at 4611686018427387904 c z _ HZ (by omega) (by omega) h4 h5).mono ?_
    rintro r w1 ⟨rfl, rfl⟩
    go_wp2_with fail
    refine (add_at b c y _ HY h2 h3 h4 h5).mono ?_
    rintro r w1 ⟨rfl, rfl⟩
    go_wp2_with fail
    refine (add_at a y z _ HZ2 h0 h1 (by omega) (by omega)).mono ?_
    rintro r w1 ⟨rfl, rfl⟩
    go_wp2_with fail
    refine (apart_at a b u _ HU h0 h1 h2 h3).mono ?_
    rintro r w1 ⟨rfl, rfl⟩
    go_wp2_with fail
    refine (apart_at b a u _ HU2 h2 h3 h0 h1).mono ?_
    rintro r w1 ⟨rfl, rfl⟩
    go_wp2_with fail
    refine (apart_at a a 0 _ HS h0 h1 h0 h1).mono ?_
    rintro r w1 ⟨rfl, rfl⟩
    go_wp2_with fail
    refine (works_any _).mono ?_
    rintro r w5 ⟨rfl, HB5⟩
    go_wp2
    go_ret
    exact ⟨rfl, HB5.out⟩
  · by_cases htop : x = 4611686018427387904
    · subst htop
      go_enter Try.func6, Try.ntmps6
      go_wp2_with fail
      refine (add_at a b 4611686018427387904 _ HX h0 h1 h2 h3).mono ?_
      rintro r w1 ⟨rfl, rfl⟩
      go_wp2_with fail
      refine (add_at b a 4611686018427387904 _ HX2 h2 h3 h0 h1).mono ?_
      rintro r w1 ⟨rfl, rfl⟩
      go_wp2_with fail
      refine (add_at 4611686018427387904 c z _ HZ (by omega) (by omega) h4 h5).mono ?_
      rintro r w1 ⟨rfl, rfl⟩
      go_wp2_with fail
      refine (add_at b c y _ HY h2 h3 h4 h5).mono ?_
      rintro r w1 ⟨rfl, rfl⟩
      go_wp2_with fail
      refine (add_at a y z _ HZ2 h0 h1 (by omega) (by omega)).mono ?_
      rintro r w1 ⟨rfl, rfl⟩
      go_wp2_with fail
      refine (apart_at a b u _ HU h0 h1 h2 h3).mono ?_
      rintro r w1 ⟨rfl, rfl⟩
      go_wp2_with fail
      refine (apart_at b a u _ HU2 h2 h3 h0 h1).mono ?_
      rintro r w1 ⟨rfl, rfl⟩
      go_wp2_with fail
      refine (apart_at a a 0 _ HS h0 h1 h0 h1).mono ?_
      rintro r w1 ⟨rfl, rfl⟩
      go_wp2_with fail
      refine (works_any _).mono ?_
      rintro r w5 ⟨rfl, HB5⟩
      go_wp2
      go_ret
      exact ⟨rfl, HB5.out⟩
    · have t3 : (x == 4611686018427387904) = false := by simpa using htop
      clear htop
      have t1 : decide (a ≤ x) = true := by simpa using g1
      have t2 : decide (b ≤ x) = true := by simpa using g2
      go_enter Try.func6, Try.ntmps6
      go_wp2_with fail
      refine (add_at a b x _ HX h0 h1 h2 h3).mono ?_
      rintro r w1 ⟨rfl, rfl⟩
      go_wp2_with fail
      refine (add_at b a x _ HX2 h2 h3 h0 h1).mono ?_
      rintro r w1 ⟨rfl, rfl⟩
      go_wp2_with fail
      refine (add_at x c z _ HZ (by omega) (by omega) h4 h5).mono ?_
      rintro r w1 ⟨rfl, rfl⟩
      go_wp2_with fail
      refine (add_at b c y _ HY h2 h3 h4 h5).mono ?_
      rintro r w1 ⟨rfl, rfl⟩
      go_wp2_with fail
      refine (add_at a y z _ HZ2 h0 h1 (by omega) (by omega)).mono ?_
      rintro r w1 ⟨rfl, rfl⟩
      go_wp2_with fail
      refine (apart_at a b u _ HU h0 h1 h2 h3).mono ?_
      rintro r w1 ⟨rfl, rfl⟩
      go_wp2_with fail
      refine (apart_at b a u _ HU2 h2 h3 h0 h1).mono ?_
      rintro r w1 ⟨rfl, rfl⟩
      go_wp2_with fail
      refine (apart_at a a 0 _ HS h0 h1 h0 h1).mono ?_
      rintro r w1 ⟨rfl, rfl⟩
      go_wp2_with fail
      refine (works_any _).mono ?_
      rintro r w5 ⟨rfl, HB5⟩
      go_wp2
      go_ret
      exact ⟨rfl, HB5.out⟩

set_option maxRecDepth 100000 in
set_option maxHeartbeats 1000000 in
theorem text_law (a : Int) (w : World) (_h0 : -9223372036854775808 ≤ a) (h1 : a ≤ 9223372036854775807) : Calls Try.prog 7 #[.int .i64 a] w fun e w' => e = .returned (.bool true) ∧ Below w.heap.size w w' := by
  obtain ⟨s, hs⟩ : ∃ s, sb (txt a) = s := ⟨_, rfl⟩
  have c1 := fun v => text_at a (txt a) s v (Lib.hid rfl) hs h1
  have c2 := fun v => rtext_at a (txt a) s v (Lib.hid rfl) hs h1
  have C1 := Lib.hid c1; have C2 := Lib.hid c2; clear c1 c2 hs
  go_enter Try.func7, Try.ntmps7
  go_wp2_with fail
  refine (C1.out _).mono ?_
  rintro r w1 ⟨rfl, HB1⟩
  go_wp2_with fail
  refine (C2.out _).mono ?_
  rintro r w2 ⟨rfl, HB2⟩
  have HB2 := Lib.hid (below_trans HB1.out HB2.out)
  go_wp2_with fail
  refine (works_any _).mono ?_
  rintro r w5 ⟨rfl, HB5⟩
  have HB5 := Lib.hid (below_trans HB2.out HB5.out)
  go_wp2
  go_ret
  exact ⟨rfl, HB5.out⟩

end Go.Proofs.Ytjdchadjadopbaa.Fx
