/-
  What is proved here: the laws RankGive and RankTake walked: each returns true, and no block that was there has changed. No condition.
-/
import Derived.Test.YtjmbfngpaifheaaRkW2
namespace Go.Proofs.Ytjmbfngpaifheaa.Rk
open Go.RowKit Fx

set_option maxRecDepth 100000 in
set_option maxHeartbeats 1000000 in
theorem works_any (w : World) : Calls Try.prog 11 #[] w fun e w' => e = .returned (.bool true) ∧ Hid (Below w.heap.size w w') := by
  go_enter Try.func11, Try.ntmps11
  go_wp2_with fail
  refine (start_any 1 4294967296 _ (Lib.hid (by decide +kernel)) (by omega) (by omega)).mono ?_
  rintro e w1 ⟨rfl, rfl⟩
  go_wp2_with fail
  refine (start_any 4 1073741824 _ (Lib.hid (by decide +kernel)) (by omega) (by omega)).mono ?_
  rintro e w1 ⟨rfl, rfl⟩
  go_wp2_with fail
  refine (start_any 0 0 _ (Lib.hid (by decide +kernel)) (by omega) (by omega)).mono ?_
  rintro e w1 ⟨rfl, rfl⟩
  go_wp2_with fail
  refine (give_any 7 2 3 _ (Lib.hid (by decide +kernel)) (by omega) (by omega) (by omega) (by omega)).mono ?_
  rintro e w1 ⟨rfl, rfl⟩
  go_wp2_with fail
  refine (give_any 7 0 0 _ (Lib.hid (by decide +kernel)) (by omega) (by omega) (by omega) (by omega)).mono ?_
  rintro e w1 ⟨rfl, rfl⟩
  go_wp2_with fail
  refine (take_any 2 4294967296 5 4 7 _ (Lib.hid (by decide +kernel)) (by omega) (by omega) (by omega) (by omega) (by omega) (by omega) (by omega) (by omega)).mono ?_
  rintro e w2 ⟨rfl, HB2⟩
  go_wp2_with fail
  refine (take_any 2 0 5 4 2147483648 _ (Lib.hid (by decide +kernel)) (by omega) (by omega) (by omega) (by omega) (by omega) (by omega) (by omega) (by omega)).mono ?_
  rintro e w3 ⟨rfl, HB3⟩
  have HB3 := Lib.hid (below_trans HB2.out HB3.out)
  go_wp2
  go_ret
  exact ⟨rfl, HB3⟩

set_option maxRecDepth 100000 in
set_option maxHeartbeats 1000000 in
theorem give_law (v n : Int) (w : World) (h0 : -9223372036854775808 ≤ v) (h1 : v ≤ 9223372036854775807) (h2 : -9223372036854775808 ≤ n) (h3 : n ≤ 9223372036854775807) :
    Calls Try.prog 3 #[.int .i64 v, .int .i64 n] w fun e w' => e = .returned (.bool true) ∧ Below w.heap.size w w' := by
  obtain ⟨x, hx⟩ : ∃ x, giveI v n = x := ⟨_, rfl⟩
  obtain ⟨y, hy⟩ : ∃ y, giveI 4294967296 n = y := ⟨_, rfl⟩
  have HX := Lib.hid hx; have HY := Lib.hid hy
  by_cases hn : n < 1
  · clear hx hy
    go_enter Try.func3, Try.ntmps3
    go_wp2_with fail
    refine (give_any v n x _ HX h0 h1 h2 h3).mono ?_
    rintro r w1 ⟨rfl, rfl⟩
    go_wp2_with fail
    refine (start_any n y _ HY h2 h3).mono ?_
    rintro r w1 ⟨rfl, rfl⟩
    go_wp2_with fail
    refine (rgive_any v n x _ HX h0 h1 h2 h3).mono ?_
    rintro r w1 ⟨rfl, rfl⟩
    go_wp2_with fail
    refine (rstart_any n y _ HY h2 h3).mono ?_
    rintro r w1 ⟨rfl, rfl⟩
    go_wp2_with fail
    refine (works_any _).mono ?_
    rintro r w5 ⟨rfl, HB5⟩
    go_wp2
    go_ret
    exact ⟨rfl, HB5.out⟩
  · have n1 : 1 ≤ n := by omega
    clear hn
    obtain ⟨m0, m1⟩ := giveI_mul v n n1
    obtain ⟨s0, s1⟩ := giveI_mul 4294967296 n n1
    rw [hx] at m0 m1
    rw [hy] at s0 s1
    obtain ⟨p, hp⟩ : ∃ p, x * n = p := ⟨_, rfl⟩
    obtain ⟨q, hq⟩ : ∃ q, y * n = q := ⟨_, rfl⟩
    have m2 : p ≤ max v 0 := by rw [← hp]; exact m1
    have s2 : q ≤ 4294967296 := by rw [← hq]; omega
    rw [hp] at m0
    rw [hq] at s0
    have t2 : decide (q ≤ 4294967296) = true := by simp; omega
    have p1 : p ≤ 9223372036854775807 := by omega
    have t3 : IntKind.i64.wrap (x * n) = p := by rw [hp]; exact IntWalk.i64_in _ (by omega)
    have t4 : IntKind.i64.wrap (y * n) = q := by rw [hq]; exact IntWalk.i64_in _ (by omega)
    clear m1 s1 hx hy hp hq
    rcases (show v < 0 ∧ p ≤ 0 ∨ 0 ≤ v ∧ p ≤ v by omega) with ⟨v0, t1⟩ | ⟨v0, t1⟩
    · have t1 : decide (p ≤ 0) = true := by simpa using t1
      clear m2
      go_enter Try.func3, Try.ntmps3
      go_wp2_with fail
      refine (give_any v n x _ HX h0 h1 h2 h3).mono ?_
      rintro r w1 ⟨rfl, rfl⟩
      go_wp2_with fail
      refine (start_any n y _ HY h2 h3).mono ?_
      rintro r w1 ⟨rfl, rfl⟩
      go_wp2_with fail
      refine (rgive_any v n x _ HX h0 h1 h2 h3).mono ?_
      rintro r w1 ⟨rfl, rfl⟩
      go_wp2_with fail
      refine (rstart_any n y _ HY h2 h3).mono ?_
      rintro r w1 ⟨rfl, rfl⟩
      go_wp2_with fail
      refine (works_any _).mono ?_
      rintro r w5 ⟨rfl, HB5⟩
      go_wp2
      go_ret
      exact ⟨rfl, HB5.out⟩
    · have t1 : decide (p ≤ v) = true := by simpa using t1
      clear m2
      go_enter Try.func3, Try.ntmps3
      go_wp2_with fail
      refine (give_any v n x _ HX h0 h1 h2 h3).mono ?_
      rintro r w1 ⟨rfl, rfl⟩
      go_wp2_with fail
      refine (start_any n y _ HY h2 h3).mono ?_
      rintro r w1 ⟨rfl, rfl⟩
      go_wp2_with fail
      refine (rgive_any v n x _ HX h0 h1 h2 h3).mono ?_
      rintro r w1 ⟨rfl, rfl⟩
      go_wp2_with fail
      refine (rstart_any n y _ HY h2 h3).mono ?_
      rintro r w1 ⟨rfl, rfl⟩
      go_wp2_with fail
      refine (works_any _).mono ?_
      rintro r w5 ⟨rfl, HB5⟩
      go_wp2
      go_ret
      exact ⟨rfl, HB5.out⟩

set_option maxRecDepth 100000 in
set_option maxHeartbeats 1000000 in
theorem take_law (n d m s : Int) (w : World) (h0 : -9223372036854775808 ≤ n) (h1 : n ≤ 9223372036854775807) (h2 : -9223372036854775808 ≤ d) (h3 : d ≤ 9223372036854775807) (h4 : -9223372036854775808 ≤ m) (h5 : m ≤ 9223372036854775807) (h6 : -9223372036854775808 ≤ s) (h7 : s ≤ 9223372036854775807) :
    Calls Try.prog 4 #[.int .i64 n, .int .i64 d, .int .i64 m, .int .i64 s] w fun e w' => e = .returned (.bool true) ∧ Below w.heap.size w w' := by
  obtain ⟨x, hx⟩ : ∃ x, takeI n d m s = x := ⟨_, rfl⟩
  have HX := Lib.hid hx; clear hx
  go_enter Try.func4, Try.ntmps4
  go_wp2_with fail
  refine (take_any n d m s x _ HX h0 h1 h2 h3 h4 h5 h6 h7).mono ?_
  rintro r w1 ⟨rfl, HB1⟩
  go_wp2_with fail
  refine (rtake_any n d m s x _ HX h0 h1 h2 h3 h4 h5 h6 h7).mono ?_
  rintro r w2 ⟨rfl, HB2⟩
  have HB2 := Lib.hid (below_trans HB1.out HB2.out)
  go_wp2_with fail
  refine (works_any _).mono ?_
  rintro r w5 ⟨rfl, HB5⟩
  have HB5 := Lib.hid (below_trans HB2.out HB5.out)
  go_wp2
  go_ret
  exact ⟨rfl, HB5.out⟩

end Go.Proofs.Ytjmbfngpaifheaa.Rk
