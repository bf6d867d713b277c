/-
  What is proved here: contracts of package rank's answered, Start and Give, and of the document's own Start and Give. No condition.
-/
import Derived.Test.YtbbmgandkmlojaaGreatRkMath
import Derived.Test.YtbbmgandkmlojaaGreatFxW1
namespace Go.Proofs.YtbbmgandkmlojaaGreat.Rk
open Go.RowKit Fx

set_option maxRecDepth 100000 in
theorem answered_ok (x : Int) (w : World) : Calls Tryz.prog 147 #[.int .i64 x, .int .i64 0] w fun r w' => r = .returned (.tuple #[.int .i64 x, .bool true]) ∧ w = w' := by
  go_enter Tryz.func147, Tryz.ntmps147
  go_wp2
  go_ret2
  exact ⟨rfl, rfl⟩
set_option maxRecDepth 100000 in
theorem answered_no (x : Int) (w : World) : Calls Tryz.prog 147 #[.int .i64 x, .int .i64 2] w fun r w' => r = .returned (.tuple #[.int .i64 0, .bool false]) ∧ w = w' := by
  go_enter Tryz.func147, Tryz.ntmps147
  go_wp2
  go_ret2
  exact ⟨rfl, rfl⟩

set_option maxRecDepth 100000 in
theorem give_any (v n g : Int) (w : World) (hg : Hid (giveI v n = g)) (h0 : -9223372036854775808 ≤ v) (h1 : v ≤ 9223372036854775807) (h2 : -9223372036854775808 ≤ n) (h3 : n ≤ 9223372036854775807) :
    Calls Tryz.prog 145 #[.int .i64 v, .int .i64 n] w fun r w' => r = .returned (.int .i64 g) ∧ w = w' := by
  by_cases hbad : v < 0 ∨ n < 1
  · have HS := Lib.hid (shareI_bad v n hbad)
    have hg0 := giveI_bad hbad
    rw [hg.out] at hg0
    subst hg0
    clear hbad
    go_enter Tryz.func145, Tryz.ntmps145
    go_wp2_with fail
    refine (share_any v n 0 2 _ HS h0 h1 h2 h3).mono ?_
    rintro r w1 ⟨rfl, rfl⟩
    go_wp2_with fail
    refine (answered_no 0 _).mono ?_
    rintro r w1 ⟨rfl, rfl⟩
    go_wp2
    go_ret
    exact ⟨rfl, rfl⟩
  · have HS := Lib.hid (shareI_ok v n (by omega) (by omega))
    have hg0 := giveI_ok (v := v) (n := n) (by omega) (by omega)
    rw [hg.out] at hg0
    rw [← hg0] at HS
    clear hbad hg0
    go_enter Tryz.func145, Tryz.ntmps145
    go_wp2_with fail
    refine (share_any v n g 0 _ HS h0 h1 h2 h3).mono ?_
    rintro r w1 ⟨rfl, rfl⟩
    go_wp2_with fail
    refine (answered_ok g _).mono ?_
    rintro r w1 ⟨rfl, rfl⟩
    go_wp2
    go_ret
    exact ⟨rfl, rfl⟩

set_option maxRecDepth 100000 in
theorem start_any (n g : Int) (w : World) (hg : Hid (giveI 4294967296 n = g)) (h2 : -9223372036854775808 ≤ n) (h3 : n ≤ 9223372036854775807) :
    Calls Tryz.prog 146 #[.int .i64 n] w fun r w' => r = .returned (.int .i64 g) ∧ w = w' := by
  by_cases hbad : n < 1
  · have HS := Lib.hid (shareI_bad 4294967296 n (Or.inr hbad))
    have hg0 := giveI_bad (v := 4294967296) (Or.inr hbad)
    rw [hg.out] at hg0
    subst hg0
    clear hbad
    go_enter Tryz.func146, Tryz.ntmps146
    go_wp2_with fail
    refine (share_any 4294967296 n 0 2 _ HS (by omega) (by omega) h2 h3).mono ?_
    rintro r w1 ⟨rfl, rfl⟩
    go_wp2_with fail
    refine (answered_no 0 _).mono ?_
    rintro r w1 ⟨rfl, rfl⟩
    go_wp2
    go_ret
    exact ⟨rfl, rfl⟩
  · have HS := Lib.hid (shareI_ok 4294967296 n (by omega) (by omega))
    have hg0 := giveI_ok (v := 4294967296) (n := n) (by omega) (by omega)
    rw [hg.out] at hg0
    rw [← hg0] at HS
    clear hbad hg0
    go_enter Tryz.func146, Tryz.ntmps146
    go_wp2_with fail
    refine (share_any 4294967296 n g 0 _ HS (by omega) (by omega) h2 h3).mono ?_
    rintro r w1 ⟨rfl, rfl⟩
    go_wp2_with fail
    refine (answered_ok g _).mono ?_
    rintro r w1 ⟨rfl, rfl⟩
    go_wp2
    go_ret
    exact ⟨rfl, rfl⟩

set_option maxRecDepth 100000 in
theorem rgive_any (v n g : Int) (w : World) (hg : Hid (giveI v n = g)) (_h0 : -9223372036854775808 ≤ v) (h1 : v ≤ 9223372036854775807) (_h2 : -9223372036854775808 ≤ n) (_h3 : n ≤ 9223372036854775807) :
    Calls Tryz.prog 86 #[.int .i64 v, .int .i64 n] w fun r w' => r = .returned (.int .i64 g) ∧ w = w' := by
  by_cases hbad : v < 0 ∨ n < 1
  · have hg0 := giveI_bad hbad
    rw [hg.out] at hg0
    subst hg0
    rcases (show n < 1 ∨ (1 ≤ n ∧ v < 0) by omega) with hn | ⟨hn, hv⟩
    all_goals
      clear hbad hg
      go_enter Tryz.func86, Tryz.ntmps86
      go_wp2
      go_ret
      exact ⟨rfl, rfl⟩
  · have hv : 0 ≤ v := by omega
    have hn : 1 ≤ n := by omega
    have hg0 := giveI_ok hv hn
    rw [hg.out] at hg0
    have hr := share_le v n hv hn
    rw [← hg0] at hr
    obtain ⟨r0, r1⟩ := hr
    have HE := Lib.hid hg0
    clear hbad hg hg0
    go_enter Tryz.func86, Tryz.ntmps86
    go_wp2
    all_goals (try (exfalso; omega))
    go_ret
    exact ⟨ret_int HE.out.symm, rfl⟩

set_option maxRecDepth 100000 in
theorem rstart_any (n g : Int) (w : World) (hg : Hid (giveI 4294967296 n = g)) (_h2 : -9223372036854775808 ≤ n) (_h3 : n ≤ 9223372036854775807) :
    Calls Tryz.prog 58 #[.int .i64 n] w fun r w' => r = .returned (.int .i64 g) ∧ w = w' := by
  by_cases hbad : n < 1
  · have hg0 := giveI_bad (v := 4294967296) (Or.inr hbad)
    rw [hg.out] at hg0
    subst hg0
    clear hg
    go_enter Tryz.func58, Tryz.ntmps58
    go_wp2
    go_ret
    exact ⟨rfl, rfl⟩
  · have hn : 1 ≤ n := by omega
    have hg0 := giveI_ok (v := 4294967296) (by omega) hn
    rw [hg.out] at hg0
    have hr := share_le 4294967296 n (by omega) hn
    rw [← hg0] at hr
    obtain ⟨r0, r1⟩ := hr
    have HE := Lib.hid hg0
    clear hbad hg hg0
    go_enter Tryz.func58, Tryz.ntmps58
    go_wp2
    all_goals (try (exfalso; omega))
    go_ret
    exact ⟨ret_int HE.out.symm, rfl⟩

end Go.Proofs.YtbbmgandkmlojaaGreat.Rk
