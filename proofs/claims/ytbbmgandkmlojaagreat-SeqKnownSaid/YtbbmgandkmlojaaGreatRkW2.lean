/-
  What is proved here: contracts of package rank's Take, and of the document's own. No condition.
-/
import Derived.Test.YtbbmgandkmlojaaGreatRkW1
import Derived.Test.YtbbmgandkmlojaaGreatFxW2
import Derived.Test.YtbbmgandkmlojaaGreatFxR1
import Derived.IntWalk
namespace Go.Proofs.YtbbmgandkmlojaaGreat.Rk
open Go.RowKit Fx

theorem addr_hid (a b V : Int) (w : World) (hV : Hid (addI a b = V)) (h0 : -9223372036854775808 ≤ a) (h1 : a ≤ 9223372036854775807) (h2 : -9223372036854775808 ≤ b) (h3 : b ≤ 9223372036854775807) : Calls Tryz.prog 26 #[.int .i64 a, .int .i64 b] w fun e w' => e = .returned (.int .i64 V) ∧ w = w' := by
  rw [← hV.out]; exact add_any a b w h0 h1 h2 h3
theorem raddr_hid (a b V : Int) (w : World) (hV : Hid (addI a b = V)) (h0 : -9223372036854775808 ≤ a) (h1 : a ≤ 9223372036854775807) (h2 : -9223372036854775808 ≤ b) (h3 : b ≤ 9223372036854775807) : Calls Tryz.prog 88 #[.int .i64 a, .int .i64 b] w fun e w' => e = .returned (.int .i64 V) ∧ w = w' := by
  rw [← hV.out]; exact radd_any a b w h0 h1 h2 h3
theorem mulr_hid (a b x e : Int) (w : World) (hx : Hid (mulI a b = (x, e))) (h0 : -9223372036854775808 ≤ a) (h1 : a ≤ 9223372036854775807) (h2 : -9223372036854775808 ≤ b) (h3 : b ≤ 9223372036854775807) : Calls Tryz.prog 149 #[.int .i64 a, .int .i64 b] w fun r w' => r = .returned (.tuple #[.int .i64 x, .int .i64 e]) ∧ Hid (Below w.heap.size w w') :=
  (mul_any a b x e w hx h0 h1 h2 h3).mono fun _ _ ⟨h, g⟩ => ⟨h, Lib.hid g⟩
theorem rmulr_hid (a b x e : Int) (w : World) (hx : Hid (mulI a b = (x, e))) (h0 : -9223372036854775808 ≤ a) (h1 : a ≤ 9223372036854775807) (h2 : -9223372036854775808 ≤ b) (h3 : b ≤ 9223372036854775807) : Calls Tryz.prog 104 #[.int .i64 a, .int .i64 b] w fun r w' => r = .returned (.tuple #[.int .i64 x, .int .i64 e]) ∧ Hid (Below w.heap.size w w') :=
  (rmul_any a b x e w hx h0 h1 h2 h3).mono fun _ _ ⟨h, g⟩ => ⟨h, Lib.hid g⟩

/- What a damp, mail and a sum that may be give. -/
theorem take_parts {n d m s : Int} (h1 : 1 ≤ n) (h2 : 0 ≤ d) (h3 : d ≤ 4294967296) (h4 : 0 ≤ m) (h5 : 0 ≤ s) :
    ∃ b q a x : Int, shareI (4294967296 - d) n = (b, 0) ∧ shareI s n = (q, 0) ∧ s / n = q ∧ (4294967296 - d) / n = b ∧ addI m q = a ∧ mulI d a = (x, 0) ∧ takeI n d m s = b + x ∧ 0 ≤ b ∧ b ≤ 4294967296 ∧ 0 ≤ q ∧ q ≤ s ∧ 0 ≤ a ∧ a ≤ 4611686018427387904 ∧ 0 ≤ x ∧ x ≤ 4611686018427387904 := by
  have hb := share_le (4294967296 - d) n (by omega) h1
  have hq := share_le s n h5 h1
  have ha := addI_in m (s / n)
  obtain ⟨hx, x0, x1⟩ := mulI_damp h2 h3 ha.1 ha.2
  exact ⟨_, _, _, _, shareI_ok _ n (by omega) h1, shareI_ok s n h5 h1, rfl, rfl, rfl, hx, takeI_ok h1 h2 h3 h4 h5, hb.1, by omega, hq.1, hq.2, ha.1, ha.2, x0, x1⟩

set_option maxRecDepth 100000 in
set_option maxHeartbeats 1000000 in
theorem take_any (n d m s V : Int) (w : World) (hV : Hid (takeI n d m s = V)) (h0 : -9223372036854775808 ≤ n) (h1 : n ≤ 9223372036854775807) (h2 : -9223372036854775808 ≤ d) (h3 : d ≤ 9223372036854775807) (h4 : -9223372036854775808 ≤ m) (h5 : m ≤ 9223372036854775807) (h6 : -9223372036854775808 ≤ s) (h7 : s ≤ 9223372036854775807) :
    Calls Tryz.prog 142 #[.int .i64 n, .int .i64 d, .int .i64 m, .int .i64 s] w fun r w' => r = .returned (.int .i64 V) ∧ Hid (Below w.heap.size w w') := by
  by_cases hd : d < 0 ∨ 4294967296 < d ∨ m < 0
  · have hv := takeI_bad (n := n) (d := d) (m := m) (s := s) (by omega)
    rw [hV.out] at hv
    subst hv
    rcases (show d < 0 ∨ (0 ≤ d ∧ 4294967296 < d) ∨ (0 ≤ d ∧ d ≤ 4294967296 ∧ m < 0) by omega) with g1 | ⟨g1, g2⟩ | ⟨g1, g2, g3⟩
    all_goals
      clear hd hV
      go_enter Tryz.func142, Tryz.ntmps142
      go_wp2
      go_ret
      exact ⟨rfl, Lib.hid (Below.refl _ _)⟩
  · have d0 : 0 ≤ d := by omega
    have d1 : d ≤ 4294967296 := by omega
    have m0 : 0 ≤ m := by omega
    clear hd
    by_cases hn : n < 1
    · have hv := takeI_bad (n := n) (d := d) (m := m) (s := s) (by omega)
      rw [hV.out] at hv
      subst hv
      have S1 := Lib.hid (shareI_bad (4294967296 - d) n (Or.inr hn))
      have S2 := Lib.hid (shareI_bad s n (Or.inr hn))
      obtain ⟨a, ha⟩ : ∃ a, addI m 0 = a := ⟨_, rfl⟩
      have a0 := addI_in m 0
      rw [ha] at a0
      obtain ⟨a0, a1⟩ := a0
      obtain ⟨x, hx⟩ : ∃ x, d * a / 4294967296 = x := ⟨_, rfl⟩
      have hm := (mulI_damp d0 d1 a0 a1).1
      rw [hx] at hm
      have HA := Lib.hid ha; have HM := Lib.hid hm
      clear ha hx hm hn hV
      go_enter Tryz.func142, Tryz.ntmps142
      go_wp2_with fail
      refine (share_any _ n 0 2 _ S1 (by omega) (by omega) h0 h1).mono ?_
      rintro r w1 ⟨rfl, rfl⟩
      go_wp2_with fail
      refine (answered_no 0 _).mono ?_
      rintro r w1 ⟨rfl, rfl⟩
      go_wp2_with fail
      refine (share_any s n 0 2 _ S2 h6 h7 h0 h1).mono ?_
      rintro r w1 ⟨rfl, rfl⟩
      go_wp2_with fail
      refine (answered_no 0 _).mono ?_
      rintro r w1 ⟨rfl, rfl⟩
      go_wp2_with fail
      refine (addr_hid m 0 a _ HA h4 h5 (by omega) (by omega)).mono ?_
      rintro r w1 ⟨rfl, rfl⟩
      go_wp2_with fail
      refine (mulr_hid d a x 0 _ HM h2 h3 (by omega) (by omega)).mono ?_
      rintro r w2 ⟨rfl, HB⟩
      go_wp2_with fail
      refine (answered_ok x _).mono ?_
      rintro r w1 ⟨rfl, rfl⟩
      go_wp2
      go_ret
      exact ⟨rfl, HB⟩
    · have n1 : 1 ≤ n := by omega
      clear hn
      by_cases hs : s < 0
      · have hv := takeI_bad (n := n) (d := d) (m := m) (s := s) (by omega)
        rw [hV.out] at hv
        subst hv
        have S1 := Lib.hid (shareI_ok (4294967296 - d) n (by omega) n1)
        have hb := share_le (4294967296 - d) n (by omega) n1
        obtain ⟨b, hbb⟩ : ∃ b, (4294967296 - d) / n = b := ⟨_, rfl⟩
        rw [hbb] at S1 hb
        have S2 := Lib.hid (shareI_bad s n (Or.inl hs))
        obtain ⟨a, ha⟩ : ∃ a, addI m 0 = a := ⟨_, rfl⟩
        have a0 := addI_in m 0
        rw [ha] at a0
        obtain ⟨a0, a1⟩ := a0
        obtain ⟨x, hx⟩ : ∃ x, d * a / 4294967296 = x := ⟨_, rfl⟩
        have hm := (mulI_damp d0 d1 a0 a1).1
        rw [hx] at hm
        have HA := Lib.hid ha; have HM := Lib.hid hm
        obtain ⟨b0, b1⟩ := hb
        clear ha hx hm hs hV hbb
        go_enter Tryz.func142, Tryz.ntmps142
        go_wp2_with fail
        refine (share_any _ n b 0 _ S1 (by omega) (by omega) h0 h1).mono ?_
        rintro r w1 ⟨rfl, rfl⟩
        go_wp2_with fail
        refine (answered_ok b _).mono ?_
        rintro r w1 ⟨rfl, rfl⟩
        go_wp2_with fail
        refine (share_any s n 0 2 _ S2 h6 h7 h0 h1).mono ?_
        rintro r w1 ⟨rfl, rfl⟩
        go_wp2_with fail
        refine (answered_no 0 _).mono ?_
        rintro r w1 ⟨rfl, rfl⟩
        go_wp2_with fail
        refine (addr_hid m 0 a _ HA h4 h5 (by omega) (by omega)).mono ?_
        rintro r w1 ⟨rfl, rfl⟩
        go_wp2_with fail
        refine (mulr_hid d a x 0 _ HM h2 h3 (by omega) (by omega)).mono ?_
        rintro r w2 ⟨rfl, HB⟩
        go_wp2_with fail
        refine (answered_ok x _).mono ?_
        rintro r w1 ⟨rfl, rfl⟩
        go_wp2
        go_ret
        exact ⟨rfl, HB⟩
      · obtain ⟨b, q, a, x, s1, s2, _, _, ha, hm, hv, b0, b1, q0, q1, a0, a1, x0, x1⟩ := take_parts n1 d0 d1 m0 (show 0 ≤ s by omega)
        rw [hV.out] at hv
        have S1 := Lib.hid s1; have S2 := Lib.hid s2; have HA := Lib.hid ha; have HM := Lib.hid hm; have HVV := Lib.hid hv
        clear s1 s2 ha hm hv hV hs
        go_enter Tryz.func142, Tryz.ntmps142
        go_wp2_with fail
        refine (share_any _ n b 0 _ S1 (by omega) (by omega) h0 h1).mono ?_
        rintro r w1 ⟨rfl, rfl⟩
        go_wp2_with fail
        refine (answered_ok b _).mono ?_
        rintro r w1 ⟨rfl, rfl⟩
        go_wp2_with fail
        refine (share_any s n q 0 _ S2 h6 h7 h0 h1).mono ?_
        rintro r w1 ⟨rfl, rfl⟩
        go_wp2_with fail
        refine (answered_ok q _).mono ?_
        rintro r w1 ⟨rfl, rfl⟩
        go_wp2_with fail
        refine (addr_hid m q a _ HA h4 h5 (by omega) (by omega)).mono ?_
        rintro r w1 ⟨rfl, rfl⟩
        go_wp2_with fail
        refine (mulr_hid d a x 0 _ HM h2 h3 (by omega) (by omega)).mono ?_
        rintro r w2 ⟨rfl, HB⟩
        go_wp2_with fail
        refine (answered_ok x _).mono ?_
        rintro r w1 ⟨rfl, rfl⟩
        go_wp2
        go_ret
        exact ⟨ret_int HVV.out.symm, HB⟩

set_option maxRecDepth 100000 in
set_option maxHeartbeats 1000000 in
theorem rtake_any (n d m s V : Int) (w : World) (hV : Hid (takeI n d m s = V)) (_h0 : -9223372036854775808 ≤ n) (h1 : n ≤ 9223372036854775807) (h2 : -9223372036854775808 ≤ d) (h3 : d ≤ 9223372036854775807) (h4 : -9223372036854775808 ≤ m) (h5 : m ≤ 9223372036854775807) (_h6 : -9223372036854775808 ≤ s) (h7 : s ≤ 9223372036854775807) :
    Calls Tryz.prog 94 #[.int .i64 n, .int .i64 d, .int .i64 m, .int .i64 s] w fun r w' => r = .returned (.int .i64 V) ∧ Hid (Below w.heap.size w w') := by
  by_cases hd : n < 1 ∨ d < 0 ∨ 4294967296 < d ∨ m < 0 ∨ s < 0
  · have hv := takeI_bad (n := n) (d := d) (m := m) (s := s) hd
    rw [hV.out] at hv
    subst hv
    rcases (show n < 1 ∨ (1 ≤ n ∧ d < 0) ∨ (1 ≤ n ∧ 0 ≤ d ∧ 4294967296 < d) ∨ (1 ≤ n ∧ 0 ≤ d ∧ d ≤ 4294967296 ∧ m < 0) ∨ (1 ≤ n ∧ 0 ≤ d ∧ d ≤ 4294967296 ∧ 0 ≤ m ∧ s < 0) by omega) with g1 | ⟨g1, g2⟩ | ⟨g1, g2, g3⟩ | ⟨g1, g2, g3, g4⟩ | ⟨g1, g2, g3, g4, g5⟩
    all_goals
      clear hd hV
      go_enter Tryz.func94, Tryz.ntmps94
      go_wp2
      go_ret
      exact ⟨rfl, Lib.hid (Below.refl _ _)⟩
  · have n1 : 1 ≤ n := by omega
    have d0 : 0 ≤ d := by omega
    have d1 : d ≤ 4294967296 := by omega
    have m0 : 0 ≤ m := by omega
    have s0 : 0 ≤ s := by omega
    obtain ⟨b, q, a, x, s1, s2, hq, hb, ha, hm, hv, b0, b1, q0, q1, a0, a1, x0, x1⟩ := take_parts n1 d0 d1 m0 s0
    rw [hV.out] at hv
    have t1 : IntKind.i64.wrap (s.tdiv n) = q := by rw [Int.tdiv_eq_ediv_of_nonneg s0, hq]; exact IntWalk.i64_in _ (by omega)
    have t2 : IntKind.i64.wrap ((4294967296 - d).tdiv n) = b := by rw [Int.tdiv_eq_ediv_of_nonneg (by omega), hb]; exact IntWalk.i64_in _ (by omega)
    have HQ := Lib.hid hq; have HBB := Lib.hid hb
    have HA := Lib.hid ha; have HM := Lib.hid hm; have HVV := Lib.hid hv
    clear s1 s2 ha hm hv hV hd hq hb
    go_enter Tryz.func94, Tryz.ntmps94
    go_wp2_with fail
    refine (raddr_hid m q a _ HA h4 h5 (by omega) (by omega)).mono ?_
    rintro r w1 ⟨rfl, rfl⟩
    go_wp2_with fail
    refine (rmulr_hid d a x 0 _ HM h2 h3 (by omega) (by omega)).mono ?_
    rintro r w2 ⟨rfl, HB⟩
    go_wp2
    go_ret
    exact ⟨ret_int HVV.out.symm, HB⟩

end Go.Proofs.YtbbmgandkmlojaaGreat.Rk
