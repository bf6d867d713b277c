/-
  What is proved here: the law's function StatesTake returns true: a worker's part of a state is the document's, or it is refused. Condition: lengths fit an int.
-/
import Derived.Test.YtfbfckdabbaocaaQbStPlx
import Derived.Test.YtfbfckdabbaocaaQbStR8
namespace Go.Proofs.Ytfbfckdabbaocaa.St
open Go.RowKit Gr Wd Ws Fx Rk Lb Al In
open Pt (ow ow_len)
open Sq (BAt BOwn QOwn bls)
theorem take_pair (s : Stt) (k x : Int) : (takeR s k x).2 = (rtakeR s k x).2 ∧ sameP (takeR s k x).1 (rtakeR s k x).1 := by
  unfold takeR rtakeR
  by_cases h1 : 1 ≤ k ∧ k ≤ 64 ∧ 0 ≤ x ∧ x < k
  · rw [if_pos h1, if_pos h1]
    by_cases h2 : MayP s
    · rw [if_pos h2, if_pos h2]
      exact ⟨rfl, (sameP_iff _ _).2 ((sameP_iff _ _).1 (sameP_nrm _)).symm⟩
    · rw [if_neg h2, if_neg h2]
      exact ⟨rfl, (sameP_iff _ _).2 rfl⟩
  · rw [if_neg h1, if_neg h1]
    exact ⟨rfl, (sameP_iff _ _).2 rfl⟩
theorem take_few (s : Stt) (k x : Int) : ((takeR s k x).1.own.length ≤ 512 ∧ (takeR s k x).1.vals.length ≤ 512 ∧ (takeR s k x).1.chg.length ≤ 512 ∧ (takeR s k x).1.inb.length ≤ 512) ∧ ((rtakeR s k x).1.own.length ≤ 512 ∧ (rtakeR s k x).1.vals.length ≤ 512 ∧ (rtakeR s k x).1.chg.length ≤ 512 ∧ (rtakeR s k x).1.inb.length ≤ 512) := by
  unfold takeR rtakeR
  by_cases h1 : 1 ≤ k ∧ k ≤ 64 ∧ 0 ≤ x ∧ x < k
  · rw [if_pos h1, if_pos h1]
    by_cases h2 : MayP s
    · rw [if_pos h2, if_pos h2]
      have h3 := (may_few h2).1
      have h4 := ow_len k x s.vals.length
      have h5 : (ow k x s.vals.length).length ≤ 512 := Nat.le_trans h4 h3
      simp only [nrmP, takeP, List.length_map]
      exact ⟨⟨h5, h5, h5, h5⟩, h5, h5, h5, h5⟩
    · rw [if_neg h2, if_neg h2]
      exact ⟨⟨by decide, by decide, by decide, by decide⟩, by decide, by decide, by decide, by decide⟩
  · rw [if_neg h1, if_neg h1]
    exact ⟨⟨by decide, by decide, by decide, by decide⟩, by decide, by decide, by decide, by decide⟩
theorem POwn.len {w : World} {B : Nat} {x : Value} {p : Pr} {S : Int} {n0 n1 n2 n3 : Nat} (h : POwn w B x p) (i0 : p.own.length = n0) (i1 : p.vals.length = n1) (i2 : p.chg.length = n2) (i3 : p.inb.length = n3) (i4 : p.st = S) :
    ∃ Ao eo Av ev Ac ec Ai ei, x = .agg #[.int .i64 S, .slice Ao n0 eo, .slice Av n1 ev, .slice Ac n2 ec, .slice Ai n3 ei] ∧ PAt w Ao Av Ac Ai n0 n1 n2 n3 p := by
  have h := POwn.at h
  rw [i0, i1, i2, i3, i4] at h
  exact h
set_option maxRecDepth 100000 in
set_option maxHeartbeats 16000000 in
theorem law_take (z : Int) (s : Sq.Sq) (Av Ac Ai : Option Addr) (nv nc ni cv cc ci : Nat) (k x : Int) (w : World) (h : Sq.SAt w Av Ac Ai nv nc ni s) (hv : nv ≤ 9223372036854775807) (hc : nc ≤ 9223372036854775807) (hi : ni ≤ 9223372036854775807) :
    Calls Try.prog 6 #[.agg #[.int .i64 z, .slice Av nv cv, .slice Ac nc cc, .slice Ai ni ci, .int .i64 s.sum, .int .i64 s.most], .int .i64 k, .int .i64 x] w fun e w' => e = .returned (.bool true) ∧ Hid (Below w.heap.size w w') := by
  have mixed := mixedI
  obtain ⟨su, hsu⟩ : ∃ su, s.sum = su := ⟨_, rfl⟩
  obtain ⟨mo, hmo⟩ : ∃ mo, s.most = mo := ⟨_, rfl⟩
  rw [hsu, hmo]
  have HT : Hid (TAt w Av Ac Ai nv nc ni ⟨z, s.vals, s.chg, s.inb⟩) := Lib.hid ⟨h.v, h.c, h.i, h.nv, h.nc, h.ni⟩
  clear hsu hmo h
  obtain ⟨tt, htt⟩ : ∃ tt : Stt, tt = ⟨z, s.vals, s.chg, s.inb⟩ := ⟨_, rfl⟩
  have HZ : Hid (tt.st = z) := Lib.hid (by rw [htt])
  rw [← htt] at HT
  clear htt
  have hbox := heap_alloc_new w (.cells #[.int .i64 z, .slice Av nv cv, .slice Ac nc cc, .slice Ai ni ci, .int .i64 su, .int .i64 mo] 48)
  have hb1 : Below w.heap.size w (w.alloc (.cells #[.int .i64 z, .slice Av nv cv, .slice Ac nc cc, .slice Ai ni ci, .int .i64 su, .int .i64 mo] 48)) := (Below.refl _ w).alloc (Nat.le_refl _) _
  obtain ⟨W1, hW1⟩ : ∃ W1, W1 = w.alloc (.cells #[.int .i64 z, .slice Av nv cv, .slice Ac nc cc, .slice Ai ni ci, .int .i64 su, .int .i64 mo] 48) := ⟨_, rfl⟩
  obtain ⟨b1, e1⟩ : ∃ b1, b1 = w.heap.size := ⟨_, rfl⟩
  rw [← hW1] at hbox hb1
  rw [← e1] at hbox
  have HB1 := Lib.hid hb1
  have HX1 := Lib.hid hbox
  obtain ⟨s0, s1, s2, s3, s4, s5, _⟩ := Sq.six hbox
  clear hbox hb1
  go_enter Try.func6, Try.ntmps6
  go_upto_region 1 with fail
  rw [← hW1, show w.heap.size = b1 from e1.symm]
  clear hW1 e1
  by_cases h1 : nv ≤ 60
  · by_cases h2 : nc ≤ 60
    · by_cases h3 : ni ≤ 60
      · obtain ⟨hE, hS⟩ := take_pair tt k x
        obtain ⟨hF1, hF2⟩ := take_few tt k x
        have HG1 := Lib.hid (ptake_any tt Av Ac Ai nv nc ni cv cc ci su mo k x W1 (HT.out.below HB1.out) hv hc hi)
        rw [HZ.out] at HG1
        obtain ⟨pa, hpa⟩ : ∃ pa, (takeR tt k x).1 = pa := ⟨_, rfl⟩
        obtain ⟨E, hEE⟩ : ∃ E, (takeR tt k x).2 = E := ⟨_, rfl⟩
        obtain ⟨pb, hpb⟩ : ∃ pb, (rtakeR tt k x).1 = pb := ⟨_, rfl⟩
        have r1 : takeR tt k x = (pa, E) := by rw [← hpa, ← hEE]
        have r2 : rtakeR tt k x = (pb, E) := by rw [← hpb, ← hEE, hE]
        rw [hpa, hpb] at hS
        rw [hpa] at hF1
        rw [hpb] at hF2
        rw [r1] at HG1
        have HR2 := Lib.hid r2
        have HSM := Lib.hid hS
        obtain ⟨p0, i0⟩ : ∃ q, pa.own.length = q := ⟨_, rfl⟩
        obtain ⟨p1, i1⟩ : ∃ q, pa.vals.length = q := ⟨_, rfl⟩
        obtain ⟨p2, i2⟩ : ∃ q, pa.chg.length = q := ⟨_, rfl⟩
        obtain ⟨p3, i3⟩ : ∃ q, pa.inb.length = q := ⟨_, rfl⟩
        obtain ⟨S, i4⟩ : ∃ q, pa.st = q := ⟨_, rfl⟩
        obtain ⟨r0, j0⟩ : ∃ q, pb.own.length = q := ⟨_, rfl⟩
        obtain ⟨r1', j1⟩ : ∃ q, pb.vals.length = q := ⟨_, rfl⟩
        obtain ⟨r2', j2⟩ : ∃ q, pb.chg.length = q := ⟨_, rfl⟩
        obtain ⟨r3, j3⟩ : ∃ q, pb.inb.length = q := ⟨_, rfl⟩
        obtain ⟨T, j4⟩ : ∃ q, pb.st = q := ⟨_, rfl⟩
        rw [i0, i1, i2, i3] at hF1
        rw [j0, j1, j2, j3] at hF2
        have HF1 := Lib.hid hF1; have HF2 := Lib.hid hF2
        have HII := Lib.hid (And.intro i0 (And.intro i1 (And.intro i2 (And.intro i3 i4))))
        have HJJ := Lib.hid (And.intro j0 (And.intro j1 (And.intro j2 (And.intro j3 j4))))
        clear hE hS hF1 hF2 hpa hEE hpb r1 r2 i0 i1 i2 i3 i4 j0 j1 j2 j3 j4
        go_wp2_with fail
        refine HG1.out.mono ?_
        rintro e w2 ⟨y, rfl, hx, hb2⟩
        obtain ⟨Po, q0, Pv, q1, Pc, q2, Pi, q3, rfl, hq⟩ := POwn.len hx.out HII.out.1 HII.out.2.1 HII.out.2.2.1 HII.out.2.2.2.1 HII.out.2.2.2.2
        have HB2 := Lib.hid (step_below HB1.out HB1.out.size hb2.out)
        have hb3 := (Below.refl _ w2).alloc (Nat.le_refl _) (.cells #[.int .i64 S, .slice Po p0 q0, .slice Pv p1 q1, .slice Pc p2 q2, .slice Pi p3 q3] 27)
        have hx3 := heap_alloc_new w2 (.cells #[.int .i64 S, .slice Po p0 q0, .slice Pv p1 q1, .slice Pc p2 q2, .slice Pi p3 q3] 27)
        go_upto_region 4 with fail
        obtain ⟨W3, hW3⟩ : ∃ W, W = w2.alloc (.cells #[.int .i64 S, .slice Po p0 q0, .slice Pv p1 q1, .slice Pc p2 q2, .slice Pi p3 q3] 27) := ⟨_, rfl⟩
        obtain ⟨b3, e3⟩ : ∃ b, b = w2.heap.size := ⟨_, rfl⟩
        rw [← hW3] at hb3 hx3
        rw [← e3] at hx3
        rw [← hW3, show w2.heap.size = b3 from e3.symm]
        have hb23 := step_below hb2.out hb2.out.size hb3
        have HB3 := Lib.hid (step_below HB2.out HB2.out.size hb3)
        have HX3 := Lib.hid hx3
        have HQ3 := Lib.hid (hq.below hb3)
        have HXs := Lib.hid (keep HX1.out hb23)
        clear hW3 e3 hb3 hx3 hb23 hx hb2 hq HG1 s0 s1 s2 s3 s4 s5
        obtain ⟨s0, s1, s2, s3, s4, s5, _⟩ := Sq.six HXs.out
        have HG2 := Lib.hid (rtake_any tt Av Ac Ai nv nc ni cv cc ci su mo k x W3 (HT.out.below HB3.out) hv hc hi)
        rw [HR2.out, HZ.out] at HG2
        go_wp2_with fail
        refine HG2.out.mono ?_
        rintro e w4 ⟨y, rfl, hx, hb4⟩
        obtain ⟨Ro, u0, Rv, u1, Rc, u2, Ri, u3, rfl, hq⟩ := POwn.len hx.out HJJ.out.1 HJJ.out.2.1 HJJ.out.2.2.1 HJJ.out.2.2.2.1 HJJ.out.2.2.2.2
        have HB4 := Lib.hid (step_below HB3.out HB3.out.size hb4.out)
        have hb5 := (Below.refl _ w4).alloc (Nat.le_refl _) (.cells #[.int .i64 T, .slice Ro r0 u0, .slice Rv r1' u1, .slice Rc r2' u2, .slice Ri r3 u3] 35)
        have hx5 := heap_alloc_new w4 (.cells #[.int .i64 T, .slice Ro r0 u0, .slice Rv r1' u1, .slice Rc r2' u2, .slice Ri r3 u3] 35)
        go_upto_region 5 with fail
        obtain ⟨W5, hW5⟩ : ∃ W, W = w4.alloc (.cells #[.int .i64 T, .slice Ro r0 u0, .slice Rv r1' u1, .slice Rc r2' u2, .slice Ri r3 u3] 35) := ⟨_, rfl⟩
        obtain ⟨b5, e5⟩ : ∃ b, b = w4.heap.size := ⟨_, rfl⟩
        rw [← hW5] at hb5 hx5
        rw [← e5] at hx5
        rw [← hW5, show w4.heap.size = b5 from e5.symm]
        have hb45 := step_below hb4.out hb4.out.size hb5
        have HB5 := Lib.hid (step_below HB4.out HB4.out.size hb5)
        have HQA := Lib.hid (HQ3.out.below hb45)
        have HQB := Lib.hid (hq.below hb5)
        have HX5 := Lib.hid (keep HX3.out hb45)
        obtain ⟨c0, c1', c2, c3, c4, _⟩ := five HX5.out
        obtain ⟨d0, d1, d2, d3, d4, _⟩ := five hx5
        clear hW5 e5 hb5 hx5 hb45 hx hb4 hq HG2 HX3 HQ3 HXs s0 s1 s2 s3 s4 s5
        have HC1 := Lib.hid (regS (w := W5) fun W _ => plain_any S Po Pv Pc Pi p0 p1 p2 p3 q0 q1 q2 q3 W)
        have HC2 := Lib.hid (regS (w := W5) fun W hW => (show Calls Try.prog 18 #[.agg #[.int .i64 S, .slice Po p0 q0, .slice Pv p1 q1, .slice Pc p2 q2, .slice Pi p3 q3], .agg #[.int .i64 T, .slice Ro r0 u0, .slice Rv r1' u1, .slice Rc r2' u2, .slice Ri r3 u3]] W fun e w' => e = .returned (.bool true) ∧ Hid (Below W.heap.size W w') from by
          obtain ⟨k0, k1, k2, k3⟩ := HF1.out
          obtain ⟨g0, g1, g2, g3⟩ := HF2.out
          have := rpsame_any pa pb S T HII.out.2.2.2.2 HJJ.out.2.2.2.2 Po Pv Pc Pi Ro Rv Rc Ri p0 p1 p2 p3 q0 q1 q2 q3 r0 r1' r2' r3 u0 u1 u2 u3 W (HQA.out.below hW) (HQB.out.below hW) (by omega) (by omega) (by omega) (by omega) (by omega) (by omega) (by omega) (by omega)
          rw [decide_eq_true (show sameP pa pb from HSM.out)] at this
          exact this))
        have HC4 := Lib.hid (regS (w := W5) fun W _ => works_any W)
        have z0 := cell_regrown c0; have z1 := cell_regrown c1'; have z2 := cell_regrown c2; have z3 := cell_regrown c3; have z4 := cell_regrown c4
        have y0 := cell_regrown d0; have y1 := cell_regrown d1; have y2 := cell_regrown d2; have y3 := cell_regrown d3; have y4 := cell_regrown d4
        clear c0 c1' c2 c3 c4 d0 d1 d2 d3 d4
        refine wp_region_quiet_below mixed (by kernel_rfl) ?_
        repeat (go_big_quiet_step ((with_reducible first | exact HC1.out _ _ | exact HC2.out _ _ | exact HC4.out _ _)))
        refine wpQuiet_nil ?_
        intro _ hw'
        obtain ⟨⟨dq, osq⟩, hw''⟩ := hw'
        subst hw''
        have HB6 := Lib.hid (step_below HB5.out HB5.out.size (below_regrown W5 dq osq))
        clear z0 z1 z2 z3 z4 y0 y1 y2 y3 y4 HC1 HC2 HC4
        go_wp2
        go_ret
        exact ⟨rfl, HB6⟩
      · go_wp2_with fail
        refine (works_any _).mono ?_
        rintro e wz ⟨rfl, hbz⟩
        have HBz := Lib.hid (step_below HB1.out HB1.out.size hbz.out)
        clear hbz
        go_wp2_with fail
        go_ret
        exact ⟨rfl, HBz⟩
    · go_wp2_with fail
      refine (works_any _).mono ?_
      rintro e wz ⟨rfl, hbz⟩
      have HBz := Lib.hid (step_below HB1.out HB1.out.size hbz.out)
      clear hbz
      go_wp2_with fail
      go_ret
      exact ⟨rfl, HBz⟩
  · go_wp2_with fail
    refine (works_any _).mono ?_
    rintro e wz ⟨rfl, hbz⟩
    have HBz := Lib.hid (step_below HB1.out HB1.out.size hbz.out)
    clear hbz
    go_wp2_with fail
    go_ret
    exact ⟨rfl, HBz⟩
end Go.Proofs.Ytfbfckdabbaocaa.St
