/-
  What is proved here: contracts of the law's few and of the kit's Pick; the law's function StatesBack returns true: what is put is got, what is got is put, no beginning is a part. Condition: lengths fit an int.
-/
import Derived.Test.YtfbfckdabbaocaaQaStWk
namespace Go.Proofs.Ytfbfckdabbaocaa.St
open Go.RowKit Gr Wd Ws Fx Rk Lb Al In
open Sq (BAt BOwn QOwn bls)
open Fld (dg num)
set_option maxRecDepth 100000 in
theorem pick_any' (i : Int) (n : Nat) (h1 : 1 ≤ n) (h2 : n ≤ 1000000) : ∃ v : Nat, v < n ∧ ∀ w : World, Calls Try.prog 19 #[.int .i64 i, .int .i64 (n : Int)] w fun e w' => e = .returned (.int .i64 (v : Int)) ∧ w = w' := by
  obtain ⟨r, hr⟩ : ∃ r, i.tmod (n : Int) = r := ⟨_, rfl⟩
  have hn0 : (n : Int) ≠ 0 := by omega
  have r1 : -(n : Int) < r ∧ r < n := by
    subst hr
    rcases Int.le_total 0 i with h | h
    · rw [Int.tmod_eq_emod_of_nonneg h]
      have := Int.emod_nonneg i hn0; have := Int.emod_lt_of_pos i (show 0 < (n : Int) by omega)
      omega
    · have e : i.tmod n = -((-i).tmod n) := by rw [Int.neg_tmod]; omega
      rw [e, Int.tmod_eq_emod_of_nonneg (by omega)]
      have := Int.emod_nonneg (-i) hn0; have := Int.emod_lt_of_pos (-i) (show 0 < (n : Int) by omega)
      omega
  obtain ⟨v, hv⟩ : ∃ v : Nat, (r + n).tmod (n : Int) = v := ⟨((r + n).tmod (n : Int)).toNat, by
    rw [Int.tmod_eq_emod_of_nonneg (by omega)]
    have := Int.emod_nonneg (r + n) hn0; omega⟩
  have v1 : v < n := by
    have : (r + n) % (n : Int) < n := Int.emod_lt_of_pos _ (by omega)
    rw [Int.tmod_eq_emod_of_nonneg (by omega)] at hv
    omega
  refine ⟨v, v1, fun w => ?_⟩
  have t1 : IntKind.i64.wrap r = r := IntWalk.i64_in _ (by omega)
  have t2 : IntKind.i64.wrap (r + n) = r + n := IntWalk.i64_in _ (by omega)
  have t3 : IntKind.i64.wrap (v : Int) = v := IntWalk.i64_in _ (by omega)
  have t4 : decide ((n : Int) ≤ 0) = false := by simp; omega
  have t5 : ((n : Int) == 0) = false := by simp; omega
  clear r1 v1
  go_enter Try.func19, Try.ntmps19
  go_wp2
  go_ret
  exact ⟨rfl, rfl⟩
def Few (no nv nc ni : Nat) : Prop := no ≤ 60 ∧ nv ≤ 60 ∧ nc ≤ 60 ∧ ni ≤ 60
instance (no nv nc ni : Nat) : Decidable (Few no nv nc ni) := inferInstanceAs (Decidable (_ ∧ _))
set_option maxRecDepth 100000 in
theorem few_any (s : Int) (Ao Av Ac Ai : Option Addr) (no nv nc ni co cv cc ci : Nat) (w : World) :
    Calls Try.prog 9 #[.agg #[.int .i64 s, .slice Ao no co, .slice Av nv cv, .slice Ac nc cc, .slice Ai ni ci]] w fun e w' => e = .returned (.bool (decide (Few no nv nc ni))) ∧ Hid (Below w.heap.size w w') := by
  obtain ⟨r, hr⟩ : ∃ r, decide (Few no nv nc ni) = r := ⟨_, rfl⟩
  rw [hr]
  have hbox := heap_alloc_new w (.cells #[.int .i64 s, .slice Ao no co, .slice Av nv cv, .slice Ac nc cc, .slice Ai ni ci] 27)
  have hb1 : Below w.heap.size w (w.alloc (.cells #[.int .i64 s, .slice Ao no co, .slice Av nv cv, .slice Ac nc cc, .slice Ai ni ci] 27)) := (Below.refl _ w).alloc (Nat.le_refl _) _
  obtain ⟨W1, hW1⟩ : ∃ W1, W1 = w.alloc (.cells #[.int .i64 s, .slice Ao no co, .slice Av nv cv, .slice Ac nc cc, .slice Ai ni ci] 27) := ⟨_, rfl⟩
  rw [← hW1] at hbox hb1
  have HB1 := Lib.hid hb1
  obtain ⟨c0, c1, c2, c3, c4, _⟩ := five hbox
  have HNO : Hid (¬ Few no nv nc ni → r = false) := Lib.hid fun h => by rw [← hr]; exact decide_eq_false h
  have HYE : Hid (Few no nv nc ni → r = true) := Lib.hid fun h => by rw [← hr]; exact decide_eq_true h
  clear hbox hb1 hr
  by_cases h0 : no ≤ 60
  · by_cases h1 : nv ≤ 60
    · by_cases h2 : nc ≤ 60
      · by_cases h3 : ni ≤ 60
        · have e3 : r = true := HYE.out ⟨h0, h1, h2, h3⟩
          subst e3
          go_enter Try.func9, Try.ntmps9
          go_upto_region 1 with fail
          rw [← hW1]
          clear hW1
          go_wp2_with fail
          go_ret
          first | exact ⟨rfl, HB1⟩ | exact ⟨by simp; omega, HB1⟩
        · have e3 : r = false := HNO.out fun h => h3 h.2.2.2
          subst e3
          go_enter Try.func9, Try.ntmps9
          go_upto_region 1 with fail
          rw [← hW1]
          clear hW1
          go_wp2_with fail
          go_ret
          first | exact ⟨rfl, HB1⟩ | exact ⟨by simp; omega, HB1⟩
      · have e3 : r = false := HNO.out fun h => h2 h.2.2.1
        subst e3
        go_enter Try.func9, Try.ntmps9
        go_upto_region 1 with fail
        rw [← hW1]
        clear hW1
        go_wp2_with fail
        go_ret
        first | exact ⟨rfl, HB1⟩ | exact ⟨by simp; omega, HB1⟩
    · have e3 : r = false := HNO.out fun h => h1 h.2.1
      subst e3
      go_enter Try.func9, Try.ntmps9
      go_upto_region 1 with fail
      rw [← hW1]
      clear hW1
      go_wp2_with fail
      go_ret
      first | exact ⟨rfl, HB1⟩ | exact ⟨by simp; omega, HB1⟩
  · have e3 : r = false := HNO.out fun h => h0 h.1
    subst e3
    go_enter Try.func9, Try.ntmps9
    go_upto_region 1 with fail
    rw [← hW1]
    clear hW1
    go_wp2_with fail
    go_ret
    first | exact ⟨rfl, HB1⟩ | exact ⟨by simp; omega, HB1⟩
set_option maxRecDepth 100000 in
set_option maxHeartbeats 16000000 in
theorem law_back (p : Pr) (Ao Av Ac Ai : Option Addr) (no nv nc ni co cv cc ci : Nat) (A : Option Addr) (n c : Nat) (L : List Nat) (cut : Int) (w : World) (h : PAt w Ao Av Ac Ai no nv nc ni p) (hL : Fd.At w A L) (hn : L.length = n) (h1 : no ≤ 9223372036854775807) (h2 : nv ≤ 9223372036854775807) (h3 : nc ≤ 9223372036854775807) (h4 : ni ≤ 9223372036854775807) (h5 : n ≤ 9223372036854775807) :
    Calls Try.prog 5 #[.agg #[.int .i64 p.st, .slice Ao no co, .slice Av nv cv, .slice Ac nc cc, .slice Ai ni ci], .slice A n c, .int .i64 cut] w fun e w' => e = .returned (.bool true) ∧ Hid (Below w.heap.size w w') := by
  have hbox := heap_alloc_new w (.cells #[.int .i64 p.st, .slice Ao no co, .slice Av nv cv, .slice Ac nc cc, .slice Ai ni ci] 27)
  have hb1 : Below w.heap.size w (w.alloc (.cells #[.int .i64 p.st, .slice Ao no co, .slice Av nv cv, .slice Ac nc cc, .slice Ai ni ci] 27)) := (Below.refl _ w).alloc (Nat.le_refl _) _
  obtain ⟨W1, hW1⟩ : ∃ W1, W1 = w.alloc (.cells #[.int .i64 p.st, .slice Ao no co, .slice Av nv cv, .slice Ac nc cc, .slice Ai ni ci] 27) := ⟨_, rfl⟩
  obtain ⟨b3, e3⟩ : ∃ b3, b3 = w.heap.size := ⟨_, rfl⟩
  rw [← hW1] at hbox hb1
  rw [← e3] at hbox
  have HB1 := Lib.hid hb1
  have HX1 := Lib.hid hbox
  have HP := Lib.hid h
  have HL := Lib.hid hL
  have HSM := Lib.hid hL.small
  obtain ⟨s, hs⟩ : ∃ s, p.st = s := ⟨_, rfl⟩
  rw [hs] at hW1 hbox HX1
  rw [hs]
  have HS := Lib.hid hs
  have HFw := Lib.hid (few_any s Ao Av Ac Ai no nv nc ni co cv cc ci W1)
  obtain ⟨c0, c1, c2, c3, c4, _⟩ := five hbox
  clear hbox hb1 h hL hs
  go_enter Try.func5, Try.ntmps5
  go_upto_region 1 with fail
  rw [← hW1, show w.heap.size = b3 from e3.symm]
  clear hW1 e3
  go_wp2_with fail
  refine HFw.out.mono ?_
  rintro e w2 ⟨rfl, hb2⟩
  have HB2 := Lib.hid (step_below HB1.out HB1.out.size hb2.out)
  have HX2 := Lib.hid (keep HX1.out hb2.out)
  clear hb2 HFw c0 c1 c2 c3 c4
  obtain ⟨c0, c1, c2, c3, c4, _⟩ := five HX2.out
  by_cases hfew : Few no nv nc ni
  · rw [decide_eq_true hfew]
    have hno : no ≤ 60 := hfew.1
    have hnv : nv ≤ 60 := hfew.2.1
    have hnc : nc ≤ 60 := hfew.2.2.1
    have hni : ni ≤ 60 := hfew.2.2.2
    clear hfew
    by_cases hnb : n ≤ 1200
    · have HPU := Lib.hid (pput_any p Ao Av Ac Ai no nv nc ni co cv cc ci w2 (HP.out.below HB2.out) h1 h2 h3 h4)
      rw [HS.out] at HPU
      by_cases hr : Rgt p
      · rw [show putR p = (putP p, 0) from if_pos hr] at HPU
        have HRG := Lib.hid hr
        clear hr
        go_wp2_with fail
        refine HPU.out.mono ?_
        rintro e w3 ⟨A1, n1, c1', rfl, ha, hb3⟩
        have HB3 := Lib.hid (step_below HB2.out HB2.out.size hb3.out)
        have HX3 := Lib.hid (keep HX2.out hb3.out)
        obtain ⟨u1, u2', u3, u4, u5⟩ := ha.out
        have u2 : n1 = (putP p).length := u2'
        clear u2'
        have hn6 : 6 ≤ n1 := by have := (putP_parts p).2.2.2; omega
        obtain ⟨g, rfl, _⟩ := u5 (by omega)
        have HU1 := Lib.hid u1; have HU2 := Lib.hid u2
        clear ha hb3 HPU u1 u2 u5 c0 c1 c2 c3 c4
        have HG := Lib.hid (pget_any (some ⟨g, 0, none⟩) n1 c1' (putP p) w3 HU1.out HU2.out.symm (by omega))
        rw [getR_yes (getP_put HRG.out)] at HG
        go_wp2_with fail
        refine HG.out.mono ?_
        rintro e w4 ⟨x, rfl, hx, hb4⟩
        have HQ : Hid (∃ Bo eo Bv ev Bc ec Bi ei, x = .agg #[.int .i64 s, .slice Bo no eo, .slice Bv nv ev, .slice Bc nc ec, .slice Bi ni ei] ∧ PAt w4 Bo Bv Bc Bi no nv nc ni (nrmP p)) := Lib.hid (by
          have h := POwn.at hx.out
          have i0 : (nrmP p).own.length = no := HP.out.no
          have i1 : (nrmP p).vals.length = nv := HP.out.nv
          have i2 : (nrmP p).chg.length = nc := HP.out.nc
          have i3 : (nrmP p).inb.length = ni := by show (p.inb.map nrmL).length = ni; rw [List.length_map]; exact HP.out.ni
          have i4 : (nrmP p).st = s := HS.out
          rw [i0, i1, i2, i3, i4] at h
          exact h)
        obtain ⟨Bo, eo, Bv, ev, Bc, ec, Bi, ei, rfl, hq⟩ := HQ.out
        have HB4 := Lib.hid (step_below HB3.out HB3.out.size hb4.out)
        have hb5 := (Below.refl _ w4).alloc (Nat.le_refl _) (.cells #[.int .i64 s, .slice Bo no eo, .slice Bv nv ev, .slice Bc nc ec, .slice Bi ni ei] 27)
        have hx5 := heap_alloc_new w4 (.cells #[.int .i64 s, .slice Bo no eo, .slice Bv nv ev, .slice Bc nc ec, .slice Bi ni ei] 27)
        go_upto_region 6 with fail
        obtain ⟨W5, hW5⟩ : ∃ W, W = w4.alloc (.cells #[.int .i64 s, .slice Bo no eo, .slice Bv nv ev, .slice Bc nc ec, .slice Bi ni ei] 27) := ⟨_, rfl⟩
        obtain ⟨b9, e9⟩ : ∃ b, b = w4.heap.size := ⟨_, rfl⟩
        rw [← hW5] at hb5 hx5
        rw [← e9] at hx5
        rw [← hW5, show w4.heap.size = b9 from e9.symm]
        have hb45 := step_below hb4.out hb4.out.size hb5
        have HB5 := Lib.hid (step_below HB4.out HB4.out.size hb5)
        have HX5 := Lib.hid (keep HX3.out hb45)
        have HY5 := Lib.hid hx5
        have HQ5 := Lib.hid (hq.below hb5)
        have HU5 := Lib.hid (HU1.out.below hb45)
        clear hW5 e9 hb5 hx5 hb45 hx hb4 hq HQ HG HX3 HU1
        obtain ⟨v, hv, hpk⟩ := pick_any' cut n1 (by omega) (by omega)
        have HPK := Lib.hid hpk
        clear hpk
        go_wp2_with fail
        refine (HPK.out _).mono ?_
        rintro e w6 ⟨rfl, rfl⟩
        have hv2 : v < c1' := by omega
        have HG := Lib.hid (pget_any (some ⟨g, 0, none⟩) v c1' ((putP p).take v) W5 (HU5.out.take v) (by rw [List.length_take]; have := HU2.out; omega) (by omega))
        rw [getR_no (getP_cut HRG.out (k := v) (by have := HU2.out; omega))] at HG
        go_wp2_with fail
        refine HG.out.mono ?_
        rintro e w7 ⟨x, rfl, hx, hb7⟩
        have HQ : Hid (∃ Co fo Cv fv Cc fc Ci fi, x = .agg #[.int .i64 0, .slice Co 0 fo, .slice Cv 0 fv, .slice Cc 0 fc, .slice Ci 0 fi] ∧ PAt w7 Co Cv Cc Ci 0 0 0 0 noneP) := Lib.hid (POwn.at hx.out)
        obtain ⟨Co, fo, Cv, fv, Cc, fc, Ci, fi, rfl, _⟩ := HQ.out
        have hb8 := (Below.refl _ w7).alloc (Nat.le_refl _) (.cells #[.int .i64 0, .slice Co 0 fo, .slice Cv 0 fv, .slice Cc 0 fc, .slice Ci 0 fi] 27)
        go_upto_region 7 with fail
        obtain ⟨W8, hW8⟩ : ∃ W, W = w7.alloc (.cells #[.int .i64 0, .slice Co 0 fo, .slice Cv 0 fv, .slice Cc 0 fc, .slice Ci 0 fi] 27) := ⟨_, rfl⟩
        rw [← hW8] at hb8
        rw [← hW8]
        have hb58 := step_below hb7.out hb7.out.size hb8
        have HB8 := Lib.hid (step_below HB5.out HB5.out.size hb58)
        have HX8 := Lib.hid (keep HX5.out hb58)
        have HY8 := Lib.hid (keep HY5.out hb58)
        have HSm := Lib.hid (psame_any (nrmP p) p s s HS.out HS.out Bo Bv Bc Bi Ao Av Ac Ai no nv nc ni eo ev ec ei no nv nc ni co cv cc ci W8 (HQ5.out.below hb58) (HP.out.below HB8.out) (by omega) (by omega) (by omega) (by omega) (by omega) (by omega) (by omega) (by omega))
        rw [decide_eq_true (show sameP (nrmP p) p from (sameP_iff _ _).2 ((sameP_iff _ _).1 (sameP_nrm p)).symm)] at HSm
        clear hW8 hb8 hb58 hx hb7 HQ HG HX5 HY5 HQ5 HU5 HPK
        obtain ⟨c0, c1, c2, c3, c4, _⟩ := five HX8.out
        obtain ⟨d0, d1, d2, d3, d4, _⟩ := five HY8.out
        go_wp2_with fail
        refine HSm.out.mono ?_
        rintro e w9 ⟨rfl, hb9⟩
        have HB9 := Lib.hid (step_below HB8.out HB8.out.size hb9.out)
        clear hb9 HSm c0 c1 c2 c3 c4 d0 d1 d2 d3 d4 HX8 HY8 HX2
        have HG9 := Lib.hid (pget_any A n c L w9 (HL.out.below HB9.out) hn (by omega))
        cases hgl : getP L with
        | none =>
          rw [getR_no hgl] at HG9
          have HGL := Lib.hid hgl
          clear hgl
          go_wp2_with fail
          refine HG9.out.mono ?_
          rintro e w20 ⟨x, rfl, hx, hb20⟩
          have HQ : Hid (∃ Bo eo Bv ev Bc ec Bi ei, x = .agg #[.int .i64 0, .slice Bo 0 eo, .slice Bv 0 ev, .slice Bc 0 ec, .slice Bi 0 ei] ∧ PAt w20 Bo Bv Bc Bi 0 0 0 0 noneP) := Lib.hid (POwn.at hx.out)
          obtain ⟨Bo, eo, Bv, ev, Bc, ec, Bi, ei, rfl, hq⟩ := HQ.out
          have HB20 := Lib.hid (step_below HB9.out HB9.out.size hb20.out)
          have HB21 := Lib.hid (HB20.out.alloc HB20.out.size (.cells #[.int .i64 0, .slice Bo 0 eo, .slice Bv 0 ev, .slice Bc 0 ec, .slice Bi 0 ei] 27))
          clear hx hb20 hq HG9 HQ
          go_wp2_with fail
          refine (works_any _).mono ?_
          rintro e wz ⟨rfl, hbz⟩
          have HBz := Lib.hid (step_below HB21.out HB21.out.size hbz.out)
          clear hbz
          go_wp2_with fail
          go_ret
          exact ⟨rfl, HBz⟩
        | some q =>
          rw [getR_yes hgl] at HG9
          obtain ⟨hq1, hq2, _⟩ := getP_back HSM.out hgl
          have HQR : Hid (putR q = (L, 0)) := Lib.hid (by unfold putR; rw [if_pos hq1, hq2])
          have HQF := Lib.hid (rgt_few hq1)
          have HQL := Lib.hid hq1.2.1
          clear hgl hq1 hq2
          obtain ⟨qs, hqs⟩ : ∃ qs, q.st = qs := ⟨_, rfl⟩
          obtain ⟨m0, hm0⟩ : ∃ m, q.own.length = m := ⟨_, rfl⟩
          obtain ⟨m1, hm1⟩ : ∃ m, q.vals.length = m := ⟨_, rfl⟩
          obtain ⟨m2, hm2⟩ : ∃ m, q.chg.length = m := ⟨_, rfl⟩
          obtain ⟨m3, hm3⟩ : ∃ m, q.inb.length = m := ⟨_, rfl⟩
          have HMs : Hid (m0 ≤ 512 ∧ m1 ≤ 512 ∧ m2 ≤ 512 ∧ m3 ≤ 512) := Lib.hid (by have := HQF.out; have := HQL.out; unfold LenP at this; omega)
          go_wp2_with fail
          refine HG9.out.mono ?_
          rintro e w20 ⟨x, rfl, hx, hb20⟩
          have HQ : Hid (∃ Bo eo Bv ev Bc ec Bi ei, x = .agg #[.int .i64 qs, .slice Bo m0 eo, .slice Bv m1 ev, .slice Bc m2 ec, .slice Bi m3 ei] ∧ PAt w20 Bo Bv Bc Bi m0 m1 m2 m3 q) := Lib.hid (by
            have h := POwn.at hx.out
            simp only [hqs, hm0, hm1, hm2, hm3] at h
            exact h)
          obtain ⟨Bo, eo, Bv, ev, Bc, ec, Bi, ei, rfl, hq⟩ := HQ.out
          have HB20 := Lib.hid (step_below HB9.out HB9.out.size hb20.out)
          have h21 := (Below.refl _ w20).alloc (Nat.le_refl _) (.cells #[.int .i64 qs, .slice Bo m0 eo, .slice Bv m1 ev, .slice Bc m2 ec, .slice Bi m3 ei] 27)
          have hx21 := heap_alloc_new w20 (.cells #[.int .i64 qs, .slice Bo m0 eo, .slice Bv m1 ev, .slice Bc m2 ec, .slice Bi m3 ei] 27)
          go_upto_region 12 with fail
          obtain ⟨W21, hW21⟩ : ∃ W, W = w20.alloc (.cells #[.int .i64 qs, .slice Bo m0 eo, .slice Bv m1 ev, .slice Bc m2 ec, .slice Bi m3 ei] 27) := ⟨_, rfl⟩
          obtain ⟨b13, e13⟩ : ∃ b, b = w20.heap.size := ⟨_, rfl⟩
          rw [← hW21] at h21 hx21
          rw [← e13] at hx21
          rw [← hW21, show w20.heap.size = b13 from e13.symm]
          have HB21 := Lib.hid (step_below HB20.out HB20.out.size h21)
          have HPU : Hid (Calls Try.prog 11 #[.agg #[.int .i64 qs, .slice Bo m0 eo, .slice Bv m1 ev, .slice Bc m2 ec, .slice Bi m3 ei]] W21 fun e w' => ResB W21 w' e (L, 0)) := Lib.hid (by
            have h := pput_any q Bo Bv Bc Bi m0 m1 m2 m3 eo ev ec ei W21 (hq.below h21) (by have := HMs.out; omega) (by have := HMs.out; omega) (by have := HMs.out; omega) (by have := HMs.out; omega)
            rw [HQR.out, hqs] at h
            exact h)
          have HX21 := Lib.hid hx21
          clear hx hb20 hq HG9 HQ h21 hx21 hW21 e13 hqs hm0 hm1 hm2 hm3
          obtain ⟨j0, j1, j2, j3, j4, _⟩ := five HX21.out
          go_wp2_with fail
          refine HPU.out.mono ?_
          rintro e w22 ⟨A5, n5, c5, rfl, ha5, hb22⟩
          have HB22 := Lib.hid (step_below HB21.out HB21.out.size hb22.out)
          obtain ⟨g1, g2, _⟩ := ha5.out
          have cvA := Fd.conv_at w22 A5 L c5 g1
          have cvB := Fd.conv_at w22 A L c (HL.out.below HB22.out)
          rw [← g2] at cvA
          rw [hn] at cvB
          obtain ⟨SS, hSS⟩ : ∃ SS, Fd.str L = SS := ⟨_, rfl⟩
          rw [hSS] at cvA cvB
          clear ha5 hb22 g1 g2 hSS HPU HX21 j0 j1 j2 j3 j4
          go_wp2_with fail
          refine (works_any _).mono ?_
          rintro e wz ⟨rfl, hbz⟩
          have HBz := Lib.hid (step_below HB22.out HB22.out.size hbz.out)
          clear hbz
          go_wp2_with fail
          go_ret
          exact ⟨rfl, HBz⟩
      · rw [show putR p = ([], 4) from if_neg hr] at HPU
        clear hr
        go_wp2_with fail
        refine HPU.out.mono ?_
        rintro e w3 ⟨A1, n1, c1', rfl, ha, hb3⟩
        have HB3 := Lib.hid (step_below HB2.out HB2.out.size hb3.out)
        clear ha hb3 HPU c0 c1 c2 c3 c4 HX2
        have HG9 := Lib.hid (pget_any A n c L w3 (HL.out.below HB3.out) hn (by omega))
        cases hgl : getP L with
        | none =>
          rw [getR_no hgl] at HG9
          have HGL := Lib.hid hgl
          clear hgl
          go_wp2_with fail
          refine HG9.out.mono ?_
          rintro e w20 ⟨x, rfl, hx, hb20⟩
          have HQ : Hid (∃ Bo eo Bv ev Bc ec Bi ei, x = .agg #[.int .i64 0, .slice Bo 0 eo, .slice Bv 0 ev, .slice Bc 0 ec, .slice Bi 0 ei] ∧ PAt w20 Bo Bv Bc Bi 0 0 0 0 noneP) := Lib.hid (POwn.at hx.out)
          obtain ⟨Bo, eo, Bv, ev, Bc, ec, Bi, ei, rfl, hq⟩ := HQ.out
          have HB20 := Lib.hid (step_below HB3.out HB3.out.size hb20.out)
          have HB21 := Lib.hid (HB20.out.alloc HB20.out.size (.cells #[.int .i64 0, .slice Bo 0 eo, .slice Bv 0 ev, .slice Bc 0 ec, .slice Bi 0 ei] 27))
          clear hx hb20 hq HG9 HQ
          go_wp2_with fail
          refine (works_any _).mono ?_
          rintro e wz ⟨rfl, hbz⟩
          have HBz := Lib.hid (step_below HB21.out HB21.out.size hbz.out)
          clear hbz
          go_wp2_with fail
          go_ret
          exact ⟨rfl, HBz⟩
        | some q =>
          rw [getR_yes hgl] at HG9
          obtain ⟨hq1, hq2, _⟩ := getP_back HSM.out hgl
          have HQR : Hid (putR q = (L, 0)) := Lib.hid (by unfold putR; rw [if_pos hq1, hq2])
          have HQF := Lib.hid (rgt_few hq1)
          have HQL := Lib.hid hq1.2.1
          clear hgl hq1 hq2
          obtain ⟨qs, hqs⟩ : ∃ qs, q.st = qs := ⟨_, rfl⟩
          obtain ⟨m0, hm0⟩ : ∃ m, q.own.length = m := ⟨_, rfl⟩
          obtain ⟨m1, hm1⟩ : ∃ m, q.vals.length = m := ⟨_, rfl⟩
          obtain ⟨m2, hm2⟩ : ∃ m, q.chg.length = m := ⟨_, rfl⟩
          obtain ⟨m3, hm3⟩ : ∃ m, q.inb.length = m := ⟨_, rfl⟩
          have HMs : Hid (m0 ≤ 512 ∧ m1 ≤ 512 ∧ m2 ≤ 512 ∧ m3 ≤ 512) := Lib.hid (by have := HQF.out; have := HQL.out; unfold LenP at this; omega)
          go_wp2_with fail
          refine HG9.out.mono ?_
          rintro e w20 ⟨x, rfl, hx, hb20⟩
          have HQ : Hid (∃ Bo eo Bv ev Bc ec Bi ei, x = .agg #[.int .i64 qs, .slice Bo m0 eo, .slice Bv m1 ev, .slice Bc m2 ec, .slice Bi m3 ei] ∧ PAt w20 Bo Bv Bc Bi m0 m1 m2 m3 q) := Lib.hid (by
            have h := POwn.at hx.out
            simp only [hqs, hm0, hm1, hm2, hm3] at h
            exact h)
          obtain ⟨Bo, eo, Bv, ev, Bc, ec, Bi, ei, rfl, hq⟩ := HQ.out
          have HB20 := Lib.hid (step_below HB3.out HB3.out.size hb20.out)
          have h21 := (Below.refl _ w20).alloc (Nat.le_refl _) (.cells #[.int .i64 qs, .slice Bo m0 eo, .slice Bv m1 ev, .slice Bc m2 ec, .slice Bi m3 ei] 27)
          have hx21 := heap_alloc_new w20 (.cells #[.int .i64 qs, .slice Bo m0 eo, .slice Bv m1 ev, .slice Bc m2 ec, .slice Bi m3 ei] 27)
          go_upto_region 12 with fail
          obtain ⟨W21, hW21⟩ : ∃ W, W = w20.alloc (.cells #[.int .i64 qs, .slice Bo m0 eo, .slice Bv m1 ev, .slice Bc m2 ec, .slice Bi m3 ei] 27) := ⟨_, rfl⟩
          obtain ⟨b13, e13⟩ : ∃ b, b = w20.heap.size := ⟨_, rfl⟩
          rw [← hW21] at h21 hx21
          rw [← e13] at hx21
          rw [← hW21, show w20.heap.size = b13 from e13.symm]
          have HB21 := Lib.hid (step_below HB20.out HB20.out.size h21)
          have HPU : Hid (Calls Try.prog 11 #[.agg #[.int .i64 qs, .slice Bo m0 eo, .slice Bv m1 ev, .slice Bc m2 ec, .slice Bi m3 ei]] W21 fun e w' => ResB W21 w' e (L, 0)) := Lib.hid (by
            have h := pput_any q Bo Bv Bc Bi m0 m1 m2 m3 eo ev ec ei W21 (hq.below h21) (by have := HMs.out; omega) (by have := HMs.out; omega) (by have := HMs.out; omega) (by have := HMs.out; omega)
            rw [HQR.out, hqs] at h
            exact h)
          have HX21 := Lib.hid hx21
          clear hx hb20 hq HG9 HQ h21 hx21 hW21 e13 hqs hm0 hm1 hm2 hm3
          obtain ⟨j0, j1, j2, j3, j4, _⟩ := five HX21.out
          go_wp2_with fail
          refine HPU.out.mono ?_
          rintro e w22 ⟨A5, n5, c5, rfl, ha5, hb22⟩
          have HB22 := Lib.hid (step_below HB21.out HB21.out.size hb22.out)
          obtain ⟨g1, g2, _⟩ := ha5.out
          have cvA := Fd.conv_at w22 A5 L c5 g1
          have cvB := Fd.conv_at w22 A L c (HL.out.below HB22.out)
          rw [← g2] at cvA
          rw [hn] at cvB
          obtain ⟨SS, hSS⟩ : ∃ SS, Fd.str L = SS := ⟨_, rfl⟩
          rw [hSS] at cvA cvB
          clear ha5 hb22 g1 g2 hSS HPU HX21 j0 j1 j2 j3 j4
          go_wp2_with fail
          refine (works_any _).mono ?_
          rintro e wz ⟨rfl, hbz⟩
          have HBz := Lib.hid (step_below HB22.out HB22.out.size hbz.out)
          clear hbz
          go_wp2_with fail
          go_ret
          exact ⟨rfl, HBz⟩
    · go_wp2_with fail
      refine (works_any _).mono ?_
      rintro e wz ⟨rfl, hbz⟩
      have HBz := Lib.hid (step_below HB2.out HB2.out.size hbz.out)
      clear hbz
      go_wp2_with fail
      go_ret
      exact ⟨rfl, HBz⟩
  · rw [decide_eq_false hfew]
    clear hfew
    go_wp2_with fail
    refine (works_any _).mono ?_
    rintro e wz ⟨rfl, hbz⟩
    have HBz := Lib.hid (step_below HB2.out HB2.out.size hbz.out)
    clear hbz
    go_wp2_with fail
    go_ret
    exact ⟨rfl, HBz⟩
end Go.Proofs.Ytfbfckdabbaocaa.St
