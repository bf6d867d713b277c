/-
  What is proved here: the law's function MeaningRun says true. Condition: the number of edges fits an int.
-/
import Derived.Test.YtdcaekmgfcpbmaaGreatQcMnRn
import Derived.Test.YtdcaekmgfcpbmaaGreatQcMnLwx
namespace Go.Proofs.YtdcaekmgfcpbmaaGreat.Mn
open Go.RowKit Gr Wd Ws Fx Rk Lb Al In Sq
open Pa (vl bt vl_of vl_at bt_of bt_at Fits fits_of fr far)
set_option maxRecDepth 100000 in
set_option maxHeartbeats 16000000 in
theorem lw_run (k st so dm ep V a x : Int) (A : Option Addr) (n c : Nat) (L : List Ed) (w : World) (hL : EAt w A L) (hn : L.length = n) (hm : n ≤ 9223372036854775807) :
    Calls Tryz.prog 5 #[.agg #[.int .i64 V, .slice A n c], .agg #[.int .u8 k, .int .i64 st, .int .i64 so, .int .i64 dm, .int .i64 ep], .int .i64 a, .int .i64 x] w fun e w' => e = .returned (.bool true) ∧ Below w.heap.size w w' := by
  have mixed := mixedP
  have HL := Lib.hid hL; have HN := Lib.hid hn
  clear hL hn
  obtain ⟨W2, hW2⟩ : ∃ W2, W2 = (w.alloc (.cells #[.int .i64 V, .slice A n c] 24)).alloc (.cells #[.int .u8 k, .int .i64 st, .int .i64 so, .int .i64 dm, .int .i64 ep] 40) := ⟨_, rfl⟩
  have hal := al2 w (.cells #[.int .i64 V, .slice A n c] 24) (.cells #[.int .u8 k, .int .i64 st, .int .i64 so, .int .i64 dm, .int .i64 ep] 40)
  rw [← hW2] at hal
  obtain ⟨n0, e0⟩ : ∃ n0, n0 = w.heap.size := ⟨_, rfl⟩
  have HG : Hid (W2.heap[n0]? = some (.cells #[.int .i64 V, .slice A n c] 24 (0, 0))) := Lib.hid (by rw [e0]; exact hal.1)
  have HJ : Hid (W2.heap[n0 + 1]? = some (.cells #[.int .u8 k, .int .i64 st, .int .i64 so, .int .i64 dm, .int .i64 ep] 40 (0, 0))) := Lib.hid (by rw [e0]; exact hal.2.1)
  have HB := Lib.hid hal.2.2
  clear hal
  obtain ⟨g0, g1, _⟩ := two_cells HG.out
  obtain ⟨r, hr, hrt⟩ := lgt_any V A n c L W2 (HL.out.below HB.out) HN.out hm
  have HLG := Lib.hid hr
  have HRT := Lib.hid hrt
  clear hr hrt
  go_enter Tryz.func5, Tryz.ntmps5
  go_upto_region 1 with fail
  rw [← hW2, show w.heap.size = n0 from e0.symm]
  clear hW2 e0
  go_wp2_with fail
  refine HLG.out.mono ?_
  rintro e w3 ⟨rfl, hb3⟩
  have HG3 := Lib.hid (keepB HG.out hb3.out); have HJ3 := Lib.hid (keepB HJ.out hb3.out)
  have HB3 := Lib.hid (step_below HB.out HB.out.size hb3.out)
  clear hb3 g0 g1 HLG HG HJ HB
  cases r with
  | false =>
    go_wp2_with fail
    refine (wrk_any _).mono ?_
    rintro e w4 ⟨rfl, hb4⟩
    go_wp2
    go_ret
    exact ⟨rfl, step_below HB3.out HB3.out.size hb4.out⟩
  | true =>
    obtain ⟨hn1, hV16⟩ := HRT.out rfl
    have HN1 := Lib.hid hn1; have HV16 := Lib.hid hV16
    clear hn1 hV16 HRT
    obtain ⟨g0, g1, _⟩ := two_cells HG3.out
    obtain ⟨j0, j1, j2, j3, j4, _⟩ := jb_cells HJ3.out
    by_cases hst : 40 < st
    · go_wp2_with fail
      refine (wrk_any _).mono ?_
      rintro e w4 ⟨rfl, hb4⟩
      go_wp2
      go_ret
      exact ⟨rfl, step_below HB3.out HB3.out.size hb4.out⟩
    obtain ⟨E, hE⟩ : ∃ E, chkJ k st so dm ep V L = E := ⟨_, rfl⟩
    have HC : Hid (Calls Tryz.prog 16 #[.agg #[.int .i64 V, .slice A n c], .agg #[.int .u8 k, .int .i64 st, .int .i64 so, .int .i64 dm, .int .i64 ep]] w3 fun e w' => e = .returned (.int .i64 E) ∧ Below w3.heap.size w3 w') := Lib.hid (by
      have h := checkj_any k st so dm ep V A c L w3 (HL.out.below HB3.out) (by rw [HN.out]; have := HN1.out; omega)
      rw [HN.out, hE] at h; exact h)
    have HE := Lib.hid hE
    clear hE
    go_wp2_with fail
    refine HC.out.mono ?_
    rintro e w4 ⟨rfl, hb4⟩
    have HG4 := Lib.hid (keepB HG3.out hb4); have HJ4 := Lib.hid (keepB HJ3.out hb4)
    have HB4 := Lib.hid (step_below HB3.out HB3.out.size hb4)
    clear hb4 g0 g1 j0 j1 j2 j3 j4 HG3 HJ3 HB3 HC
    by_cases hE0 : E = 0
    case neg =>
      have hE1 : (E != 0) = true := by simpa using hE0
      go_wp2_with fail
      refine (wrk_any _).mono ?_
      rintro e w5 ⟨rfl, hb5⟩
      go_wp2
      go_ret
      exact ⟨rfl, step_below HB4.out HB4.out.size hb5.out⟩
    subst hE0
    obtain ⟨Vn, rfl, hV0, hV⟩ := chk_v (chkJ_zero HE.out).1
    have hv16 := HV16.out (chkJ_zero HE.out).1
    obtain ⟨N, hN⟩ := run_at k st so dm ep (Vn : Int) L
    have HNN := Lib.hid (hN HE.out)
    clear hN
    obtain ⟨S, hS⟩ : ∃ S, S = stS k so dm (Vn : Int).toNat L N := ⟨_, rfl⟩
    have hSl : S.vals.length = Vn := by
      rw [hS]
      obtain ⟨hz, _, _, _, hd0, hd1⟩ := chkJ_zero HE.out
      simpa using (go_all (so := so) hz (fun _ => ⟨hd0, hd1⟩) N).may.1
    have HC : Hid (Calls Tryz.prog 17 #[.agg #[.int .i64 (Vn : Int), .slice A n c], .agg #[.int .u8 k, .int .i64 st, .int .i64 so, .int .i64 dm, .int .i64 ep]] w4 fun e w' => Res w4 w' e ((N : Int), S, 0)) := Lib.hid (by
      refine (seqRun_any k st so dm ep (Vn : Int) A n c L N w4 (HL.out.below HB4.out) HN.out (by have := HN1.out; omega) (fun _ => HNN.out)).mono fun _ _ h => ?_
      unfold runR at h; rw [if_pos HE.out, ← hS] at h; exact h)
    have hfew : Few S := by rw [hS]; exact few_st HE.out _
    have HSE := Lib.hid hS; have HSL := Lib.hid hSl; have HFW := Lib.hid hfew
    clear hS hSl hfew
    obtain ⟨g0, g1, _⟩ := two_cells HG4.out
    obtain ⟨j0, j1, j2, j3, j4, _⟩ := jb_cells HJ4.out
    go_upto_region 3 with fail
    go_wp2_with fail
    refine HC.out.mono ?_
    rintro e v1 hv1
    obtain ⟨g, ac, ai, an1, an2, an3, a1, a2, a3, rfl, hh⟩ := rnh_of (w := w) hv1 HFW.out (by rw [HSL.out]; omega) HB4.out HG4.out HJ4.out
    obtain ⟨X1, hX1⟩ : ∃ X, X = v1.alloc (.cells #[.int .i64 (N : Int), .slice (some ⟨g, 0, none⟩) an1 a1, .slice ac an2 a2, .slice ai an3 a3, .int .i64 S.sum, .int .i64 S.most] 45) := ⟨_, rfl⟩
    obtain ⟨bl1, eb1⟩ : ∃ b, b = v1.heap.size := ⟨_, rfl⟩
    rw [← hX1, ← eb1] at hh
    have HH := hh
    clear hh hv1 g0 g1 j0 j1 j2 j3 j4 HC HG4 HJ4
    go_upto_region 4 with fail
    rw [← hX1, show v1.heap.size = bl1 from eb1.symm]
    clear hX1 eb1
    obtain ⟨g0, g1, _⟩ := two_cells HH.out.gb
    obtain ⟨j0, j1, j2, j3, j4, _⟩ := jb_cells HH.out.jb
    obtain ⟨s0, s1, s2, s3, s4, s5, _⟩ := Sq.six HH.out.sb
    have HM : Hid (Calls Tryz.prog 18 #[.agg #[.int .i64 (Vn : Int), .slice A n c], .agg #[.int .u8 k, .int .i64 st, .int .i64 so, .int .i64 dm, .int .i64 ep], .agg #[.int .i64 (N : Int), .slice (some ⟨g, 0, none⟩) an1 a1, .slice ac an2 a2, .slice ai an3 a3, .int .i64 S.sum, .int .i64 S.most]] X1 fun e w' => e = .returned (.bool true) ∧ Hid (Below X1.heap.size X1 w')) := Lib.hid (by
      refine (Means_any k st so dm ep (Vn : Int) (N : Int) N S A (some ⟨g, 0, none⟩) ac ai n c an1 a1 an2 a2 an3 a3 L X1 (HL.out.below HH.out.below) HN.out (by have := HN1.out; omega) (by omega) HE.out HNN.out HH.out.sat HH.out.f).mono ?_
      rintro e w' ⟨b, rfl, hb, hw⟩
      have h := hb.out
      rw [HSE.out] at h
      rw [run_means HE.out HNN.out h]
      exact ⟨rfl, Lib.hid hw⟩)
    go_wp2_with fail
    refine HM.out.mono ?_
    rintro e w5 ⟨rfl, hb5⟩
    replace HH := Lib.hid (HH.out.step hb5.out)
    clear hb5 HM g0 g1 j0 j1 j2 j3 j4 s0 s1 s2 s3 s4 s5
    obtain ⟨u, huv, hpi⟩ := pick_any' a Vn (by omega) (by omega)
    have HPI := Lib.hid hpi
    have HUV : Hid (u < an1) := Lib.hid (by rw [← HH.out.n1, HSL.out]; exact huv)
    clear huv hpi
    obtain ⟨g0, g1, _⟩ := two_cells HH.out.gb
    obtain ⟨j0, j1, j2, j3, j4, _⟩ := jb_cells HH.out.jb
    by_cases hVs : (Vn : Int) ≤ st
    · -- both of them are held against it
      have HLB := Lib.hid (Labels_any (Vn : Int) A n c L w5 (HL.out.below HH.out.below) HN.out (by have := HN1.out; omega))
      rw [(chkJ_zero HE.out).1] at HLB
      go_wp2_with fail
      refine HLB.out.mono ?_
      rintro e w6 ⟨lb, ⟨vb, rfl, h6⟩, hlb⟩
      have HLC : Hid (LabC (Vn : Int).toNat L lb) := Lib.hid (hlb.out.1 (chkJ_zero HE.out).1)
      obtain ⟨A6, c6, rfl, hA6⟩ := h6.out.1.form
      have HA6 := Lib.hid hA6
      replace HH := Lib.hid (HH.out.step h6.out.2)
      clear h6 hA6 hlb HLB g0 g1 j0 j1 j2 j3 j4
      obtain ⟨g0, g1, _⟩ := two_cells HH.out.gb
      obtain ⟨j0, j1, j2, j3, j4, _⟩ := jb_cells HH.out.jb
      have HDS := Lib.hid (Distances_any (Vn : Int) so A n c L w6 (HL.out.below HH.out.below) HN.out (by have := HN1.out; omega) (fun _ => by omega))
      obtain ⟨ds, hds⟩ : ∃ ds, disL (Vn : Int) L so = ds := ⟨_, rfl⟩
      rw [hds, dis_zero HE.out] at HDS
      have HDL := Lib.hid hds
      clear hds
      go_wp2_with fail
      refine HDS.out.mono ?_
      rintro e w7 ⟨vb, rfl, h7⟩
      obtain ⟨A7, c7, rfl, hA7⟩ := h7.out.1.form
      have HA7 := Lib.hid hA7
      have HA67 := Lib.hid (HA6.out.below h7.out.2)
      replace HH := Lib.hid (HH.out.step h7.out.2)
      clear h7 hA7 HDS HA6 g0 g1 j0 j1 j2 j3 j4
      obtain ⟨j0, j1, j2, j3, j4, _⟩ := jb_cells HH.out.jb
      obtain ⟨s0, s1, s2, s3, s4, s5, _⟩ := Sq.six HH.out.sb
      have hk3 := (chkJ_zero HE.out).2.2.2.1
      have HFU : Hid (k ≠ 1 → Mt k so (Vn : Int) L S.vals) := Lib.hid (fun hk => by rw [HSE.out]; exact run_full HE.out hk HNN.out.1 (Or.inr hVs) (run_le HE.out HNN.out.2.2))
      rcases hk3 with rfl | rfl | rfl
      · go_upto_region 11 with fail
        obtain ⟨g0, g1, _⟩ := two_cells HH.out.gb
        go_wp2_with fail
        refine (HPI.out _).mono ?_
        rintro e wp ⟨rfl, rfl⟩
        obtain ⟨s0, s1, s2, s3, s4, s5, _⟩ := Sq.six HH.out.sb
        obtain ⟨j0, j1, j2, j3, j4, _⟩ := jb_cells HH.out.jb
        obtain ⟨X, hX⟩ : ∃ X, vl S.vals u = X := ⟨_, rfl⟩
        have hu := HUV.out
        obtain ⟨q0, q1⟩ := NOwn.at_ HH.out.n1 HH.out.q (k := u) hu
        rw [hX] at q0
        have HX := Lib.hid hX
        clear hX
        by_cases hxv : X = x
        · go_wp2_with fail
          refine (wrk_any _).mono ?_
          rintro e w8 ⟨rfl, hb8⟩
          go_wp2
          go_ret
          exact ⟨rfl, (HH.out.step hb8.out).below⟩
        have hxv1 : (X == x) = false := by simpa using hxv
        by_cases hs6 : (N : Int) = st ∧ st < (Vn : Int)
        · obtain ⟨hs7, hs8⟩ := hs6
          first
          | (exfalso; omega)
          | (have hs11 : ((N : Int) == st) = true := by simpa using hs7
             clear hs7
             go_wp2_with fail
             refine (wrk_any _).mono ?_
             rintro e w8 ⟨rfl, hb8⟩
             go_wp2
             go_ret
             exact ⟨rfl, (HH.out.step hb8.out).below⟩)
        have HNS := Lib.hid hs6
        have HXV : Hid (S.vals.set u x ≠ (stS 1 so dm (Vn : Int).toNat L N).vals) := Lib.hid (by
          rw [← HSE.out]
          intro h
          have h2 := Pa.vl_set S.vals u x u (by rw [HH.out.n1]; exact hu)
          rw [h, if_pos rfl, HX.out] at h2
          exact hxv h2)
        have hs9 : ((N : Int) = st ∧ ¬ st < (Vn : Int)) ∨ ¬ (N : Int) = st := by omega
        clear hs6
        have hs10 : (((N : Int) == st) = true ∧ ¬ st < (Vn : Int)) ∨ ((N : Int) == st) = false := by
          rcases hs9 with ⟨h1, h2⟩ | h1
          · exact Or.inl ⟨by simpa using h1, h2⟩
          · exact Or.inr (by simpa using h1)
        clear hs9
        rcases hs10 with ⟨hs7, hs8⟩ | hs7
        all_goals try (exfalso; clear hs7; omega)
        all_goals
          have HP := Lib.hid (HH.out.put u x)
          go_upto_region 17 with fail
          clear g0 g1 j0 j1 j2 j3 j4 s0 s1 s2 s3 s4 s5 q0 q1
          generalize World.setCell _ ⟨g, u, none⟩ (.int .i64 x) = W9 at HP ⊢
          obtain ⟨g0, g1, _⟩ := two_cells HP.out.gb
          obtain ⟨j0, j1, j2, j3, j4, _⟩ := jb_cells HP.out.jb
          obtain ⟨s0, s1, s2, s3, s4, s5, _⟩ := Sq.six HP.out.sb
          have HM : Hid (Calls Tryz.prog 18 #[.agg #[.int .i64 (Vn : Int), .slice A n c], .agg #[.int .u8 1, .int .i64 st, .int .i64 so, .int .i64 dm, .int .i64 ep], .agg #[.int .i64 (N : Int), .slice (some ⟨g, 0, none⟩) an1 a1, .slice ac an2 a2, .slice ai an3 a3, .int .i64 S.sum, .int .i64 S.most]] W9 fun e w' => e = .returned (.bool false) ∧ Hid (Below W9.heap.size W9 w')) := Lib.hid (by
            refine (Means_any 1 st so dm ep (Vn : Int) (N : Int) N { S with vals := S.vals.set u x } A (some ⟨g, 0, none⟩) ac ai n c an1 a1 an2 a2 an3 a3 L W9 (HL.out.below HP.out.below) HN.out (by have := HN1.out; omega) (by omega) HE.out HNN.out HP.out.sat HP.out.f).mono ?_
            rintro e w' ⟨b, rfl, hb, hw⟩
            rw [run_other HE.out HNN.out HNS.out HXV.out hb.out]
            exact ⟨rfl, Lib.hid hw⟩)
          go_wp2_with fail
          refine HM.out.mono ?_
          rintro e wa ⟨rfl, hba⟩
          replace HP := Lib.hid (HP.out.step hba.out)
          clear hba HM g0 g1 j0 j1 j2 j3 j4 s0 s1 s2 s3 s4 s5
          go_wp2_with fail
          refine (wrk_any _).mono ?_
          rintro e wb ⟨rfl, hbb⟩
          go_wp2
          go_ret
          exact ⟨rfl, (HP.out.step hbb.out).below⟩
      · have hbe : lb = S.vals := by
          rcases HFU.out (by omega) with ⟨_, h⟩ | ⟨h, _⟩
          · exact HLC.out.one h
          · omega
        have hln : lb.length = an1 := by rw [hbe]; exact HH.out.n1
        have HC := Lib.hid (Sq.kitq_any (some ⟨g, 0, none⟩) A6 an1 an1 a1 c6 S.vals lb w7 HH.out.sat.v HA67.out HH.out.n1 hln (by have := HH.out.f; omega) (by have := HH.out.f; omega))
        rw [decide_eq_true hbe.symm] at HC
        rw [hln]
        clear hbe hln
        go_wp2_with fail
        refine HC.out.mono ?_
        rintro e w8 ⟨rfl, hb8⟩
        replace HH := Lib.hid (HH.out.step hb8)
        clear hb8 HC j0 j1 j2 j3 j4 s0 s1 s2 s3 s4 s5
        obtain ⟨j0, j1, j2, j3, j4, _⟩ := jb_cells HH.out.jb
        go_upto_region 11 with fail
        obtain ⟨g0, g1, _⟩ := two_cells HH.out.gb
        go_wp2_with fail
        refine (HPI.out _).mono ?_
        rintro e wp ⟨rfl, rfl⟩
        obtain ⟨s0, s1, s2, s3, s4, s5, _⟩ := Sq.six HH.out.sb
        obtain ⟨j0, j1, j2, j3, j4, _⟩ := jb_cells HH.out.jb
        obtain ⟨X, hX⟩ : ∃ X, vl S.vals u = X := ⟨_, rfl⟩
        have hu := HUV.out
        obtain ⟨q0, q1⟩ := NOwn.at_ HH.out.n1 HH.out.q (k := u) hu
        rw [hX] at q0
        have HX := Lib.hid hX
        clear hX
        by_cases hxv : X = x
        · go_wp2_with fail
          refine (wrk_any _).mono ?_
          rintro e w8 ⟨rfl, hb8⟩
          go_wp2
          go_ret
          exact ⟨rfl, (HH.out.step hb8.out).below⟩
        have hxv1 : (X == x) = false := by simpa using hxv
        by_cases hs6 : (N : Int) = st ∧ st < (Vn : Int)
        · obtain ⟨hs7, hs8⟩ := hs6
          first
          | (exfalso; omega)
          | (have hs11 : ((N : Int) == st) = true := by simpa using hs7
             clear hs7
             go_wp2_with fail
             refine (wrk_any _).mono ?_
             rintro e w8 ⟨rfl, hb8⟩
             go_wp2
             go_ret
             exact ⟨rfl, (HH.out.step hb8.out).below⟩)
        have HNS := Lib.hid hs6
        have HXV : Hid (S.vals.set u x ≠ (stS 2 so dm (Vn : Int).toNat L N).vals) := Lib.hid (by
          rw [← HSE.out]
          intro h
          have h2 := Pa.vl_set S.vals u x u (by rw [HH.out.n1]; exact hu)
          rw [h, if_pos rfl, HX.out] at h2
          exact hxv h2)
        have hs9 : ((N : Int) = st ∧ ¬ st < (Vn : Int)) ∨ ¬ (N : Int) = st := by omega
        clear hs6
        have hs10 : (((N : Int) == st) = true ∧ ¬ st < (Vn : Int)) ∨ ((N : Int) == st) = false := by
          rcases hs9 with ⟨h1, h2⟩ | h1
          · exact Or.inl ⟨by simpa using h1, h2⟩
          · exact Or.inr (by simpa using h1)
        clear hs9
        rcases hs10 with ⟨hs7, hs8⟩ | hs7
        all_goals try (exfalso; clear hs7; omega)
        all_goals
          have HP := Lib.hid (HH.out.put u x)
          go_upto_region 17 with fail
          clear g0 g1 j0 j1 j2 j3 j4 s0 s1 s2 s3 s4 s5 q0 q1
          generalize World.setCell _ ⟨g, u, none⟩ (.int .i64 x) = W9 at HP ⊢
          obtain ⟨g0, g1, _⟩ := two_cells HP.out.gb
          obtain ⟨j0, j1, j2, j3, j4, _⟩ := jb_cells HP.out.jb
          obtain ⟨s0, s1, s2, s3, s4, s5, _⟩ := Sq.six HP.out.sb
          have HM : Hid (Calls Tryz.prog 18 #[.agg #[.int .i64 (Vn : Int), .slice A n c], .agg #[.int .u8 2, .int .i64 st, .int .i64 so, .int .i64 dm, .int .i64 ep], .agg #[.int .i64 (N : Int), .slice (some ⟨g, 0, none⟩) an1 a1, .slice ac an2 a2, .slice ai an3 a3, .int .i64 S.sum, .int .i64 S.most]] W9 fun e w' => e = .returned (.bool false) ∧ Hid (Below W9.heap.size W9 w')) := Lib.hid (by
            refine (Means_any 2 st so dm ep (Vn : Int) (N : Int) N { S with vals := S.vals.set u x } A (some ⟨g, 0, none⟩) ac ai n c an1 a1 an2 a2 an3 a3 L W9 (HL.out.below HP.out.below) HN.out (by have := HN1.out; omega) (by omega) HE.out HNN.out HP.out.sat HP.out.f).mono ?_
            rintro e w' ⟨b, rfl, hb, hw⟩
            rw [run_other HE.out HNN.out HNS.out HXV.out hb.out]
            exact ⟨rfl, Lib.hid hw⟩)
          go_wp2_with fail
          refine HM.out.mono ?_
          rintro e wa ⟨rfl, hba⟩
          replace HP := Lib.hid (HP.out.step hba.out)
          clear hba HM g0 g1 j0 j1 j2 j3 j4 s0 s1 s2 s3 s4 s5
          go_wp2_with fail
          refine (wrk_any _).mono ?_
          rintro e wb ⟨rfl, hbb⟩
          go_wp2
          go_ret
          exact ⟨rfl, (HP.out.step hbb.out).below⟩
      · have hbe : ds = S.vals := by
          rcases HFU.out (by omega) with ⟨h, _⟩ | ⟨_, h⟩
          · omega
          · rw [h, ← HDL.out]; unfold disL; rw [if_pos (dis_zero HE.out)]
        have hln : ds.length = an1 := by rw [hbe]; exact HH.out.n1
        have HC := Lib.hid (Sq.kitq_any (some ⟨g, 0, none⟩) A7 an1 an1 a1 c7 S.vals ds w7 HH.out.sat.v HA7.out HH.out.n1 hln (by have := HH.out.f; omega) (by have := HH.out.f; omega))
        rw [decide_eq_true hbe.symm] at HC
        rw [hln]
        clear hbe hln
        go_wp2_with fail
        refine HC.out.mono ?_
        rintro e w8 ⟨rfl, hb8⟩
        replace HH := Lib.hid (HH.out.step hb8)
        clear hb8 HC j0 j1 j2 j3 j4 s0 s1 s2 s3 s4 s5
        obtain ⟨j0, j1, j2, j3, j4, _⟩ := jb_cells HH.out.jb
        go_upto_region 11 with fail
        obtain ⟨g0, g1, _⟩ := two_cells HH.out.gb
        go_wp2_with fail
        refine (HPI.out _).mono ?_
        rintro e wp ⟨rfl, rfl⟩
        obtain ⟨s0, s1, s2, s3, s4, s5, _⟩ := Sq.six HH.out.sb
        obtain ⟨j0, j1, j2, j3, j4, _⟩ := jb_cells HH.out.jb
        obtain ⟨X, hX⟩ : ∃ X, vl S.vals u = X := ⟨_, rfl⟩
        have hu := HUV.out
        obtain ⟨q0, q1⟩ := NOwn.at_ HH.out.n1 HH.out.q (k := u) hu
        rw [hX] at q0
        have HX := Lib.hid hX
        clear hX
        by_cases hxv : X = x
        · go_wp2_with fail
          refine (wrk_any _).mono ?_
          rintro e w8 ⟨rfl, hb8⟩
          go_wp2
          go_ret
          exact ⟨rfl, (HH.out.step hb8.out).below⟩
        have hxv1 : (X == x) = false := by simpa using hxv
        by_cases hs6 : (N : Int) = st ∧ st < (Vn : Int)
        · obtain ⟨hs7, hs8⟩ := hs6
          first
          | (exfalso; omega)
          | (have hs11 : ((N : Int) == st) = true := by simpa using hs7
             clear hs7
             go_wp2_with fail
             refine (wrk_any _).mono ?_
             rintro e w8 ⟨rfl, hb8⟩
             go_wp2
             go_ret
             exact ⟨rfl, (HH.out.step hb8.out).below⟩)
        have HNS := Lib.hid hs6
        have HXV : Hid (S.vals.set u x ≠ (stS 3 so dm (Vn : Int).toNat L N).vals) := Lib.hid (by
          rw [← HSE.out]
          intro h
          have h2 := Pa.vl_set S.vals u x u (by rw [HH.out.n1]; exact hu)
          rw [h, if_pos rfl, HX.out] at h2
          exact hxv h2)
        have hs9 : ((N : Int) = st ∧ ¬ st < (Vn : Int)) ∨ ¬ (N : Int) = st := by omega
        clear hs6
        have hs10 : (((N : Int) == st) = true ∧ ¬ st < (Vn : Int)) ∨ ((N : Int) == st) = false := by
          rcases hs9 with ⟨h1, h2⟩ | h1
          · exact Or.inl ⟨by simpa using h1, h2⟩
          · exact Or.inr (by simpa using h1)
        clear hs9
        rcases hs10 with ⟨hs7, hs8⟩ | hs7
        all_goals try (exfalso; clear hs7; omega)
        all_goals
          have HP := Lib.hid (HH.out.put u x)
          go_upto_region 17 with fail
          clear g0 g1 j0 j1 j2 j3 j4 s0 s1 s2 s3 s4 s5 q0 q1
          generalize World.setCell _ ⟨g, u, none⟩ (.int .i64 x) = W9 at HP ⊢
          obtain ⟨g0, g1, _⟩ := two_cells HP.out.gb
          obtain ⟨j0, j1, j2, j3, j4, _⟩ := jb_cells HP.out.jb
          obtain ⟨s0, s1, s2, s3, s4, s5, _⟩ := Sq.six HP.out.sb
          have HM : Hid (Calls Tryz.prog 18 #[.agg #[.int .i64 (Vn : Int), .slice A n c], .agg #[.int .u8 3, .int .i64 st, .int .i64 so, .int .i64 dm, .int .i64 ep], .agg #[.int .i64 (N : Int), .slice (some ⟨g, 0, none⟩) an1 a1, .slice ac an2 a2, .slice ai an3 a3, .int .i64 S.sum, .int .i64 S.most]] W9 fun e w' => e = .returned (.bool false) ∧ Hid (Below W9.heap.size W9 w')) := Lib.hid (by
            refine (Means_any 3 st so dm ep (Vn : Int) (N : Int) N { S with vals := S.vals.set u x } A (some ⟨g, 0, none⟩) ac ai n c an1 a1 an2 a2 an3 a3 L W9 (HL.out.below HP.out.below) HN.out (by have := HN1.out; omega) (by omega) HE.out HNN.out HP.out.sat HP.out.f).mono ?_
            rintro e w' ⟨b, rfl, hb, hw⟩
            rw [run_other HE.out HNN.out HNS.out HXV.out hb.out]
            exact ⟨rfl, Lib.hid hw⟩)
          go_wp2_with fail
          refine HM.out.mono ?_
          rintro e wa ⟨rfl, hba⟩
          replace HP := Lib.hid (HP.out.step hba.out)
          clear hba HM g0 g1 j0 j1 j2 j3 j4 s0 s1 s2 s3 s4 s5
          go_wp2_with fail
          refine (wrk_any _).mono ?_
          rintro e wb ⟨rfl, hbb⟩
          go_wp2
          go_ret
          exact ⟨rfl, (HP.out.step hbb.out).below⟩
    · go_upto_region 11 with fail
      obtain ⟨g0, g1, _⟩ := two_cells HH.out.gb
      go_wp2_with fail
      refine (HPI.out _).mono ?_
      rintro e wp ⟨rfl, rfl⟩
      obtain ⟨s0, s1, s2, s3, s4, s5, _⟩ := Sq.six HH.out.sb
      obtain ⟨j0, j1, j2, j3, j4, _⟩ := jb_cells HH.out.jb
      obtain ⟨X, hX⟩ : ∃ X, vl S.vals u = X := ⟨_, rfl⟩
      have hu := HUV.out
      obtain ⟨q0, q1⟩ := NOwn.at_ HH.out.n1 HH.out.q (k := u) hu
      rw [hX] at q0
      have HX := Lib.hid hX
      clear hX
      by_cases hxv : X = x
      · go_wp2_with fail
        refine (wrk_any _).mono ?_
        rintro e w8 ⟨rfl, hb8⟩
        go_wp2
        go_ret
        exact ⟨rfl, (HH.out.step hb8.out).below⟩
      have hxv1 : (X == x) = false := by simpa using hxv
      by_cases hs6 : (N : Int) = st ∧ st < (Vn : Int)
      · obtain ⟨hs7, hs8⟩ := hs6
        first
        | (exfalso; omega)
        | (have hs11 : ((N : Int) == st) = true := by simpa using hs7
           clear hs7
           go_wp2_with fail
           refine (wrk_any _).mono ?_
           rintro e w8 ⟨rfl, hb8⟩
           go_wp2
           go_ret
           exact ⟨rfl, (HH.out.step hb8.out).below⟩)
      have HNS := Lib.hid hs6
      have HXV : Hid (S.vals.set u x ≠ (stS k so dm (Vn : Int).toNat L N).vals) := Lib.hid (by
        rw [← HSE.out]
        intro h
        have h2 := Pa.vl_set S.vals u x u (by rw [HH.out.n1]; exact hu)
        rw [h, if_pos rfl, HX.out] at h2
        exact hxv h2)
      have hs9 : ((N : Int) = st ∧ ¬ st < (Vn : Int)) ∨ ¬ (N : Int) = st := by omega
      clear hs6
      have hs10 : (((N : Int) == st) = true ∧ ¬ st < (Vn : Int)) ∨ ((N : Int) == st) = false := by
        rcases hs9 with ⟨h1, h2⟩ | h1
        · exact Or.inl ⟨by simpa using h1, h2⟩
        · exact Or.inr (by simpa using h1)
      clear hs9
      rcases hs10 with ⟨hs7, hs8⟩ | hs7
      all_goals try (exfalso; clear hs7; omega)
      all_goals
        have HP := Lib.hid (HH.out.put u x)
        go_upto_region 17 with fail
        clear g0 g1 j0 j1 j2 j3 j4 s0 s1 s2 s3 s4 s5 q0 q1
        generalize World.setCell _ ⟨g, u, none⟩ (.int .i64 x) = W9 at HP ⊢
        obtain ⟨g0, g1, _⟩ := two_cells HP.out.gb
        obtain ⟨j0, j1, j2, j3, j4, _⟩ := jb_cells HP.out.jb
        obtain ⟨s0, s1, s2, s3, s4, s5, _⟩ := Sq.six HP.out.sb
        have HM : Hid (Calls Tryz.prog 18 #[.agg #[.int .i64 (Vn : Int), .slice A n c], .agg #[.int .u8 k, .int .i64 st, .int .i64 so, .int .i64 dm, .int .i64 ep], .agg #[.int .i64 (N : Int), .slice (some ⟨g, 0, none⟩) an1 a1, .slice ac an2 a2, .slice ai an3 a3, .int .i64 S.sum, .int .i64 S.most]] W9 fun e w' => e = .returned (.bool false) ∧ Hid (Below W9.heap.size W9 w')) := Lib.hid (by
          refine (Means_any k st so dm ep (Vn : Int) (N : Int) N { S with vals := S.vals.set u x } A (some ⟨g, 0, none⟩) ac ai n c an1 a1 an2 a2 an3 a3 L W9 (HL.out.below HP.out.below) HN.out (by have := HN1.out; omega) (by omega) HE.out HNN.out HP.out.sat HP.out.f).mono ?_
          rintro e w' ⟨b, rfl, hb, hw⟩
          rw [run_other HE.out HNN.out HNS.out HXV.out hb.out]
          exact ⟨rfl, Lib.hid hw⟩)
        go_wp2_with fail
        refine HM.out.mono ?_
        rintro e wa ⟨rfl, hba⟩
        replace HP := Lib.hid (HP.out.step hba.out)
        clear hba HM g0 g1 j0 j1 j2 j3 j4 s0 s1 s2 s3 s4 s5
        go_wp2_with fail
        refine (wrk_any _).mono ?_
        rintro e wb ⟨rfl, hbb⟩
        go_wp2
        go_ret
        exact ⟨rfl, (HP.out.step hbb.out).below⟩
end Go.Proofs.YtdcaekmgfcpbmaaGreat.Mn
