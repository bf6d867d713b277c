/-
  What is proved here: a contract of seq.Run. Conditions: at most 1000 edges; numbers that fit an int. What is proved here: what a call of the document's of a state gives can be read, of few vertices; some superstep is the first that is done. Conditions: none.
-/
import Derived.Test.YtdcaekmgfcpbmaaGreatQcSqAtx
import Derived.Test.YtdcaekmgfcpbmaaGreatQcSqEq
namespace Go.Proofs.YtdcaekmgfcpbmaaGreat.Sq
open Go.RowKit Go.Shelf Gr Wd Ws Fx Rk Lb Al In
open Pa (vl bt vl_of vl_at bt_of bt_at)
def runR (k st so dm ep V : Int) (L : List Ed) (N : Nat) : Int × Sq × Int := if chkJ k st so dm ep V L = 0 then ((N : Int), stS k so dm V.toNat L N, 0) else (0, zS, chkJ k st so dm ep V L)
set_option maxRecDepth 100000 in
set_option maxHeartbeats 600000 in
theorem seqRun_any (k st so dm ep V : Int) (A : Option Addr) (n c : Nat) (L : List Ed) (N : Nat) (w : World) (hL : EAt w A L) (hn : L.length = n) (hm : n ≤ 1000) (hN : chkJ k st so dm ep V L = 0 → donB k st ep (N : Int) (stS k so dm V.toNat L N).most = true ∧ N ≤ 2000 ∧ ∀ i : Nat, i < N → donB k st ep (i : Int) (stS k so dm V.toNat L i).most = false) :
    Calls Tryz.prog 17 #[.agg #[.int .i64 V, .slice A n c], .agg #[.int .u8 k, .int .i64 st, .int .i64 so, .int .i64 dm, .int .i64 ep]] w fun e w' => Res w w' e (runR k st so dm ep V L N) := by
  have mixed := mixedI
  have HL := Lib.hid hL; have HN := Lib.hid hn
  clear hL hn
  obtain ⟨W3, hW3⟩ : ∃ W3, W3 = ((w.alloc (.cells #[.int .i64 V, .slice A n c] 24)).alloc (.cells #[.int .u8 k, .int .i64 st, .int .i64 so, .int .i64 dm, .int .i64 ep] 40)).alloc (.cells #[.int .i64 0, .slice none 0 0, .slice none 0 0, .slice none 0 0, .int .i64 0, .int .i64 0] 45) := ⟨_, rfl⟩
  have hal := al3 w (.cells #[.int .i64 V, .slice A n c] 24) (.cells #[.int .u8 k, .int .i64 st, .int .i64 so, .int .i64 dm, .int .i64 ep] 40) (.cells #[.int .i64 0, .slice none 0 0, .slice none 0 0, .slice none 0 0, .int .i64 0, .int .i64 0] 45)
  rw [← hW3] at hal
  obtain ⟨n0, e0⟩ : ∃ n0, n0 = w.heap.size := ⟨_, rfl⟩
  have HG : Hid (W3.heap[n0]? = some (.cells #[.int .i64 V, .slice A n c] 24 (0, 0))) := Lib.hid (by rw [e0]; exact hal.1)
  have HJ : Hid (W3.heap[n0 + 1]? = some (.cells #[.int .u8 k, .int .i64 st, .int .i64 so, .int .i64 dm, .int .i64 ep] 40 (0, 0))) := Lib.hid (by rw [e0]; exact hal.2.1)
  have HR : Hid (W3.heap[n0 + 1 + 1]? = some (.cells #[.int .i64 0, .slice none 0 0, .slice none 0 0, .slice none 0 0, .int .i64 0, .int .i64 0] 45 (0, 0))) := Lib.hid (by rw [e0]; exact hal.2.2.1)
  have HB := Lib.hid hal.2.2.2
  have HN0 : Hid (w.heap.size ≤ n0) := Lib.hid (by omega)
  clear hal
  obtain ⟨g0, g1, _⟩ := two HG.out
  obtain ⟨j0, j1, j2, j3, j4, _⟩ := jb_cells HJ.out
  obtain ⟨E, hE⟩ : ∃ E, E = chkJ k st so dm ep V L := ⟨_, rfl⟩
  have HC : Hid (∀ W, Below w.heap.size w W → Calls Tryz.prog 16 #[.agg #[.int .i64 V, .slice A n c], .agg #[.int .u8 k, .int .i64 st, .int .i64 so, .int .i64 dm, .int .i64 ep]] W fun e w' => e = .returned (.int .i64 E) ∧ Below W.heap.size W w') := Lib.hid (fun W h => by
    rw [hE, ← HN.out]
    exact checkj_any k st so dm ep V A c L W (HL.out.below h) (by rw [HN.out]; omega))
  have HE := Lib.hid hE
  clear hE
  go_enter Tryz.func17, Tryz.ntmps17
  go_upto_region 1 with fail
  rw [← hW3, show w.heap.size = n0 from e0.symm]
  clear hW3 e0
  go_wp2_with fail
  refine (HC.out _ HB.out).mono ?_
  rintro e w4 ⟨rfl, hb4⟩
  have HG4 := Lib.hid (keep HG.out hb4); have HJ4 := Lib.hid (keep HJ.out hb4); have HR4 := Lib.hid (keep HR.out hb4)
  have HB4 := Lib.hid (step_below HB.out HB.out.size hb4)
  clear hb4 g0 g1 j0 j1 j2 j3 j4 HG HJ HR HB HC
  by_cases hE0 : E = 0
  · subst hE0
    obtain ⟨hz, hst0, hst1, hk, hd0, hd1⟩ := chkJ_zero HE.out.symm
    obtain ⟨Vn, rfl, hV1, hV2, hfit⟩ := chk_facts hz
    have HGO : Hid (∀ q, GoS k Vn L (stS k so dm Vn L q)) := Lib.hid (fun q => go_all hz (fun _ => ⟨hd0, hd1⟩) q)
    have HFI := Lib.hid hfit
    have HDM : Hid (I63 dm) := Lib.hid (by unfold I63; omega)
    have HKK := Lib.hid hk; have HST := Lib.hid hst0
    clear hfit hz hst0 hst1 hk hd0 hd1
    obtain ⟨g0, g1, _⟩ := two HG4.out
    obtain ⟨j0, j1, j2, j3, j4, _⟩ := jb_cells HJ4.out
    obtain ⟨hN1, hN2, hN3⟩ : donB k st ep (N : Int) (stS k so dm Vn L N).most = true ∧ N ≤ 2000 ∧ ∀ i : Nat, i < N → donB k st ep (i : Int) (stS k so dm Vn L i).most = false := hN HE.out.symm
    have HDN := Lib.hid hN1; have HDF := Lib.hid hN3
    have HZ0 : Hid (∀ q, q = N → runR k st so dm ep (Vn : Int) L N = ((q : Int), stS k so dm Vn L q, 0)) := Lib.hid (fun q e => by subst e; unfold runR; rw [if_pos HE.out.symm]; rfl)
    clear hN hN1 hN3
    go_wp2_with fail
    refine (course_any k st so dm ep Vn A c n L w4 (HL.out.below HB4.out) HN.out.symm (by rw [HN.out]; omega) hV2).mono ?_
    rintro e w5 ⟨v, rfl, hv, hb5⟩
    obtain ⟨Ae, ce, rfl, _⟩ := hv.out.form
    rw [egs_len] at hv ⊢
    have HV5 := hv
    have HB5 := Lib.hid (step_below HB4.out HB4.out.size hb5.out)
    have HR5 := Lib.hid (keep HR4.out hb5.out); have HJ5 := Lib.hid (keep HJ4.out hb5.out)
    clear hb5 g0 g1 j0 j1 j2 j3 j4 hv
    obtain ⟨W6, hW6⟩ : ∃ W6, W6 = w5.alloc (.cells #[.int .u8 k, .int .i64 st, .int .i64 so, .int .i64 dm, .int .i64 ep, .slice Ae Vn ce] 71) := ⟨_, rfl⟩
    have hb6 : Below w5.heap.size w5 W6 := by rw [hW6]; exact (Below.refl _ w5).alloc (Nat.le_refl _) _
    obtain ⟨b9, eb9⟩ : ∃ b9, b9 = w5.heap.size := ⟨_, rfl⟩
    have HC6 : Hid (W6.heap[b9]? = some (.cells #[.int .u8 k, .int .i64 st, .int .i64 so, .int .i64 dm, .int .i64 ep, .slice Ae Vn ce] 71 (0, 0))) := Lib.hid (by rw [hW6, eb9]; exact heap_alloc_new w5 _)
    have HB6 := Lib.hid (step_below HB5.out HB5.out.size hb6)
    have HR6 := Lib.hid (keep HR5.out hb6); have HJ6 := Lib.hid (keep HJ5.out hb6)
    have HV6 := Lib.hid (HV5.out.below hb6)
    have HB9 : Hid (n0 + 1 + 1 < b9) := Lib.hid (by rw [eb9]; exact lt_of_block HR5.out)
    go_upto_region 5 with fail
    rw [← hW6, show w5.heap.size = b9 from eb9.symm]
    clear hW6 hb6 eb9 HR5 HJ5 HV5
    obtain ⟨c0, c1, c2, c3, c4, c5, _⟩ := six HC6.out
    go_wp2_with fail
    refine (sstart_any k st so dm ep Vn L Ae ce w4.heap.size W6 HV6.out hV2 (by rw [HN.out]; omega) HFI.out).mono ?_
    rintro e w7 ⟨x, rfl, hx, hb7⟩
    have HX7 := hx
    have HB7 := Lib.hid (step_below HB6.out HB6.out.size hb7.out)
    have HR7 := Lib.hid (keep HR6.out hb7.out); have HC7 := Lib.hid (keep HC6.out hb7.out); have HJ7 := Lib.hid (keep HJ6.out hb7.out); have HV7 := Lib.hid (HV6.out.below hb7.out)
    have HZ7 : Hid (b9 < w7.heap.size) := Lib.hid (lt_of_block HC7.out)
    have HM7 : Hid (w.heap.size ≤ W6.heap.size) := Lib.hid HB6.out.size
    clear hb7 hx c0 c1 c2 c3 c4 c5 HR6 HC6 HJ6 HV6
    obtain ⟨Av, cv, Ac, cc, Ai, ci, rfl, ⟨hq0, hm0, hk0⟩⟩ := HX7.out.at'
    rw [show strS k so Vn L = stS k so dm Vn L 0 from rfl] at HX7 hq0 hm0 hk0 ⊢
    obtain ⟨s0, hs0⟩ : ∃ s0, s0 = stS k so dm Vn L 0 := ⟨_, rfl⟩
    rw [← hs0] at HX7 hq0 hm0 hk0 ⊢
    obtain ⟨a1, ha1⟩ : ∃ a, a = s0.vals.length := ⟨_, rfl⟩
    obtain ⟨a2, ha2⟩ : ∃ a, a = s0.chg.length := ⟨_, rfl⟩
    obtain ⟨a3, ha3⟩ : ∃ a, a = s0.inb.length := ⟨_, rfl⟩
    rw [← ha1, ← ha2, ← ha3] at HX7 ⊢
    rw [← ha1] at hq0; rw [← ha2] at hm0; rw [← ha3] at hk0
    clear ha1 ha2 ha3
    obtain ⟨W8, hW8⟩ : ∃ W8, W8 = w7.alloc (.cells #[.int .i64 0, .slice Av a1 cv, .slice Ac a2 cc, .slice Ai a3 ci, .int .i64 s0.sum, .int .i64 s0.most] 45) := ⟨_, rfl⟩
    have hb8 : Below w7.heap.size w7 W8 := by rw [hW8]; exact (Below.refl _ w7).alloc (Nat.le_refl _) _
    obtain ⟨b10, eb10⟩ : ∃ b10, b10 = w7.heap.size := ⟨_, rfl⟩
    obtain ⟨fx, hfx⟩ : ∃ fx : Fxd, fx = [(n0 + 1, #[.int .u8 k, .int .i64 st, .int .i64 so, .int .i64 dm, .int .i64 ep], 40), (n0 + 1 + 1, #[.int .i64 0, .slice none 0 0, .slice none 0 0, .slice none 0 0, .int .i64 0, .int .i64 0], 45), (b9, #[.int .u8 k, .int .i64 st, .int .i64 so, .int .i64 dm, .int .i64 ep, .slice Ae Vn ce], 71)] := ⟨_, rfl⟩
    have HH8 : Hid (LpH w W8 b10 w.heap.size w4.heap.size fx ((0 : Nat) : Int) (stS k so dm Vn L 0) (.slice Ae Vn ce) (egs Vn L)) := Lib.hid (by
      refine ⟨step_below HB7.out HB7.out.size hb8, ?_, ⟨.slice Av a1 cv, .slice Ac a2 cc, .slice Ai a3 ci, ?_, (own_mono (own_below (hs0 ▸ hq0) hb8) HM7.out), (own_mono (own_below (hs0 ▸ hm0) hb8) HM7.out), (own_mono (own_below (hs0 ▸ hk0) hb8) HM7.out)⟩, HV7.out.below hb8, ?_, by rw [eb10]; exact HB7.out.size⟩
      · rw [hfx]; intro p hp
        simp only [List.mem_cons, List.not_mem_nil, or_false] at hp
        rcases hp with rfl | rfl | rfl
        · exact keep HJ7.out hb8
        · exact keep HR7.out hb8
        · exact keep HC7.out hb8
      · rw [hW8, eb10, ← hs0]; exact heap_alloc_new w7 _
      · rw [hfx]; intro p hp
        have h9 := HB9.out
        have h7 := HZ7.out
        simp only [List.mem_cons, List.not_mem_nil, or_false] at hp
        rcases hp with rfl | rfl | rfl <;> (simp only []; omega))
    have HF1 : Hid (∀ W i s, LpH w W b10 w.heap.size w4.heap.size fx i s (.slice Ae Vn ce) (egs Vn L) → W.heap[n0 + 1]? = some (.cells #[.int .u8 k, .int .i64 st, .int .i64 so, .int .i64 dm, .int .i64 ep] 40 (0, 0))) := Lib.hid (fun W i s h => h.fixed (n0 + 1, #[.int .u8 k, .int .i64 st, .int .i64 so, .int .i64 dm, .int .i64 ep], 40) (by rw [hfx]; exact List.mem_cons_self))
    have HF2 : Hid (∀ W i s, LpH w W b10 w.heap.size w4.heap.size fx i s (.slice Ae Vn ce) (egs Vn L) → W.heap[n0 + 1 + 1]? = some (.cells #[.int .i64 0, .slice none 0 0, .slice none 0 0, .slice none 0 0, .int .i64 0, .int .i64 0] 45 (0, 0))) := Lib.hid (fun W i s h => h.fixed (n0 + 1 + 1, #[.int .i64 0, .slice none 0 0, .slice none 0 0, .slice none 0 0, .int .i64 0, .int .i64 0], 45) (by rw [hfx]; exact List.mem_cons_of_mem _ List.mem_cons_self))
    have HF3 : Hid (∀ W i s, LpH w W b10 w.heap.size w4.heap.size fx i s (.slice Ae Vn ce) (egs Vn L) → W.heap[b9]? = some (.cells #[.int .u8 k, .int .i64 st, .int .i64 so, .int .i64 dm, .int .i64 ep, .slice Ae Vn ce] 71 (0, 0))) := Lib.hid (fun W i s h => h.fixed (b9, #[.int .u8 k, .int .i64 st, .int .i64 so, .int .i64 dm, .int .i64 ep, .slice Ae Vn ce], 71) (by rw [hfx]; exact List.mem_cons_of_mem _ (List.mem_cons_of_mem _ List.mem_cons_self)))
    clear hs0 hfx hq0 hm0 hk0
    go_wp2_with fail
    rw [← hW8, show w7.heap.size = b10 from eb10.symm]
    clear hW8 hb8 eb10 HX7 HR7 HC7 HJ7 HV7 HB7 HZ7 HM7
    go_loopg [] N (fun gk wr => ∃ q : Nat, q + gk = N ∧ Hid (LpH w wr b10 w.heap.size w4.heap.size fx (q : Int) (stS k so dm Vn L q) (.slice Ae Vn ce) (egs Vn L)))
    case atStart => exact ⟨0, by omega, HH8⟩
    case round =>
      clear HH8
      obtain ⟨q, hq, HH⟩ := hrel
      by_cases hlt : q < N
      · have HDQ := Lib.hid (HDF.out q hlt)
        obtain ⟨va, vc, vi, hbs, hq0, hm0, hk0⟩ := HH.out.rows
        have FIT := Lib.hid (fit_go (HGO.out q))
        obtain ⟨S, hS⟩ : ∃ S, S = stS k so dm Vn L q := ⟨_, rfl⟩
        rw [← hS] at hbs hq0 hm0 hk0 FIT HH HDQ
        have HS := Lib.hid hS
        clear hS
        obtain ⟨Av, cv, rfl, hv0⟩ := hq0.form
        obtain ⟨Ac, cc, rfl, hc0⟩ := hm0.form
        obtain ⟨Ai, ci, rfl, hi0, _⟩ := hk0.room
        have hsv : SAt wr Av Ac Ai S.vals.length S.chg.length S.inb.length S := ⟨hv0, hc0, hi0, rfl, rfl, rfl⟩
        rw [FIT.out.nv, FIT.out.ni] at hbs
        obtain ⟨a2, ha2⟩ : ∃ a, a = S.chg.length := ⟨_, rfl⟩
        rw [← ha2] at hbs
        clear ha2 hq0 hm0 hk0 hv0 hc0 hi0
        have HSB := Lib.hid hbs
        clear hbs
        obtain ⟨x0, x1, x2, x3, x4, x5, _⟩ := six HSB.out
        obtain ⟨c0, c1, c2, c3, c4, c5, _⟩ := six (HF3.out _ _ _ HH.out)
        obtain ⟨j0, j1, j2, j3, j4, _⟩ := jb_cells (HF1.out _ _ _ HH.out)
        have HDC : Hid (Calls Tryz.prog 37 #[.agg #[.int .u8 k, .int .i64 st, .int .i64 so, .int .i64 dm, .int .i64 ep], .int .i64 (q : Int), .int .i64 S.most] wr fun e w' => e = .returned (.bool false) ∧ Below wr.heap.size wr w') := Lib.hid (by
          have h := done_any k st so dm ep (q : Int) S.most wr
          rw [show donB k st ep (q : Int) S.most = false from HDQ.out] at h; exact h)
        go_wp2_with fail
        refine HDC.out.mono ?_
        rintro e wq ⟨rfl, hbq⟩
        have HHq := Lib.hid (HH.out.step hbq)
        have HSBq := Lib.hid (keep HSB.out hbq)
        have hsvq := hsv.below hbq
        clear hbq x0 x1 x2 x3 x4 x5 c0 c1 c2 c3 c4 c5 j0 j1 j2 j3 j4 HDC HH HSB hsv HDQ
        obtain ⟨x0, x1, x2, x3, x4, x5, _⟩ := six HSBq.out
        obtain ⟨c0, c1, c2, c3, c4, c5, _⟩ := six (HF3.out _ _ _ HHq.out)
        go_wp2_with fail
        refine (next_any k st so dm ep (q : Int) Vn L Ae Av Ac Ai ce cv cc ci a2 w4.heap.size S wq HHq.out.edges hsvq.v hsvq.i FIT.out.nv FIT.out.ni FIT.out.v FIT.out.i FIT.out.sm (nxt_i63 FIT.out.v FIT.out.i) HDM.out ⟨by omega, by omega⟩ hV2 (by rw [HN.out]; omega) HFI.out).mono ?_
        rintro e w9 ⟨x, rfl, hx, hb9⟩
        have HH9 := Lib.hid (HHq.out.step hb9.out)
        have HX9 := Lib.hid (hx.out.mono HHq.out.below.size)
        clear hx hb9 hsvq HSBq c0 c1 c2 c3 c4 c5 x0 x1 x2 x3 x4 x5 FIT
        obtain ⟨Bv, dv, Bc, dc, Bi, di, rfl, ⟨hq1, hm1, hk1⟩⟩ := HX9.out.at'
        obtain ⟨T, hT⟩ : ∃ T, nxtS k dm Vn L S = T := ⟨_, rfl⟩
        rw [hT] at HX9 hq1 hm1 hk1 ⊢
        have HT : Hid (T = stS k so dm Vn L (q + 1)) := Lib.hid (by rw [← hT, HS.out]; exact (stS_next k so dm Vn L q).symm)
        clear hT
        obtain ⟨m1, hm1'⟩ : ∃ a, a = T.vals.length := ⟨_, rfl⟩
        obtain ⟨m2, hm2'⟩ : ∃ a, a = T.chg.length := ⟨_, rfl⟩
        obtain ⟨m3, hm3'⟩ : ∃ a, a = T.inb.length := ⟨_, rfl⟩
        rw [← hm1', ← hm2', ← hm3'] at HX9 ⊢
        rw [← hm1'] at hq1; rw [← hm2'] at hm1; rw [← hm3'] at hk1
        clear hm1' hm2' hm3'
        have HP := Lib.hid (HH9.out.put (j := (q : Int) + 1) hq1 hm1 hk1)
        obtain ⟨z1, z2, z3, hzb, _, _, _⟩ := HH9.out.rows
        obtain ⟨y0, y1, y2, y3, y4, y5, yl⟩ := six hzb
        have f0 := warm hzb 0; have f1 := warm hzb 1; have f2 := warm hzb 2; have f3 := warm hzb 3; have f4 := warm hzb 4; have f5 := warm hzb 5
        clear hzb hq1 hm1 hk1 HX9 HHq HH9
        go_wp2
        go_roundg (gk - 1)
        case measure => omega
        case rel =>
          refine ⟨q + 1, by omega, ?_⟩
          have h := HP.out
          unfold put6 at h
          rw [← HT.out, show ((q + 1 : Nat) : Int) = (q : Int) + 1 from rfl]
          exact Lib.hid h
      · obtain rfl : q = N := by omega
        have HZ := Lib.hid (HZ0.out q rfl)
        clear HZ0
        obtain ⟨va, vc, vi, hbs, hq0, hm0, hk0⟩ := HH.out.rows
        obtain ⟨Av, cv, rfl, _⟩ := hq0.form
        obtain ⟨Ac, cc, rfl, _⟩ := hm0.form
        obtain ⟨Ai, ci, rfl, _⟩ := hk0.room
        have HDQ := HDN
        obtain ⟨S, hS⟩ : ∃ S, stS k so dm Vn L q = S := ⟨_, rfl⟩
        rw [hS] at HDQ
        rw [hS] at hbs hq0 hm0 hk0 HZ
        clear hS
        obtain ⟨a1, ha1⟩ : ∃ a, a = S.vals.length := ⟨_, rfl⟩
        obtain ⟨a2, ha2⟩ : ∃ a, a = S.chg.length := ⟨_, rfl⟩
        obtain ⟨a3, ha3⟩ : ∃ a, a = S.inb.length := ⟨_, rfl⟩
        rw [← ha1, ← ha2, ← ha3] at hbs
        rw [← ha1] at hq0; rw [← ha2] at hm0; rw [← ha3] at hk0
        clear ha1 ha2 ha3
        have HBS := Lib.hid hbs; have HQ0 := Lib.hid hq0; have HM0 := Lib.hid hm0; have HK0 := Lib.hid hk0
        have HRB := Lib.hid (HF2.out _ _ _ HH.out)
        clear hbs hq0 hm0 hk0
        obtain ⟨x0, x1, x2, x3, x4, x5, _⟩ := six HBS.out
        obtain ⟨r0, r1, r2, r3, r4, r5, rl⟩ := six HRB.out
        have f0 := warm HRB.out 0; have f1 := warm HRB.out 1; have f2 := warm HRB.out 2; have f3 := warm HRB.out 3; have f4 := warm HRB.out 4; have f5 := warm HRB.out 5
        obtain ⟨j0, j1, j2, j3, j4, _⟩ := jb_cells (HF1.out _ _ _ HH.out)
        have HDC : Hid (Calls Tryz.prog 37 #[.agg #[.int .u8 k, .int .i64 st, .int .i64 so, .int .i64 dm, .int .i64 ep], .int .i64 (q : Int), .int .i64 S.most] wr fun e w' => e = .returned (.bool true) ∧ Below wr.heap.size wr w') := Lib.hid (by
          have h := done_any k st so dm ep (q : Int) S.most wr
          rw [show donB k st ep (q : Int) S.most = true from HDQ.out] at h; exact h)
        clear r0 r1 r2 r3 r4 r5 rl f0 f1 f2 f3 f4 f5
        go_wp2_with fail
        refine HDC.out.mono ?_
        rintro e wq ⟨rfl, hbq⟩
        have HBSq := Lib.hid (keep HBS.out hbq); have HRBq := Lib.hid (keep HRB.out hbq); have HQq := Lib.hid (HQ0.out.below hbq); have HMq := Lib.hid (HM0.out.below hbq); have HKq := Lib.hid (HK0.out.below hbq)
        have HBq := Lib.hid (step_below HH.out.below HH.out.below.size hbq)
        clear hbq x0 x1 x2 x3 x4 x5 j0 j1 j2 j3 j4 HDC
        obtain ⟨x0, x1, x2, x3, x4, x5, _⟩ := six HBSq.out
        obtain ⟨r0, r1, r2, r3, r4, r5, rl⟩ := six HRBq.out
        have f0 := warm HRBq.out 0; have f1 := warm HRBq.out 1; have f2 := warm HRBq.out 2; have f3 := warm HRBq.out 3; have f4 := warm HRBq.out 4; have f5 := warm HRBq.out 5
        go_wp2
        have hX := put6_heap HRBq.out (.int .i64 (q : Int)) (.slice Av a1 cv) (.slice Ac a2 cc) (.slice Ai a3 ci) (.int .i64 S.sum) (.int .i64 S.most)
        have hBX := put6_below HBq.out (b := n0 + 1 + 1) (by have := HN0.out; omega) (.int .i64 (q : Int)) (.slice Av a1 cv) (.slice Ac a2 cc) (.slice Ai a3 ci) (.int .i64 S.sum) (.int .i64 S.most)
        have h1 := put6_moved HQq.out HRBq.out (by decide) (.int .i64 (q : Int)) (.slice Av a1 cv) (.slice Ac a2 cc) (.slice Ai a3 ci) (.int .i64 S.sum) (.int .i64 S.most)
        have h2 := put6_moved HMq.out HRBq.out (by decide) (.int .i64 (q : Int)) (.slice Av a1 cv) (.slice Ac a2 cc) (.slice Ai a3 ci) (.int .i64 S.sum) (.int .i64 S.most)
        have h3 := put6_moved HKq.out HRBq.out (by decide) (.int .i64 (q : Int)) (.slice Av a1 cv) (.slice Ac a2 cc) (.slice Ai a3 ci) (.int .i64 S.sum) (.int .i64 S.most)
        unfold put6 at hX hBX h1 h2 h3
        exact bodyPost_ret (v := .tuple #[.agg #[.int .i64 (q : Int), .slice Av a1 cv, .slice Ac a2 cc, .slice Ai a3 ci, .int .i64 S.sum, .int .i64 S.most], .int .i64 0]) (res2_s _ _ _ _ _ _ _ _ _ _ _ _ _ Tryz.results17 rfl rfl hX) rfl ⟨_, by rw [HZ.out], Lib.hid (by rw [HZ.out]; exact ⟨_, _, _, rfl, h1, h2, h3⟩), Lib.hid hBX⟩

  · have hq : runR k st so dm ep V L N = (0, zS, E) := by unfold runR; rw [if_neg (by rw [← HE.out]; exact hE0), ← HE.out]
    obtain ⟨r0, r1, r2, r3, r4, r5, rl⟩ := six HR4.out
    have f0 := warm HR4.out 0; have f1 := warm HR4.out 1; have f2 := warm HR4.out 2; have f3 := warm HR4.out 3; have f4 := warm HR4.out 4; have f5 := warm HR4.out 5
    have HQ := Lib.hid hq
    clear hq
    go_wp2
    obtain ⟨hX, hRes⟩ := bad_res HQ.out HB4.out (b := n0 + 1 + 1) (by have := HN0.out; omega) HR4.out
    unfold put6 at hX hRes
    exact bodyPost_ret (v := .tuple #[.agg #[.int .i64 0, .slice none 0 0, .slice none 0 0, .slice none 0 0, .int .i64 0, .int .i64 0], .int .i64 E]) (res2_s _ _ _ _ _ _ _ _ _ _ _ _ _ Tryz.results17 rfl rfl hX) rfl hRes
end Go.Proofs.YtdcaekmgfcpbmaaGreat.Sq
namespace Go.Proofs.YtdcaekmgfcpbmaaGreat.Mn
open Go.RowKit Go.Shelf Gr Wd Ws Fx Rk Lb Al In Sq
open Pa (vl bt vl_of vl_at bt_of bt_at)
def SRes (w w' : World) (e : Ending) (p : Int) (S : Sq) (E : Int) : Prop := ∃ Av cv Ac cc Ai ci, ∃ nv nc ni : Nat, e = .returned (.tuple #[.agg #[.int .i64 p, .slice Av nv cv, .slice Ac nc cc, .slice Ai ni ci, .int .i64 S.sum, .int .i64 S.most], .int .i64 E]) ∧ Hid (SAt w' Av Ac Ai nv nc ni S) ∧ Hid (nv ≤ 512 ∧ nc ≤ 512 ∧ ni ≤ 512) ∧ Hid (Below w.heap.size w w')
def Few (S : Sq) : Prop := S.vals.length ≤ 512 ∧ S.chg.length ≤ 512 ∧ S.inb.length ≤ 512
theorem sres_of {w w' : World} {e : Ending} {r : Int × Sq × Int} {p E : Int} {S : Sq} (h : Res w w' e r) (hr : r = (p, S, E)) (hf : Few S) : SRes w w' e p S E := by
  obtain ⟨x, rfl, hx, hb⟩ := h
  subst hr
  obtain ⟨Av, cv, Ac, cc, Ai, ci, rfl, h1, _, _, _⟩ := hx.out.at
  exact ⟨Av, cv, Ac, cc, Ai, ci, _, _, _, rfl, Lib.hid h1, Lib.hid hf, hb⟩
theorem few_st {k st so dm ep V : Int} {L : List Ed} (h : chkJ k st so dm ep V L = 0) (n : Nat) : Few (stS k so dm V.toNat L n) := by
  obtain ⟨hz, hst0, hst1, hk, hd0, hd1⟩ := chkJ_zero h
  obtain ⟨Vn, rfl, hV1, hV2, hfit⟩ := chk_facts hz
  have hg : GoS k Vn L (stS k so dm Vn L n) := go_all hz (fun _ => ⟨hd0, hd1⟩) n
  have hm := hg.may
  exact ⟨by rw [show ((Vn : Int)).toNat = Vn from rfl, hm.1]; exact hV2, by rw [show ((Vn : Int)).toNat = Vn from rfl, hm.2.1]; exact hV2, by rw [show ((Vn : Int)).toNat = Vn from rfl, hm.2.2.1]; exact hV2⟩
theorem run_at (k st so dm ep V : Int) (L : List Ed) : ∃ N : Nat, chkJ k st so dm ep V L = 0 → donB k st ep (N : Int) (stS k so dm V.toNat L N).most = true ∧ N ≤ 2000 ∧ ∀ i : Nat, i < N → donB k st ep (i : Int) (stS k so dm V.toNat L i).most = false := by
  by_cases h : chkJ k st so dm ep V L = 0
  · obtain ⟨hz, hst0, hst1, hk, hd0, hd1⟩ := chkJ_zero h
    obtain ⟨N, h1, h2, h3⟩ := first_done (ep := ep) hk hst0 (fun i => (stS k so dm V.toNat L i).most)
    exact ⟨N, fun _ => ⟨h2, by omega, h3⟩⟩
  · exact ⟨0, fun e => absurd e h⟩
end Go.Proofs.YtdcaekmgfcpbmaaGreat.Mn
