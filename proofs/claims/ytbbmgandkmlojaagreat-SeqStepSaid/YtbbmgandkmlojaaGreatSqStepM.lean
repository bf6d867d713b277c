/-
  What is proved here: the texts SqW3 SqRp SqCp SqL1 SqL3 InIn SqIn SqStepC of this seat, laid together (each says itself what it proves; no condition beyond theirs).
-/
import Derived.Test.YtbbmgandkmlojaaGreatSqG4
import Derived.Test.YtbbmgandkmlojaaGreatSqG6
import Derived.Test.YtbbmgandkmlojaaGreatSqG5
import Derived.Test.YtbbmgandkmlojaaGreatSqG1
import Derived.Test.YtbbmgandkmlojaaGreatAlIn
import Derived.ProofKit
import Derived.LaidMore
import Derived.OpenShut
import Derived.SizedLaws
import Derived.Carry
import Derived.ChangeSlices
import Derived.Deep.Slices
import Derived.Deep.Fields
/-
  What is proved here: a contract of the document's own May. Conditions: counts fit an int.
-/
namespace Go.Proofs.YtbbmgandkmlojaaGreat.Sq
open Go.RowKit Gr Wd Ws Fx Rk Lb Al In

def restB (vs : List Int) (ms : List Ml) : Bool := (!vs.any fun x => !inB x) && !ms.any badB
theorem restB_cons (y : Int) (m : Ml) (vs : List Int) (ms : List Ml) : restB (y :: vs) (m :: ms) = (inB y && (!badB m && restB vs ms)) := by
  unfold restB
  simp only [List.any_cons]
  cases inB y <;> cases badB m <;> simp
def RmRel (w : World) (vs : List Int) (ms : List Ml) (g : Nat) (i : Value) (wr : World) : Prop :=
  ∃ k : Nat, k + g = vs.length ∧ i = .int .i64 (k : Int) ∧ Hid (Below w.heap.size w wr) ∧ Hid (restB vs ms = restB (vs.drop k) (ms.drop k))
set_option maxRecDepth 100000 in
set_option maxHeartbeats 4000000 in
theorem rmay_any (V st : Int) (s : Sq) (Av Ac Ai : Option Addr) (nv nc ni cv cc ci : Nat) (w : World) (ha : SAt w Av Ac Ai nv nc ni s) (h1 : nv ≤ 9223372036854775807) (h2 : nc ≤ 9223372036854775807) (h3 : ni ≤ 9223372036854775807) :
    Calls Tryz.prog 25 #[.agg #[.int .i64 st, .slice Av nv cv, .slice Ac nc cc, .slice Ai ni ci, .int .i64 s.sum, .int .i64 s.most], .int .i64 V] w fun e w' => e = .returned (.bool (mayB V st s)) ∧ Below w.heap.size w w' := by
  have HA := Lib.hid ha
  clear ha
  obtain ⟨r, hr⟩ : ∃ r, mayB V st s = r := ⟨_, rfl⟩
  rw [hr]
  unfold mayB at hr
  rw [HA.out.nv, HA.out.nc, HA.out.ni, show ((!s.vals.any fun x => !inB x) && !s.inb.any badB) = restB s.vals s.inb from rfl] at hr
  obtain ⟨sm, esm⟩ : ∃ sm, sm = s.sum := ⟨_, rfl⟩
  obtain ⟨mo, emo⟩ : ∃ mo, mo = s.most := ⟨_, rfl⟩
  rw [← esm, ← emo] at hr ⊢
  clear esm emo
  obtain ⟨W1, hW1⟩ : ∃ W1, W1 = w.alloc (.cells #[.int .i64 st, .slice Av nv cv, .slice Ac nc cc, .slice Ai ni ci, .int .i64 sm, .int .i64 mo] 33) := ⟨_, rfl⟩
  have HB1 : Hid (Below w.heap.size w W1) := Lib.hid (by rw [hW1]; exact (Below.refl _ w).alloc (Nat.le_refl _) _)
  have HX : Hid (W1.heap[w.heap.size]? = some (.cells #[.int .i64 st, .slice Av nv cv, .slice Ac nc cc, .slice Ai ni ci, .int .i64 sm, .int .i64 mo] 33 (0, 0))) := Lib.hid (by rw [hW1]; exact heap_alloc_new w _)
  obtain ⟨b0, e0⟩ : ∃ b0, b0 = w.heap.size := ⟨_, rfl⟩
  rw [← e0] at HX
  obtain ⟨x0, x1, x2, x3, x4, x5, _⟩ := six HX.out
  obtain ⟨q1, hq1⟩ : ∃ q, inB sm = q := ⟨_, rfl⟩
  obtain ⟨q2, hq2⟩ : ∃ q, inB mo = q := ⟨_, rfl⟩
  rw [hq1, hq2] at hr
  have D1 := Lib.hid (fun W => rin_at sm q1 (Lib.hid hq1) W)
  have D2 := Lib.hid (fun W => rin_at mo q2 (Lib.hid hq2) W)
  clear hq1 hq2
  by_cases k1 : 0 ≤ st
  · by_cases k2 : st ≤ 2000
    · by_cases k5 : (nv : Int) = V
      · by_cases k6 : (nc : Int) = V
        · by_cases k7 : (ni : Int) = V
          · subst k5
            obtain rfl : nc = nv := by omega
            obtain rfl : ni = nc := by omega
            clear k6 k7
            rw [decide_eq_true k1, decide_eq_true k2] at hr
            cases q1 with
            | false =>
              obtain rfl : false = r := by rw [← hr]; simp
              clear hr
              go_enter Tryz.func25, Tryz.ntmps25
              go_upto_region 1 with fail
              rw [← hW1, show w.heap.size = b0 from e0.symm]
              clear hW1 e0
              go_wp2_with fail
              refine (D1.out _).mono ?_
              rintro e w2 ⟨rfl, rfl⟩
              go_wp2_with fail
              go_ret
              exact ⟨rfl, HB1.out⟩
            | true =>
              cases q2 with
              | false =>
                obtain rfl : false = r := by rw [← hr]; simp
                clear hr
                go_enter Tryz.func25, Tryz.ntmps25
                go_upto_region 1 with fail
                rw [← hW1, show w.heap.size = b0 from e0.symm]
                clear hW1 e0
                go_wp2_with fail
                refine (D1.out _).mono ?_
                rintro e w2 ⟨rfl, rfl⟩
                go_wp2_with fail
                refine (D2.out _).mono ?_
                rintro e w2 ⟨rfl, rfl⟩
                go_wp2_with fail
                go_ret
                exact ⟨rfl, HB1.out⟩
              | true =>
                have HR : Hid (restB s.vals s.inb = r) := Lib.hid (by rw [← hr]; simp)
                clear hr
                go_enter Tryz.func25, Tryz.ntmps25
                go_upto_region 1 with fail
                rw [← hW1, show w.heap.size = b0 from e0.symm]
                clear hW1 e0
                go_wp2_with fail
                refine (D1.out _).mono ?_
                rintro e w2 ⟨rfl, rfl⟩
                go_wp2_with fail
                refine (D2.out _).mono ?_
                rintro e w2 ⟨rfl, rfl⟩
                go_wp2_with fail
                clear D1 D2 x0 x1 x2 x3 x4 x5
                go_loopg [5] ni (fun g i wr => RmRel W1 s.vals s.inb g i wr)
                case atStart => exact ⟨0, by have := HA.out.nv; omega, rfl, Lib.hid (Below.refl _ W1), Lib.hid rfl⟩
                case round =>
                  obtain ⟨k, hk, rfl, hb, hd⟩ := hrel
                  rw [HA.out.nv] at hk
                  obtain ⟨x0, x1, x2, x3, x4, x5, _⟩ := six (keep HX.out hb.out)
                  by_cases hlt : k < ni
                  · obtain ⟨y, hy⟩ := at_lt s.vals k (by rw [HA.out.nv]; exact hlt)
                    obtain ⟨⟨p, q⟩, hq⟩ := at_lt s.inb k (by rw [HA.out.ni]; exact hlt)
                    obtain ⟨bk, o, rfl, c0⟩ := ((HA.out.v.below HB1.out).below hb.out) k y hy
                    obtain ⟨bk', o', rfl, d0, d1⟩ := ((HA.out.i.below HB1.out).below hb.out) k (p, q) hq
                    simp only at d0 d1
                    obtain ⟨t1, ht1⟩ : ∃ t, inB y = t := ⟨_, rfl⟩
                    obtain ⟨t2, ht2⟩ : ∃ t, inB q = t := ⟨_, rfl⟩
                    have HD : Hid (restB s.vals s.inb = (t1 && (!(p && !t2) && restB (s.vals.drop (k + 1)) (s.inb.drop (k + 1))))) := Lib.hid (by rw [hd.out, drop_at hy, drop_at hq, restB_cons, ht1]; unfold badB; simp only [ht2])
                    have D1 := Lib.hid (fun W => rin_at y t1 (Lib.hid ht1) W)
                    have D2 := Lib.hid (fun W => rin_at q t2 (Lib.hid ht2) W)
                    clear hd hy hq ht1 ht2
                    cases t1 with
                    | false =>
                      obtain rfl : false = r := by rw [← HR.out, HD.out]; rfl
                      go_wp2_with fail
                      refine (D1.out _).mono ?_
                      rintro e w2 ⟨rfl, rfl⟩
                      go_wp2_with fail
                      go_ret
                      exact ⟨rfl, step_below HB1.out HB1.out.size hb.out⟩
                    | true =>
                      cases p with
                      | false =>
                        have HD2 : Hid (restB s.vals s.inb = restB (s.vals.drop (k + 1)) (s.inb.drop (k + 1))) := Lib.hid (by rw [HD.out]; rfl)
                        go_wp2_with fail
                        refine (D1.out _).mono ?_
                        rintro e w2 ⟨rfl, rfl⟩
                        go_wp2_with fail
                        go_roundg (gk - 1)
                        case measure => omega
                        case rel => exact ⟨k + 1, by have := HA.out.nv; omega, by go_num, hb, HD2⟩
                      | true =>
                        cases t2 with
                        | true =>
                          have HD2 : Hid (restB s.vals s.inb = restB (s.vals.drop (k + 1)) (s.inb.drop (k + 1))) := Lib.hid (by rw [HD.out]; rfl)
                          go_wp2_with fail
                          refine (D1.out _).mono ?_
                          rintro e w2 ⟨rfl, rfl⟩
                          go_wp2_with fail
                          refine (D2.out _).mono ?_
                          rintro e w2 ⟨rfl, rfl⟩
                          go_wp2_with fail
                          go_roundg (gk - 1)
                          case measure => omega
                          case rel => exact ⟨k + 1, by have := HA.out.nv; omega, by go_num, hb, HD2⟩
                        | false =>
                          obtain rfl : false = r := by rw [← HR.out, HD.out]; rfl
                          go_wp2_with fail
                          refine (D1.out _).mono ?_
                          rintro e w2 ⟨rfl, rfl⟩
                          go_wp2_with fail
                          refine (D2.out _).mono ?_
                          rintro e w2 ⟨rfl, rfl⟩
                          go_wp2_with fail
                          go_ret
                          exact ⟨rfl, step_below HB1.out HB1.out.size hb.out⟩
                  · obtain rfl : true = r := by
                      rw [← HR.out, hd.out, List.drop_eq_nil_of_le (by rw [HA.out.nv]; omega), List.drop_eq_nil_of_le (by rw [HA.out.ni]; omega)]; rfl
                    go_wp2_with fail
                    go_ret
                    exact ⟨rfl, step_below HB1.out HB1.out.size hb.out⟩
          · obtain rfl : false = r := by rw [← hr, decide_eq_false k7]; simp
            clear hr
            subst k5
            obtain rfl : nc = nv := by omega
            clear k6
            go_enter Tryz.func25, Tryz.ntmps25
            go_upto_region 1 with fail
            rw [← hW1, show w.heap.size = b0 from e0.symm]
            clear hW1 e0
            go_wp2_with fail
            go_ret
            exact ⟨rfl, HB1.out⟩
        · obtain rfl : false = r := by rw [← hr, decide_eq_false k6]; simp
          clear hr
          subst k5
          go_enter Tryz.func25, Tryz.ntmps25
          go_upto_region 1 with fail
          rw [← hW1, show w.heap.size = b0 from e0.symm]
          clear hW1 e0
          go_wp2_with fail
          go_ret
          exact ⟨rfl, HB1.out⟩
      · obtain rfl : false = r := by rw [← hr, decide_eq_false k5]; simp
        clear hr
        go_enter Tryz.func25, Tryz.ntmps25
        go_upto_region 1 with fail
        rw [← hW1, show w.heap.size = b0 from e0.symm]
        clear hW1 e0
        go_wp2_with fail
        go_ret
        exact ⟨rfl, HB1.out⟩
    · obtain rfl : false = r := by rw [← hr, decide_eq_false k2]; simp
      clear hr
      go_enter Tryz.func25, Tryz.ntmps25
      go_upto_region 1 with fail
      rw [← hW1, show w.heap.size = b0 from e0.symm]
      clear hW1 e0
      go_wp2_with fail
      go_ret
      exact ⟨rfl, HB1.out⟩
  · obtain rfl : false = r := by rw [← hr, decide_eq_false k1]; simp
    clear hr
    go_enter Tryz.func25, Tryz.ntmps25
    go_upto_region 1 with fail
    rw [← hW1, show w.heap.size = b0 from e0.symm]
    clear hW1 e0
    go_wp2_with fail
    go_ret
    exact ⟨rfl, HB1.out⟩

end Go.Proofs.YtbbmgandkmlojaaGreat.Sq

/-
  What is proved here: a contract of the document's own Step. Conditions: at most 1000 edges; numbers that fit an int.
-/
namespace Go.Proofs.YtbbmgandkmlojaaGreat.Sq
open Go.RowKit Go.Shelf Gr Wd Ws Fx Rk Lb Al In
open Pa (vl bt vl_of vl_at bt_of bt_at)

set_option maxRecDepth 100000 in
set_option maxHeartbeats 1000000 in
theorem rstep_any (k st so dm ep V p : Int) (A : Option Addr) (n c : Nat) (L : List Ed) (s : Sq) (Av Ac Ai : Option Addr) (nv nc ni cv cc ci : Nat) (w : World) (hL : EAt w A L) (hn : L.length = n) (hm : n ≤ 1000) (ha : SAt w Av Ac Ai nv nc ni s) (hi : ∀ m ∈ s.inb, I63 m.2)
    (h1 : nv ≤ 9223372036854775807) (h2 : nc ≤ 9223372036854775807) (h3 : ni ≤ 9223372036854775807) :
    Calls Tryz.prog 18 #[.agg #[.int .i64 V, .slice A n c], .agg #[.int .u8 k, .int .i64 st, .int .i64 so, .int .i64 dm, .int .i64 ep], .agg #[.int .i64 p, .slice Av nv cv, .slice Ac nc cc, .slice Ai ni ci, .int .i64 s.sum, .int .i64 s.most]] w fun e w' => Res w w' e (stepR k st so dm ep V L p s) := by
  have mixed := mixedI
  have HL := Lib.hid hL; have HN := Lib.hid hn; have HA := Lib.hid ha; have HI := Lib.hid hi
  clear hL hn ha hi
  obtain ⟨sm, esm⟩ : ∃ sm, sm = s.sum := ⟨_, rfl⟩
  obtain ⟨mo, emo⟩ : ∃ mo, mo = s.most := ⟨_, rfl⟩
  rw [← esm, ← emo]
  have HSM := Lib.hid esm; have HMO := Lib.hid emo
  clear esm emo
  obtain ⟨W4, hW4⟩ : ∃ W4, W4 = (((w.alloc (.cells #[.int .i64 V, .slice A n c] 24)).alloc (.cells #[.int .u8 k, .int .i64 st, .int .i64 so, .int .i64 dm, .int .i64 ep] 26)).alloc (.cells #[.int .i64 p, .slice Av nv cv, .slice Ac nc cc, .slice Ai ni ci, .int .i64 sm, .int .i64 mo] 33)).alloc (.cells #[.int .i64 0, .slice none 0 0, .slice none 0 0, .slice none 0 0, .int .i64 0, .int .i64 0] 33) := ⟨_, rfl⟩
  have hal := al4 w (.cells #[.int .i64 V, .slice A n c] 24) (.cells #[.int .u8 k, .int .i64 st, .int .i64 so, .int .i64 dm, .int .i64 ep] 26) (.cells #[.int .i64 p, .slice Av nv cv, .slice Ac nc cc, .slice Ai ni ci, .int .i64 sm, .int .i64 mo] 33) (.cells #[.int .i64 0, .slice none 0 0, .slice none 0 0, .slice none 0 0, .int .i64 0, .int .i64 0] 33)
  rw [← hW4] at hal
  obtain ⟨n0, e0⟩ : ∃ n0, n0 = w.heap.size := ⟨_, rfl⟩
  have HG : Hid (W4.heap[n0]? = some (.cells #[.int .i64 V, .slice A n c] 24 (0, 0))) := Lib.hid (by rw [e0]; exact hal.1)
  have HJ : Hid (W4.heap[n0 + 1]? = some (.cells #[.int .u8 k, .int .i64 st, .int .i64 so, .int .i64 dm, .int .i64 ep] 26 (0, 0))) := Lib.hid (by rw [e0]; exact hal.2.1)
  have HS : Hid (W4.heap[n0 + 1 + 1]? = some (.cells #[.int .i64 p, .slice Av nv cv, .slice Ac nc cc, .slice Ai ni ci, .int .i64 sm, .int .i64 mo] 33 (0, 0))) := Lib.hid (by rw [e0]; exact hal.2.2.1)
  have HR : Hid (W4.heap[n0 + 1 + 1 + 1]? = some (.cells #[.int .i64 0, .slice none 0 0, .slice none 0 0, .slice none 0 0, .int .i64 0, .int .i64 0] 33 (0, 0))) := Lib.hid (by rw [e0]; exact hal.2.2.2.1)
  have HB := Lib.hid hal.2.2.2.2
  have HN0 : Hid (w.heap.size ≤ n0) := Lib.hid (by omega)
  clear hal
  obtain ⟨g0, g1, _⟩ := two HG.out
  obtain ⟨j0, j1, j2, j3, j4, _⟩ := jb_cells HJ.out
  obtain ⟨E, hE⟩ : ∃ E, E = chkJ k st so dm ep V L := ⟨_, rfl⟩
  have HC : Hid (∀ W, Below w.heap.size w W → Calls Tryz.prog 36 #[.agg #[.int .i64 V, .slice A n c], .agg #[.int .u8 k, .int .i64 st, .int .i64 so, .int .i64 dm, .int .i64 ep]] W fun e w' => e = .returned (.int .i64 E) ∧ Below W.heap.size W w') := Lib.hid (fun W h => by
    rw [hE, ← HN.out]
    exact rcheckj_any k st so dm ep V A c L W (HL.out.below h) (by rw [HN.out]; omega))
  have HE := Lib.hid hE
  clear hE
  go_enter Tryz.func18, Tryz.ntmps18
  go_upto_region 1 with fail
  rw [← hW4, show w.heap.size = n0 from e0.symm]
  clear hW4 e0
  go_wp2_with fail
  refine (HC.out _ HB.out).mono ?_
  rintro e w5 ⟨rfl, hb5⟩
  have HG5 := Lib.hid (keep HG.out hb5); have HJ5 := Lib.hid (keep HJ.out hb5); have HS5 := Lib.hid (keep HS.out hb5); have HR5 := Lib.hid (keep HR.out hb5)
  have HB5 := Lib.hid (step_below HB.out HB.out.size hb5)
  clear hb5 g0 g1 j0 j1 j2 j3 j4 HG HJ HS HR HB HC
  by_cases hE0 : E = 0
  · subst hE0
    obtain ⟨hz, _, _, _, _, _⟩ := chkJ_zero HE.out.symm
    obtain ⟨Vn, rfl, hV1, hV2, hfit⟩ := chk_facts hz
    have HFI := Lib.hid hfit
    have hdm : I63 dm := by obtain ⟨_, _, _, _, d0, d1⟩ := chkJ_zero HE.out.symm; unfold I63; omega
    have HDM := Lib.hid hdm
    clear hfit hz hdm
    have HMB := Lib.hid (rmay_any (Vn : Int) p s Av Ac Ai nv nc ni cv cc ci w5 (HA.out.below HB5.out) h1 h2 h3)
    obtain ⟨t, ht⟩ : ∃ t, mayB (Vn : Int) p s = t := ⟨_, rfl⟩
    rw [ht, ← HSM.out, ← HMO.out] at HMB
    have HT := Lib.hid ht
    clear ht
    obtain ⟨g0, g1, _⟩ := two HG5.out
    obtain ⟨s0, s1, s2, s3, s4, s5, _⟩ := six HS5.out
    go_wp2_with fail
    refine HMB.out.mono ?_
    rintro e w6 ⟨rfl, hb6⟩
    have HG6 := Lib.hid (keep HG5.out hb6); have HJ6 := Lib.hid (keep HJ5.out hb6); have HS6 := Lib.hid (keep HS5.out hb6); have HR6 := Lib.hid (keep HR5.out hb6)
    have HB6 := Lib.hid (step_below HB5.out HB5.out.size hb6)
    clear hb6 g0 g1 s0 s1 s2 s3 s4 s5 HMB HG5 HJ5 HS5 HR5
    obtain ⟨s0, s1, s2, s3, s4, s5, _⟩ := six HS6.out
    cases t with
    | false =>
      have hq : stepR k st so dm ep (Vn : Int) L p s = (0, zS, 4) := by unfold stepR; rw [if_pos HE.out.symm, if_neg (by rw [HT.out]; simp)]
      have HQ := Lib.hid hq
      obtain ⟨r0, r1, r2, r3, r4, r5, rl⟩ := six HR6.out
      have f0 := warm HR6.out 0; have f1 := warm HR6.out 1; have f2 := warm HR6.out 2; have f3 := warm HR6.out 3; have f4 := warm HR6.out 4; have f5 := warm HR6.out 5
      clear hq
      go_wp2
      obtain ⟨hX, hRes⟩ := bad_res HQ.out HB6.out (b := n0 + 1 + 1 + 1) (by have := HN0.out; omega) HR6.out
      unfold put6 at hX hRes
      exact bodyPost_ret (v := .tuple #[.agg #[.int .i64 0, .slice none 0 0, .slice none 0 0, .slice none 0 0, .int .i64 0, .int .i64 0], .int .i64 4]) (res2_s _ _ _ _ _ _ _ _ _ _ _ _ _ Tryz.results18 rfl rfl hX) rfl hRes
    | true =>
      by_cases hp : 2000 ≤ p
      · have hq : stepR k st so dm ep (Vn : Int) L p s = (0, zS, 4) := by unfold stepR; rw [if_pos HE.out.symm, if_neg (by omega)]
        have HQ := Lib.hid hq
        obtain ⟨r0, r1, r2, r3, r4, r5, rl⟩ := six HR6.out
        have f0 := warm HR6.out 0; have f1 := warm HR6.out 1; have f2 := warm HR6.out 2; have f3 := warm HR6.out 3; have f4 := warm HR6.out 4; have f5 := warm HR6.out 5
        clear hq
        go_wp2
        obtain ⟨hX, hRes⟩ := bad_res HQ.out HB6.out (b := n0 + 1 + 1 + 1) (by have := HN0.out; omega) HR6.out
        unfold put6 at hX hRes
        exact bodyPost_ret (v := .tuple #[.agg #[.int .i64 0, .slice none 0 0, .slice none 0 0, .slice none 0 0, .int .i64 0, .int .i64 0], .int .i64 4]) (res2_s _ _ _ _ _ _ _ _ _ _ _ _ _ Tryz.results18 rfl rfl hX) rfl hRes
      · obtain ⟨⟨hp0, hp1⟩, hmay⟩ := (mayB_iff Vn p s).1 HT.out
        have HZ : Hid (stepR k st so dm ep (Vn : Int) L p s = (p + 1, nxtS k dm Vn L s, 0)) := Lib.hid (by unfold stepR; rw [if_pos HE.out.symm, if_pos ⟨HT.out, by omega⟩]; rfl)
        have HM := Lib.hid hmay
        clear hmay
        obtain rfl : nv = Vn := by rw [← HA.out.nv]; exact HM.out.1
        obtain rfl : nc = nv := by rw [← HA.out.nc]; exact HM.out.2.1
        obtain rfl : ni = nc := by rw [← HA.out.ni]; exact HM.out.2.2.1
        clear s0 s1 s2 s3 s4 s5
        obtain ⟨g0, g1, _⟩ := two HG6.out
        obtain ⟨j0, j1, j2, j3, j4, _⟩ := jb_cells HJ6.out
        obtain ⟨s0, s1, s2, s3, s4, s5, _⟩ := six HS6.out
        have hvr : ∀ x ∈ s.vals, I63 x := fun x hx => (HM.out.2.2.2.1 x hx).i63
        have h := rnext_any k st so dm ep p ni A n c L Av Ac Ai cv cc ci ni s w6 (HL.out.below HB6.out) HN.out (HA.out.v.below HB6.out) (HA.out.i.below HB6.out) HA.out.nv HA.out.ni hvr HI.out HM.out.2.2.2.2.2.1.i63 (nxt_i63 hvr HI.out) HDM.out ⟨hp0, hp1⟩ hV2 (by rw [HN.out]; omega)
        rw [← HSM.out, ← HMO.out] at h
        have HNX := Lib.hid h
        clear h hvr
        go_wp2_with fail
        refine HNX.out.mono ?_
        rintro e w8 ⟨x, rfl, hx8, hb8⟩
        have HX8 := Lib.hid (hx8.out.mono HB6.out.size)
        have HB8 := Lib.hid (step_below HB6.out HB6.out.size hb8.out)
        have HR8 := Lib.hid (keep HR6.out hb8.out)
        clear hx8 hb8 HNX g0 g1 j0 j1 j2 j3 j4 s0 s1 s2 s3 s4 s5
        obtain ⟨Bv, dv, Bc, dc, Bi, di, rfl, _⟩ := HX8.out.form
        obtain ⟨S, hSq⟩ : ∃ S, nxtS k dm ni L s = S := ⟨_, rfl⟩
        rw [hSq] at HX8 HZ ⊢
        clear hSq
        obtain ⟨n1, hn1⟩ : ∃ n1, S.vals.length = n1 := ⟨_, rfl⟩
        obtain ⟨n2, hn2⟩ : ∃ n2, S.chg.length = n2 := ⟨_, rfl⟩
        obtain ⟨n3, hn3⟩ : ∃ n3, S.inb.length = n3 := ⟨_, rfl⟩
        rw [hn1, hn2, hn3] at HX8 ⊢
        clear hn1 hn2 hn3
        obtain ⟨r0, r1, r2, r3, r4, r5, rl⟩ := six HR8.out
        have f0 := warm HR8.out 0; have f1 := warm HR8.out 1; have f2 := warm HR8.out 2; have f3 := warm HR8.out 3; have f4 := warm HR8.out 4; have f5 := warm HR8.out 5
        go_wp2
        have hX := put6_heap HR8.out (.int .i64 (p + 1)) (.slice Bv n1 dv) (.slice Bc n2 dc) (.slice Bi n3 di) (.int .i64 S.sum) (.int .i64 S.most)
        have hBX := put6_below HB8.out (b := n0 + 1 + 1 + 1) (by have := HN0.out; omega) (.int .i64 (p + 1)) (.slice Bv n1 dv) (.slice Bc n2 dc) (.slice Bi n3 di) (.int .i64 S.sum) (.int .i64 S.most)
        have hSX := HX8.out.moved HR8.out (fun j hj => put6_other w8 (n0 + 1 + 1 + 1) j (.int .i64 (p + 1)) (.slice Bv n1 dv) (.slice Bc n2 dc) (.slice Bi n3 di) (.int .i64 S.sum) (.int .i64 S.most) hj)
        unfold put6 at hX hBX hSX
        exact bodyPost_ret (v := .tuple #[.agg #[.int .i64 (p + 1), .slice Bv n1 dv, .slice Bc n2 dc, .slice Bi n3 di, .int .i64 S.sum, .int .i64 S.most], .int .i64 0]) (res2_s _ _ _ _ _ _ _ _ _ _ _ _ _ Tryz.results18 rfl rfl hX) rfl ⟨_, by rw [HZ.out], Lib.hid (by rw [HZ.out]; exact hSX), Lib.hid hBX⟩
  · have hq : stepR k st so dm ep V L p s = (0, zS, E) := by unfold stepR; rw [if_neg (by rw [← HE.out]; exact hE0), ← HE.out]
    have HQ := Lib.hid hq
    obtain ⟨r0, r1, r2, r3, r4, r5, rl⟩ := six HR5.out
    have f0 := warm HR5.out 0; have f1 := warm HR5.out 1; have f2 := warm HR5.out 2; have f3 := warm HR5.out 3; have f4 := warm HR5.out 4; have f5 := warm HR5.out 5
    clear hq
    go_wp2
    obtain ⟨hX, hRes⟩ := bad_res HQ.out HB5.out (b := n0 + 1 + 1 + 1) (by have := HN0.out; omega) HR5.out
    unfold put6 at hX hRes
    exact bodyPost_ret (v := .tuple #[.agg #[.int .i64 0, .slice none 0 0, .slice none 0 0, .slice none 0 0, .int .i64 0, .int .i64 0], .int .i64 E]) (res2_s _ _ _ _ _ _ _ _ _ _ _ _ _ Tryz.results18 rfl rfl hX) rfl hRes

end Go.Proofs.YtbbmgandkmlojaaGreat.Sq

/-
  What is proved here: append of whole rows (values, marks, mail) behind nothing. Conditions: fewer than 10^9 of them.
-/
namespace Go.Proofs.YtbbmgandkmlojaaGreat.Sq
open Go.RowKit Go.Shelf Gr Wd Ws Fx Rk Lb Al In

theorem iat_add {w : World} {a : Addr} {l : List Int} (h : IAt w (some a) l) : ∀ j u, (ints l)[j]? = some u → w.cell? (a.add j) = some u := by
  intro j u hu
  rw [Lb.ints_at] at hu
  cases hx : l[j]? with
  | none => rw [hx] at hu; cases hu
  | some x =>
    rw [hx] at hu
    obtain ⟨bk, o, hA, c⟩ := h j x hx
    cases hA
    rw [add_plain, c]
    simpa using hu
theorem iat_none {w : World} {l : List Int} (h : IAt w none l) : l = [] := by
  cases l with
  | nil => rfl
  | cons x l => obtain ⟨_, _, h0, _⟩ := h 0 x rfl; cases h0
theorem bat_add {w : World} {a : Addr} {l : List Bool} (h : BAt w (some a) l) : ∀ j u, (bls l)[j]? = some u → w.cell? (a.add j) = some u := by
  intro j u hu
  rw [bls_at] at hu
  cases hx : l[j]? with
  | none => rw [hx] at hu; cases hu
  | some x =>
    rw [hx] at hu
    obtain ⟨bk, o, hA, c⟩ := h j x hx
    cases hA
    rw [add_plain, c]
    simpa using hu
theorem bat_none {w : World} {l : List Bool} (h : BAt w none l) : l = [] := by
  cases l with
  | nil => rfl
  | cons x l => obtain ⟨_, _, h0, _⟩ := h 0 x rfl; cases h0
theorem kcs_of (L : List Ml) : (kcs L).length = L.length * 2 := by
  induction L with
  | nil => rfl
  | cons x L ih => simp only [kcs, List.flatMap_cons, List.length_append, List.length_cons] at ih ⊢; rw [ih]; simp [kc]; omega
theorem kat_add {w : World} {a : Addr} {l : List Ml} (h : KAt w (some a) l) : ∀ j u, (kcs l)[j]? = some u → w.cell? (a.add j) = some u := by
  intro j u hu
  have hj : j < (kcs l).length := by
    rcases Nat.lt_or_ge j (kcs l).length with h | h
    · exact h
    · rw [List.getElem?_eq_none h] at hu; cases hu
  rw [kcs_of] at hj
  obtain ⟨e, he⟩ := at_lt l (j / 2) (by omega)
  obtain ⟨bk, o, hA, c0, c1⟩ := h (j / 2) e he
  obtain ⟨a0, a1⟩ := kcs_at l (j / 2) e he
  cases hA
  rw [add_plain]
  rcases Nat.mod_two_eq_zero_or_one j with hr | hr
  · have ej : j = j / 2 * 2 := by omega
    rw [ej] at hu ⊢
    rw [a0] at hu
    rw [← hu]; exact c0
  · have ej : j = j / 2 * 2 + 1 := by omega
    rw [ej] at hu ⊢
    rw [a1] at hu
    rw [← hu, ← Nat.add_assoc]; exact c1
theorem kat_none {w : World} {l : List Ml} (h : KAt w none l) : l = [] := by
  cases l with
  | nil => rfl
  | cons x l => obtain ⟨_, _, h0, _⟩ := h 0 x rfl; cases h0
theorem app_qcopy {w : World} {ops : Array Oper} {rest : List Oper} {o : Oper} {a : Act} {Q : Exit → Act → World → Prop} (hgd : o.guard = none) (s x : Operand)
    (ho : o.op = .call { callee := .builtin .append, args := #[s, x], argTypes := #[29, 29] }) (B : Nat) (l : List Int) (hs : a.eval s = .slice none 0 0)
    (A : Option Addr) (n c : Nat) (hnl : l.length = n) (hx : a.eval x = .slice A n c) (hL : IAt w A l) (hn : n < 1000000000) (hB : B ≤ w.heap.size)
    (h : ∀ v' w', QOwn w' B v' l → w.grownBy w' none → wpList Tryz.prog ops Q rest (a.put o.dst v') w') : wpList Tryz.prog ops Q (o :: rest) a w := by
  subst hnl
  obtain ⟨i0, hi, hz0, hz1, hz2⟩ := info_parts infoQ
  cases A with
  | some ad =>
    refine wpList_append_own w hgd s x 29 ho B 2 i0 _ 1 8 Tryz.underlying29 hi hz0 hz1 hz2 rfl (by decide) (.slice none 0 0) 0 [] hs (World.ownsRow_nil _ _ _ _) ad l.length c (ints l) hx (by simp [ints]) (iat_add hL) ?_ ?_ ?_ hB ?_
    · intro u hu
      simp only [ints, List.mem_map] at hu
      obtain ⟨y, _, rfl⟩ := hu; rfl
    · unfold maxLen; omega
    · omega
    · intro v' w' h1 h2 _
      refine h v' w' ?_ h2
      unfold QOwn
      rw [Nat.zero_add, List.nil_append] at h1
      exact h1
  | none =>
    obtain rfl := iat_none hL
    have u22 := run_underlying Tryz.underlying29
    have hr : (Builtin.append_ #[29, 29] o.type #[.slice none 0 0, .slice none 0 c]).run Tryz.prog w = .ok (.slice none 0 0) w := by
      simp [Builtin.append_, Builtin.lenOf, Builtin.firstCells, u22, sizeOf, typeInfo, hi]
    refine wpList_plain hgd fun _ hK => ?_
    unfold Oper.wp execOp
    simp only [ho, resolve, invoke, builtin, Sem.run_bind, Sem.run_pure, Result.andThen_ok, List.map_toArray, List.map_cons, List.map_nil, hs, hx, hr, List.length_nil]
    exact hK _ _ (h _ _ (QOwn.none_ _ _) ⟨rfl, rfl, rfl, Nat.le_refl _, fun _ _ _ => rfl⟩)
theorem app_bcopy {w : World} {ops : Array Oper} {rest : List Oper} {o : Oper} {a : Act} {Q : Exit → Act → World → Prop} (hgd : o.guard = none) (s x : Operand)
    (ho : o.op = .call { callee := .builtin .append, args := #[s, x], argTypes := #[30, 30] }) (B : Nat) (l : List Bool) (hs : a.eval s = .slice none 0 0)
    (A : Option Addr) (n c : Nat) (hnl : l.length = n) (hx : a.eval x = .slice A n c) (hL : BAt w A l) (hn : n < 1000000000) (hB : B ≤ w.heap.size)
    (h : ∀ v' w', BOwn w' B v' l → w.grownBy w' none → wpList Tryz.prog ops Q rest (a.put o.dst v') w') : wpList Tryz.prog ops Q (o :: rest) a w := by
  subst hnl
  obtain ⟨i0, hi, hz0, hz1, hz2⟩ := info_parts infoB
  cases A with
  | some ad =>
    refine wpList_append_own w hgd s x 30 ho B 4 i0 _ 1 1 Tryz.underlying30 hi hz0 hz1 hz2 rfl (by decide) (.slice none 0 0) 0 [] hs (World.ownsRow_nil _ _ _ _) ad l.length c (bls l) hx (by simp [bls]) (bat_add hL) ?_ ?_ ?_ hB ?_
    · intro u hu
      simp only [bls, List.mem_map] at hu
      obtain ⟨y, _, rfl⟩ := hu; rfl
    · unfold maxLen; omega
    · omega
    · intro v' w' h1 h2 _
      refine h v' w' ?_ h2
      unfold BOwn
      rw [Nat.zero_add, List.nil_append] at h1
      exact h1
  | none =>
    obtain rfl := bat_none hL
    have u22 := run_underlying Tryz.underlying30
    have hr : (Builtin.append_ #[30, 30] o.type #[.slice none 0 0, .slice none 0 c]).run Tryz.prog w = .ok (.slice none 0 0) w := by
      simp [Builtin.append_, Builtin.lenOf, Builtin.firstCells, u22, sizeOf, typeInfo, hi]
    refine wpList_plain hgd fun _ hK => ?_
    unfold Oper.wp execOp
    simp only [ho, resolve, invoke, builtin, Sem.run_bind, Sem.run_pure, Result.andThen_ok, List.map_toArray, List.map_cons, List.map_nil, hs, hx, hr, List.length_nil]
    exact hK _ _ (h _ _ (BOwn.none_ _ _) ⟨rfl, rfl, rfl, Nat.le_refl _, fun _ _ _ => rfl⟩)
theorem app_kcopy {w : World} {ops : Array Oper} {rest : List Oper} {o : Oper} {a : Act} {Q : Exit → Act → World → Prop} (hgd : o.guard = none) (s x : Operand)
    (ho : o.op = .call { callee := .builtin .append, args := #[s, x], argTypes := #[31, 31] }) (B : Nat) (l : List Ml) (hs : a.eval s = .slice none 0 0)
    (A : Option Addr) (n c : Nat) (hnl : l.length = n) (hx : a.eval x = .slice A n c) (hL : KAt w A l) (hn : n < 1000000000) (hB : B ≤ w.heap.size)
    (h : ∀ v' w', KOwn w' B v' l → w.grownBy w' none → wpList Tryz.prog ops Q rest (a.put o.dst v') w') : wpList Tryz.prog ops Q (o :: rest) a w := by
  subst hnl
  obtain ⟨i0, hi, hz0, hz1, hz2⟩ := info_parts infoK
  cases A with
  | some ad =>
    refine wpList_append_own w hgd s x 31 ho B 78 i0 _ 2 16 Tryz.underlying31 hi hz0 hz1 hz2 rfl (by decide) (.slice none 0 0) 0 [] hs (World.ownsRow_nil _ _ _ _) ad l.length c (kcs l) hx (by rw [kcs_of]) (kat_add hL) ?_ ?_ ?_ hB ?_
    · intro u hu
      simp only [kcs, List.mem_flatMap, kc, List.mem_cons, List.not_mem_nil, or_false] at hu
      obtain ⟨y, _, hu⟩ := hu
      rcases hu with rfl | rfl <;> rfl
    · unfold maxLen; omega
    · omega
    · intro v' w' h1 h2 _
      refine h v' w' ?_ h2
      unfold KOwn
      rw [Nat.zero_add, List.nil_append] at h1
      exact h1
  | none =>
    obtain rfl := kat_none hL
    have u22 := run_underlying Tryz.underlying31
    have hr : (Builtin.append_ #[31, 31] o.type #[.slice none 0 0, .slice none 0 c]).run Tryz.prog w = .ok (.slice none 0 0) w := by
      simp [Builtin.append_, Builtin.lenOf, Builtin.firstCells, u22, sizeOf, typeInfo, hi]
    refine wpList_plain hgd fun _ hK => ?_
    unfold Oper.wp execOp
    simp only [ho, resolve, invoke, builtin, Sem.run_bind, Sem.run_pure, Result.andThen_ok, List.map_toArray, List.map_cons, List.map_nil, hs, hx, hr, List.length_nil]
    exact hK _ _ (h _ _ (KOwn.none_ _ _) ⟨rfl, rfl, rfl, Nat.le_refl _, fun _ _ _ => rfl⟩)

end Go.Proofs.YtbbmgandkmlojaaGreat.Sq

/-
  What is proved here: the laws SeqAt, SeqRun and SeqSame walked: they return true, and no block that was there has changed. Conditions: rows that a memory holds.
-/
namespace Go.Proofs.YtbbmgandkmlojaaGreat.Sq
open Go.RowKit Go.Shelf Gr Wd Ws Fx Rk Lb Al In
open Pa (vl bt vl_of vl_at bt_of bt_at)

/- What a call gives: a state that can be read, of few vertices. -/
def SRes (w w' : World) (e : Ending) (p : Int) (S : Sq) (E : Int) : Prop := ∃ Av cv Ac cc Ai ci, ∃ nv nc ni : Nat, e = .returned (.tuple #[.agg #[.int .i64 p, .slice Av nv cv, .slice Ac nc cc, .slice Ai ni ci, .int .i64 S.sum, .int .i64 S.most], .int .i64 E]) ∧ Hid (SAt w' Av Ac Ai nv nc ni S) ∧ Hid (nv ≤ 512 ∧ nc ≤ 512 ∧ ni ≤ 512) ∧ Hid (Below w.heap.size w w')
def Few (S : Sq) : Prop := S.vals.length ≤ 512 ∧ S.chg.length ≤ 512 ∧ S.inb.length ≤ 512
theorem sres_of {w w' : World} {e : Ending} {r : Int × Sq × Int} {p E : Int} {S : Sq} (h : Res w w' e r) (hr : r = (p, S, E)) (hf : Few S) : SRes w w' e p S E := by
  obtain ⟨x, rfl, hx, hb⟩ := h
  subst hr
  obtain ⟨Av, cv, Ac, cc, Ai, ci, rfl, h1, _, _, _⟩ := hx.out.at
  exact ⟨Av, cv, Ac, cc, Ai, ci, _, _, _, rfl, Lib.hid h1, Lib.hid hf, hb⟩
theorem few_z : Few zS := ⟨by decide, by decide, by decide⟩
theorem few_st {k st so dm ep V : Int} {L : List Ed} (h : chkJ k st so dm ep V L = 0) (n : Nat) : Few (stS k so dm V.toNat L n) := by
  obtain ⟨hz, hst0, hst1, hk, hd0, hd1⟩ := chkJ_zero h
  obtain ⟨Vn, rfl, hV1, hV2, hfit⟩ := chk_facts hz
  have hg : GoS k Vn L (stS k so dm Vn L n) := go_all hz (fun _ => ⟨hd0, hd1⟩) n
  have hm := hg.may
  exact ⟨by rw [show ((Vn : Int)).toNat = Vn from rfl, hm.1]; exact hV2, by rw [show ((Vn : Int)).toNat = Vn from rfl, hm.2.1]; exact hV2, by rw [show ((Vn : Int)).toNat = Vn from rfl, hm.2.2.1]; exact hV2⟩
theorem few_at (k st so dm ep V : Int) (L : List Ed) (n : Int) : Few (atR k st so dm ep V L n).2.1 := by
  unfold atR
  split
  · rename_i h
    split
    · exact few_st h _
    · exact few_z
  · exact few_z
theorem few_run (k st so dm ep V : Int) (L : List Ed) (N : Nat) : Few (runR k st so dm ep V L N).2.1 := by
  unfold runR
  split
  · rename_i h; exact few_st h _
  · exact few_z
theorem run_at (k st so dm ep V : Int) (L : List Ed) : ∃ N : Nat, chkJ k st so dm ep V L = 0 → donB k st ep (N : Int) (stS k so dm V.toNat L N).most = true ∧ N ≤ 2000 ∧ ∀ i : Nat, i < N → donB k st ep (i : Int) (stS k so dm V.toNat L i).most = false := by
  by_cases h : chkJ k st so dm ep V L = 0
  · obtain ⟨hz, hst0, hst1, hk, hd0, hd1⟩ := chkJ_zero h
    obtain ⟨N, h1, h2, h3⟩ := first_done (ep := ep) hk hst0 (fun i => (stS k so dm V.toNat L i).most)
    exact ⟨N, fun _ => ⟨h2, by omega, h3⟩⟩
  · exact ⟨0, fun e => absurd e h⟩
structure LwH (w W : World) (n0 : Nat) (V : Int) (A : Option Addr) (n c : Nat) (k st so dm ep : Int) : Prop where
  below : Below w.heap.size w W
  gb : W.heap[n0]? = some (.cells #[.int .i64 V, .slice A n c] 24 (0, 0))
  jb : W.heap[n0 + 1]? = some (.cells #[.int .u8 k, .int .i64 st, .int .i64 so, .int .i64 dm, .int .i64 ep] 26 (0, 0))
theorem LwH.step {w W W' : World} {n0 : Nat} {V : Int} {A : Option Addr} {n c : Nat} {k st so dm ep : Int} (h : LwH w W n0 V A n c k st so dm ep) (hb : Below W.heap.size W W') : LwH w W' n0 V A n c k st so dm ep := ⟨step_below h.below h.below.size hb, keep h.gb hb, keep h.jb hb⟩

set_option maxRecDepth 100000 in
set_option maxHeartbeats 1000000 in
theorem law_at (k st so dm ep V : Int) (A : Option Addr) (n c : Nat) (L : List Ed) (kk : Int) (w : World) (hL : EAt w A L) (hn : L.length = n) (hm : n ≤ 9223372036854775807) :
    Calls Tryz.prog 5 #[.agg #[.int .i64 V, .slice A n c], .agg #[.int .u8 k, .int .i64 st, .int .i64 so, .int .i64 dm, .int .i64 ep], .int .i64 kk] w fun e w' => e = .returned (.bool true) ∧ Below w.heap.size w w' := by
  have HL := Lib.hid hL; have HN := Lib.hid hn
  clear hL hn
  obtain ⟨W2, hW2⟩ : ∃ W2, W2 = (w.alloc (.cells #[.int .i64 V, .slice A n c] 24)).alloc (.cells #[.int .u8 k, .int .i64 st, .int .i64 so, .int .i64 dm, .int .i64 ep] 26) := ⟨_, rfl⟩
  have hal := al2 w (.cells #[.int .i64 V, .slice A n c] 24) (.cells #[.int .u8 k, .int .i64 st, .int .i64 so, .int .i64 dm, .int .i64 ep] 26)
  rw [← hW2] at hal
  obtain ⟨n0, e0⟩ : ∃ n0, n0 = w.heap.size := ⟨_, rfl⟩
  have HH : Hid (LwH w W2 n0 V A n c k st so dm ep) := Lib.hid ⟨hal.2.2, by rw [e0]; exact hal.1, by rw [e0]; exact hal.2.1⟩
  clear hal
  obtain ⟨r, hr⟩ : ∃ r, atR k st so dm ep V L kk = r := ⟨_, rfl⟩
  obtain ⟨p, S, E⟩ := r
  have hfw : Few S := by have := few_at k st so dm ep V L kk; rw [hr] at this; exact this
  have HC1 : Hid (n ≤ 1000 → ∀ W : World, Below w.heap.size w W → Calls Tryz.prog 19 #[.agg #[.int .i64 V, .slice A n c], .agg #[.int .u8 k, .int .i64 st, .int .i64 so, .int .i64 dm, .int .i64 ep], .int .i64 kk] W fun e w' => SRes W w' e p S E) := Lib.hid (fun h W hW => (seqAt_any k st so dm ep V A n c L kk W (HL.out.below hW) HN.out h).mono fun _ _ h => sres_of h hr hfw)
  have HC2 : Hid (n ≤ 1000 → ∀ W : World, Below w.heap.size w W → Calls Tryz.prog 20 #[.agg #[.int .i64 V, .slice A n c], .agg #[.int .u8 k, .int .i64 st, .int .i64 so, .int .i64 dm, .int .i64 ep], .int .i64 kk] W fun e w' => SRes W w' e p S E) := Lib.hid (fun h W hW => (rat_any k st so dm ep V A n c L kk W (HL.out.below hW) HN.out h).mono fun _ _ h => sres_of h hr hfw)
  clear hr hfw
  obtain ⟨g0, g1, _⟩ := two HH.out.gb
  obtain ⟨j0, j1, j2, j3, j4, _⟩ := jb_cells HH.out.jb
  have HT := Lib.hid (light_all V A n c L W2 (HL.out.below HH.out.below) HN.out hm)
  obtain ⟨t, ht⟩ : ∃ t, lightB V L = t := ⟨_, rfl⟩
  rw [ht] at HT
  have HTL := Lib.hid ht
  clear ht
  go_enter Tryz.func5, Tryz.ntmps5
  go_upto_region 1 with fail
  rw [← hW2, show w.heap.size = n0 from e0.symm]
  clear hW2 e0
  go_wp2_with fail
  refine HT.out.mono ?_
  rintro e w1 ⟨rfl, hb⟩
  replace HH := Lib.hid (HH.out.step hb)
  clear hb HT g0 g1 j0 j1 j2 j3 j4
  by_cases hgo : t = true ∧ (kk ≤ 12 ∨ 2000 < kk)
  · obtain ⟨rfl, hor⟩ := hgo
    have hn80 : n ≤ 80 := by have := lightB_few HTL.out; rwa [HN.out] at this
    replace HC1 := Lib.hid (HC1.out (by omega)); replace HC2 := Lib.hid (HC2.out (by omega))
    clear hn80 HTL
    obtain ⟨g0, g1, _⟩ := two HH.out.gb
    obtain ⟨j0, j1, j2, j3, j4, _⟩ := jb_cells HH.out.jb
    have hgt : (12 < kk ∧ ¬ kk ≤ 2000) ∨ ¬ 12 < kk := by omega
    clear hor
    rcases hgt with ⟨h1, h2⟩ | h1
    all_goals
      obtain ⟨g0, g1, _⟩ := two HH.out.gb
      obtain ⟨j0, j1, j2, j3, j4, _⟩ := jb_cells HH.out.jb
      go_wp2_with fail
      refine (HC1.out w1 HH.out.below).mono ?_
      rintro e v1 ⟨av, a1, ac, a2, ai, a3, an1, an2, an3, rfl, hs1, hf1, hb1⟩
      obtain ⟨X1, hX1⟩ : ∃ X, X = v1.alloc (.cells #[.int .i64 p, .slice av an1 a1, .slice ac an2 a2, .slice ai an3 a3, .int .i64 S.sum, .int .i64 S.most] 33) := ⟨_, rfl⟩
      obtain ⟨bl1, eb1⟩ : ∃ b, b = v1.heap.size := ⟨_, rfl⟩
      have hb : Below w1.heap.size w1 X1 := by rw [hX1]; exact hb1.out.alloc hb1.out.size _
      replace HH := Lib.hid (HH.out.step hb)
      have HS1 : Hid (SAt X1 av ac ai an1 an2 an3 S) := Lib.hid (by rw [hX1]; exact hs1.out.below ((Below.refl _ v1).alloc (Nat.le_refl _) _))
      have HB1 : Hid (X1.heap[bl1]? = some (.cells #[.int .i64 p, .slice av an1 a1, .slice ac an2 a2, .slice ai an3 a3, .int .i64 S.sum, .int .i64 S.most] 33 (0, 0))) := Lib.hid (by rw [hX1, eb1]; exact heap_alloc_new v1 _)
      have HL1 := Lib.hid hf1.out
      clear hb hs1 hb1 hf1 g0 g1 j0 j1 j2 j3 j4
      go_upto_region 4 with fail
      rw [← hX1, show v1.heap.size = bl1 from eb1.symm]
      clear hX1 eb1
      obtain ⟨g0, g1, _⟩ := two HH.out.gb
      obtain ⟨j0, j1, j2, j3, j4, _⟩ := jb_cells HH.out.jb
      go_wp2_with fail
      refine (HC2.out X1 HH.out.below).mono ?_
      rintro e v2 ⟨bv, b1, bc, b2, bi, b3, bn1, bn2, bn3, rfl, hs2, hf2, hb2⟩
      obtain ⟨X2, hX2⟩ : ∃ X, X = v2.alloc (.cells #[.int .i64 p, .slice bv bn1 b1, .slice bc bn2 b2, .slice bi bn3 b3, .int .i64 S.sum, .int .i64 S.most] 33) := ⟨_, rfl⟩
      obtain ⟨bl2, eb2⟩ : ∃ b, b = v2.heap.size := ⟨_, rfl⟩
      have hb : Below X1.heap.size X1 X2 := by rw [hX2]; exact hb2.out.alloc hb2.out.size _
      replace HH := Lib.hid (HH.out.step hb)
      have HS2 : Hid (SAt X2 bv bc bi bn1 bn2 bn3 S) := Lib.hid (by rw [hX2]; exact hs2.out.below ((Below.refl _ v2).alloc (Nat.le_refl _) _))
      have HB2 : Hid (X2.heap[bl2]? = some (.cells #[.int .i64 p, .slice bv bn1 b1, .slice bc bn2 b2, .slice bi bn3 b3, .int .i64 S.sum, .int .i64 S.most] 33 (0, 0))) := Lib.hid (by rw [hX2, eb2]; exact heap_alloc_new v2 _)
      replace HS1 := Lib.hid (HS1.out.below hb); replace HB1 := Lib.hid (keep HB1.out hb)
      have HL2 := Lib.hid hf2.out
      clear hb hs2 hb2 hf2 g0 g1 j0 j1 j2 j3 j4
      go_upto_region 5 with fail
      rw [← hX2, show v2.heap.size = bl2 from eb2.symm]
      clear hX2 eb2
      obtain ⟨x0, x1, x2, x3, x4, x5, _⟩ := six HB1.out
      obtain ⟨y0, y1, y2, y3, y4, y5, _⟩ := six HB2.out
      have HQ := Lib.hid (rsqSame_any p p S S av ac ai bv bc bi an1 an2 an3 a1 a2 a3 bn1 bn2 bn3 b1 b2 b3 X2 HS1.out HS2.out (by have := HL1.out; omega) (by have := HL1.out; omega) (by have := HL1.out; omega) (by have := HL2.out; omega) (by have := HL2.out; omega) (by have := HL2.out; omega))
      rw [sameS_refl] at HQ
      go_wp2_with fail
      refine HQ.out.mono ?_
      rintro e w5 ⟨rfl, hb⟩
      replace HH := Lib.hid (HH.out.step hb)
      replace HS1 := Lib.hid (HS1.out.below hb); replace HS2 := Lib.hid (HS2.out.below hb); replace HB1 := Lib.hid (keep HB1.out hb); replace HB2 := Lib.hid (keep HB2.out hb)
      clear hb HQ x0 x1 x2 x3 x4 x5 y0 y1 y2 y3 y4 y5
      go_wp2_with fail
      refine (works_any _).mono ?_
      rintro e w7 ⟨rfl, hb⟩
      replace HH := Lib.hid (HH.out.step hb)
      clear hb
      go_wp2
      go_ret
      exact ⟨rfl, HH.out.below⟩
  · have hgo2 : t = false ∨ (t = true ∧ 12 < kk ∧ kk ≤ 2000) := by cases t <;> simp at hgo ⊢; omega
    clear hgo HC1 HC2 HTL
    obtain ⟨j0, j1, j2, j3, j4, _⟩ := jb_cells HH.out.jb
    rcases hgo2 with rfl | ⟨rfl, h1, h2⟩
    all_goals
      go_wp2_with fail
      refine (works_any _).mono ?_
      rintro e w7 ⟨rfl, hb⟩
      replace HH := Lib.hid (HH.out.step hb)
      clear hb
      go_wp2
      go_ret
      exact ⟨rfl, HH.out.below⟩

set_option maxRecDepth 100000 in
set_option maxHeartbeats 1000000 in
theorem law_run (k st so dm ep V : Int) (A : Option Addr) (n c : Nat) (L : List Ed) (w : World) (hL : EAt w A L) (hn : L.length = n) (hm : n ≤ 9223372036854775807) :
    Calls Tryz.prog 6 #[.agg #[.int .i64 V, .slice A n c], .agg #[.int .u8 k, .int .i64 st, .int .i64 so, .int .i64 dm, .int .i64 ep]] w fun e w' => e = .returned (.bool true) ∧ Below w.heap.size w w' := by
  have HL := Lib.hid hL; have HN := Lib.hid hn
  clear hL hn
  obtain ⟨N, hN⟩ := run_at k st so dm ep V L
  obtain ⟨W2, hW2⟩ : ∃ W2, W2 = (w.alloc (.cells #[.int .i64 V, .slice A n c] 24)).alloc (.cells #[.int .u8 k, .int .i64 st, .int .i64 so, .int .i64 dm, .int .i64 ep] 26) := ⟨_, rfl⟩
  have hal := al2 w (.cells #[.int .i64 V, .slice A n c] 24) (.cells #[.int .u8 k, .int .i64 st, .int .i64 so, .int .i64 dm, .int .i64 ep] 26)
  rw [← hW2] at hal
  obtain ⟨n0, e0⟩ : ∃ n0, n0 = w.heap.size := ⟨_, rfl⟩
  have HH : Hid (LwH w W2 n0 V A n c k st so dm ep) := Lib.hid ⟨hal.2.2, by rw [e0]; exact hal.1, by rw [e0]; exact hal.2.1⟩
  clear hal
  obtain ⟨r, hr⟩ : ∃ r, runR k st so dm ep V L N = r := ⟨_, rfl⟩
  obtain ⟨p, S, E⟩ := r
  have hfw : Few S := by have := few_run k st so dm ep V L N; rw [hr] at this; exact this
  have HC1 : Hid (n ≤ 1000 → ∀ W : World, Below w.heap.size w W → Calls Tryz.prog 21 #[.agg #[.int .i64 V, .slice A n c], .agg #[.int .u8 k, .int .i64 st, .int .i64 so, .int .i64 dm, .int .i64 ep]] W fun e w' => SRes W w' e p S E) := Lib.hid (fun h W hW => (seqRun_any k st so dm ep V A n c L N W (HL.out.below hW) HN.out h hN).mono fun _ _ h => sres_of h hr hfw)
  have HC2 : Hid (n ≤ 1000 → ∀ W : World, Below w.heap.size w W → Calls Tryz.prog 22 #[.agg #[.int .i64 V, .slice A n c], .agg #[.int .u8 k, .int .i64 st, .int .i64 so, .int .i64 dm, .int .i64 ep]] W fun e w' => SRes W w' e p S E) := Lib.hid (fun h W hW => (rrun_any k st so dm ep V A n c L N W (HL.out.below hW) HN.out h hN).mono fun _ _ h => sres_of h hr hfw)
  clear hr hfw hN
  obtain ⟨g0, g1, _⟩ := two HH.out.gb
  obtain ⟨j0, j1, j2, j3, j4, _⟩ := jb_cells HH.out.jb
  have HT := Lib.hid (light_all V A n c L W2 (HL.out.below HH.out.below) HN.out hm)
  obtain ⟨t, ht⟩ : ∃ t, lightB V L = t := ⟨_, rfl⟩
  rw [ht] at HT
  have HTL := Lib.hid ht
  clear ht
  go_enter Tryz.func6, Tryz.ntmps6
  go_upto_region 1 with fail
  rw [← hW2, show w.heap.size = n0 from e0.symm]
  clear hW2 e0
  go_wp2_with fail
  refine HT.out.mono ?_
  rintro e w1 ⟨rfl, hb⟩
  replace HH := Lib.hid (HH.out.step hb)
  clear hb HT g0 g1 j0 j1 j2 j3 j4
  by_cases hgo : t = true ∧ (st ≤ 40 ∨ 2000 < st)
  · obtain ⟨rfl, hor⟩ := hgo
    have hn80 : n ≤ 80 := by have := lightB_few HTL.out; rwa [HN.out] at this
    replace HC1 := Lib.hid (HC1.out (by omega)); replace HC2 := Lib.hid (HC2.out (by omega))
    clear hn80 HTL
    obtain ⟨g0, g1, _⟩ := two HH.out.gb
    obtain ⟨j0, j1, j2, j3, j4, _⟩ := jb_cells HH.out.jb
    have hgt : (40 < st ∧ ¬ st ≤ 2000) ∨ ¬ 40 < st := by omega
    clear hor
    rcases hgt with ⟨h1, h2⟩ | h1
    all_goals
      obtain ⟨g0, g1, _⟩ := two HH.out.gb
      obtain ⟨j0, j1, j2, j3, j4, _⟩ := jb_cells HH.out.jb
      go_wp2_with fail
      refine (HC1.out w1 HH.out.below).mono ?_
      rintro e v1 ⟨av, a1, ac, a2, ai, a3, an1, an2, an3, rfl, hs1, hf1, hb1⟩
      obtain ⟨X1, hX1⟩ : ∃ X, X = v1.alloc (.cells #[.int .i64 p, .slice av an1 a1, .slice ac an2 a2, .slice ai an3 a3, .int .i64 S.sum, .int .i64 S.most] 33) := ⟨_, rfl⟩
      obtain ⟨bl1, eb1⟩ : ∃ b, b = v1.heap.size := ⟨_, rfl⟩
      have hb : Below w1.heap.size w1 X1 := by rw [hX1]; exact hb1.out.alloc hb1.out.size _
      replace HH := Lib.hid (HH.out.step hb)
      have HS1 : Hid (SAt X1 av ac ai an1 an2 an3 S) := Lib.hid (by rw [hX1]; exact hs1.out.below ((Below.refl _ v1).alloc (Nat.le_refl _) _))
      have HB1 : Hid (X1.heap[bl1]? = some (.cells #[.int .i64 p, .slice av an1 a1, .slice ac an2 a2, .slice ai an3 a3, .int .i64 S.sum, .int .i64 S.most] 33 (0, 0))) := Lib.hid (by rw [hX1, eb1]; exact heap_alloc_new v1 _)
      have HL1 := Lib.hid hf1.out
      clear hb hs1 hb1 hf1 g0 g1 j0 j1 j2 j3 j4
      go_upto_region 4 with fail
      rw [← hX1, show v1.heap.size = bl1 from eb1.symm]
      clear hX1 eb1
      obtain ⟨g0, g1, _⟩ := two HH.out.gb
      obtain ⟨j0, j1, j2, j3, j4, _⟩ := jb_cells HH.out.jb
      go_wp2_with fail
      refine (HC2.out X1 HH.out.below).mono ?_
      rintro e v2 ⟨bv, b1, bc, b2, bi, b3, bn1, bn2, bn3, rfl, hs2, hf2, hb2⟩
      obtain ⟨X2, hX2⟩ : ∃ X, X = v2.alloc (.cells #[.int .i64 p, .slice bv bn1 b1, .slice bc bn2 b2, .slice bi bn3 b3, .int .i64 S.sum, .int .i64 S.most] 33) := ⟨_, rfl⟩
      obtain ⟨bl2, eb2⟩ : ∃ b, b = v2.heap.size := ⟨_, rfl⟩
      have hb : Below X1.heap.size X1 X2 := by rw [hX2]; exact hb2.out.alloc hb2.out.size _
      replace HH := Lib.hid (HH.out.step hb)
      have HS2 : Hid (SAt X2 bv bc bi bn1 bn2 bn3 S) := Lib.hid (by rw [hX2]; exact hs2.out.below ((Below.refl _ v2).alloc (Nat.le_refl _) _))
      have HB2 : Hid (X2.heap[bl2]? = some (.cells #[.int .i64 p, .slice bv bn1 b1, .slice bc bn2 b2, .slice bi bn3 b3, .int .i64 S.sum, .int .i64 S.most] 33 (0, 0))) := Lib.hid (by rw [hX2, eb2]; exact heap_alloc_new v2 _)
      replace HS1 := Lib.hid (HS1.out.below hb); replace HB1 := Lib.hid (keep HB1.out hb)
      have HL2 := Lib.hid hf2.out
      clear hb hs2 hb2 hf2 g0 g1 j0 j1 j2 j3 j4
      go_upto_region 5 with fail
      rw [← hX2, show v2.heap.size = bl2 from eb2.symm]
      clear hX2 eb2
      obtain ⟨x0, x1, x2, x3, x4, x5, _⟩ := six HB1.out
      obtain ⟨y0, y1, y2, y3, y4, y5, _⟩ := six HB2.out
      have HQ := Lib.hid (rsqSame_any p p S S av ac ai bv bc bi an1 an2 an3 a1 a2 a3 bn1 bn2 bn3 b1 b2 b3 X2 HS1.out HS2.out (by have := HL1.out; omega) (by have := HL1.out; omega) (by have := HL1.out; omega) (by have := HL2.out; omega) (by have := HL2.out; omega) (by have := HL2.out; omega))
      rw [sameS_refl] at HQ
      go_wp2_with fail
      refine HQ.out.mono ?_
      rintro e w5 ⟨rfl, hb⟩
      replace HH := Lib.hid (HH.out.step hb)
      replace HS1 := Lib.hid (HS1.out.below hb); replace HS2 := Lib.hid (HS2.out.below hb); replace HB1 := Lib.hid (keep HB1.out hb); replace HB2 := Lib.hid (keep HB2.out hb)
      clear hb HQ x0 x1 x2 x3 x4 x5 y0 y1 y2 y3 y4 y5
      obtain ⟨x0, x1, x2, x3, x4, x5, _⟩ := six HB1.out
      obtain ⟨y0, y1, y2, y3, y4, y5, _⟩ := six HB2.out
      have HQ := Lib.hid (seqSame_any p p S S av ac ai bv bc bi an1 an2 an3 a1 a2 a3 bn1 bn2 bn3 b1 b2 b3 w5 HS1.out HS2.out (by have := HL1.out; omega) (by have := HL1.out; omega) (by have := HL1.out; omega) (by have := HL2.out; omega) (by have := HL2.out; omega) (by have := HL2.out; omega))
      rw [sameS_refl] at HQ
      go_wp2_with fail
      refine HQ.out.mono ?_
      rintro e w6 ⟨rfl, hb⟩
      replace HH := Lib.hid (HH.out.step hb)
      clear hb HQ x0 x1 x2 x3 x4 x5 y0 y1 y2 y3 y4 y5
      go_wp2_with fail
      refine (works_any _).mono ?_
      rintro e w7 ⟨rfl, hb⟩
      replace HH := Lib.hid (HH.out.step hb)
      clear hb
      go_wp2
      go_ret
      exact ⟨rfl, HH.out.below⟩
  · have hgo2 : t = false ∨ (t = true ∧ 40 < st ∧ st ≤ 2000) := by cases t <;> simp at hgo ⊢; omega
    clear hgo HC1 HC2 HTL
    obtain ⟨j0, j1, j2, j3, j4, _⟩ := jb_cells HH.out.jb
    rcases hgo2 with rfl | ⟨rfl, h1, h2⟩
    all_goals
      go_wp2_with fail
      refine (works_any _).mono ?_
      rintro e w7 ⟨rfl, hb⟩
      replace HH := Lib.hid (HH.out.step hb)
      clear hb
      go_wp2
      go_ret
      exact ⟨rfl, HH.out.below⟩

set_option maxRecDepth 100000 in
set_option maxHeartbeats 1000000 in
theorem law_same (p q : Int) (a b : Sq) (Av Ac Ai Bv Bc Bi : Option Addr) (nv nc ni cv cc ci mv mc mi dv dc di : Nat) (w : World) (ha : SAt w Av Ac Ai nv nc ni a) (hb : SAt w Bv Bc Bi mv mc mi b)
    (h1 : nv ≤ 9223372036854775807) (h2 : nc ≤ 9223372036854775807) (h3 : ni ≤ 9223372036854775807) (g1 : mv ≤ 9223372036854775807) (g2 : mc ≤ 9223372036854775807) (g3 : mi ≤ 9223372036854775807) :
    Calls Tryz.prog 7 #[.agg #[.int .i64 p, .slice Av nv cv, .slice Ac nc cc, .slice Ai ni ci, .int .i64 a.sum, .int .i64 a.most], .agg #[.int .i64 q, .slice Bv mv dv, .slice Bc mc dc, .slice Bi mi di, .int .i64 b.sum, .int .i64 b.most]] w fun e w' => e = .returned (.bool true) ∧ Below w.heap.size w w' := by
  have mixed := mixedI
  have D1 := Lib.hid (fun (W : World) (hW : Below w.heap.size w W) => seqSame_any p q a b Av Ac Ai Bv Bc Bi nv nc ni cv cc ci mv mc mi dv dc di W (ha.below hW) (hb.below hW) h1 h2 h3 g1 g2 g3)
  have D2 := Lib.hid (fun (W : World) (hW : Below w.heap.size w W) => rsqSame_any p q a b Av Ac Ai Bv Bc Bi nv nc ni cv cc ci mv mc mi dv dc di W (ha.below hW) (hb.below hW) h1 h2 h3 g1 g2 g3)
  have D3 := Lib.hid (fun (W : World) (hW : Below w.heap.size w W) => seqSame_any p p a a Av Ac Ai Av Ac Ai nv nc ni cv cc ci nv nc ni cv cc ci W (ha.below hW) (ha.below hW) h1 h2 h3 h1 h2 h3)
  obtain ⟨r, hr⟩ : ∃ r, sameS p q a b = r := ⟨_, rfl⟩
  rw [hr] at D1 D2
  simp only [sameS_refl] at D3
  obtain ⟨sa, hsa⟩ : ∃ x, x = a.sum := ⟨_, rfl⟩
  obtain ⟨ma, hma⟩ : ∃ x, x = a.most := ⟨_, rfl⟩
  obtain ⟨sb, hsb⟩ : ∃ x, x = b.sum := ⟨_, rfl⟩
  obtain ⟨mb, hmb⟩ : ∃ x, x = b.most := ⟨_, rfl⟩
  rw [← hsa, ← hma, ← hsb, ← hmb] at D1 D2
  rw [← hsa, ← hma] at D3
  rw [← hsa, ← hma, ← hsb, ← hmb]
  clear hr hsa hma hsb hmb ha hb h1 h2 h3 g1 g2 g3
  obtain ⟨W2, hW2⟩ : ∃ W2, W2 = (w.alloc (.cells #[.int .i64 p, .slice Av nv cv, .slice Ac nc cc, .slice Ai ni ci, .int .i64 sa, .int .i64 ma] 33)).alloc (.cells #[.int .i64 q, .slice Bv mv dv, .slice Bc mc dc, .slice Bi mi di, .int .i64 sb, .int .i64 mb] 33) := ⟨_, rfl⟩
  have hal := al2 w (.cells #[.int .i64 p, .slice Av nv cv, .slice Ac nc cc, .slice Ai ni ci, .int .i64 sa, .int .i64 ma] 33) (.cells #[.int .i64 q, .slice Bv mv dv, .slice Bc mc dc, .slice Bi mi di, .int .i64 sb, .int .i64 mb] 33)
  rw [← hW2] at hal
  obtain ⟨n0, e0⟩ : ∃ n0, n0 = w.heap.size := ⟨_, rfl⟩
  have HA : Hid (W2.heap[n0]? = some (.cells #[.int .i64 p, .slice Av nv cv, .slice Ac nc cc, .slice Ai ni ci, .int .i64 sa, .int .i64 ma] 33 (0, 0))) := Lib.hid (by rw [e0]; exact hal.1)
  have HB : Hid (W2.heap[n0 + 1]? = some (.cells #[.int .i64 q, .slice Bv mv dv, .slice Bc mc dc, .slice Bi mi di, .int .i64 sb, .int .i64 mb] 33 (0, 0))) := Lib.hid (by rw [e0]; exact hal.2.1)
  have HW := Lib.hid hal.2.2
  clear hal
  go_enter Tryz.func7, Tryz.ntmps7
  go_upto_region 1 with fail
  rw [← hW2, show w.heap.size = n0 from e0.symm]
  clear hW2 e0
  obtain ⟨x0, x1, x2, x3, x4, x5, _⟩ := six HA.out
  obtain ⟨ta, hta⟩ : ∃ t, fewB nv nc ni = t := ⟨_, rfl⟩
  obtain ⟨tb, htb⟩ : ∃ t, fewB mv mc mi = t := ⟨_, rfl⟩
  have F1 := Lib.hid (fun W => few_all p sa ma Av Ac Ai nv nc ni cv cc ci W)
  have F2 := Lib.hid (fun W => few_all q sb mb Bv Bc Bi mv mc mi dv dc di W)
  rw [hta] at F1; rw [htb] at F2
  clear hta htb
  go_wp2_with fail
  refine (F1.out _).mono ?_
  rintro e w3 ⟨rfl, hb⟩
  replace HA := Lib.hid (keep HA.out hb); replace HB := Lib.hid (keep HB.out hb); replace HW := Lib.hid (step_below HW.out HW.out.size hb)
  clear hb x0 x1 x2 x3 x4 x5 F1
  cases ta with
  | false =>
    go_wp2_with fail
    refine (works_any _).mono ?_
    rintro e w7 ⟨rfl, hb⟩
    replace HW := Lib.hid (step_below HW.out HW.out.size hb)
    clear hb
    go_wp2
    go_ret
    exact ⟨rfl, HW.out⟩
  | true =>
    obtain ⟨y0, y1, y2, y3, y4, y5, _⟩ := six HB.out
    go_wp2_with fail
    refine (F2.out _).mono ?_
    rintro e w4 ⟨rfl, hb⟩
    replace HA := Lib.hid (keep HA.out hb); replace HB := Lib.hid (keep HB.out hb); replace HW := Lib.hid (step_below HW.out HW.out.size hb)
    clear hb y0 y1 y2 y3 y4 y5 F2
    cases tb with
    | false =>
      go_wp2_with fail
      refine (works_any _).mono ?_
      rintro e w7 ⟨rfl, hb⟩
      replace HW := Lib.hid (step_below HW.out HW.out.size hb)
      clear hb
      go_wp2
      go_ret
      exact ⟨rfl, HW.out⟩
    | true =>
      have C1 := Lib.hid (regr fun W (hb : Below w4.heap.size w4 W) => D1.out W (step_below HW.out HW.out.size hb))
      have C2 := Lib.hid (regr fun W (hb : Below w4.heap.size w4 W) => D2.out W (step_below HW.out HW.out.size hb))
      have C3 := Lib.hid (regr fun W (hb : Below w4.heap.size w4 W) => D3.out W (step_below HW.out HW.out.size hb))
      have C4 := Lib.hid (regr fun W (_ : Below w4.heap.size w4 W) => works_any W)
      clear D1 D2 D3
      obtain ⟨x0, x1, x2, x3, x4, x5, _⟩ := six HA.out
      obtain ⟨y0, y1, y2, y3, y4, y5, _⟩ := six HB.out
      have s0 := cell_regrown x0; have s1 := cell_regrown x1; have s2 := cell_regrown x2; have s3 := cell_regrown x3; have s4 := cell_regrown x4; have s5 := cell_regrown x5
      have u0 := cell_regrown y0; have u1 := cell_regrown y1; have u2 := cell_regrown y2; have u3 := cell_regrown y3; have u4 := cell_regrown y4; have u5 := cell_regrown y5
      clear x0 x1 x2 x3 x4 x5 y0 y1 y2 y3 y4 y5
      go_upto_region 3 with fail
      refine wp_region_quiet_below mixed (by kernel_rfl) ?_
      repeat (go_big_quiet_step ((with_reducible first | exact C1.out _ _ | exact C2.out _ _ | exact C3.out _ _ | exact C4.out _ _)))
      refine wpQuiet_nil ?_
      intro w5 hw5
      have hb5 : Below w4.heap.size w4 w5 := by obtain ⟨⟨dq, osq⟩, rfl⟩ := hw5; exact below_regrown w4 dq osq
      replace HW := Lib.hid (step_below HW.out HW.out.size hb5)
      clear hb5 hw5 C1 C2 C3 C4 s0 s1 s2 s3 s4 s5 u0 u1 u2 u3 u4 u5
      go_wp2
      go_ret
      exact ⟨rfl, HW.out⟩

end Go.Proofs.YtbbmgandkmlojaaGreat.Sq

/-
  What is proved here: the law SeqStep walked: it returns true, and no block that was there has changed. Conditions: rows that a memory holds; numbers of 64 bits.
-/
namespace Go.Proofs.YtbbmgandkmlojaaGreat.Sq
open Go.RowKit Go.Shelf Gr Wd Ws Fx Rk Lb Al In
open Pa (vl bt vl_of vl_at bt_of bt_at)

theorem few_step (k st so dm ep V : Int) (L : List Ed) (p : Int) (s : Sq) : Few (stepR k st so dm ep V L p s).2.1 := by
  unfold stepR
  split
  · rename_i h
    split
    · obtain ⟨hz, _, _, _, _, _⟩ := chkJ_zero h
      obtain ⟨Vn, rfl, hV1, hV2, _⟩ := chk_facts hz
      refine ⟨?_, ?_, ?_⟩
      · show (nxtV k dm ((Vn : Int)).toNat s).length ≤ 512
        rw [nxtV_len]; exact hV2
      · show (nxtC k dm ((Vn : Int)).toNat s).length ≤ 512
        rw [nxtC_len]; exact hV2
      · show (inbS k ((Vn : Int)).toNat L _ _).length ≤ 512
        rw [inb_len]; exact hV2
    · exact few_z
  · exact few_z
theorem fewB_of {a b c : Nat} (h : fewB a b c = true) : a ≤ 20 ∧ b ≤ 20 ∧ c ≤ 20 := by
  unfold fewB at h; simp at h; omega
structure StH (w W : World) (n0 : Nat) (V : Int) (A : Option Addr) (n c : Nat) (k st so dm ep p : Int) (Av : Option Addr) (nv cv : Nat) (Ac : Option Addr) (nc cc : Nat) (Ai : Option Addr) (ni ci : Nat) (sm mo : Int) : Prop where
  below : Below w.heap.size w W
  gb : W.heap[n0]? = some (.cells #[.int .i64 V, .slice A n c] 24 (0, 0))
  jb : W.heap[n0 + 1]? = some (.cells #[.int .u8 k, .int .i64 st, .int .i64 so, .int .i64 dm, .int .i64 ep] 26 (0, 0))
  sb : W.heap[n0 + 1 + 1]? = some (.cells #[.int .i64 p, .slice Av nv cv, .slice Ac nc cc, .slice Ai ni ci, .int .i64 sm, .int .i64 mo] 33 (0, 0))
theorem StH.step {w W W' : World} {n0 : Nat} {V : Int} {A : Option Addr} {n c : Nat} {k st so dm ep p : Int} {Av : Option Addr} {nv cv : Nat} {Ac : Option Addr} {nc cc : Nat} {Ai : Option Addr} {ni ci : Nat} {sm mo : Int} (h : StH w W n0 V A n c k st so dm ep p Av nv cv Ac nc cc Ai ni ci sm mo) (hb : Below W.heap.size W W') : StH w W' n0 V A n c k st so dm ep p Av nv cv Ac nc cc Ai ni ci sm mo := ⟨step_below h.below h.below.size hb, keep h.gb hb, keep h.jb hb, keep h.sb hb⟩
/- A copy that is being made, in its box. -/
structure CpH (W : World) (bc B : Nat) (p sm mo : Int) (s : Sq) (va vc vi : Value) : Prop where
  cb : W.heap[bc]? = some (.cells #[.int .i64 p, va, vc, vi, .int .i64 sm, .int .i64 mo] 33 (0, 0))
  q : QOwn W B va s.vals
  m : BOwn W B vc s.chg
  k : KOwn W B vi s.inb
theorem CpH.step {W W' : World} {bc B : Nat} {p sm mo : Int} {s : Sq} {va vc vi : Value} (h : CpH W bc B p sm mo s va vc vi) (hb : Below W.heap.size W W') : CpH W' bc B p sm mo s va vc vi := ⟨keep h.cb hb, h.q.below hb, h.m.below hb, h.k.below hb⟩
/- Values that are written over. -/
structure WrH (X W : World) (B g nv bl : Nat) (bx : Array Value) : Prop where
  below : Below B X W
  bb : W.heap[bl]? = some (.cells bx 33 (0, 0))
  row : ∃ cur, W.heap[g]? = some (.cells cur 2 (0, 0)) ∧ nv ≤ cur.size
theorem WrH.set {X W : World} {B g nv bl : Nat} {bx : Array Value} (h : WrH X W B g nv bl bx) (hg : B ≤ g) (j : Nat) (u : Value) : WrH X (W.setCell ⟨g, j, none⟩ u) B g nv bl bx := by
  obtain ⟨cur, h1, h2⟩ := h.row
  refine ⟨h.below.setCell (p := ⟨g, j, none⟩) hg u, (set_other _ _ _ _ _ fun e => ?_).trans h.bb, cur.setIfInBounds j u, set_heap h1 u, by simpa using h2⟩
  subst e
  have h3 := h.bb
  rw [h1] at h3; injection h3 with h3; injection h3 with _ h3 _
  exact absurd h3 (by decide)
theorem own_block {W : World} {B n : Nat} {A : Option Addr} {c : Nat} {l : List Int} (h : QOwn W B (.slice A n c) l) (hn : 0 < n) : ∃ g, A = some ⟨g, 0, none⟩ ∧ B ≤ g ∧ ∃ cur, W.heap[g]? = some (.cells cur 2 (0, 0)) ∧ n ≤ cur.size := by
  obtain ⟨h0, h1 | ⟨g, cap, cur, h1, h2, h3, h4, h5, h6, h7⟩⟩ := h
  · exact absurd hn (by have := h1.1; injection this; omega)
  · injection h1 with e1 e2 e3
    refine ⟨g, e1, h2, cur, h3, ?_⟩
    have := congrArg List.length h7
    simp [ints] at this
    omega

set_option maxRecDepth 100000 in
set_option maxHeartbeats 1000000 in
theorem law_step (k st so dm ep V p : Int) (A : Option Addr) (n c : Nat) (L : List Ed) (s : Sq) (Av Ac Ai : Option Addr) (nv nc ni cv cc ci : Nat) (w : World) (hL : EAt w A L) (hn : L.length = n) (hm : n ≤ 9223372036854775807) (ha : SAt w Av Ac Ai nv nc ni s) (hi : ∀ m ∈ s.inb, I63 m.2)
    (h1 : nv ≤ 9223372036854775807) (h2 : nc ≤ 9223372036854775807) (h3 : ni ≤ 9223372036854775807) :
    Calls Tryz.prog 4 #[.agg #[.int .i64 V, .slice A n c], .agg #[.int .u8 k, .int .i64 st, .int .i64 so, .int .i64 dm, .int .i64 ep], .agg #[.int .i64 p, .slice Av nv cv, .slice Ac nc cc, .slice Ai ni ci, .int .i64 s.sum, .int .i64 s.most]] w fun e w' => e = .returned (.bool true) ∧ Below w.heap.size w w' := by
  have HL := Lib.hid hL; have HN := Lib.hid hn; have HA := Lib.hid ha
  obtain ⟨r, hr⟩ : ∃ r, stepR k st so dm ep V L p s = r := ⟨_, rfl⟩
  obtain ⟨pr, S, E⟩ := r
  have hfw : Few S := by have := few_step k st so dm ep V L p s; rw [hr] at this; exact this
  have HR := Lib.hid hr
  have HFW := Lib.hid hfw
  have HC1 : Hid (n ≤ 1000 → ∀ W : World, Below w.heap.size w W → Calls Tryz.prog 17 #[.agg #[.int .i64 V, .slice A n c], .agg #[.int .u8 k, .int .i64 st, .int .i64 so, .int .i64 dm, .int .i64 ep], .agg #[.int .i64 p, .slice Av nv cv, .slice Ac nc cc, .slice Ai ni ci, .int .i64 s.sum, .int .i64 s.most]] W fun e w' => Res W w' e (pr, S, E)) := Lib.hid (fun h W hW => by
    have h := seqStep_any k st so dm ep V p A n c L s Av Ac Ai nv nc ni cv cc ci W (hL.below hW) hn h (ha.below hW) hi h1 h2 h3
    rw [hr] at h; exact h)
  have HC2 : Hid (n ≤ 1000 → ∀ (W : World) (Bv Bc Bi : Option Addr) (dv dc di : Nat), Below w.heap.size w W → SAt W Bv Bc Bi nv nc ni s → Calls Tryz.prog 18 #[.agg #[.int .i64 V, .slice A n c], .agg #[.int .u8 k, .int .i64 st, .int .i64 so, .int .i64 dm, .int .i64 ep], .agg #[.int .i64 p, .slice Bv nv dv, .slice Bc nc dc, .slice Bi ni di, .int .i64 s.sum, .int .i64 s.most]] W fun e w' => SRes W w' e pr S E) := Lib.hid (fun h W Bv Bc Bi dv dc di hW hs => (rstep_any k st so dm ep V p A n c L s Bv Bc Bi nv nc ni dv dc di W (hL.below hW) hn h hs hi h1 h2 h3).mono fun _ _ h => sres_of h hr hfw)
  clear hL hn ha hi hr hfw HR
  obtain ⟨sm, hsm⟩ : ∃ x, x = s.sum := ⟨_, rfl⟩
  obtain ⟨mo, hmo⟩ : ∃ x, x = s.most := ⟨_, rfl⟩
  rw [← hsm, ← hmo] at HC1 HC2 ⊢
  have HSM := Lib.hid hsm; have HMO := Lib.hid hmo
  clear hsm hmo
  obtain ⟨W3, hW3⟩ : ∃ W3, W3 = ((w.alloc (.cells #[.int .i64 V, .slice A n c] 24)).alloc (.cells #[.int .u8 k, .int .i64 st, .int .i64 so, .int .i64 dm, .int .i64 ep] 26)).alloc (.cells #[.int .i64 p, .slice Av nv cv, .slice Ac nc cc, .slice Ai ni ci, .int .i64 sm, .int .i64 mo] 33) := ⟨_, rfl⟩
  have hal := al3 w (.cells #[.int .i64 V, .slice A n c] 24) (.cells #[.int .u8 k, .int .i64 st, .int .i64 so, .int .i64 dm, .int .i64 ep] 26) (.cells #[.int .i64 p, .slice Av nv cv, .slice Ac nc cc, .slice Ai ni ci, .int .i64 sm, .int .i64 mo] 33)
  rw [← hW3] at hal
  obtain ⟨n0, e0⟩ : ∃ n0, n0 = w.heap.size := ⟨_, rfl⟩
  have HH : Hid (StH w W3 n0 V A n c k st so dm ep p Av nv cv Ac nc cc Ai ni ci sm mo) := Lib.hid ⟨hal.2.2.2, by rw [e0]; exact hal.1, by rw [e0]; exact hal.2.1, by rw [e0]; exact hal.2.2.1⟩
  have HN0 : Hid (w.heap.size ≤ n0) := Lib.hid (by omega)
  clear hal
  obtain ⟨g0, g1, _⟩ := two HH.out.gb
  have HT := Lib.hid (light_all V A n c L W3 (HL.out.below HH.out.below) HN.out hm)
  obtain ⟨t, ht⟩ : ∃ t, lightB V L = t := ⟨_, rfl⟩
  rw [ht] at HT
  have HTL := Lib.hid ht
  clear ht
  obtain ⟨ta, hta⟩ : ∃ t, fewB nv nc ni = t := ⟨_, rfl⟩
  have HF := Lib.hid (fun W => few_all p sm mo Av Ac Ai nv nc ni cv cc ci W)
  rw [hta] at HF
  have HTA := Lib.hid hta
  clear hta
  go_enter Tryz.func4, Tryz.ntmps4
  go_upto_region 1 with fail
  rw [← hW3, show w.heap.size = n0 from e0.symm]
  clear hW3 e0
  go_wp2_with fail
  refine HT.out.mono ?_
  rintro e w1 ⟨rfl, hb⟩
  replace HH := Lib.hid (HH.out.step hb)
  clear hb HT g0 g1
  cases t with
  | false =>
    clear HC1 HC2 HTL
    go_wp2_with fail
    refine (works_any _).mono ?_
    rintro e w7 ⟨rfl, hb⟩
    replace HH := Lib.hid (HH.out.step hb)
    clear hb
    go_wp2
    go_ret
    exact ⟨rfl, HH.out.below⟩
  | true =>
    obtain ⟨s0, s1, s2, s3, s4, s5, _⟩ := six HH.out.sb
    go_wp2_with fail
    refine (HF.out _).mono ?_
    rintro e w2 ⟨rfl, hb⟩
    replace HH := Lib.hid (HH.out.step hb)
    clear hb HF s0 s1 s2 s3 s4 s5
    cases ta with
    | false =>
      clear HC1 HC2 HTL
      go_wp2_with fail
      refine (works_any _).mono ?_
      rintro e w7 ⟨rfl, hb⟩
      replace HH := Lib.hid (HH.out.step hb)
      clear hb
      go_wp2
      go_ret
      exact ⟨rfl, HH.out.below⟩
    | true =>
      have hn80 : n ≤ 80 := by have := lightB_few HTL.out; rwa [HN.out] at this
      obtain ⟨hv20, hc20, hi20⟩ := fewB_of HTA.out
      replace HC1 := Lib.hid (HC1.out (by omega)); replace HC2 := Lib.hid (HC2.out (by omega))
      clear hn80 HTL HTA
      obtain ⟨s0, s1, s2, s3, s4, s5, _⟩ := six HH.out.sb
      -- the copy
      obtain ⟨X0, hX0⟩ : ∃ X, X = w2.alloc (.cells #[.int .i64 p, .slice none 0 0, .slice none 0 0, .slice none 0 0, .int .i64 sm, .int .i64 mo] 33) := ⟨_, rfl⟩
      obtain ⟨bc, ebc⟩ : ∃ b, b = w2.heap.size := ⟨_, rfl⟩
      have hb : Below w2.heap.size w2 X0 := by rw [hX0]; exact (Below.refl _ w2).alloc (Nat.le_refl _) _
      have HCB : Hid (X0.heap[bc]? = some (.cells #[.int .i64 p, .slice none 0 0, .slice none 0 0, .slice none 0 0, .int .i64 sm, .int .i64 mo] 33 (0, 0))) := Lib.hid (by rw [hX0, ebc]; exact heap_alloc_new w2 _)
      have HBC : Hid (w.heap.size ≤ bc) := Lib.hid (by rw [ebc]; exact HH.out.below.size)
      have HBN : Hid (n0 + 1 + 1 < bc) := Lib.hid (by rw [ebc]; exact lt_of_block HH.out.sb)
      replace HH := Lib.hid (HH.out.step hb)
      clear hb
      go_upto_region 4 with fail
      rw [← hX0, show w2.heap.size = bc from ebc.symm]
      clear hX0 ebc s0 s1 s2 s3 s4 s5
      obtain ⟨s0, s1, s2, s3, s4, s5, _⟩ := six HH.out.sb
      obtain ⟨c0, c1, c2, c3, c4, c5, _⟩ := six HCB.out
      have HSZ := Lib.hid HH.out.below.size
      have HRW := Lib.hid ((HA.out.below HH.out.below).v)
      go_wp2_with (at_builtin; refine app_qcopy rfl (.tmp 30) (.tmp 32) rfl w.heap.size s.vals rfl Av nv cv HA.out.nv rfl HRW.out (by omega) HSZ.out ?_)
      intro u1 y1 ho hg
      have hb : Below X0.heap.size X0 y1 := Below.grown (Below.refl _ _) hg (Nat.le_refl _) (fun j e => by cases e)
      replace HH := Lib.hid (HH.out.step hb)
      replace HCB := Lib.hid (keep HCB.out hb)
      have HO1 : Hid (QOwn y1 w.heap.size u1 s.vals) := Lib.hid ho
      clear hb ho hg HSZ HRW s0 s1 s2 s3 s4 s5 c0 c1 c2 c3 c4 c5
      obtain ⟨D1, d1, rfl, _⟩ := HO1.out.form
      rw [HA.out.nv] at HO1 ⊢
      obtain ⟨X1, hX1⟩ : ∃ X, X = y1.setCell ⟨bc, 1, none⟩ (.slice D1 nv d1) := ⟨_, rfl⟩
      have ho : ∀ j, j ≠ bc → X1.heap[j]? = y1.heap[j]? := fun j hj => by rw [hX1]; exact set_other _ _ _ _ _ hj
      replace HH : Hid (StH w X1 n0 V A n c k st so dm ep p Av nv cv Ac nc cc Ai ni ci sm mo) := Lib.hid (by
        have hbn := HBN.out
        exact ⟨by rw [hX1]; exact HH.out.below.setCell (p := ⟨bc, 1, none⟩) HBC.out _, (ho _ (by omega)).trans HH.out.gb, (ho _ (by omega)).trans HH.out.jb, (ho _ (by omega)).trans HH.out.sb⟩)
      obtain ⟨c0, c1, c2, c3, c4, c5, _⟩ := six HCB.out
      have f1 := warm HCB.out 1
      replace HO1 := Lib.hid (own_moved HO1.out HCB.out (by decide) ho)
      replace HCB : Hid (X1.heap[bc]? = some (.cells #[.int .i64 p, .slice D1 nv d1, .slice none 0 0, .slice none 0 0, .int .i64 sm, .int .i64 mo] 33 (0, 0))) := Lib.hid (by rw [hX1]; exact set_heap (i := 1) HCB.out _)
      clear ho
      go_upto_region 5 with fail
      rw [← hX1]
      clear hX1 c0 c1 c2 c3 c4 c5 f1
      obtain ⟨s0, s1, s2, s3, s4, s5, _⟩ := six HH.out.sb
      obtain ⟨c0, c1, c2, c3, c4, c5, _⟩ := six HCB.out
      have HSZ := Lib.hid HH.out.below.size
      have HRW := Lib.hid ((HA.out.below HH.out.below).c)
      go_wp2_with (at_builtin; refine app_bcopy rfl (.tmp 36) (.tmp 38) rfl w.heap.size s.chg rfl Ac nc cc HA.out.nc rfl HRW.out (by omega) HSZ.out ?_)
      intro u2 y2 ho hg
      have hb : Below X1.heap.size X1 y2 := Below.grown (Below.refl _ _) hg (Nat.le_refl _) (fun j e => by cases e)
      replace HH := Lib.hid (HH.out.step hb)
      replace HCB := Lib.hid (keep HCB.out hb)
      replace HO1 := Lib.hid (own_below HO1.out hb)
      have HO2 : Hid (BOwn y2 w.heap.size u2 s.chg) := Lib.hid ho
      clear hb ho hg HSZ HRW s0 s1 s2 s3 s4 s5 c0 c1 c2 c3 c4 c5
      obtain ⟨D2, d2, rfl, _⟩ := HO2.out.form
      rw [HA.out.nc] at HO2 ⊢
      obtain ⟨X2, hX2⟩ : ∃ X, X = y2.setCell ⟨bc, 2, none⟩ (.slice D2 nc d2) := ⟨_, rfl⟩
      have ho : ∀ j, j ≠ bc → X2.heap[j]? = y2.heap[j]? := fun j hj => by rw [hX2]; exact set_other _ _ _ _ _ hj
      replace HH : Hid (StH w X2 n0 V A n c k st so dm ep p Av nv cv Ac nc cc Ai ni ci sm mo) := Lib.hid (by
        have hbn := HBN.out
        exact ⟨by rw [hX2]; exact HH.out.below.setCell (p := ⟨bc, 2, none⟩) HBC.out _, (ho _ (by omega)).trans HH.out.gb, (ho _ (by omega)).trans HH.out.jb, (ho _ (by omega)).trans HH.out.sb⟩)
      obtain ⟨c0, c1, c2, c3, c4, c5, _⟩ := six HCB.out
      have f2 := warm HCB.out 2
      replace HO1 := Lib.hid (own_moved HO1.out HCB.out (by decide) ho)
      replace HO2 := Lib.hid (own_moved HO2.out HCB.out (by decide) ho)
      replace HCB : Hid (X2.heap[bc]? = some (.cells #[.int .i64 p, .slice D1 nv d1, .slice D2 nc d2, .slice none 0 0, .int .i64 sm, .int .i64 mo] 33 (0, 0))) := Lib.hid (by rw [hX2]; exact set_heap (i := 2) HCB.out _)
      clear ho
      go_upto_region 6 with fail
      rw [← hX2]
      clear hX2 c0 c1 c2 c3 c4 c5 f2
      obtain ⟨s0, s1, s2, s3, s4, s5, _⟩ := six HH.out.sb
      obtain ⟨c0, c1, c2, c3, c4, c5, _⟩ := six HCB.out
      have HSZ := Lib.hid HH.out.below.size
      have HRW := Lib.hid ((HA.out.below HH.out.below).i)
      go_wp2_with (at_builtin; refine app_kcopy rfl (.tmp 42) (.tmp 44) rfl w.heap.size s.inb rfl Ai ni ci HA.out.ni rfl HRW.out (by omega) HSZ.out ?_)
      intro u3 y3 ho hg
      have hb : Below X2.heap.size X2 y3 := Below.grown (Below.refl _ _) hg (Nat.le_refl _) (fun j e => by cases e)
      replace HH := Lib.hid (HH.out.step hb)
      replace HCB := Lib.hid (keep HCB.out hb)
      replace HO1 := Lib.hid (own_below HO1.out hb)
      replace HO2 := Lib.hid (own_below HO2.out hb)
      have HO3 : Hid (KOwn y3 w.heap.size u3 s.inb) := Lib.hid ho
      clear hb ho hg HSZ HRW s0 s1 s2 s3 s4 s5 c0 c1 c2 c3 c4 c5
      obtain ⟨D3, d3, rfl, _⟩ := HO3.out.room
      rw [HA.out.ni] at HO3 ⊢
      obtain ⟨X3, hX3⟩ : ∃ X, X = y3.setCell ⟨bc, 3, none⟩ (.slice D3 ni d3) := ⟨_, rfl⟩
      have ho : ∀ j, j ≠ bc → X3.heap[j]? = y3.heap[j]? := fun j hj => by rw [hX3]; exact set_other _ _ _ _ _ hj
      replace HH : Hid (StH w X3 n0 V A n c k st so dm ep p Av nv cv Ac nc cc Ai ni ci sm mo) := Lib.hid (by
        have hbn := HBN.out
        exact ⟨by rw [hX3]; exact HH.out.below.setCell (p := ⟨bc, 3, none⟩) HBC.out _, (ho _ (by omega)).trans HH.out.gb, (ho _ (by omega)).trans HH.out.jb, (ho _ (by omega)).trans HH.out.sb⟩)
      obtain ⟨c0, c1, c2, c3, c4, c5, _⟩ := six HCB.out
      have f3 := warm HCB.out 3
      replace HO1 := Lib.hid (own_moved HO1.out HCB.out (by decide) ho)
      replace HO2 := Lib.hid (own_moved HO2.out HCB.out (by decide) ho)
      replace HO3 := Lib.hid (own_moved HO3.out HCB.out (by decide) ho)
      replace HCB : Hid (X3.heap[bc]? = some (.cells #[.int .i64 p, .slice D1 nv d1, .slice D2 nc d2, .slice D3 ni d3, .int .i64 sm, .int .i64 mo] 33 (0, 0))) := Lib.hid (by rw [hX3]; exact set_heap (i := 3) HCB.out _)
      clear ho
      go_upto_region 7 with fail
      rw [← hX3]
      clear hX3 c0 c1 c2 c3 c4 c5 f3
      have HCP : Hid (CpH X3 bc w.heap.size p sm mo s (.slice D1 nv d1) (.slice D2 nc d2) (.slice D3 ni d3)) := Lib.hid ⟨HCB.out, HO1.out, HO2.out, HO3.out⟩
      have HSC : Hid (SAt X3 D1 D2 D3 nv nc ni s) := Lib.hid (by
        obtain ⟨_, _, e1, k1⟩ := QOwn.form HO1.out
        obtain ⟨_, _, e2, k2⟩ := BOwn.form HO2.out
        obtain ⟨_, _, e3, k3, _⟩ := KOwn.room HO3.out
        cases e1; cases e2; cases e3
        exact ⟨k1, k2, k3, HA.out.nv, HA.out.nc, HA.out.ni⟩)
      clear HCB HO1 HO2 HO3
      have HX3 := Lib.hid HH.out
      -- the step
      obtain ⟨s0, s1, s2, s3, s4, s5, _⟩ := six HH.out.sb
      obtain ⟨g0, g1, _⟩ := two HH.out.gb
      obtain ⟨j0, j1, j2, j3, j4, _⟩ := jb_cells HH.out.jb
      go_wp2_with fail
      refine (HC1.out X3 HH.out.below).mono ?_
      rintro e v1 ⟨x, rfl, hx1, hb1⟩
      obtain ⟨av, a1, ac, a2, ai, a3, rfl, hsa, hqa, _, _⟩ := hx1.out.at
      simp only at hsa hqa ⊢
      obtain ⟨an1, han1⟩ : ∃ x, x = S.vals.length := ⟨_, rfl⟩
      obtain ⟨an2, han2⟩ : ∃ x, x = S.chg.length := ⟨_, rfl⟩
      obtain ⟨an3, han3⟩ : ∃ x, x = S.inb.length := ⟨_, rfl⟩
      rw [← han1, ← han2, ← han3] at hsa ⊢
      rw [← han1] at hqa
      have HL1 : Hid (an1 ≤ 512 ∧ an2 ≤ 512 ∧ an3 ≤ 512) := Lib.hid (by rw [han1, han2, han3]; exact HFW.out)
      clear han1 han2 han3
      obtain ⟨X4, hX4⟩ : ∃ X, X = v1.alloc (.cells #[.int .i64 pr, .slice av an1 a1, .slice ac an2 a2, .slice ai an3 a3, .int .i64 S.sum, .int .i64 S.most] 33) := ⟨_, rfl⟩
      obtain ⟨bl1, eb1⟩ : ∃ b, b = v1.heap.size := ⟨_, rfl⟩
      have hb' : Below v1.heap.size v1 X4 := by rw [hX4]; exact (Below.refl _ v1).alloc (Nat.le_refl _) _
      have hb : Below X3.heap.size X3 X4 := step_below hb1.out hb1.out.size hb'
      have HB34 := Lib.hid hb
      replace HH := Lib.hid (HH.out.step hb); replace HSC := Lib.hid (HSC.out.below hb)
      have HCX := Lib.hid (HCP.out.step hb)
      have HS1 := Lib.hid (hsa.below hb'); have HQ1 := Lib.hid (hqa.below hb')
      have HB1 : Hid (X4.heap[bl1]? = some (.cells #[.int .i64 pr, .slice av an1 a1, .slice ac an2 a2, .slice ai an3 a3, .int .i64 S.sum, .int .i64 S.most] 33 (0, 0))) := Lib.hid (by rw [hX4, eb1]; exact heap_alloc_new v1 _)
      clear hb hb' hsa hqa hx1 hb1 s0 s1 s2 s3 s4 s5 g0 g1 j0 j1 j2 j3 j4
      go_upto_region 8 with fail
      rw [← hX4, show v1.heap.size = bl1 from eb1.symm]
      clear hX4 eb1
      obtain ⟨g0, g1, _⟩ := two HH.out.gb
      obtain ⟨j0, j1, j2, j3, j4, _⟩ := jb_cells HH.out.jb
      obtain ⟨c0, c1, c2, c3, c4, c5, _⟩ := six HCX.out.cb
      go_wp2_with fail
      refine (HC2.out X4 D1 D2 D3 d1 d2 d3 HH.out.below HSC.out).mono ?_
      rintro e v2 ⟨bv, b1, bcc, b2, bi, b3, bn1, bn2, bn3, rfl, hs2, hf2, hb2⟩
      obtain ⟨X5, hX5⟩ : ∃ X, X = v2.alloc (.cells #[.int .i64 pr, .slice bv bn1 b1, .slice bcc bn2 b2, .slice bi bn3 b3, .int .i64 S.sum, .int .i64 S.most] 33) := ⟨_, rfl⟩
      obtain ⟨bl2, eb2⟩ : ∃ b, b = v2.heap.size := ⟨_, rfl⟩
      have hb' : Below v2.heap.size v2 X5 := by rw [hX5]; exact (Below.refl _ v2).alloc (Nat.le_refl _) _
      have hb : Below X4.heap.size X4 X5 := step_below hb2.out hb2.out.size hb'
      replace HB34 := Lib.hid (step_below HB34.out HB34.out.size hb)
      replace HH := Lib.hid (HH.out.step hb)
      replace HS1 := Lib.hid (HS1.out.below hb); replace HB1 := Lib.hid (keep HB1.out hb); replace HQ1 := Lib.hid (HQ1.out.below hb)
      have HS2 := Lib.hid (hs2.out.below hb')
      have HB2 : Hid (X5.heap[bl2]? = some (.cells #[.int .i64 pr, .slice bv bn1 b1, .slice bcc bn2 b2, .slice bi bn3 b3, .int .i64 S.sum, .int .i64 S.most] 33 (0, 0))) := Lib.hid (by rw [hX5, eb2]; exact heap_alloc_new v2 _)
      have HL2 := Lib.hid hf2.out
      clear hb hb' hs2 hf2 hb2 g0 g1 j0 j1 j2 j3 j4 c0 c1 c2 c3 c4 c5 HCX HSC
      go_upto_region 9 with fail
      rw [← hX5, show v2.heap.size = bl2 from eb2.symm]
      clear hX5 eb2
      obtain ⟨x0, x1, x2, x3, x4, x5, _⟩ := six HB1.out
      obtain ⟨y0, y1, y2, y3, y4, y5, _⟩ := six HB2.out
      have HQ := Lib.hid (rsqSame_any pr pr S S av ac ai bv bcc bi an1 an2 an3 a1 a2 a3 bn1 bn2 bn3 b1 b2 b3 X5 HS1.out HS2.out (by have := HL1.out; omega) (by have := HL1.out; omega) (by have := HL1.out; omega) (by have := HL2.out; omega) (by have := HL2.out; omega) (by have := HL2.out; omega))
      rw [sameS_refl] at HQ
      go_wp2_with fail
      refine HQ.out.mono ?_
      rintro e w5 ⟨rfl, hb⟩
      replace HB34 := Lib.hid (step_below HB34.out HB34.out.size hb)
      replace HB1 := Lib.hid (keep HB1.out hb); replace HQ1 := Lib.hid (HQ1.out.below hb)
      have HUP : Hid (w.heap.size ≤ X3.heap.size) := Lib.hid (by have := lt_of_block HCP.out.cb; have := HBC.out; omega)
      clear hb HQ x0 x1 x2 x3 x4 x5 y0 y1 y2 y3 y4 y5 HS1 HS2 HB2 HC1 HC2 HH
      -- written over
      by_cases hz : an1 = 0
      · subst hz
        obtain ⟨x0, x1, x2, x3, x4, x5, _⟩ := six HB1.out
        have HWR : Hid (Below X3.heap.size X3 w5) := HB34
        clear HQ1 HB34
        go_wp2_with fail
        go_loopg [12] 0 (fun gk i W => i = .int .i64 0 ∧ gk = 0 ∧ Hid (Below X3.heap.size X3 W) ∧ Hid (W.heap[bl1]? = some (.cells #[.int .i64 pr, .slice av 0 a1, .slice ac an2 a2, .slice ai an3 a3, .int .i64 S.sum, .int .i64 S.most] 33 (0, 0))))
        case atStart => exact ⟨rfl, rfl, HWR, HB1⟩
        case round =>
          clear HWR HB1 x0 x1 x2 x3 x4 x5
          obtain ⟨rfl, rfl, HWR, HB1⟩ := hrel
          obtain ⟨x0, x1, x2, x3, x4, x5, _⟩ := six HB1.out
          have HWX : Hid (Below w.heap.size w wr) := Lib.hid (step_below HX3.out.below HX3.out.below.size HWR.out)
          have HH : Hid (StH w wr n0 V A n c k st so dm ep p Av nv cv Ac nc cc Ai ni ci sm mo) := Lib.hid (HX3.out.step HWR.out)
          have HCY : Hid (CpH wr bc w.heap.size p sm mo s (.slice D1 nv d1) (.slice D2 nc d2) (.slice D3 ni d3)) := Lib.hid (HCP.out.step HWR.out)
          have HSC : Hid (SAt wr D1 D2 D3 nv nc ni s) := Lib.hid (by
            obtain ⟨_, _, e1, k1⟩ := QOwn.form HCY.out.q
            obtain ⟨_, _, e2, k2⟩ := BOwn.form HCY.out.m
            obtain ⟨_, _, e3, k3, _⟩ := KOwn.room HCY.out.k
            cases e1; cases e2; cases e3
            exact ⟨k1, k2, k3, HA.out.nv, HA.out.nc, HA.out.ni⟩)
          have HQ := Lib.hid (rsqSame_any p p s s Av Ac Ai D1 D2 D3 nv nc ni cv cc ci nv nc ni d1 d2 d3 wr (HA.out.below HWX.out) HSC.out h1 h2 h3 h1 h2 h3)
          rw [sameS_refl, ← HSM.out, ← HMO.out] at HQ
          obtain ⟨s0, s1, s2, s3, s4, s5, _⟩ := six HH.out.sb
          obtain ⟨c0, c1, c2, c3, c4, c5, _⟩ := six HCY.out.cb
          go_wp2_with fail
          refine HQ.out.mono ?_
          rintro e w8 ⟨rfl, hb⟩
          replace HWX := Lib.hid (step_below HWX.out HWX.out.size hb)
          clear hb HQ s0 s1 s2 s3 s4 s5 c0 c1 c2 c3 c4 c5 x0 x1 x2 x3 x4 x5 HH HCY HSC
          go_wp2_with fail
          refine (works_any _).mono ?_
          rintro e w9 ⟨rfl, hb⟩
          replace HWX := Lib.hid (step_below HWX.out HWX.out.size hb)
          clear hb
          go_wp2
          go_ret
          exact ⟨rfl, HWX.out⟩
      · have hq512 := HL1.out.1
        obtain ⟨g, rfl, hgB, hgr⟩ := own_block HQ1.out (by omega)
        have HWR : Hid (WrH X3 w5 X3.heap.size g an1 bl1 #[.int .i64 pr, .slice (some ⟨g, 0, none⟩) an1 a1, .slice ac an2 a2, .slice ai an3 a3, .int .i64 S.sum, .int .i64 S.most]) := Lib.hid ⟨HB34.out, HB1.out, hgr⟩
        clear HQ1 HB34 HB1 hgr
        go_wp2_with fail
        go_loopg [12] an1 (fun gk i W => ∃ q : Nat, q + gk = an1 ∧ i = .int .i64 (q : Int) ∧ Hid (WrH X3 W X3.heap.size g an1 bl1 #[.int .i64 pr, .slice (some ⟨g, 0, none⟩) an1 a1, .slice ac an2 a2, .slice ai an3 a3, .int .i64 S.sum, .int .i64 S.most]))
        case atStart => exact ⟨0, by omega, rfl, HWR⟩
        case round =>
          clear HWR
          obtain ⟨q, hq, rfl, HWR⟩ := hrel
          obtain ⟨x0, x1, x2, x3, x4, x5, _⟩ := six HWR.out.bb
          by_cases hlt : q < an1
          · obtain ⟨cur, hc1, hc2⟩ := HWR.out.row
            have hcu : cur[q]? = some (cur[q]'(by omega)) := Array.getElem?_eq_getElem (by omega)
            have hcl : wr.cell? ⟨g, q, none⟩ = some (cur[q]'(by omega)) := by rw [cell_of_row wr g q _ 2 (0, 0) hc1]; exact hcu
            obtain ⟨u, hu⟩ : ∃ u, u = cur[q]'(by omega) := ⟨_, rfl⟩
            rw [← hu] at hcl
            have fq := warm hc1 q
            have HWS := Lib.hid (HWR.out.set hgB q (.int .i64 (-9)))
            clear hcu hu hc1 hc2
            go_wp2
            go_roundg (gk - 1)
            case measure => omega
            case rel => exact ⟨q + 1, by omega, by go_num, HWS⟩
          · have HB4 := Lib.hid HWR.out.below
            clear HWR
            have HWX : Hid (Below w.heap.size w wr) := Lib.hid (step_below HX3.out.below HX3.out.below.size HB4.out)
            have HH : Hid (StH w wr n0 V A n c k st so dm ep p Av nv cv Ac nc cc Ai ni ci sm mo) := Lib.hid (HX3.out.step HB4.out)
            have HCY : Hid (CpH wr bc w.heap.size p sm mo s (.slice D1 nv d1) (.slice D2 nc d2) (.slice D3 ni d3)) := Lib.hid (HCP.out.step HB4.out)
            have HSC : Hid (SAt wr D1 D2 D3 nv nc ni s) := Lib.hid (by
              obtain ⟨_, _, e1, k1⟩ := QOwn.form HCY.out.q
              obtain ⟨_, _, e2, k2⟩ := BOwn.form HCY.out.m
              obtain ⟨_, _, e3, k3, _⟩ := KOwn.room HCY.out.k
              cases e1; cases e2; cases e3
              exact ⟨k1, k2, k3, HA.out.nv, HA.out.nc, HA.out.ni⟩)
            have HQ := Lib.hid (rsqSame_any p p s s Av Ac Ai D1 D2 D3 nv nc ni cv cc ci nv nc ni d1 d2 d3 wr (HA.out.below HWX.out) HSC.out h1 h2 h3 h1 h2 h3)
            rw [sameS_refl, ← HSM.out, ← HMO.out] at HQ
            obtain ⟨s0, s1, s2, s3, s4, s5, _⟩ := six HH.out.sb
            obtain ⟨c0, c1, c2, c3, c4, c5, _⟩ := six HCY.out.cb
            go_wp2_with fail
            refine HQ.out.mono ?_
            rintro e w8 ⟨rfl, hb⟩
            replace HWX := Lib.hid (step_below HWX.out HWX.out.size hb)
            clear hb HQ s0 s1 s2 s3 s4 s5 c0 c1 c2 c3 c4 c5 x0 x1 x2 x3 x4 x5 HH HCY HSC
            go_wp2_with fail
            refine (works_any _).mono ?_
            rintro e w9 ⟨rfl, hb⟩
            replace HWX := Lib.hid (step_below HWX.out HWX.out.size hb)
            clear hb
            go_wp2
            go_ret
            exact ⟨rfl, HWX.out⟩

end Go.Proofs.YtbbmgandkmlojaaGreat.Sq

/-
  What is proved here: what all laws of this seat share: what jobs, messages, rows of them, vertices and mail that came in give; a call that returns true and leaves every block that was there as it was meets the law's specification.
-/
namespace Go.Proofs.YtbbmgandkmlojaaGreat.In
open Go.ChangeShapes Go.WideShapes Go.ChangeAt Go.RowKit Go.Deep Gr Wd Ws Lb Al

theorem own : ownKnob Tryz.prog.godebug = none := by kernel_rfl
theorem laidOut : laidOutB Tryz.prog = true := by kernel_rfl
theorem law_post {H : Type} {enc : TypeId × Value → H} {f : Func} {s : ChangeSpec} {apart : Bool} {W W' : World} {args : Array Value} {ds : List (DataW H)} {before : List MemPlace}
    (hW : DataW.Whole enc Tryz.prog f.params.toList s.vars apart W args.toList ds [] before) (hb : Below W.heap.size W W')
    (ht : f.resultTypes = #[4]) (hr : (s.fn H (ds ++ [])).results = [.lit (.bool true)]) (hv : s.vars = []) (hg : (s.fn H (ds ++ [])).vars = [])
    (hargs : DataW.TrodAll enc Tryz.prog W' 0 (fun b => decide (b < W.heap.size)) true f.params.toList args.toList (s.fn H (ds ++ [])).args before) :
    s.post enc Tryz.prog f apart true false false W args (.bool true) W' := by
  have hres : ∀ (b : Nat) (sp : Nat → Bool) (hd : Bool), DataW.TrodAll enc Tryz.prog W' b sp hd f.resultTypes.toList ((Value.bool true).resultList f.resultTypes.size) (s.fn H (ds ++ [])).results [] := by
    intro b sp hd
    rw [hr, ht]
    exact trodAll_cons_mk (shut_bool Tryz.underlying4 _) trodAll_mk0
  have hvars : ∀ sp : Nat → Bool, DataW.TrodVars enc Tryz.prog W' sp s.vars (s.fn H (ds ++ [])).vars [] := by
    intro sp; rw [hv, hg]; rfl
  exact ⟨ds, [], before, [], before, [], hW, hres _ _ _, hargs, hvars _, hb.frame _, fun h => absurd h (by simp)⟩
theorem i64_in {a : Int} (h : (Lit.int .i64 a).wf = true) : -9223372036854775808 ≤ a ∧ a ≤ 9223372036854775807 := by
  have h1 : IntKind.i64.min ≤ a ∧ a ≤ IntKind.i64.max := by simpa [Lit.wf] using h
  have h3 : IntKind.i64.min = -9223372036854775808 := by decide
  have h4 : IntKind.i64.max = 9223372036854775807 := by decide
  omega
theorem u8_in {a : Int} (h : (Lit.int .u8 a).wf = true) : 0 ≤ a ∧ a ≤ 255 := by
  have h1 : IntKind.u8.min ≤ a ∧ a ≤ IntKind.u8.max := by simpa [Lit.wf] using h
  have h3 : IntKind.u8.min = 0 := by decide
  have h4 : IntKind.u8.max = 255 := by decide
  omega
theorem cellsI : Tryz.prog.cellsOf 3 = 1 := by kernel_rfl
theorem cellsJ : Tryz.prog.cellsOf 2 = 1 := by kernel_rfl
theorem cellsM : Tryz.prog.cellsOf 78 = 2 := by kernel_rfl
theorem cellsB : Tryz.prog.cellsOf 4 = 1 := by kernel_rfl
theorem pick_list {α : Type} (P : Nat → α → Prop) : ∀ n : Nat, (∀ i, i < n → ∃ x, P i x) → ∃ l : List α, l.length = n ∧ ∀ i x, l[i]? = some x → P i x
  | 0, _ => ⟨[], rfl, fun i x h => by simp at h⟩
  | n + 1, h => by
    obtain ⟨l, hl, hp⟩ := pick_list P n (fun i hi => h i (by omega))
    obtain ⟨x, hx⟩ := h n (by omega)
    refine ⟨l ++ [x], by simp [hl], fun i y hy => ?_⟩
    rcases Nat.lt_or_ge i n with hi | hi
    · rw [List.getElem?_append_left (by omega)] at hy; exact hp i y hy
    · rw [List.getElem?_append_right (by omega)] at hy
      have : i - l.length = 0 := by
        rcases Nat.eq_zero_or_pos (i - l.length) with h0 | h0
        · exact h0
        · rw [List.getElem?_eq_none (by simp; omega)] at hy; cases hy
      rw [this] at hy
      simp at hy
      have e : i = n := by omega
      rw [← hy, e]; exact hx
set_option maxRecDepth 100000 in
theorem job_in {H : Type} {enc : TypeId × Value → H} {W : World} {base : Nat} {v : Value} {d : DataW H} {ps : List MemPlace}
    (hval : Value.okWide Tryz.prog W .any base 26 v) (h : DataW.Trod enc Tryz.prog W 0 (fun _ => true) true 26 v d ps) :
    ∃ (k st so dm ep : Int), v = .agg #[.int .u8 k, .int .i64 st, .int .i64 so, .int .i64 dm, .int .i64 ep] ∧ (-9223372036854775808 ≤ dm ∧ dm ≤ 9223372036854775807) := by
  obtain ⟨cs, rfl, hsz⟩ := okWide_struct Tryz.underlying26 hval
  rw [show Tryz.prog.cellsOf 26 = 5 by kernel_rfl] at hsz
  obtain ⟨fuel, hf⟩ := h
  obtain ⟨ys, n', _, hy, _, hyl, hfld⟩ := DataW.trod_struct Tryz.underlying26 hf
  obtain ⟨l⟩ := cs
  match l, hsz with
  | [z0, z1, z2, z3, z4], _ =>
    match ys, hyl with
    | [y0, y1, y2, y3, y4], _ =>
      have f0 : DataW.trod enc Tryz.prog W 0 (fun _ => true) true n' 5 (([z0, z1, z2, z3, z4].drop 0).take (Tryz.prog.cellsOf 5)) = [y0, y1, y2, y3, y4][0]? := hfld 0 _ rfl
      rw [show Tryz.prog.cellsOf 5 = 1 by kernel_rfl] at f0
      have g0 : DataW.trod enc Tryz.prog W 0 (fun _ => true) true n' 5 [z0] = some y0 := f0
      obtain ⟨q0, e0, _, w0⟩ := DataW.trod_int Tryz.underlying5 g0
      injection e0 with e0
      have f1 : DataW.trod enc Tryz.prog W 0 (fun _ => true) true n' 3 (([z0, z1, z2, z3, z4].drop 1).take (Tryz.prog.cellsOf 3)) = [y0, y1, y2, y3, y4][1]? := hfld 1 _ rfl
      rw [show Tryz.prog.cellsOf 3 = 1 by kernel_rfl] at f1
      have g1 : DataW.trod enc Tryz.prog W 0 (fun _ => true) true n' 3 [z1] = some y1 := f1
      obtain ⟨q1, e1, _, w1⟩ := DataW.trod_int Tryz.underlying3 g1
      injection e1 with e1
      have f2 : DataW.trod enc Tryz.prog W 0 (fun _ => true) true n' 3 (([z0, z1, z2, z3, z4].drop 2).take (Tryz.prog.cellsOf 3)) = [y0, y1, y2, y3, y4][2]? := hfld 2 _ rfl
      rw [show Tryz.prog.cellsOf 3 = 1 by kernel_rfl] at f2
      have g2 : DataW.trod enc Tryz.prog W 0 (fun _ => true) true n' 3 [z2] = some y2 := f2
      obtain ⟨q2, e2, _, w2⟩ := DataW.trod_int Tryz.underlying3 g2
      injection e2 with e2
      have f3 : DataW.trod enc Tryz.prog W 0 (fun _ => true) true n' 2 (([z0, z1, z2, z3, z4].drop 3).take (Tryz.prog.cellsOf 2)) = [y0, y1, y2, y3, y4][3]? := hfld 3 _ rfl
      rw [show Tryz.prog.cellsOf 2 = 1 by kernel_rfl] at f3
      have g3 : DataW.trod enc Tryz.prog W 0 (fun _ => true) true n' 2 [z3] = some y3 := f3
      obtain ⟨q3, e3, _, w3⟩ := DataW.trod_int Tryz.underlying2 g3
      injection e3 with e3
      have f4 : DataW.trod enc Tryz.prog W 0 (fun _ => true) true n' 2 (([z0, z1, z2, z3, z4].drop 4).take (Tryz.prog.cellsOf 2)) = [y0, y1, y2, y3, y4][4]? := hfld 4 _ rfl
      rw [show Tryz.prog.cellsOf 2 = 1 by kernel_rfl] at f4
      have g4 : DataW.trod enc Tryz.prog W 0 (fun _ => true) true n' 2 [z4] = some y4 := f4
      obtain ⟨q4, e4, _, w4⟩ := DataW.trod_int Tryz.underlying2 g4
      injection e4 with e4
      subst e0 e1 e2 e3 e4
      exact ⟨q0, q1, q2, q3, q4, rfl, i64_in w3⟩
theorem slice_cells {H : Type} {enc : TypeId × Value → H} {W : World} {fuel : Nat} {v : Value} {x : DataW H × List MemPlace} {S E : TypeId} {n : Nat} (ht : Tryz.prog.underlying S = some (.slice E)) (hn : Tryz.prog.cellsOf E = n) (h1 : 0 < n)
    (hf : DataW.trod enc Tryz.prog W 0 (fun _ => true) true fuel S [v] = some x) :
    ∃ (A : Option Addr) (len cap : Nat), v = .slice A len cap ∧ len ≤ maxLen ∧ ∀ i, i < len → ∃ bk o, A = some ⟨bk, o, none⟩ ∧ ∃ (cs' : List Value) (fuel' : Nat) (y : DataW H × List MemPlace), cs'.length = n ∧ (∀ j, j < n → W.cell? ⟨bk, o + i * n + j, none⟩ = cs'[j]?) ∧ DataW.trod enc Tryz.prog W 0 (fun _ => true) true fuel' E cs' = some y := by
  rcases open_slice ht hf with ⟨hcs, hx⟩ | ⟨a, len', cap', m, n', D, Pl, hcs, _, hl, hm, hmm, hx, hi⟩
  · injection hcs with hcs
    exact ⟨none, 0, 0, hcs, Nat.zero_le _, fun i hi => absurd hi (by omega)⟩
  · injection hcs with hcs
    subst hcs
    simp only [if_true] at hmm
    refine ⟨some a, len', cap', rfl, by omega, fun i hil => ?_⟩
    have hsp : a.spot = none := by
      obtain ⟨cs0, hc0, _⟩ := hi 0 (by omega)
      rw [hn] at hc0
      obtain ⟨_, hcl0, hat0⟩ := World.cells?_some hc0
      have q0 := hat0 0 (by omega)
      have : cs0[0]? = some (cs0[0]'(by omega)) := List.getElem?_eq_getElem (by omega)
      rw [this] at q0
      simpa [Addr.add] using World.cell?_spot q0
    obtain ⟨bk, o, sp⟩ := a
    obtain rfl : sp = none := hsp
    obtain ⟨cs', hc, ht'⟩ := hi i (by omega)
    rw [hn] at hc
    obtain ⟨_, hcl, hat⟩ := World.cells?_some hc
    refine ⟨bk, o, rfl, cs', _, _, hcl, fun j hj => ?_, ht'⟩
    have := hat j (by omega)
    rw [Ws.add_plain, Ws.add_plain] at this
    exact this

theorem cellsMs : Tryz.prog.cellsOf 126 = 2 := by kernel_rfl
theorem cellsRw : Tryz.prog.cellsOf 97 = 1 := by kernel_rfl
set_option maxRecDepth 100000 in
theorem msgs_in {H : Type} {enc : TypeId × Value → H} {W : World} {fuel : Nat} {v : Value} {x : DataW H × List MemPlace}
    (hf : DataW.trod enc Tryz.prog W 0 (fun _ => true) true fuel 97 [v] = some x) : ∃ (L : List Ms) (A : Option Addr) (c : Nat), v = .slice A L.length c ∧ L.length ≤ maxLen ∧ MAt W A L ∧ ToIn L := by
  obtain ⟨A, len, c, rfl, hl, hi⟩ := slice_cells Tryz.underlying97 cellsMs (by omega) hf
  obtain ⟨ls, hls, hp⟩ := pick_list (fun i (e : Ms) => (-9223372036854775808 ≤ e.1 ∧ e.1 ≤ 9223372036854775807) ∧ ∃ bk o, A = some ⟨bk, o, none⟩ ∧ W.cell? ⟨bk, o + i * 2, none⟩ = some (.int .i64 e.1) ∧ W.cell? ⟨bk, o + i * 2 + 1, none⟩ = some (.int .i64 e.2)) len (fun i hil => by
    obtain ⟨bk, o, hA, cs', f, y, hcl, hat, ht⟩ := hi i hil
    obtain ⟨ys, n', _, hy, _, hyl, hfld⟩ := DataW.trod_struct Tryz.underlying126 ht
    match cs', hcl with
    | [z0, z1], _ =>
      match ys, hyl with
      | [y0, y1], _ =>
        have f0 : DataW.trod enc Tryz.prog W 0 (fun _ => true) true n' 3 (([z0, z1].drop 0).take (Tryz.prog.cellsOf 3)) = [y0, y1][0]? := hfld 0 _ rfl
        have f1 : DataW.trod enc Tryz.prog W 0 (fun _ => true) true n' 2 (([z0, z1].drop 1).take (Tryz.prog.cellsOf 2)) = [y0, y1][1]? := hfld 1 _ rfl
        rw [cellsI] at f0
        rw [cellsJ] at f1
        have g0 : DataW.trod enc Tryz.prog W 0 (fun _ => true) true n' 3 [z0] = some y0 := f0
        have g1 : DataW.trod enc Tryz.prog W 0 (fun _ => true) true n' 2 [z1] = some y1 := f1
        obtain ⟨q0, e0, _, w0⟩ := DataW.trod_int Tryz.underlying3 g0
        obtain ⟨q1, e1, _, w1⟩ := DataW.trod_int Tryz.underlying2 g1
        injection e0 with e0
        injection e1 with e1
        subst e0 e1
        have h0 := hat 0 (by omega)
        have h1 := hat 1 (by omega)
        exact ⟨(q0, q1), i64_in w0, bk, o, hA, h0, h1⟩)
  refine ⟨ls, A, c, by rw [hls], by omega, fun k e hk => (hp k e hk).2, fun e he => ?_⟩
  obtain ⟨k, hk, rfl⟩ := List.mem_iff_getElem.1 he
  exact (hp k _ (List.getElem?_eq_getElem hk)).1
set_option maxRecDepth 100000 in
theorem msgs_at {H : Type} {enc : TypeId × Value → H} {W : World} {base : Nat} {v : Value} {d : DataW H} {ps : List MemPlace}
    (hval : Value.okWide Tryz.prog W .any base 97 v) (h : DataW.Trod enc Tryz.prog W 0 (fun _ => true) true 97 v d ps) :
    ∃ (L : List Ms) (A : Option Addr) (c : Nat), v = .slice A L.length c ∧ L.length ≤ maxLen ∧ MAt W A L ∧ ToIn L := by
  obtain ⟨a1, len, cap, rfl⟩ := okWide_slice Tryz.underlying97 hval
  obtain ⟨fuel, hf⟩ := h
  exact msgs_in (W := W) (v := .slice a1 len cap) hf
set_option maxRecDepth 100000 in
theorem ints_at2 {H : Type} {enc : TypeId × Value → H} {W : World} {base : Nat} {v : Value} {d : DataW H} {ps : List MemPlace}
    (hval : Value.okWide Tryz.prog W .any base 93 v) (h : DataW.Trod enc Tryz.prog W 0 (fun _ => true) true 93 v d ps) :
    ∃ (L : List Int) (A : Option Addr) (c : Nat), v = .slice A L.length c ∧ L.length ≤ maxLen ∧ IAt W A L ∧ OwnIn L := by
  obtain ⟨a1, len, cap, rfl⟩ := okWide_slice Tryz.underlying93 hval
  obtain ⟨fuel, hf⟩ := h
  obtain ⟨A, len', c, e, hl, hi⟩ := slice_cells Tryz.underlying93 cellsI (by omega) (show DataW.trod enc Tryz.prog W 0 (fun _ => true) true fuel 93 [.slice a1 len cap] = _ from hf)
  cases e
  obtain ⟨ls, hls, hp⟩ := pick_list (fun i (z : Int) => (-9223372036854775808 ≤ z ∧ z ≤ 9223372036854775807) ∧ ∃ bk o, a1 = some ⟨bk, o, none⟩ ∧ W.cell? ⟨bk, o + i, none⟩ = some (.int .i64 z)) len (fun i hil => by
    obtain ⟨bk, o, hA, cs', f, y, hcl, hat, ht⟩ := hi i hil
    match cs', hcl with
    | [z0], _ =>
      obtain ⟨q0, e0, _, w0⟩ := DataW.trod_int Tryz.underlying3 ht
      injection e0 with e0
      subst e0
      have h0 := hat 0 (by omega)
      rw [Nat.mul_one] at h0
      exact ⟨q0, i64_in w0, bk, o, hA, h0⟩)
  refine ⟨ls, a1, cap, by rw [hls], by omega, fun k z hz => (hp k z hz).2, fun z hz => ?_⟩
  obtain ⟨k, hk, rfl⟩ := List.mem_iff_getElem.1 hz
  exact (hp k _ (List.getElem?_eq_getElem hk)).1
set_option maxRecDepth 100000 in
theorem rows_at {H : Type} {enc : TypeId × Value → H} {W : World} {base : Nat} {v : Value} {d : DataW H} {ps : List MemPlace}
    (hval : Value.okWide Tryz.prog W .any base 94 v) (h : DataW.Trod enc Tryz.prog W 0 (fun _ => true) true 94 v d ps) :
    ∃ (Ls : List (List Ms)) (A : Option Addr) (c : Nat), v = .slice A Ls.length c ∧ Ls.length ≤ maxLen ∧ RMs W A Ls ∧ ToIn Ls.flatten ∧ ∀ L ∈ Ls, L.length ≤ 9223372036854775807 := by
  obtain ⟨a1, len, cap, rfl⟩ := okWide_slice Tryz.underlying94 hval
  obtain ⟨fuel, hf⟩ := h
  obtain ⟨A, len', c, e, hl, hi⟩ := slice_cells Tryz.underlying94 cellsRw (by omega) (show DataW.trod enc Tryz.prog W 0 (fun _ => true) true fuel 94 [.slice a1 len cap] = _ from hf)
  cases e
  obtain ⟨ls, hls, hp⟩ := pick_list (fun i (L : List Ms) => (ToIn L ∧ L.length ≤ 9223372036854775807) ∧ ∃ bk o A' c', a1 = some ⟨bk, o, none⟩ ∧ W.cell? ⟨bk, o + i, none⟩ = some (.slice A' L.length c') ∧ MAt W A' L) len (fun i hil => by
    obtain ⟨bk, o, hA, cs', f, y, hcl, hat, ht⟩ := hi i hil
    match cs', hcl with
    | [z0], _ =>
      obtain ⟨L, A', c', rfl, h1, h2, h3⟩ := msgs_in ht
      have h0 := hat 0 (by omega)
      rw [Nat.mul_one] at h0
      exact ⟨L, ⟨h3, by unfold maxLen at h1; omega⟩, bk, o, A', c', hA, h0, h2⟩)
  refine ⟨ls, a1, cap, by rw [hls], by omega, fun k L hk => (hp k L hk).2, fun e he => ?_, fun L hL => ?_⟩
  · obtain ⟨L, hL, hel⟩ := List.mem_flatten.1 he
    obtain ⟨k, hk, rfl⟩ := List.mem_iff_getElem.1 hL
    exact (hp k _ (List.getElem?_eq_getElem hk)).1.1 e hel
  · obtain ⟨k, hk, rfl⟩ := List.mem_iff_getElem.1 hL
    exact (hp k _ (List.getElem?_eq_getElem hk)).1.2
set_option maxRecDepth 100000 in
theorem mails_at {H : Type} {enc : TypeId × Value → H} {W : World} {base : Nat} {v : Value} {d : DataW H} {ps : List MemPlace}
    (hval : Value.okWide Tryz.prog W .any base 31 v) (h : DataW.Trod enc Tryz.prog W 0 (fun _ => true) true 31 v d ps) :
    ∃ (L : List Ml) (A : Option Addr) (c : Nat), v = .slice A L.length c ∧ L.length ≤ maxLen ∧ KAt W A L := by
  obtain ⟨a1, len, cap, rfl⟩ := okWide_slice Tryz.underlying31 hval
  obtain ⟨fuel, hf⟩ := h
  obtain ⟨A, len', c, e, hl, hi⟩ := slice_cells Tryz.underlying31 cellsM (by omega) (show DataW.trod enc Tryz.prog W 0 (fun _ => true) true fuel 31 [.slice a1 len cap] = _ from hf)
  cases e
  obtain ⟨ls, hls, hp⟩ := pick_list (fun i (e : Ml) => ∃ bk o, a1 = some ⟨bk, o, none⟩ ∧ W.cell? ⟨bk, o + i * 2, none⟩ = some (.bool e.1) ∧ W.cell? ⟨bk, o + i * 2 + 1, none⟩ = some (.int .i64 e.2)) len (fun i hil => by
    obtain ⟨bk, o, hA, cs', f, y, hcl, hat, ht⟩ := hi i hil
    obtain ⟨ys, n', _, hy, _, hyl, hfld⟩ := DataW.trod_struct Tryz.underlying78 ht
    match cs', hcl with
    | [z0, z1], _ =>
      match ys, hyl with
      | [y0, y1], _ =>
        have f0 : DataW.trod enc Tryz.prog W 0 (fun _ => true) true n' 4 (([z0, z1].drop 0).take (Tryz.prog.cellsOf 4)) = [y0, y1][0]? := hfld 0 _ rfl
        have f1 : DataW.trod enc Tryz.prog W 0 (fun _ => true) true n' 2 (([z0, z1].drop 1).take (Tryz.prog.cellsOf 2)) = [y0, y1][1]? := hfld 1 _ rfl
        rw [cellsB] at f0
        rw [cellsJ] at f1
        have g0 : DataW.trod enc Tryz.prog W 0 (fun _ => true) true n' 4 [z0] = some y0 := f0
        have g1 : DataW.trod enc Tryz.prog W 0 (fun _ => true) true n' 2 [z1] = some y1 := f1
        obtain ⟨q0, e0, _⟩ := DataW.trod_bool Tryz.underlying4 g0
        obtain ⟨q1, e1, _, w1⟩ := DataW.trod_int Tryz.underlying2 g1
        injection e0 with e0
        injection e1 with e1
        subst e0 e1
        have h0 := hat 0 (by omega)
        have h1 := hat 1 (by omega)
        exact ⟨(q0, q1), bk, o, hA, h0, h1⟩)
  exact ⟨ls, a1, cap, by rw [hls], by omega, fun k e hk => hp k e hk⟩

end Go.Proofs.YtbbmgandkmlojaaGreat.In

/-
  What is proved here: what a state that came in gives: rows that can be read, numbers of 64 bits. No condition.
-/
namespace Go.Proofs.YtbbmgandkmlojaaGreat.Sq
open Go.ChangeShapes Go.WideShapes Go.ChangeAt Go.RowKit Go.Deep Gr Wd Ws Lb Al

set_option maxRecDepth 100000 in
theorem q_in {H : Type} {enc : TypeId × Value → H} {W : World} {fuel : Nat} {v : Value} {x : DataW H × List MemPlace}
    (hf : DataW.trod enc Tryz.prog W 0 (fun _ => true) true fuel 29 [v] = some x) :
    ∃ (L : List Int) (A : Option Addr) (c : Nat), v = .slice A L.length c ∧ L.length ≤ maxLen ∧ IAt W A L := by
  obtain ⟨A, len, cap, rfl, hl, hi⟩ := In.slice_cells Tryz.underlying29 In.cellsJ (by omega) hf
  obtain ⟨ls, hls, hp⟩ := In.pick_list (fun i (z : Int) => ∃ bk o, A = some ⟨bk, o, none⟩ ∧ W.cell? ⟨bk, o + i, none⟩ = some (.int .i64 z)) len (fun i hil => by
    obtain ⟨bk, o, hA, cs', f, y, hcl, hat, ht⟩ := hi i hil
    match cs', hcl with
    | [z0], _ =>
      obtain ⟨q0, e0, _, w0⟩ := DataW.trod_int Tryz.underlying2 ht
      injection e0 with e0
      subst e0
      have h0 := hat 0 (by omega)
      rw [Nat.mul_one] at h0
      exact ⟨q0, bk, o, hA, h0⟩)
  exact ⟨ls, A, cap, by rw [hls], by omega, fun k z hz => hp k z hz⟩
set_option maxRecDepth 100000 in
theorem b_in {H : Type} {enc : TypeId × Value → H} {W : World} {fuel : Nat} {v : Value} {x : DataW H × List MemPlace}
    (hf : DataW.trod enc Tryz.prog W 0 (fun _ => true) true fuel 30 [v] = some x) :
    ∃ (L : List Bool) (A : Option Addr) (c : Nat), v = .slice A L.length c ∧ L.length ≤ maxLen ∧ BAt W A L := by
  obtain ⟨A, len, cap, rfl, hl, hi⟩ := In.slice_cells Tryz.underlying30 In.cellsB (by omega) hf
  obtain ⟨ls, hls, hp⟩ := In.pick_list (fun i (z : Bool) => ∃ bk o, A = some ⟨bk, o, none⟩ ∧ W.cell? ⟨bk, o + i, none⟩ = some (.bool z)) len (fun i hil => by
    obtain ⟨bk, o, hA, cs', f, y, hcl, hat, ht⟩ := hi i hil
    match cs', hcl with
    | [z0], _ =>
      obtain ⟨q0, e0, _⟩ := DataW.trod_bool Tryz.underlying4 ht
      injection e0 with e0
      subst e0
      have h0 := hat 0 (by omega)
      rw [Nat.mul_one] at h0
      exact ⟨q0, bk, o, hA, h0⟩)
  exact ⟨ls, A, cap, by rw [hls], by omega, fun k z hz => hp k z hz⟩
set_option maxRecDepth 100000 in
theorem k_in {H : Type} {enc : TypeId × Value → H} {W : World} {fuel : Nat} {v : Value} {x : DataW H × List MemPlace}
    (hf : DataW.trod enc Tryz.prog W 0 (fun _ => true) true fuel 31 [v] = some x) :
    ∃ (L : List In.Ml) (A : Option Addr) (c : Nat), v = .slice A L.length c ∧ L.length ≤ maxLen ∧ In.KAt W A L ∧ ∀ m ∈ L, I63 m.2 := by
  obtain ⟨A, len, cap, rfl, hl, hi⟩ := In.slice_cells Tryz.underlying31 In.cellsM (by omega) hf
  obtain ⟨ls, hls, hp⟩ := In.pick_list (fun i (e : In.Ml) => I63 e.2 ∧ ∃ bk o, A = some ⟨bk, o, none⟩ ∧ W.cell? ⟨bk, o + i * 2, none⟩ = some (.bool e.1) ∧ W.cell? ⟨bk, o + i * 2 + 1, none⟩ = some (.int .i64 e.2)) len (fun i hil => by
    obtain ⟨bk, o, hA, cs', f, y, hcl, hat, ht⟩ := hi i hil
    obtain ⟨ys, n', _, hy, _, hyl, hfld⟩ := DataW.trod_struct Tryz.underlying78 ht
    match cs', hcl with
    | [z0, z1], _ =>
      match ys, hyl with
      | [y0, y1], _ =>
        have f0 : DataW.trod enc Tryz.prog W 0 (fun _ => true) true n' 4 (([z0, z1].drop 0).take (Tryz.prog.cellsOf 4)) = [y0, y1][0]? := hfld 0 _ rfl
        have f1 : DataW.trod enc Tryz.prog W 0 (fun _ => true) true n' 2 (([z0, z1].drop 1).take (Tryz.prog.cellsOf 2)) = [y0, y1][1]? := hfld 1 _ rfl
        rw [In.cellsB] at f0
        rw [In.cellsJ] at f1
        have g0 : DataW.trod enc Tryz.prog W 0 (fun _ => true) true n' 4 [z0] = some y0 := f0
        have g1 : DataW.trod enc Tryz.prog W 0 (fun _ => true) true n' 2 [z1] = some y1 := f1
        obtain ⟨q0, e0, _⟩ := DataW.trod_bool Tryz.underlying4 g0
        obtain ⟨q1, e1, _, w1⟩ := DataW.trod_int Tryz.underlying2 g1
        injection e0 with e0
        injection e1 with e1
        subst e0 e1
        have h0 := hat 0 (by omega)
        have h1 := hat 1 (by omega)
        exact ⟨(q0, q1), In.i64_in w1, bk, o, hA, h0, h1⟩)
  refine ⟨ls, A, cap, by rw [hls], by omega, fun k z hz => (hp k z hz).2, fun m hm => ?_⟩
  obtain ⟨k, hk, rfl⟩ := List.mem_iff_getElem.1 hm
  exact (hp k _ (List.getElem?_eq_getElem hk)).1
set_option maxRecDepth 100000 in
theorem state_in {H : Type} {enc : TypeId × Value → H} {W : World} {base : Nat} {v : Value} {d : DataW H} {ps : List MemPlace}
    (hval : Value.okWide Tryz.prog W .any base 33 v) (h : DataW.Trod enc Tryz.prog W 0 (fun _ => true) true 33 v d ps) :
    ∃ (p : Int) (s : Sq) (Av Ac Ai : Option Addr) (cv cc ci : Nat), v = .agg #[.int .i64 p, .slice Av s.vals.length cv, .slice Ac s.chg.length cc, .slice Ai s.inb.length ci, .int .i64 s.sum, .int .i64 s.most] ∧ (s.vals.length ≤ maxLen ∧ s.chg.length ≤ maxLen ∧ s.inb.length ≤ maxLen) ∧ SAt W Av Ac Ai s.vals.length s.chg.length s.inb.length s ∧ (∀ m ∈ s.inb, I63 m.2) ∧ I63 p := by
  obtain ⟨cs, rfl, hsz⟩ := okWide_struct Tryz.underlying33 hval
  rw [show Tryz.prog.cellsOf 33 = 6 by kernel_rfl] at hsz
  obtain ⟨fuel, hf⟩ := h
  obtain ⟨ys, n', _, hy, _, hyl, hfld⟩ := DataW.trod_struct Tryz.underlying33 hf
  obtain ⟨l⟩ := cs
  match l, hsz with
  | [z0, z1, z2, z3, z4, z5], _ =>
    match ys, hyl with
    | [y0, y1, y2, y3, y4, y5], _ =>
      have f0 : DataW.trod enc Tryz.prog W 0 (fun _ => true) true n' 3 (([z0, z1, z2, z3, z4, z5].drop 0).take (Tryz.prog.cellsOf 3)) = [y0, y1, y2, y3, y4, y5][0]? := hfld 0 _ rfl
      rw [In.cellsI] at f0
      have g0 : DataW.trod enc Tryz.prog W 0 (fun _ => true) true n' 3 [z0] = some y0 := f0
      obtain ⟨q0, e0, _, w0⟩ := DataW.trod_int Tryz.underlying3 g0
      injection e0 with e0
      have f1 : DataW.trod enc Tryz.prog W 0 (fun _ => true) true n' 29 (([z0, z1, z2, z3, z4, z5].drop 1).take (Tryz.prog.cellsOf 29)) = [y0, y1, y2, y3, y4, y5][1]? := hfld 1 _ rfl
      rw [show Tryz.prog.cellsOf 29 = 1 by kernel_rfl] at f1
      have g1 : DataW.trod enc Tryz.prog W 0 (fun _ => true) true n' 29 [z1] = some y1 := f1
      obtain ⟨L1, A1, c1, rfl, hl1, hL1⟩ := q_in g1
      have f2 : DataW.trod enc Tryz.prog W 0 (fun _ => true) true n' 30 (([z2, z3, z4, z5]).take (Tryz.prog.cellsOf 30)) = [y0, y1, y2, y3, y4, y5][2]? := hfld 2 _ rfl
      rw [show Tryz.prog.cellsOf 30 = 1 by kernel_rfl] at f2
      have g2 : DataW.trod enc Tryz.prog W 0 (fun _ => true) true n' 30 [z2] = some y2 := f2
      obtain ⟨L2, A2, c2, rfl, hl2, hL2⟩ := b_in g2
      have f3 : DataW.trod enc Tryz.prog W 0 (fun _ => true) true n' 31 (([z3, z4, z5]).take (Tryz.prog.cellsOf 31)) = [y0, y1, y2, y3, y4, y5][3]? := hfld 3 _ rfl
      rw [show Tryz.prog.cellsOf 31 = 1 by kernel_rfl] at f3
      have g3 : DataW.trod enc Tryz.prog W 0 (fun _ => true) true n' 31 [z3] = some y3 := f3
      obtain ⟨L3, A3, c3, rfl, hl3, hL3, hI3⟩ := k_in g3
      have f4 : DataW.trod enc Tryz.prog W 0 (fun _ => true) true n' 2 (([z4, z5]).take (Tryz.prog.cellsOf 2)) = [y0, y1, y2, y3, y4, y5][4]? := hfld 4 _ rfl
      rw [In.cellsJ] at f4
      have g4 : DataW.trod enc Tryz.prog W 0 (fun _ => true) true n' 2 [z4] = some y4 := f4
      obtain ⟨q4, e4, _, w4⟩ := DataW.trod_int Tryz.underlying2 g4
      injection e4 with e4
      have f5 : DataW.trod enc Tryz.prog W 0 (fun _ => true) true n' 2 (([z5]).take (Tryz.prog.cellsOf 2)) = [y0, y1, y2, y3, y4, y5][5]? := hfld 5 _ rfl
      rw [In.cellsJ] at f5
      have g5 : DataW.trod enc Tryz.prog W 0 (fun _ => true) true n' 2 [z5] = some y5 := f5
      obtain ⟨q5, e5, _, w5⟩ := DataW.trod_int Tryz.underlying2 g5
      injection e5 with e5
      subst e0 e4 e5
      exact ⟨q0, ⟨L1, L2, L3, q4, q5⟩, A1, A2, A3, c1, c2, c3, rfl, ⟨hl1, hl2, hl3⟩, ⟨hL1, hL2, hL3, rfl, rfl, rfl⟩, hI3, In.i64_in w0⟩

end Go.Proofs.YtbbmgandkmlojaaGreat.Sq

/-
  What is proved here: Rows.SeqStepSaid: for any graph, job and state the law's function SeqStep returns true (a superstep on is the document's; the state that was put in stays), and no block that was there has changed. No condition.
-/
namespace Go.Proofs.YtbbmgandkmlojaaGreat
open Go.ChangeShapes Go.WideShapes Go.ChangeAt Go.RowKit Gr Lb Al Sq

set_option maxRecDepth 100000 in
theorem seqStep_lifted (os : Os) (started : os.Started) (H : Type) (enc : TypeId × Value → H) :
    ReturnsInHanded {} Tryz.checked os 4 .any (Rows.seqStepSpec.pre6 enc Tryz.prog Tryz.f4 Rows.seqStepRow.domain false) (Rows.seqStepSpec.post enc Tryz.prog Tryz.f4 false true false false) := by
  refine returnsInHanded_of_change (C := Tryz.checked) own started (by kernel_rfl) Tryz.func4
    (ChangeSpec.witness6 (enc := enc) (C := Tryz.checked) false ⟨#[], #[.agg #[.int .i64 0, .slice none 0 0], .agg #[.int .u8 0, .int .i64 0, .int .i64 0, .int .i64 0, .int .i64 0], .agg #[.int .i64 0, .slice none 0 0, .slice none 0 0, .slice none 0 0, .int .i64 0, .int .i64 0]], []⟩ 8 (by kernel_rfl) (by kernel_rfl) (by kernel_rfl) (by kernel_rfl)) ?_
  intro W base args ds gs before hval0 hW hcnd _
  have hval : ∀ (j : Nat) t v, Tryz.f4.params[j]? = some t → args[j]? = some v → Value.okWide Tryz.prog W .any base t v := hval0
  have hW' := hW
  obtain ⟨p, q, hA0, hV, rfl, hfz, hnd⟩ := hW
  have hA : DataW.TrodAll enc Tryz.prog W 0 (fun _ => true) true Tryz.f4.params.toList args.toList ds p := hA0
  rw [Tryz.params4] at hA hval
  obtain ⟨v0, vs0, d0, ds0, p0, q0, hargs, rfl, rfl, h0, r0⟩ := trodAll_cons hA
  obtain ⟨v1, vs1, d1, ds1, p1, q1, rfl, rfl, rfl, h1, r1⟩ := trodAll_cons r0
  obtain ⟨v2, vs2, d2, ds2, p2, q2, rfl, rfl, rfl, h2, r2⟩ := trodAll_cons r1
  obtain ⟨rfl, rfl, rfl⟩ := trodAll_nil r2
  obtain rfl : args = #[v0, v1, v2] := by cases args; simp_all
  obtain ⟨rfl, rfl⟩ := trodVars_none hV
  obtain ⟨V0, L0, A0, c0, rfl, hl0, hL0, hi0, hV0⟩ := graph_in (hval 0 24 v0 rfl rfl) h0
  obtain ⟨k1, st1, so1, dm1, ep1, rfl, hj1⟩ := job_in (hval 1 26 v1 rfl rfl) h1
  obtain ⟨z2, s2, Av2, Ac2, Ai2, cv2, cc2, ci2, rfl, hl2, hs2, hi2, hp2⟩ := state_in (hval 2 33 v2 rfl rfl) h2
  clear hA0 hval0
  simp only [List.append_nil] at hW'
  refine (law_step k1 st1 so1 dm1 ep1 V0 z2 A0 L0.length c0 L0 s2 Av2 Ac2 Ai2 s2.vals.length s2.chg.length s2.inb.length cv2 cc2 ci2 W hL0 rfl (by unfold maxLen at hl0; omega) hs2 hi2 (by have := hl2.1; unfold maxLen at this; omega) (by have := hl2.2.1; unfold maxLen at this; omega) (by have := hl2.2.2; unfold maxLen at this; omega)).mono fun e W' ⟨he, hg⟩ => ?_
  subst he
  have hlt2 : ∀ x ∈ p2, x.block < W.heap.size := fun x hx => by simpa using hW'.lt x (by simp [hx])
  have hlt1 : ∀ x ∈ p1, x.block < W.heap.size := fun x hx => by simpa using hW'.lt x (by simp [hx])
  have hlt0 : ∀ x ∈ p0, x.block < W.heap.size := fun x hx => by simpa using hW'.lt x (by simp [hx])
  refine ⟨_, rfl, law_post hW' hg rfl rfl rfl rfl ?_⟩
  have g := (trodAll_cons_mk (Below.trod laidOut (by kernel_rfl) (of_decide_eq_true (by kernel_rfl)) h0 hg hlt0) (trodAll_cons_mk (Below.trod laidOut (by kernel_rfl) (of_decide_eq_true (by kernel_rfl)) h1 hg hlt1) (trodAll_cons_mk (Below.trod laidOut (by kernel_rfl) (of_decide_eq_true (by kernel_rfl)) h2 hg hlt2) trodAll_mk0)))
  simp only [List.append_nil] at g
  exact g

theorem seqStep_holds : Rows.SeqStepSaid :=
  OpenClaim.holds_of_wide 4 Tryz.f4 rfl rfl rfl rfl rfl rfl rfl ⟨rfl, rfl, rfl, rfl, rfl⟩ rfl rfl rfl rfl rfl (by kernel_rfl) Tryz.func4 (by kernel_rfl)
    (of_decide_eq_true (by kernel_rfl)) (by unfold Func.isWrapper; first | (rw [if_pos (by decide +kernel)]; kernel_rfl) | (rw [if_neg (by decide +kernel)]; exact ⟨rfl, rfl⟩))
    (fun os started H enc _ => seqStep_lifted os started H enc)
#print axioms seqStep_holds

end Go.Proofs.YtbbmgandkmlojaaGreat

