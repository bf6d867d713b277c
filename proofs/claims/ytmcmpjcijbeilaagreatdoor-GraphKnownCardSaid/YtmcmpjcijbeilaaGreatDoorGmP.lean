/-
  What is proved here: the texts GrPdq9 of this seat, laid together (each says itself what it proves; no condition beyond theirs).
-/
import Derived.Test.YtmcmpjcijbeilaaGreatDoorGmF
import Derived.Test.YtmcmpjcijbeilaaGreatDoorGmL
import Derived.Test.YtmcmpjcijbeilaaGreatDoorGmM
import Derived.Test.YtmcmpjcijbeilaaGreatDoorGmN
import Derived.Test.YtmcmpjcijbeilaaGreatDoorGmO
/-
  What is proved here: the contract of the library's pdqsort_func over graph.order's closure, at any number of edges; so graph.order sorts whatever it is given. Conditions: the row is one that the call has made.
-/
namespace Go.Proofs.YtmcmpjcijbeilaaGreatDoor.Gr
open Go.RowKit Wd Ws Go.Sort

def PqRel (w1 : World) (g N n a b lim0 : Nat) (d : Array Ed) (gk : Nat) (v1 v2 v3 v8 v9 : Value) (wr : World) : Prop :=
  ∃ (a' b' lim : Nat) (wb wp : Bool) (dk : Array Ed), v1 = .int .i64 (a' : Int) ∧ v2 = .int .i64 (b' : Int) ∧ v3 = .int .i64 (lim : Int) ∧ v8 = .bool wb ∧ v9 = .bool wp ∧ a' ≤ b' ∧ b' ≤ n ∧ b' - a' ≤ gk ∧ gk ≤ b - a ∧ lim ≤ lim0 ∧ dk.size = n ∧ Go.Sort.Below ahd a' b' dk ∧ SWd w1 wr g N dk ∧ pdq ahd dk a' b' lim wb wp = pdq ahd d a b lim0 true true

set_option maxRecDepth 1000000 in
set_option maxHeartbeats 12800000 in
theorem pdq_all : ∀ (K : Nat) (w : World) (g N Bs n c a b lim0 : Nat) (d : Array Ed) (th : Value), b - a < K → Hid (th = typeHandle Tryz.prog 42) → Hid (SWd w w g N d) → Hid (Bes w g Bs n c) → Hid (d.size = n) → a ≤ b → b ≤ n → n < 4611686018427387904 → lim0 < 4611686018427387904 → Hid (Go.Sort.Below ahd a b d) →
    Calls Tryz.prog 71 #[.agg #[.func (.func 51) #[] #[.pointer (some ⟨Bs, 0, none⟩)], .func (.func 92) #[] #[.slice (some ⟨g, 0, none⟩) n c, th]], .int .i64 (a : Int), .int .i64 (b : Int), .int .i64 (lim0 : Int)] w fun e w' => e = .returned (.tuple #[]) ∧ Hid (SWd w w' g N (pdq ahd d a b lim0 true true)) := by
  intro K
  induction K with
  | zero => intro _ _ _ _ _ _ _ _ _ _ _ h; exact absurd h (Nat.not_lt_zero _)
  | succ K ih =>
    intro w g N Bs n c a b lim0 d th hK hth h hB hd hab hbn hn hlim0 hbel
    have IH := Lib.hid ih; clear ih
    obtain ⟨w1, HW, HS1, HS, HBe, HF⟩ := ent (th := th) h.out hB.out
    go_enter Tryz.func71, Tryz.ntmps71
    go_wp2
    rw [← HW.out]
    go_loopg [1, 2, 3, 8, 9] (b - a) (fun gk v1 v2 v3 v8 v9 wr => PqRel w1 g N n a b lim0 d gk v1 v2 v3 v8 v9 wr)
    case atStart => exact ⟨a, b, lim0, true, true, d, rfl, rfl, rfl, rfl, rfl, hab, hbn, Nat.le_refl _, Nat.le_refl _, Nat.le_refl _, hd.out, hbel.out, HS.out, rfl⟩
    case round =>
      obtain ⟨a', b', lim, wb, wp, dk, rfl, rfl, rfl, rfl, rfl, hab', hb', hkx, hkN, hlim, hdk, hBel, hsw, heq⟩ := hrel
      obtain ⟨k0, k1, hks⟩ := HF.out.on hsw
      have A := Lib.hid heq; have HSK := Lib.hid hsw; have HDK := Lib.hid hdk; have HBL := Lib.hid hBel; clear heq hsw hdk hBel
      by_cases h12 : b' - a' ≤ 12
      · have h12z : (b' : Int) - (a' : Int) ≤ 12 := by omega
        have HC := Lib.hid (insertionSort_any wr g N Bs n c a' b' dk th hth (Lib.hid HSK.out.start) (Lib.hid (HBe.out.on HSK.out)) HDK hab' hb' hn)
        go_wp2_with fail
        refine HC.out.mono ?_
        rintro e w2 ⟨rfl, HS2⟩
        go_wp2
        (try simp only [Exit.inBlock, Exit.then]); refine bodyPost_ret (results_none rfl _ _ _) rfl ?_
        exact ⟨rfl, Lib.hid (HS1.out.on (by rw [← A.out, pdq_small h12]; exact HSK.out.on HS2.out))⟩
      · have h12z : ¬ ((b' : Int) - (a' : Int) ≤ 12) := by omega
        by_cases hl0 : lim = 0
        · subst hl0
          have HC := Lib.hid (heapSort_any wr g N Bs n c a' b' dk th hth (Lib.hid HSK.out.start) (Lib.hid (HBe.out.on HSK.out)) HDK hab' hb' hn)
          go_wp2_with fail
          refine HC.out.mono ?_
          rintro e w2 ⟨rfl, HS2⟩
          go_wp2
          (try simp only [Exit.inBlock, Exit.then]); refine bodyPost_ret (results_none rfl _ _ _) rfl ?_
          exact ⟨rfl, Lib.hid (HS1.out.on (by rw [← A.out, pdq_heap h12 rfl]; exact HSK.out.on HS2.out))⟩
        · have hl0z : ¬ ((lim : Int) = 0) := by omega
          obtain ⟨s1, B1, hc1, s2, B2, hpv, s3, B3⟩ := rd_facts (lt := ahd) (limit := lim) (wb := wb) (wp := wp) swo_ahd partialInsertionSort_holds reverseRange_holds (show a' < b' by omega) (show b' ≤ dk.size by rw [HDK.out]; exact hb') HBL.out
          obtain ⟨R, hR⟩ : ∃ R, R = rd ahd dk a' b' lim wb wp := ⟨_, rfl⟩
          rw [← hR] at s1 hc1 s2 hpv s3 B3
          have HB3 := Lib.hid B3
          have HD1 : Hid (R.d1.size = n) := Lib.hid (s1.trans HDK.out)
          have HD2 : Hid (R.d2.size = n) := Lib.hid (s2.trans HDK.out)
          have HD3 : Hid (R.pi.1.size = n) := Lib.hid (s3.trans HDK.out)
          have hRl : R.lim ≤ lim := by rw [hR]; exact rd_lim_le
          have HR := Lib.hid hR
          clear s1 B1 s2 B2 s3 B3 hR
          -- a shuffle, if it was not balanced
          go_upto_if 35 with fail
          go_cut [3] from 19 (fun s3 wc => s3 = .int .i64 (R.lim : Int) ∧ Hid (SWd w1 wc g N R.d1))
          case first =>
            cases wb
            · have HC := Lib.hid (breakPat_any wr g N Bs n c a' b' dk th hth (Lib.hid HSK.out.start) HDK hab' hb' hn)
              go_wp2_with fail
              refine HC.out.mono ?_
              rintro e w2 ⟨rfl, HS2⟩
              go_wp2_with fail
              go_meet
              case rel =>
                refine ⟨?_, Lib.hid ?_⟩
                · have e : R.lim = lim - 1 := by rw [HR.out]; exact rd_false.2
                  rw [e]; congr 1; omega
                · have e : R.d1 = breakPatterns dk a' b' := by rw [HR.out]; exact rd_false.1
                  rw [e]; exact HSK.out.on HS2.out
            · go_wp2_with fail
              go_meet
              case rel =>
                refine ⟨?_, Lib.hid ?_⟩
                · have e : R.lim = lim := by rw [HR.out]; exact rd_true.2
                  rw [e]
                · have e : R.d1 = dk := by rw [HR.out]; exact rd_true.1
                  rw [e]; exact HSK.out
          case rest =>
            obtain ⟨rfl, HSA⟩ := hcut
            clear k0 k1
            obtain ⟨k0, k1, hks1⟩ := HF.out.on HSA.out
            have hc2 := choosePivot_any wc g N Bs n c a' b' R.d1 th (Lib.hid HSA.out.start) (Lib.hid (HBe.out.on HSA.out)) HD1 (by omega) hb' hn
            rw [show choosePivot ahd R.d1 a' b' = R.c from by rw [HR.out]; exact rd_c.symm] at hc2
            have HC := Lib.hid hc2; clear hc2
            go_wp2_with fail
            refine HC.out.mono ?_
            rintro e w2 ⟨rfl, HB2⟩
            go_upto_if 50 with fail
            have HS2 : Hid (SWd w1 w2 g N R.d1) := Lib.hid (HSA.out.below HB2.out)
            clear k0 k1
            obtain ⟨k0, k1, hks2⟩ := HF.out.on HS2.out
            go_cut [11, 12] from 19 (fun s11 s12 wc => s11 = .int .i64 (R.pivot : Int) ∧ s12 = .int .i64 (hintCode R.hint) ∧ Hid (SWd w1 wc g N R.d2))
            case first =>
              by_cases hh : R.c.2 = .decreasing
              · have hcode : hintCode R.c.2 = 2 := by rw [hh]; rfl
                obtain ⟨e2, epv, eht⟩ : R.d2 = reverseRange R.d1 a' b' ∧ R.pivot = (b' - 1) - (R.c.1 - a') ∧ R.hint = .increasing := by rw [HR.out] at hh ⊢; exact rd_dec hh
                have HC2 := Lib.hid (reverse_any w2 g N Bs n c a' b' R.d1 th hth (Lib.hid HS2.out.start) HD1 hab' hb' hn)
                go_wp2_with fail
                refine HC2.out.mono ?_
                rintro e w3 ⟨rfl, HS3⟩
                go_wp2_with fail
                go_meet
                case rel =>
                  refine ⟨?_, by rw [eht]; rfl, Lib.hid (by rw [e2]; exact HS2.out.on HS3.out)⟩
                  rw [epv]; congr 1; omega
              · have hcode : ¬ (hintCode R.c.2 = 2) := fun h => hh (hintCode_two h)
                obtain ⟨e2, epv, eht⟩ : R.d2 = R.d1 ∧ R.pivot = R.c.1 ∧ R.hint = R.c.2 := by rw [HR.out] at hh ⊢; exact rd_not hh
                go_wp2_with fail
                go_meet
                case rel => exact ⟨by rw [epv], by rw [eht], Lib.hid (by rw [e2]; exact HS2.out)⟩
            case rest =>
              obtain ⟨rfl, rfl, HSC⟩ := hcut
              clear k0 k1
              obtain ⟨k0, k1, hks3⟩ := HF.out.on HSC.out
              go_upto_region 16 with fail
              go_cut [12, 68] from 19 (fun s12 s68 wx => s12 = .int .i64 (hintCode R.hint) ∧ s68 = .bool (wb && wp && decide (R.hint = .increasing)) ∧ wx = wc)
              case first =>
                cases wb <;> cases wp <;> cases hh3 : R.hint <;>
                  (have hcode3 := congrArg hintCode hh3
                   simp only [hintCode] at hcode3
                   go_wp2_with fail
                   go_meet
                   exact ⟨by simp [hh3, hintCode], by simp [hh3, hintCode], rfl⟩)
              case rest =>
                obtain ⟨rfl, rfl, rfl⟩ := hcut
                go_upto_if 68 with fail
                go_cut [] from 19 (fun wx => R.pi.2 = false ∧ Hid (SWd w1 wx g N R.pi.1))
                case first =>
                  cases h68 : (wb && wp && decide (R.hint = .increasing))
                  · have epi : R.pi = (R.d2, false) := by rw [HR.out] at h68 ⊢; exact rd_pi_no h68
                    go_wp2_with fail
                    go_meet
                    case rel => exact ⟨by rw [epi], Lib.hid (by rw [epi]; exact HSC.out)⟩
                  · have epi : R.pi = partialInsertionSort ahd R.d2 a' b' := by rw [HR.out] at h68 ⊢; exact rd_pi_yes h68
                    have hc3 := partialIns_any wc g N Bs n c a' b' R.d2 th hth (Lib.hid HSC.out.start) (Lib.hid (HBe.out.on HSC.out)) HD2 (by omega) hb' hn
                    rw [← epi] at hc3
                    have HC3 := Lib.hid hc3; clear hc3
                    cases hp2 : R.pi.2
                    · rw [hp2] at HC3
                      go_wp2_with fail
                      refine HC3.out.mono ?_
                      rintro e w4 ⟨rfl, HS4⟩
                      go_wp2_with fail
                      go_meet
                      case rel => exact ⟨hp2, Lib.hid (HSC.out.on HS4.out)⟩
                    · rw [hp2] at HC3
                      go_wp2_with fail
                      refine HC3.out.mono ?_
                      rintro e w4 ⟨rfl, HS4⟩
                      go_wp2_with fail
                      (try simp only [Exit.inBlock, Exit.then]); refine bodyPost_ret (results_none rfl _ _ _) rfl ?_
                      refine ⟨rfl, Lib.hid (HS1.out.on ?_)⟩
                      have e : pdq ahd dk a' b' lim wb wp = R.pi.1 := by rw [HR.out] at hp2 ⊢; exact pdq_done h12 hl0 hp2
                      rw [← A.out, e]; exact HSC.out.on HS4.out
                case rest =>
                  obtain ⟨hp2, HSE⟩ := hcut
                  clear k0 k1
                  obtain ⟨k0, k1, hks5⟩ := HF.out.on HSE.out
                  obtain ⟨lv, hlv0⟩ : ∃ lv, ahd R.pi.1[a' - 1]! R.pi.1[R.pivot]! = lv := ⟨_, rfl⟩
                  have HLV := Lib.hid hlv0; clear hlv0
                  go_upto_region 18 with fail
                  go_cut [83] from 19 (fun s83 wx => s83 = .bool (decide (a' > 0) && !lv) ∧ Hid (SWd w1 wx g N R.pi.1))
                  case first =>
                    rcases Nat.eq_zero_or_pos a' with ha0 | ha0
                    · have ha0z : decide ((a' : Int) > 0) = false := decide_eq_false (by omega)
                      go_wp2_with fail
                      go_meet
                      case rel => exact ⟨by simp [ha0], HSE⟩
                    · have ha0z : (a' : Int) > 0 := by omega
                      have HL := Lib.hid (less_any w1 wc g N Bs n c R.pi.1 (a' - 1) R.pivot ((a' : Int) - 1) (R.pivot : Int) (by omega) rfl lv HSE HD3 HBe (by omega) (by omega) HLV)
                      cases lv <;>
                        (go_wp2_with fail
                         refine HL.out.mono ?_
                         rintro e w6 ⟨rfl, HS6⟩
                         go_wp2_with fail
                         go_meet
                         exact ⟨by simp [ha0], HS6⟩)
                  case rest =>
                    obtain ⟨rfl, HSG⟩ := hcut
                    clear k0 k1
                    obtain ⟨k0, k1, hks6⟩ := HF.out.on HSG.out
                    cases h87 : (decide (a' > 0) && !lv)
                    · have h87' : (decide (a' > 0) && !ahd (rd ahd dk a' b' lim wb wp).pi.1[a' - 1]! (rd ahd dk a' b' lim wb wp).pi.1[(rd ahd dk a' b' lim wb wp).pivot]!) = false := by rw [← HR.out, HLV.out]; exact h87
                      obtain ⟨mid, ap, d4, hx⟩ : ∃ mid ap d4, partition ahd R.pi.1 a' b' R.pivot = (mid, ap, d4) := ⟨_, _, _, rfl⟩
                      obtain ⟨r1, r2, r3, r4, r5, r6, r7⟩ := round_part swo_ahd (partition_holds ahd) hpv.1 hpv.2 (show b' ≤ R.pi.1.size by rw [HD3.out]; exact hb') HB3.out hx
                      have hc4 := partition_any wc g N Bs n c a' b' R.pivot R.pi.1 th hth (Lib.hid HSG.out.start) (Lib.hid (HBe.out.on HSG.out)) HD3 hpv.1 hpv.2 hb' hn
                      rw [hx] at hc4
                      have HC4 := Lib.hid hc4; clear hc4
                      have X : Hid (partition ahd (rd ahd dk a' b' lim wb wp).pi.1 a' b' (rd ahd dk a' b' lim wb wp).pivot = (mid, ap, d4)) := Lib.hid (by rw [← HR.out]; exact hx)
                      have H87 := Lib.hid h87'; have H6 := Lib.hid r6; have H7 := Lib.hid r7; have H4 := Lib.hid r4; have H5 := Lib.hid r5
                      have hp2' : Hid ((rd ahd dk a' b' lim wb wp).pi.2 = false) := Lib.hid (by rw [← HR.out]; exact hp2)
                      have hs4 : Hid (d4.size = n) := Lib.hid (r3.trans HD3.out)
                      have elim : Hid (R.lim = (rd ahd dk a' b' lim wb wp).lim) := Lib.hid (by rw [← HR.out])
                      clear hx h87 h87' r3 r4 r5 r6 r7
                      go_wp2_with fail
                      refine HC4.out.mono ?_
                      rintro e w7 ⟨rfl, HS7⟩
                      go_upto_if 109 with fail
                      have HST : Hid (SWd w1 w7 g N d4) := Lib.hid (HSG.out.on HS7.out)
                      clear k0 k1
                      obtain ⟨k0, k1, hks7⟩ := HF.out.on HST.out
                      by_cases h4 : mid - a' < b' - mid
                      · have h4z : (mid : Int) - (a' : Int) < (b' : Int) - (mid : Int) := by omega
                        have HI := Lib.hid (IH.out w7 g N Bs n c a' mid R.lim d4 th (by omega) hth (Lib.hid HST.out.start) (Lib.hid (HBe.out.on HST.out)) hs4 r1 (by omega) hn (by omega) H4)
                        obtain ⟨pL, sL⟩ := pdq_sorts ahd swo_ahd d4 a' mid R.lim true true r1 (by rw [hs4.out]; omega) H4.out
                        have PL := Lib.hid pL; have SL := Lib.hid sL; clear pL sL
                        go_wp2_with fail
                        refine HI.out.mono ?_
                        rintro e w8 ⟨rfl, HS8⟩
                        go_wp2
                        go_roundg (b' - (mid + 1))
                        case measure => omega
                        case rel =>
                          refine ⟨mid + 1, b', R.lim, decide (mid - a' ≥ (b' - a') / 8), ap, pdq ahd d4 a' mid R.lim true true, by simp, rfl, rfl, ?_, rfl, by omega, hb', Nat.le_refl _, by omega, by omega, by rw [PL.out.1]; exact hs4.out, (H6.out _ PL.out SL.out).1, HST.out.on HS8.out, ?_⟩
                          · exact congrArg Value.bool (eighth (by omega) (by omega))
                          · have hx := X.out
                            rw [← A.out, pdq_left h12 hl0 hp2'.out H87.out (by rw [hx]; exact ⟨r1, r2⟩) (by rw [hx]; exact h4), hx, elim.out]
                      · have h4z : ¬ ((mid : Int) - (a' : Int) < (b' : Int) - (mid : Int)) := by omega
                        have hI := IH.out w7 g N Bs n c (mid + 1) b' R.lim d4 th (by omega) hth (Lib.hid HST.out.start) (Lib.hid (HBe.out.on HST.out)) hs4 (by omega) hb' hn (by omega) H5
                        rw [show ((mid + 1 : Nat) : Int) = (mid : Int) + 1 by omega] at hI
                        have HI := Lib.hid hI; clear hI
                        obtain ⟨pL, sL⟩ := pdq_sorts ahd swo_ahd d4 (mid + 1) b' R.lim true true (by omega) (by rw [hs4.out]; exact hb') H5.out
                        have PL := Lib.hid pL; have SL := Lib.hid sL; clear pL sL
                        go_wp2_with fail
                        refine HI.out.mono ?_
                        rintro e w8 ⟨rfl, HS8⟩
                        go_wp2
                        go_roundg (mid - a')
                        case measure => omega
                        case rel =>
                          refine ⟨a', mid, R.lim, decide (b' - mid ≥ (b' - a') / 8), ap, pdq ahd d4 (mid + 1) b' R.lim true true, rfl, rfl, rfl, ?_, rfl, r1, by omega, Nat.le_refl _, by omega, by omega, by rw [PL.out.1]; exact hs4.out, (H7.out _ PL.out SL.out).1, HST.out.on HS8.out, ?_⟩
                          · exact congrArg Value.bool (eighth (by omega) (by omega))
                          · have hx := X.out
                            rw [← A.out, pdq_right h12 hl0 hp2'.out H87.out (by rw [hx]; exact ⟨r1, r2⟩) (by rw [hx]; exact h4), hx, elim.out]
                    · have h87' : (decide (a' > 0) && !ahd (rd ahd dk a' b' lim wb wp).pi.1[a' - 1]! (rd ahd dk a' b' lim wb wp).pi.1[(rd ahd dk a' b' lim wb wp).pivot]!) = true := by rw [← HR.out, HLV.out]; exact h87
                      have h88 := h87
                      simp only [Bool.and_eq_true, decide_eq_true_eq, Bool.not_eq_true'] at h88
                      obtain ⟨mid, d4, hx⟩ : ∃ mid d4, partitionEqual ahd R.pi.1 a' b' R.pivot = (mid, d4) := ⟨_, _, rfl⟩
                      obtain ⟨r1, r2, r3, r4, _⟩ := round_eq swo_ahd (partitionEqual_holds ahd) h88.1 hpv.1 hpv.2 (show b' ≤ R.pi.1.size by rw [HD3.out]; exact hb') HB3.out (by rw [HLV.out]; exact h88.2) hx
                      have hc4 := partEq_any wc g N Bs n c a' b' R.pivot R.pi.1 th hth (Lib.hid HSG.out.start) (Lib.hid (HBe.out.on HSG.out)) HD3 hpv.1 hpv.2 hb' hn
                      rw [hx] at hc4
                      have HC4 := Lib.hid hc4; clear hc4
                      have X : Hid (partitionEqual ahd (rd ahd dk a' b' lim wb wp).pi.1 a' b' (rd ahd dk a' b' lim wb wp).pivot = (mid, d4)) := Lib.hid (by rw [← HR.out]; exact hx)
                      have H87 := Lib.hid h87'; have H4 := Lib.hid r4
                      have hp2' : Hid ((rd ahd dk a' b' lim wb wp).pi.2 = false) := Lib.hid (by rw [← HR.out]; exact hp2)
                      have hs4 : Hid (d4.size = n) := Lib.hid (r3.trans HD3.out)
                      have elim : Hid (R.lim = (rd ahd dk a' b' lim wb wp).lim) := Lib.hid (by rw [← HR.out])
                      clear hx h87' r3 r4 h88
                      go_wp2_with fail
                      refine HC4.out.mono ?_
                      rintro e w7 ⟨rfl, HS7⟩
                      go_wp2
                      go_roundg (b' - mid)
                      case measure => omega
                      case rel =>
                        have hx := X.out
                        exact ⟨mid, b', R.lim, wb, wp, d4, rfl, rfl, rfl, rfl, rfl, r2, hb', Nat.le_refl _, by omega, by omega, hs4.out, H4.out, HSG.out.on HS7.out, by rw [← A.out, pdq_eq h12 hl0 hp2'.out H87.out (by rw [hx]; exact ⟨r1, r2⟩), hx, elim.out]⟩

theorem pdq_ok (M : Nat) : PdqOK M := by
  intro w g N Bs n c d lim th hth h hB hd _ hn hlim
  have hbel : Go.Sort.Below ahd 0 n d := Or.inl rfl
  refine (pdq_all (n + 1) w g N Bs n c 0 n lim d th (by omega) hth h hB hd (Nat.zero_le _) (Nat.le_refl _) hn hlim (Lib.hid hbel)).mono ?_
  rintro e w' ⟨rfl, HS⟩
  obtain ⟨p, s⟩ := pdq_sorts ahd swo_ahd d 0 n lim true true (Nat.zero_le _) (by rw [hd.out]; exact Nat.le_refl _) hbel
  exact ⟨rfl, _, Lib.hid ⟨p, s⟩, HS⟩
theorem order_all (M : Nat) (hM : M < 4611686018427387904) : OrderOK M := order_any M hM (Lib.hid (pdq_ok M))

end Go.Proofs.YtmcmpjcijbeilaaGreatDoor.Gr
