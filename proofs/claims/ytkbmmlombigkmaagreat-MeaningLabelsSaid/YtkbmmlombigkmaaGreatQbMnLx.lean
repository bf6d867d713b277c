/-
  What is proved here: the law's function MeaningDistances says true. Condition: the number of edges fits an int.
-/
import Derived.Test.YtkbmmlombigkmaaGreatQbMnLw
import Derived.Test.YtkbmmlombigkmaaGreatQbMnRd
import Derived.Test.YtkbmmlombigkmaaGreatQbMnT4
namespace Go.Proofs.YtkbmmlombigkmaaGreat.Mn
open Go.RowKit Gr Wd Ws Fx Rk Lb Al
open Pa (vl bt vl_of vl_at bt_of bt_at Fits fits_of fr far)
theorem dis_tight {V s : Int} {L : List Ed} : Pa.tgt V L s (disL V L s) = decide (disE V L s = 0) := by
  by_cases h : disE V L s = 0
  · rw [decide_eq_true h]
    have h0 := h
    unfold disE at h
    split at h
    · rename_i hc
      split at h
      · rename_i hs
        obtain ⟨Vn, rfl, hV0, hV⟩ := chk_v hc
        obtain ⟨sn, rfl⟩ : ∃ sn : Nat, s = (sn : Int) := ⟨s.toNat, by omega⟩
        have hs1 : sn < Vn := by omega
        have hl : disL (Vn : Int) L (sn : Int) = far Vn sn L := by unfold disL; rw [if_pos h0]; simp
        have hT := Pa.far_tight (L := L) (fits_of hc) hs1
        rw [hl]
        unfold Pa.tgt
        rw [(Pa.okP_iff _ _ _ _).2 ⟨hc, hs.1, hs.2, by rw [hT.len]⟩, show ((sn : Nat) : Int).toNat = sn by simp, (Pa.inP_iff (fits_of hc) hs1 hT.len).2 hT]
        rfl
      · omega
    · rename_i hc; exact absurd h hc
  · rw [decide_eq_false h]
    unfold Pa.tgt
    cases ho : Pa.okP V L s (disL V L s) with
    | false => rfl
    | true =>
      obtain ⟨h1, h2, h3, _⟩ := (Pa.okP_iff _ _ _ _).1 ho
      exact absurd (by unfold disE; rw [if_pos h1, if_pos ⟨h2, h3⟩]) h
set_option maxRecDepth 100000 in
set_option maxHeartbeats 4000000 in
theorem lw_dists (V s : Int) (A : Option Addr) (n c : Nat) (L : List Ed) (w : World) (hL : EAt w A L) (hn : L.length = n) (hm : n ≤ 9223372036854775807) :
    Calls Tryz.prog 4 #[.agg #[.int .i64 V, .slice A n c], .int .i64 s] w fun e w' => e = .returned (.bool true) ∧ Below w.heap.size w w' := by
  have mixed := mixedP
  have HL := Lib.hid hL; have HN := Lib.hid hn
  clear hL hn
  obtain ⟨W1, hW1⟩ : ∃ W1, W1 = w.alloc (.cells #[.int .i64 V, .slice A n c] 24) := ⟨_, rfl⟩
  obtain ⟨b, hb⟩ : ∃ b, b = w.heap.size := ⟨_, rfl⟩
  have HB1 : Hid (Below w.heap.size w W1) := Lib.hid (by rw [hW1]; exact (Below.refl _ w).alloc (Nat.le_refl _) _)
  have HX1 : Hid (W1.heap[b]? = some (.cells #[.int .i64 V, .slice A n c] 24 (0, 0))) := Lib.hid (by rw [hW1, hb]; exact heap_alloc_new w _)
  obtain ⟨g0, g1, _⟩ := two_cells HX1.out
  obtain ⟨r, hr, hrt⟩ := lgt_any V A n c L W1 (HL.out.below HB1.out) HN.out hm
  have HLG := Lib.hid hr
  have HRT := Lib.hid hrt
  clear hr hrt
  go_enter Tryz.func4, Tryz.ntmps4
  go_upto_region 1 with fail
  rw [← hW1, show w.heap.size = b from hb.symm]
  have HBb := Lib.hid hb
  clear hW1 hb
  go_wp2_with fail
  refine HLG.out.mono ?_
  rintro e w2 ⟨rfl, hb2⟩
  have HB2 := Lib.hid (step_below HB1.out HB1.out.size hb2.out)
  have HX2 := Lib.hid (keepB HX1.out hb2.out)
  clear hb2 g0 g1 HLG HB1 HX1
  cases r with
  | false =>
    go_wp2_with fail
    refine (wrk_any _).mono ?_
    rintro e w3 ⟨rfl, hb3⟩
    go_wp2
    go_ret
    exact ⟨rfl, step_below HB2.out HB2.out.size hb3.out⟩
  | true =>
    obtain ⟨hn1, hV16⟩ := HRT.out rfl
    obtain ⟨g0, g1, _⟩ := two_cells HX2.out
    obtain ⟨E, hE⟩ : ∃ E, disE V L s = E := ⟨_, rfl⟩
    obtain ⟨l, hl⟩ : ∃ l, disL V L s = l := ⟨_, rfl⟩
    have HDT := Lib.hid (@dis_tight V s L)
    have HC := Lib.hid (Distances_any V s A n c L w2 (HL.out.below HB2.out) HN.out (by omega) (fun h => by have := hV16 h; omega))
    rw [hE, hl] at HC
    rw [hE, hl] at HDT
    clear hV16
    go_wp2_with fail
    refine HC.out.mono ?_
    rintro e w3 ⟨v, rfl, h3⟩
    obtain ⟨A3, c3, rfl, hA3⟩ := h3.out.1.form
    have HA3 := Lib.hid hA3
    have HB3 := Lib.hid (step_below HB2.out HB2.out.size h3.out.2)
    have HX3 := Lib.hid (keepB HX2.out h3.out.2)
    clear h3 hA3 HC g0 g1
    obtain ⟨g0, g1, _⟩ := two_cells HX3.out
    have HC := Lib.hid (rDistances_any V s A n c L w3 (HL.out.below HB3.out) HN.out (by omega))
    rw [hE, hl] at HC
    go_wp2_with fail
    refine HC.out.mono ?_
    rintro e w4 ⟨v, rfl, h4⟩
    obtain ⟨A4, c4, rfl, hA4⟩ := h4.out.1.form
    have HB4 := Lib.hid (step_below HB3.out HB3.out.size h4.out.2)
    have HX4 := Lib.hid (keepB HX3.out h4.out.2)
    have HA34 := Lib.hid (HA3.out.below h4.out.2)
    obtain ⟨m, hm2⟩ : ∃ m, m = l.length := ⟨_, rfl⟩
    have hmm : m ≤ 512 := by
      by_cases h0 : E = 0
      · have hc0 : chk V L = 0 := by
          apply Classical.byContradiction; intro hc
          unfold disE at hE
          rw [if_neg hc] at hE
          exact hc (hE.trans h0)
        obtain ⟨Vn, rfl, _, hV⟩ := chk_v hc0
        have hs : 0 ≤ s ∧ s < (Vn : Int) := by
          apply Classical.byContradiction; intro hs
          unfold disE at hE
          rw [if_pos hc0, if_neg hs] at hE
          omega
        have hT := Pa.far_tight (V := Vn) (s := s.toNat) (L := L) (fits_of hc0) (by omega)
        have h5 : l = far Vn s.toNat L := by rw [← hl]; unfold disL; rw [if_pos (hE.trans h0)]; simp
        rw [hm2, h5, hT.len]; exact hV
      · have h5 : l = [] := by rw [← hl]; unfold disL; rw [if_neg (by rw [hE]; exact h0)]
        rw [hm2, h5]; simp
    have HC := Lib.hid (Sq.kitq_any A3 A4 m m c3 c4 l l w4 HA34.out hA4 hm2.symm hm2.symm (by omega) (by omega))
    rw [decide_eq_true (rfl : l = l)] at HC
    rw [← hm2]
    have HM := Lib.hid hm2
    clear h4 hA4 g0 g1 hm2 hl hE
    go_wp2_with fail
    refine HC.out.mono ?_
    rintro e w5 ⟨rfl, hb5⟩
    have HB5 := Lib.hid (step_below HB4.out HB4.out.size hb5)
    have HX5 := Lib.hid (keepB HX4.out hb5)
    have HA5 := Lib.hid (HA34.out.below hb5)
    clear hb5 HC
    obtain ⟨g0, g1, _⟩ := two_cells HX5.out
    have HC := Lib.hid (Pa.tight_any V s A A3 c c3 L l w5 (HL.out.below HB5.out) HA5.out (by rw [HN.out]; omega) (by rw [← HM.out]; omega))
    rw [HDT.out, HN.out, ← HM.out] at HC
    by_cases hE0 : E = 0
    · subst hE0
      rw [decide_eq_true (rfl : (0 : Int) = 0)] at HC
      go_wp2_with fail
      refine HC.out.mono ?_
      rintro e w6 ⟨rfl, hb6⟩
      have HB6 := Lib.hid (step_below HB5.out HB5.out.size hb6)
      clear hb6 HC
      go_wp2_with fail
      refine (wrk_any _).mono ?_
      rintro e w7 ⟨rfl, hb7⟩
      go_wp2
      go_ret
      exact ⟨rfl, step_below HB6.out HB6.out.size hb7.out⟩
    · rw [decide_eq_false hE0] at HC
      go_wp2_with fail
      refine HC.out.mono ?_
      rintro e w6 ⟨rfl, hb6⟩
      have HB6 := Lib.hid (step_below HB5.out HB5.out.size hb6)
      clear hb6 HC
      go_wp2_with fail
      refine (wrk_any _).mono ?_
      rintro e w7 ⟨rfl, hb7⟩
      go_wp2
      go_ret
      exact ⟨by simp [hE0], step_below HB6.out HB6.out.size hb7.out⟩
end Go.Proofs.YtkbmmlombigkmaaGreat.Mn
