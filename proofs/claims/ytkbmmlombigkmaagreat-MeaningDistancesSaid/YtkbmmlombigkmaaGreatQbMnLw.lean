/-
  What is proved here: the law's function MeaningLabels says true. Condition: the number of edges fits an int.
-/
import Derived.Test.YtkbmmlombigkmaaGreatQbMnWk
import Derived.Test.YtkbmmlombigkmaaGreatQbMnRl
import Derived.Test.YtkbmmlombigkmaaGreatQbMnMkx
namespace Go.Proofs.YtkbmmlombigkmaaGreat.Mn
open Go.RowKit Gr Wd Ws Fx Rk Lb Al
open Pa (vl bt vl_of vl_at bt_of bt_at Fits fits_of fr far)
set_option maxRecDepth 100000 in
set_option maxHeartbeats 1000000 in
theorem lgt_any (V : Int) (A : Option Addr) (n c : Nat) (L : List Ed) (w : World) (hL : EAt w A L) (hn : L.length = n) (hm : n ≤ 9223372036854775807) :
    ∃ r : Bool, Calls Tryz.prog 7 #[.agg #[.int .i64 V, .slice A n c]] w (fun e w' => e = .returned (.bool r) ∧ Hid (Below w.heap.size w w')) ∧ (r = true → n ≤ 100 ∧ (chk V L = 0 → V ≤ 16)) := by
  have mixed := mixedP
  have HL := Lib.hid hL; have HN := Lib.hid hn
  clear hL hn
  obtain ⟨W1, hW1⟩ : ∃ W1, W1 = w.alloc (.cells #[.int .i64 V, .slice A n c] 24) := ⟨_, rfl⟩
  obtain ⟨b, hb⟩ : ∃ b, b = w.heap.size := ⟨_, rfl⟩
  have HB1 : Hid (Below w.heap.size w W1) := Lib.hid (by rw [hW1]; exact (Below.refl _ w).alloc (Nat.le_refl _) _)
  have HX1 : Hid (W1.heap[b]? = some (.cells #[.int .i64 V, .slice A n c] 24 (0, 0))) := Lib.hid (by rw [hW1, hb]; exact heap_alloc_new w _)
  obtain ⟨g0, g1, _⟩ := two_cells HX1.out
  have HK := Lib.hid (light_any V A n c 100 W1)
  obtain ⟨E, hE⟩ : ∃ E, chk V L = E := ⟨_, rfl⟩
  have HW1 := Lib.hid hW1; have HBb := Lib.hid hb
  clear hW1 hb
  by_cases hn1 : n ≤ 100
  · have e1 : decide (n ≤ 100) = true := decide_eq_true hn1
    rw [e1] at HK
    clear e1
    by_cases hV : V ≤ 16
    · refine ⟨true, ?_, fun _ => ⟨hn1, fun _ => hV⟩⟩
      go_enter Tryz.func7, Tryz.ntmps7
      go_upto_region 1 with fail
      rw [← HW1.out, ← HBb.out]
      go_wp2_with fail
      refine HK.out.mono ?_
      rintro e w2 ⟨rfl, hg2⟩
      have HB2 := Lib.hid (step_below HB1.out HB1.out.size hg2.below)
      have HX2 := Lib.hid (keepB HX1.out hg2.below)
      clear hg2 g0 g1 HX1 HK
      obtain ⟨g0, g1, _⟩ := two_cells HX2.out
      go_wp2
      go_ret
      exact ⟨rfl, HB2⟩
    · by_cases hE0 : E = 0
      · refine ⟨false, ?_, fun h => by cases h⟩
        subst hE0
        go_enter Tryz.func7, Tryz.ntmps7
        go_upto_region 1 with fail
        rw [← HW1.out, ← HBb.out]
        go_wp2_with fail
        refine HK.out.mono ?_
        rintro e w2 ⟨rfl, hg2⟩
        have HB2 := Lib.hid (step_below HB1.out HB1.out.size hg2.below)
        have HX2 := Lib.hid (keepB HX1.out hg2.below)
        clear hg2 g0 g1 HX1 HK
        obtain ⟨g0, g1, _⟩ := two_cells HX2.out
        have HC := Lib.hid (rcheck_any V A c L w2 (HL.out.below HB2.out) (by rw [HN.out]; omega))
        rw [HN.out, hE] at HC
        clear hE
        go_wp2_with fail
        refine HC.out.mono ?_
        rintro e w3 ⟨rfl, hb3⟩
        have HB3 := Lib.hid (step_below HB2.out HB2.out.size hb3)
        clear hb3
        go_wp2
        go_ret
        exact ⟨by simp [hV], HB3⟩
      · refine ⟨true, ?_, fun _ => ⟨hn1, fun h0 => absurd (hE.symm.trans h0) hE0⟩⟩
        go_enter Tryz.func7, Tryz.ntmps7
        go_upto_region 1 with fail
        rw [← HW1.out, ← HBb.out]
        go_wp2_with fail
        refine HK.out.mono ?_
        rintro e w2 ⟨rfl, hg2⟩
        have HB2 := Lib.hid (step_below HB1.out HB1.out.size hg2.below)
        have HX2 := Lib.hid (keepB HX1.out hg2.below)
        clear hg2 g0 g1 HX1 HK
        obtain ⟨g0, g1, _⟩ := two_cells HX2.out
        have HC := Lib.hid (rcheck_any V A c L w2 (HL.out.below HB2.out) (by rw [HN.out]; omega))
        rw [HN.out, hE] at HC
        clear hE
        go_wp2_with fail
        refine HC.out.mono ?_
        rintro e w3 ⟨rfl, hb3⟩
        have HB3 := Lib.hid (step_below HB2.out HB2.out.size hb3)
        clear hb3
        go_wp2
        go_ret
        exact ⟨by simp [hE0], HB3⟩
  · have e1 : decide (n ≤ 100) = false := decide_eq_false hn1
    rw [e1] at HK
    clear e1
    refine ⟨false, ?_, fun h => by cases h⟩
    go_enter Tryz.func7, Tryz.ntmps7
    go_upto_region 1 with fail
    rw [← HW1.out, ← HBb.out]
    go_wp2_with fail
    refine HK.out.mono ?_
    rintro e w2 ⟨rfl, hg2⟩
    have HB2 := Lib.hid (step_below HB1.out HB1.out.size hg2.below)
    clear hg2
    go_wp2
    go_ret
    exact ⟨rfl, HB2⟩
theorem mrk_yes {l : List Int} : ∀ (g k m : Nat), (∀ j, k ≤ j → j < k + g → labOk l j = true) → (mrkF l g k m).2 = true
  | 0, k, m, _ => rfl
  | g + 1, k, m, h => by
    rw [mrkF, if_pos (h k (Nat.le_refl _) (by omega))]
    exact mrk_yes g (k + 1) _ fun j h1 h2 => h j (by omega) (by omega)
theorem LabC.root {V : Nat} {L : List Ed} {l : List Int} (h : LabC V L l) {v : Nat} (hv : v < V) : ∃ u : Nat, vl l v = (u : Int) ∧ u ≤ v ∧ u < V ∧ vl l u = (u : Int) := by
  obtain ⟨u, hu, hc, e⟩ := h.is_ v hv
  have h1 := h.le v hv v .refl
  refine ⟨u, e, by omega, hu, ?_⟩
  obtain ⟨t, _, hc2, e2⟩ := h.is_ u hu
  have h2 := h.le v hv t (hc.trans hc2)
  have h3 := h.le u hu u .refl
  omega
theorem LabC.marks {V : Nat} {L : List Ed} {l : List Int} (h : LabC V L l) : (mrk l).2 = true := by
  unfold mrk
  refine mrk_yes _ 0 0 fun j _ hj => ?_
  rw [Nat.zero_add, h.len] at hj
  obtain ⟨u, e, h1, h2, h3⟩ := h.root hj
  have hju : l[j]? = some (u : Int) := by rw [vl_at (by rw [h.len]; exact hj), e]
  have huu : l[u]? = some (u : Int) := by rw [vl_at (by rw [h.len]; exact h2), h3]
  unfold labOk
  rw [hju]
  simp [h1, huu]
theorem LabC.edge {V : Nat} {L : List Ed} {l : List Int} (h : LabC V L l) (hF : Fits V L) {e : Ed} (he : e ∈ L) : vl l (fr e) = vl l (Pa.to e) := by
  obtain ⟨hf, ht⟩ := hF e he
  obtain ⟨u, _, hc, e1⟩ := h.is_ _ hf
  obtain ⟨t, _, hc2, e2⟩ := h.is_ _ ht
  have h1 := h.le _ hf t ((Con.fwd he .refl).trans hc2)
  have h2 := h.le _ ht u ((Con.bwd he .refl).trans hc)
  omega
set_option maxRecDepth 100000 in
set_option maxHeartbeats 4000000 in
theorem lw_labels (V : Int) (A : Option Addr) (n c : Nat) (L : List Ed) (w : World) (hL : EAt w A L) (hn : L.length = n) (hm : n ≤ 9223372036854775807) :
    Calls Tryz.prog 3 #[.agg #[.int .i64 V, .slice A n c]] w fun e w' => e = .returned (.bool true) ∧ Below w.heap.size w w' := by
  have mixed := mixedP
  have HL := Lib.hid hL; have HN := Lib.hid hn
  clear hL hn
  obtain ⟨W1, hW1⟩ : ∃ W1, W1 = w.alloc (.cells #[.int .i64 V, .slice A n c] 24) := ⟨_, rfl⟩
  obtain ⟨b, hb⟩ : ∃ b, b = w.heap.size := ⟨_, rfl⟩
  have HB1 : Hid (Below w.heap.size w W1) := Lib.hid (by rw [hW1]; exact (Below.refl _ w).alloc (Nat.le_refl _) _)
  have HX1 : Hid (W1.heap[b]? = some (.cells #[.int .i64 V, .slice A n c] 24 (0, 0))) := Lib.hid (by rw [hW1, hb]; exact heap_alloc_new w _)
  obtain ⟨g0, g1, _⟩ := two_cells HX1.out
  obtain ⟨r, hr, hrt⟩ := lgt_any V A n c L W1 (HL.out.below HB1.out) HN.out hm
  have HLG := Lib.hid hr
  have HRT := Lib.hid hrt
  clear hr hrt
  go_enter Tryz.func3, Tryz.ntmps3
  go_upto_region 1 with fail
  rw [← hW1, show w.heap.size = b from hb.symm]
  have HBb := Lib.hid hb
  clear hW1 hb
  go_wp2_with fail
  refine HLG.out.mono ?_
  rintro e w2 ⟨rfl, hb2⟩
  have HB2 := Lib.hid (step_below HB1.out HB1.out.size hb2.out)
  have HX2 := Lib.hid (keepB HX1.out hb2.out)
  clear hb2 g0 g1 HLG HB1 HX1
  cases r with
  | false =>
    go_wp2_with fail
    refine (wrk_any _).mono ?_
    rintro e w3 ⟨rfl, hb3⟩
    go_wp2
    go_ret
    exact ⟨rfl, step_below HB2.out HB2.out.size hb3.out⟩
  | true =>
    obtain ⟨hn1, _⟩ := HRT.out rfl
    obtain ⟨g0, g1, _⟩ := two_cells HX2.out
    obtain ⟨E, hE⟩ : ∃ E, chk V L = E := ⟨_, rfl⟩
    have HC := Lib.hid (Labels_any V A n c L w2 (HL.out.below HB2.out) HN.out (by omega))
    rw [hE] at HC
    go_wp2_with fail
    refine HC.out.mono ?_
    rintro e w3 ⟨l, ⟨v, rfl, h3⟩, hl⟩
    obtain ⟨A3, c3, rfl, hA3⟩ := h3.out.1.form
    have HA3 := Lib.hid hA3
    have HB23 := Lib.hid h3.out.2
    have HB3 := Lib.hid (step_below HB2.out HB2.out.size h3.out.2)
    have HX3 := Lib.hid (keepB HX2.out h3.out.2)
    clear h3 hA3 HC g0 g1
    obtain ⟨g0, g1, _⟩ := two_cells HX3.out
    have HC := Lib.hid (rLabels_any V A n c L w3 (HL.out.below HB3.out) HN.out (by omega))
    rw [hE] at HC
    go_wp2_with fail
    refine HC.out.mono ?_
    rintro e w4 ⟨l2, ⟨v, rfl, h4⟩, hl2⟩
    obtain rfl : l = l2 := hl.out.one hl2.out
    obtain ⟨A4, c4, rfl, hA4⟩ := h4.out.1.form
    have HB34 := Lib.hid h4.out.2
    have HB4 := Lib.hid (step_below HB3.out HB3.out.size h4.out.2)
    have HX4 := Lib.hid (keepB HX3.out h4.out.2)
    have HA34 := Lib.hid (HA3.out.below h4.out.2)
    obtain ⟨m, hm2⟩ : ∃ m, m = l.length := ⟨_, rfl⟩
    have hmm : m ≤ 512 := by
      by_cases h0 : E = 0
      · have h := (hl.out.1 (hE.trans h0)).len
        obtain ⟨Vn, rfl, _, _⟩ := chk_v (hE.trans h0)
        rw [hm2, h]; simp; omega
      · rw [hm2, hl.out.2 (fun h => h0 (hE.symm.trans h))]; simp
    have HC := Lib.hid (Sq.kitq_any A3 A4 m m c3 c4 l l w4 HA34.out hA4 hm2.symm hm2.symm (by omega) (by omega))
    rw [decide_eq_true (rfl : l = l)] at HC
    rw [← hm2]
    have HM := Lib.hid hm2; have HLR := Lib.hid hl
    have HE := Lib.hid hE
    clear h4 hA4 g0 g1 hm2 hl hl2 hE
    go_wp2_with fail
    refine HC.out.mono ?_
    rintro e w5 ⟨rfl, hb5⟩
    have HB5 := Lib.hid (step_below HB4.out HB4.out.size hb5)
    have HX5 := Lib.hid (keepB HX4.out hb5)
    have HA5 := Lib.hid (HA34.out.below hb5)
    clear hb5 HC
    obtain ⟨g0, g1, _⟩ := two_cells HX5.out
    by_cases hE0 : E = 0
    · subst hE0
      obtain ⟨Vn, rfl, hV0, hV⟩ := chk_v HE.out
      have HLC : Hid (LabC Vn L l) := Lib.hid (by have h := HLR.out.out.1 HE.out; rwa [show (Vn : Int).toNat = Vn by simp] at h)
      go_wp2_with fail
      clear g0 g1
      go_loopg [7] n (fun gk iv wr => ∃ k : Nat, iv = .int .i64 (k : Int) ∧ k + gk = n ∧ Hid (Below w5.heap.size w5 wr))
      case atStart => exact ⟨0, rfl, by omega, Lib.hid (Below.refl _ _)⟩
      case round =>
        obtain ⟨k, rfl, hk, HBR⟩ := hrel
        obtain ⟨g0, g1, _⟩ := two_cells (keepB HX5.out HBR.out)
        by_cases hlt : k < n
        · obtain ⟨f, t, z, he, hf, ht⟩ := edge_at HE.out (show k < L.length by rw [HN.out]; exact hlt)
          obtain ⟨bk, o, rfl, c0, c1, _⟩ := (HL.out.below (step_below HB5.out HB5.out.size HBR.out)) k _ he
          have hfm : f < m := by rw [HM.out, HLC.out.len]; exact hf
          have htm : t < m := by rw [HM.out, HLC.out.len]; exact ht
          obtain ⟨X, hX⟩ : ∃ X, vl l f = X := ⟨_, rfl⟩
          have hX2 : vl l t = X := by
            have h := HLC.out.edge (fits_of HE.out) (List.mem_of_getElem? he)
            have e1 : fr ((f : Int), (t : Int), z) = f := by unfold fr; simp
            have e2 : Pa.to ((f : Int), (t : Int), z) = t := by unfold Pa.to; simp
            rw [e1, e2] at h; omega
          obtain ⟨b1, o1, hb1, u0⟩ := (HA5.out.below HBR.out) f X (by rw [vl_at (by rw [← HM.out]; exact hfm), hX])
          obtain ⟨b2, o2, hb2, u1⟩ := (HA5.out.below HBR.out) t X (by rw [vl_at (by rw [← HM.out]; exact htm), hX2])
          subst hb1
          cases hb2
          clear he hX hX2
          go_wp2_with fail
          go_quiet (fail)
          go_wp2
          go_roundg (gk - 1)
          case measure => omega
          case rel => exact ⟨k + 1, by go_num, by omega, Lib.hid (Ws.below_drewN HBR.out _)⟩
        · have HC := Lib.hid (Mk.marks_any A3 c3 l wr (HA5.out.below HBR.out) (by rw [← HM.out]; omega))
          rw [HLC.out.marks, ← HM.out] at HC
          go_wp2_with fail
          refine HC.out.mono ?_
          rintro e w7 ⟨rfl, rfl⟩
          go_wp2_with fail
          refine (wrk_any _).mono ?_
          rintro e w8 ⟨rfl, hb8⟩
          go_wp2
          go_ret
          exact ⟨rfl, step_below HB5.out HB5.out.size (step_below HBR.out HBR.out.size hb8.out)⟩
    · go_wp2_with fail
      refine (wrk_any _).mono ?_
      rintro e w7 ⟨rfl, hb7⟩
      go_wp2
      go_ret
      exact ⟨rfl, step_below HB5.out HB5.out.size hb7.out⟩
end Go.Proofs.YtkbmmlombigkmaaGreat.Mn
