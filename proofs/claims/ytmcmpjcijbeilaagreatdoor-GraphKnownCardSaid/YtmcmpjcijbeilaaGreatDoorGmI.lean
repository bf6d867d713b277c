/-
  What is proved here: the texts GrRef3 GrRef4 of this seat, laid together (each says itself what it proves; no condition beyond theirs).
-/
import Derived.Test.YtmcmpjcijbeilaaGreatDoorGmF
import Derived.Test.YtmcmpjcijbeilaaGreatDoorGmH
/-
  What is proved here: the contract of treadwheelref04's add: a graph with an edge more, or why it is none. Conditions: at most 300000 edges, which rise.
-/
namespace Go.Proofs.YtmcmpjcijbeilaaGreatDoor.Gr
open Go.RowKit Wd Ws

set_option maxRecDepth 100000 in
set_option maxHeartbeats 2000000 in
theorem radd_any (V : Int) (R : List Ed) (A : Option Addr) (c : Nat) (e0 e1 e2 : Int) (w : World) (hA : Hid (EAt w A R)) (hf : Hid (A = none ∨ ∃ g, A = some ⟨g, 0, none⟩)) (hc : R.length ≤ c) (hl : R.length ≤ 300000) (hr : Hid (Rise R)) (res : Option (List Ed)) (hres : Hid (addR V R (e0, e1, e2) = res)) :
    Calls Tryz.prog 62 #[.agg #[.int .i64 V, .slice A R.length c], .agg #[.int .i64 e0, .int .i64 e1, .int .i64 e2]] w fun e w' => AddRes w w' V A c R e res ∧ Hid (Below w.heap.size w w') := by
  have mixed := mixedO
  obtain ⟨w1, HW, HA1⟩ := ab_new w V A c R (e0, e1, e2) hA.out
  obtain ⟨r, hr1⟩ : ∃ r, fitE V (e0, e1, e2) = r := ⟨_, rfl⟩
  have HF := Lib.hid hr1; clear hr1
  go_enter Tryz.func62, Tryz.ntmps62
  go_wp2_with fail
  rw [← HW.out]
  refine (rfits_at e0 e1 e2 V r w1 HF).mono ?_
  rintro e w2 ⟨rfl, hg2⟩
  have HA2 := Lib.hid (HA1.out.step hg2.below)
  clear hg2
  obtain ⟨⟨g0, g1⟩, ⟨x0, x1, x2⟩, ⟨r0, r1⟩, ⟨gf, rf⟩, hs⟩ := HA2.out.facts
  cases r with
  | false =>
    have hrn : res = none := by rw [← hres.out]; unfold addR; rw [if_pos (Or.inl HF.out)]
    subst hrn
    go_wp2
    obtain ⟨q0, q1⟩ := gx_put HA2.out.br (.int .i64 V) (.slice A R.length c)
    refine bodyPost_ret (v := .tuple #[.agg #[.int .i64 V, .slice A R.length c], .bool false]) (by simp [results, Tryz.results62, go_sem, q0, q1]) rfl ⟨rfl, Lib.hid ?_⟩
    exact (HA2.out.below.setCell (p := ⟨w.heap.size + 2, 0, none⟩) (by show w.heap.size ≤ w.heap.size + 2; omega) _).setCell (p := ⟨w.heap.size + 2, 1, none⟩) (by show w.heap.size ≤ w.heap.size + 2; omega) _
  | true =>
    by_cases h8 : 8192 ≤ R.length
    · have hrn : res = none := by rw [← hres.out]; unfold addR; rw [if_pos (Or.inr (Or.inl h8))]
      subst hrn
      go_wp2
      obtain ⟨q0, q1⟩ := gx_put HA2.out.br (.int .i64 V) (.slice A R.length c)
      refine bodyPost_ret (v := .tuple #[.agg #[.int .i64 V, .slice A R.length c], .bool false]) (by simp [results, Tryz.results62, go_sem, q0, q1]) rfl ⟨rfl, Lib.hid ?_⟩
      exact (HA2.out.below.setCell (p := ⟨w.heap.size + 2, 0, none⟩) (by show w.heap.size ≤ w.heap.size + 2; omega) _).setCell (p := ⟨w.heap.size + 2, 1, none⟩) (by show w.heap.size ≤ w.heap.size + 2; omega) _
    · go_wp2
      go_loopg [6] R.length (fun gk v6 wr => AlRel w V A c R (e0, e1, e2) gk v6 wr)
      case atStart => exact ⟨0, rfl, by omega, HA2, Lib.hid (by rw [List.drop_zero]; omega)⟩
      case round =>
        clear g0 g1 x0 x1 x2 r0 r1 gf rf hs
        obtain ⟨k, rfl, hk, HAr, HPl⟩ := hrel
        obtain ⟨⟨g0, g1⟩, ⟨x0, x1, x2⟩, ⟨r0, r1⟩, ⟨gf, rf⟩, hs⟩ := HAr.out.facts
        have fg := cell_grown (by omega : w.heap.size < wr.heap.size) g1
        have fx0 := cell_grown (by omega : w.heap.size + 1 < wr.heap.size) x0; have fx1 := cell_grown (by omega : w.heap.size + 1 < wr.heap.size) x1; have fx2 := cell_grown (by omega : w.heap.size + 1 < wr.heap.size) x2
        clear g0 g1 x0 x1 x2 r0 r1 gf rf
        by_cases hlt : k < R.length
        · obtain ⟨⟨y0, y1, y2⟩, hy⟩ := at_lt R k hlt
          obtain ⟨g, o, hg, c0, c1, c2⟩ := eat_edge HAr.out.at_ hy
          obtain rfl : o = 0 := by
            rcases hf.out with h | ⟨g', h⟩
            · rw [h] at hg; cases hg
            · rw [h] at hg; cases hg; rfl
          subst hg
          rw [Nat.zero_add] at c0 c1 c2
          have fc0 := cell_grown (block_lt_of_cell c0) c0; have fc1 := cell_grown (block_lt_of_cell c1) c1; have fc2 := cell_grown (block_lt_of_cell c2) c2
          clear c0 c1 c2
          obtain ⟨ra, hra⟩ : ∃ r, ahd (y0, y1, y2) (e0, e1, e2) = r := ⟨_, rfl⟩
          have HRA := Lib.hid hra; clear hra
          have HC := Lib.hid (fun n os => Grw.quiet (rahead_at y0 y1 y2 e0 e1 e2 ra (Sort.grow (wr.drewN n) os) HRA))
          have HY := Lib.hid hy; clear hy
          go_wp2_with fail
          refine wp_region_quiet_grown mixed (by kernel_rfl) ?_
          repeat (go_big_quiet_step ((go_at_call 36; exact HC.out _ _)))
          refine wpQuiet_nil ?_
          intro _ hw'
          obtain ⟨⟨nq, osq⟩, hw''⟩ := hw'
          subst hw''
          have HA3 := Lib.hid (HAr.out.step (grw_at wr nq osq).below)
          clear fg fx0 fx1 fx2 fc0 fc1 fc2
          cases ra with
          | true =>
            go_wp2
            go_roundg (gk - 1)
            case measure => omega
            case rel => exact ⟨k + 1, by go_num, by omega, HA3, Lib.hid (place_go HY.out HPl.out HRA.out)⟩
          | false =>
            have HP : Hid (placeOf (e0, e1, e2) R = k) := Lib.hid (place_stop HY.out HPl.out HRA.out)
            generalize Sort.grow (wr.drewN nq) osq = W3 at HA3
            obtain ⟨⟨g0, g1⟩, ⟨x0, x1, x2⟩, ⟨r0, r1⟩, ⟨gf, rf⟩, hs3⟩ := HA3.out.facts
            obtain ⟨g', o', hg', c0, c1, c2⟩ := eat_edge HA3.out.at_ HY.out
            cases hg'
            rw [Nat.zero_add] at c0 c1 c2
            have fg := cell_grown (by omega : w.heap.size < W3.heap.size) g1
            have fx0 := cell_grown (by omega : w.heap.size + 1 < W3.heap.size) x0; have fx1 := cell_grown (by omega : w.heap.size + 1 < W3.heap.size) x1; have fx2 := cell_grown (by omega : w.heap.size + 1 < W3.heap.size) x2
            have fc0 := cell_grown (block_lt_of_cell c0) c0; have fc1 := cell_grown (block_lt_of_cell c1) c1; have fc2 := cell_grown (block_lt_of_cell c2) c2
            clear c0 c1 c2 g0 g1 x0 x1 x2 r0 r1 gf rf
            obtain ⟨rb, hrb⟩ : ∃ r, ahd (e0, e1, e2) (y0, y1, y2) = r := ⟨_, rfl⟩
            have HRB := Lib.hid hrb; clear hrb
            have HC2 := Lib.hid (fun n os => Grw.quiet (rahead_at e0 e1 e2 y0 y1 y2 rb (Sort.grow (W3.drewN n) os) HRB))
            go_wp2_with fail
            refine wp_region_quiet_grown mixed (by kernel_rfl) ?_
            repeat (go_big_quiet_step ((go_at_call 36; exact HC2.out _ _)))
            refine wpQuiet_nil ?_
            intro _ hw'
            obtain ⟨⟨nq2, osq2⟩, hw''⟩ := hw'
            subst hw''
            have HA4 := Lib.hid (HA3.out.step (grw_at W3 nq2 osq2).below)
            clear fg fx0 fx1 fx2 fc0 fc1 fc2
            generalize Sort.grow (W3.drewN nq2) osq2 = W4 at HA4
            obtain ⟨⟨g0, g1⟩, ⟨x0, x1, x2⟩, ⟨r0, r1⟩, ⟨gf, rf⟩, hs4⟩ := HA4.out.facts
            cases rb with
            | false =>
              have hrn : res = none := by
                rw [← hres.out]; unfold addR
                rw [if_pos (Or.inr (Or.inr ((there_iff (e0, e1, e2) R hr.out).2 ⟨_, by rw [HP.out]; exact HY.out, HRB.out⟩)))]
              subst hrn
              go_wp2
              obtain ⟨q0, q1⟩ := gx_put HA4.out.br (.int .i64 V) (.slice (some ⟨g, 0, none⟩) R.length c)
              refine bodyPost_ret (v := .tuple #[.agg #[.int .i64 V, .slice (some ⟨g, 0, none⟩) R.length c], .bool false]) (by simp [results, Tryz.results62, go_sem, q0, q1]) rfl ⟨rfl, Lib.hid ?_⟩
              exact (HA4.out.below.setCell (p := ⟨w.heap.size + 2, 0, none⟩) (by show w.heap.size ≤ w.heap.size + 2; omega) _).setCell (p := ⟨w.heap.size + 2, 1, none⟩) (by show w.heap.size ≤ w.heap.size + 2; omega) _
            | true =>
              have HN : Hid (¬ R.any (same (e0, e1, e2)) = true) := Lib.hid fun h => by
                obtain ⟨x, h1, h2⟩ := (there_iff (e0, e1, e2) R hr.out).1 h
                rw [HP.out, HY.out] at h1
                obtain rfl := Option.some.inj h1
                rw [HRB.out] at h2; cases h2
              have hst := place_le (e0, e1, e2) R
              rw [HP.out] at hst
              have hrs : res = some (R.take k ++ (e0, e1, e2) :: R.drop k) := by
                rw [← hres.out]; unfold addR
                rw [if_neg (by
                  rw [HF.out]; rintro (h | h | h)
                  · exact absurd h (by simp)
                  · exact h8 h
                  · exact HN.out h)]
                unfold insR; rw [HP.out]
              subst hrs
              go_wp2_with (at_builtin; refine app_copy2 rfl (.tmp 52) (.tmp 56) rfl (w.heap.size + 3) (R.take k) rfl _ _ _ rfl (HA4.out.at_.take k) ?qa11 ?qa21 ?qa31 ?_)
              (try (case qa11 => first | omega | (rw [List.length_take]; omega)))
              (try (case qa21 => omega))
              (try (case qa31 => omega))
              intro v5 W5 ho5 hg5
              have HA5 := Lib.hid (HA4.out.grown hg5 nofun)
              have HN6 := Lib.hid (heap_alloc_new W5 (.cells #[.int .i64 e0, .int .i64 e1, .int .i64 e2] 42))
              have HO6 := Lib.hid (ho5.alloc (.cells #[.int .i64 e0, .int .i64 e1, .int .i64 e2] 42))
              have HA6 := Lib.hid (HA5.out.step ((Below.refl _ W5).alloc (Nat.le_refl _) (.cells #[.int .i64 e0, .int .i64 e1, .int .i64 e2] 42)))
              clear ho5 hg5 g0 g1 x0 x1 x2 r0 r1 gf rf
              obtain ⟨⟨g0, g1⟩, ⟨x0, x1, x2⟩, ⟨r0, r1⟩, ⟨gf, rf⟩, hs5⟩ := HA5.out.facts
              have htl : (R.take k).length = k := by rw [List.length_take]; omega
              go_wp2_with (at_builtin; refine app_e rfl (.tmp 58) (.tmp 60) rfl (w.heap.size + 3) _ _ e0 e1 e2 rfl HO6.out _ rfl HN6.out ?qb11 ?qb21 ?_)
              (try (case qb11 => omega))
              (try (case qb21 => have := HA6.out.size; omega))
              intro v7 W7 ho7 hg7
              have HA7 := Lib.hid (HA6.out.grown hg7 (fun j e => (own_lt HO6.out j e).1))
              have HO7 := Lib.hid ho7
              clear ho7 hg7 g0 g1 x0 x1 x2 r0 r1 gf rf
              obtain ⟨⟨g0, g1⟩, ⟨x0, x1, x2⟩, ⟨r0, r1⟩, ⟨gf, rf⟩, hs7⟩ := HA7.out.facts
              go_wp2_with (at_builtin; refine app_rest2 rfl (.tmp 62) (.tmp 66) rfl (w.heap.size + 3) _ _ (R.drop k) rfl HO7.out _ _ _ rfl ?qc01 ?qc11 ?qc21 ?qc31 ?_)
              (try (case qc01 => have hdd := HA7.out.at_.drop k; rw [Nat.zero_add] at hdd; exact hdd))
              (try (case qc11 => first | omega | (rw [List.length_drop]; rfl)))
              (try (case qc21 => first | omega | (simp only [List.length_append, List.length_take, List.length_singleton]; omega)))
              (try (case qc31 => omega))
              intro v8 W8 ho8 hg8
              have HA8 := Lib.hid (HA7.out.grown hg8 (fun j e => (own_lt HO7.out j e).1))
              have HO8 := Lib.hid ho8
              obtain ⟨A8, n8, c8, hv8⟩ : ∃ A8 n8 c8, v8 = .slice A8 n8 c8 := by
                obtain ⟨A8, c8, hv8, _⟩ := ho8.form
                exact ⟨_, _, _, hv8⟩
              subst hv8
              clear ho8 hg8 g0 g1 x0 x1 x2 r0 r1 gf rf
              obtain ⟨⟨g0, g1⟩, ⟨x0, x1, x2⟩, ⟨r0, r1⟩, ⟨gf, rf⟩, hs8⟩ := HA8.out.facts
              go_wp2
              have hb8 : w.heap.size ≤ w.heap.size + 1 + 1 := by omega
              have hb9 : w.heap.size ≤ w.heap.size + 3 := by omega
              have hbr := heap_setCell_other W8 ⟨w.heap.size, 1, none⟩ (w.heap.size + 1 + 1) (.slice A8 n8 c8) (by show w.heap.size + 1 + 1 ≠ w.heap.size; omega)
              obtain ⟨q0, q1⟩ := gx_put (b := w.heap.size + 1 + 1) (hbr.trans HA8.out.br) (.int .i64 V) (.slice A8 n8 c8)
              refine bodyPost_ret (v := .tuple #[.agg #[.int .i64 V, .slice A8 n8 c8], .bool true]) (by simp [results, Tryz.results62, go_sem, q0, q1]) rfl ⟨⟨_, rfl, Lib.hid ?_⟩, Lib.hid ?_⟩
              · have ho := own_mono (ownsRow_setCell_below (ownsRow_setCell_below (ownsRow_setCell_below HO8.out (a := ⟨w.heap.size, 1, none⟩) (by show w.heap.size < _; omega) (.slice A8 n8 c8)) (a := ⟨w.heap.size + 1 + 1, 0, none⟩) (by show w.heap.size + 1 + 1 < _; omega) (.int .i64 V)) (a := ⟨w.heap.size + 1 + 1, 1, none⟩) (by show w.heap.size + 1 + 1 < _; omega) (.slice A8 n8 c8)) hb9
                exact ho
              · exact ((HA8.out.below.setCell (p := ⟨w.heap.size, 1, none⟩) (Nat.le_refl _) _).setCell (p := ⟨w.heap.size + 1 + 1, 0, none⟩) hb8 _).setCell (p := ⟨w.heap.size + 1 + 1, 1, none⟩) hb8 _
        · have HK : Hid (k = R.length) := Lib.hid (by omega)
          have hkl : k ≤ R.length := by omega
          have HP : Hid (placeOf (e0, e1, e2) R = k) := Lib.hid (by rw [HPl.out, HK.out, List.drop_length, place_nil]; omega)
          go_wp2_with fail
          refine wp_region_quiet_grown mixed (by kernel_rfl) ?_
          repeat (go_big_quiet_step (fail))
          refine wpQuiet_nil ?_
          intro _ hw'
          obtain ⟨⟨nq, osq⟩, hw''⟩ := hw'
          subst hw''
          have HA3 := Lib.hid (HAr.out.step (grw_at wr nq osq).below)
          clear fg fx0 fx1 fx2
          generalize Sort.grow (wr.drewN nq) osq = W3 at HA3
          obtain ⟨⟨g0, g1⟩, ⟨x0, x1, x2⟩, ⟨r0, r1⟩, ⟨gf, rf⟩, hs3⟩ := HA3.out.facts
          have fg := cell_grown (by omega : w.heap.size < W3.heap.size) g1
          go_wp2_with fail
          refine wp_region_quiet_grown mixed (by kernel_rfl) ?_
          repeat (go_big_quiet_step (fail))
          refine wpQuiet_nil ?_
          intro _ hw'
          obtain ⟨⟨nq2, osq2⟩, hw''⟩ := hw'
          subst hw''
          have HA4 := Lib.hid (HA3.out.step (grw_at W3 nq2 osq2).below)
          clear fg g0 g1 x0 x1 x2 r0 r1 gf rf
          generalize Sort.grow (W3.drewN nq2) osq2 = W4 at HA4
          obtain ⟨⟨g0, g1⟩, ⟨x0, x1, x2⟩, ⟨r0, r1⟩, ⟨gf, rf⟩, hs4⟩ := HA4.out.facts
          have HN : Hid (¬ R.any (same (e0, e1, e2)) = true) := Lib.hid fun h => by
            obtain ⟨x, h1, h2⟩ := (there_iff (e0, e1, e2) R hr.out).1 h
            rw [HP.out, HK.out, List.getElem?_eq_none (Nat.le_refl _)] at h1; cases h1
          rcases hf.out with rfl | ⟨g, rfl⟩
          · have hst := place_le (e0, e1, e2) R
            rw [HP.out] at hst
            have hrs : res = some (R.take k ++ (e0, e1, e2) :: R.drop k) := by
              rw [← hres.out]; unfold addR
              rw [if_neg (by
                rw [HF.out]; rintro (h | h | h)
                · exact absurd h (by simp)
                · exact h8 h
                · exact HN.out h)]
              unfold insR; rw [HP.out]
            subst hrs
            have hR0 : R.length = 0 := by rw [eat_none HA4.out.at_]; rfl
            go_wp2_with (at_builtin; refine app_copy2 rfl (.tmp 52) (.tmp 56) rfl (w.heap.size + 3) (R.take k) rfl _ _ _ rfl (HA4.out.at_.take k) ?qa12 ?qa22 ?qa32 ?_)
            (try (case qa12 => first | omega | (rw [List.length_take]; omega)))
            (try (case qa22 => omega))
            (try (case qa32 => omega))
            intro v5 W5 ho5 hg5
            have HA5 := Lib.hid (HA4.out.grown hg5 nofun)
            have HN6 := Lib.hid (heap_alloc_new W5 (.cells #[.int .i64 e0, .int .i64 e1, .int .i64 e2] 42))
            have HO6 := Lib.hid (ho5.alloc (.cells #[.int .i64 e0, .int .i64 e1, .int .i64 e2] 42))
            have HA6 := Lib.hid (HA5.out.step ((Below.refl _ W5).alloc (Nat.le_refl _) (.cells #[.int .i64 e0, .int .i64 e1, .int .i64 e2] 42)))
            clear ho5 hg5 g0 g1 x0 x1 x2 r0 r1 gf rf
            obtain ⟨⟨g0, g1⟩, ⟨x0, x1, x2⟩, ⟨r0, r1⟩, ⟨gf, rf⟩, hs5⟩ := HA5.out.facts
            have htl : (R.take k).length = k := by rw [List.length_take]; omega
            go_wp2_with (at_builtin; refine app_e rfl (.tmp 58) (.tmp 60) rfl (w.heap.size + 3) _ _ e0 e1 e2 rfl HO6.out _ rfl HN6.out ?qb12 ?qb22 ?_)
            (try (case qb12 => omega))
            (try (case qb22 => have := HA6.out.size; omega))
            intro v7 W7 ho7 hg7
            have HA7 := Lib.hid (HA6.out.grown hg7 (fun j e => (own_lt HO6.out j e).1))
            have HO7 := Lib.hid ho7
            clear ho7 hg7 g0 g1 x0 x1 x2 r0 r1 gf rf
            obtain ⟨⟨g0, g1⟩, ⟨x0, x1, x2⟩, ⟨r0, r1⟩, ⟨gf, rf⟩, hs7⟩ := HA7.out.facts
            go_wp2_with (at_builtin; refine app_rest2 rfl (.tmp 62) (.tmp 66) rfl (w.heap.size + 3) _ _ (R.drop k) rfl HO7.out _ _ _ rfl ?qc02 ?qc12 ?qc22 ?qc32 ?_)
            (try (case qc02 => rw [eat_none HA4.out.at_, List.drop_nil]; exact EAt.nil _ _))
            (try (case qc12 => first | omega | (rw [List.length_drop]; omega)))
            (try (case qc22 => first | omega | (simp only [List.length_append, List.length_take, List.length_singleton]; omega)))
            (try (case qc32 => omega))
            intro v8 W8 ho8 hg8
            have HA8 := Lib.hid (HA7.out.grown hg8 (fun j e => (own_lt HO7.out j e).1))
            have HO8 := Lib.hid ho8
            obtain ⟨A8, n8, c8, hv8⟩ : ∃ A8 n8 c8, v8 = .slice A8 n8 c8 := by
              obtain ⟨A8, c8, hv8, _⟩ := ho8.form
              exact ⟨_, _, _, hv8⟩
            subst hv8
            clear ho8 hg8 g0 g1 x0 x1 x2 r0 r1 gf rf
            obtain ⟨⟨g0, g1⟩, ⟨x0, x1, x2⟩, ⟨r0, r1⟩, ⟨gf, rf⟩, hs8⟩ := HA8.out.facts
            go_wp2
            have hb8 : w.heap.size ≤ w.heap.size + 1 + 1 := by omega
            have hb9 : w.heap.size ≤ w.heap.size + 3 := by omega
            have hbr := heap_setCell_other W8 ⟨w.heap.size, 1, none⟩ (w.heap.size + 1 + 1) (.slice A8 n8 c8) (by show w.heap.size + 1 + 1 ≠ w.heap.size; omega)
            obtain ⟨q0, q1⟩ := gx_put (b := w.heap.size + 1 + 1) (hbr.trans HA8.out.br) (.int .i64 V) (.slice A8 n8 c8)
            refine bodyPost_ret (v := .tuple #[.agg #[.int .i64 V, .slice A8 n8 c8], .bool true]) (by simp [results, Tryz.results62, go_sem, q0, q1]) rfl ⟨⟨_, rfl, Lib.hid ?_⟩, Lib.hid ?_⟩
            · have ho := own_mono (ownsRow_setCell_below (ownsRow_setCell_below (ownsRow_setCell_below HO8.out (a := ⟨w.heap.size, 1, none⟩) (by show w.heap.size < _; omega) (.slice A8 n8 c8)) (a := ⟨w.heap.size + 1 + 1, 0, none⟩) (by show w.heap.size + 1 + 1 < _; omega) (.int .i64 V)) (a := ⟨w.heap.size + 1 + 1, 1, none⟩) (by show w.heap.size + 1 + 1 < _; omega) (.slice A8 n8 c8)) hb9
              exact ho
            · exact ((HA8.out.below.setCell (p := ⟨w.heap.size, 1, none⟩) (Nat.le_refl _) _).setCell (p := ⟨w.heap.size + 1 + 1, 0, none⟩) hb8 _).setCell (p := ⟨w.heap.size + 1 + 1, 1, none⟩) hb8 _
          · rcases Nat.lt_or_ge k c with hkc | hkc
            · have hst := place_le (e0, e1, e2) R
              rw [HP.out] at hst
              have hrs : res = some (R.take k ++ (e0, e1, e2) :: R.drop k) := by
                rw [← hres.out]; unfold addR
                rw [if_neg (by
                  rw [HF.out]; rintro (h | h | h)
                  · exact absurd h (by simp)
                  · exact h8 h
                  · exact HN.out h)]
                unfold insR; rw [HP.out]
              subst hrs
              go_wp2_with (at_builtin; refine app_copy2 rfl (.tmp 52) (.tmp 56) rfl (w.heap.size + 3) (R.take k) rfl _ _ _ rfl (HA4.out.at_.take k) ?qa13 ?qa23 ?qa33 ?_)
              (try (case qa13 => first | omega | (rw [List.length_take]; omega)))
              (try (case qa23 => omega))
              (try (case qa33 => omega))
              intro v5 W5 ho5 hg5
              have HA5 := Lib.hid (HA4.out.grown hg5 nofun)
              have HN6 := Lib.hid (heap_alloc_new W5 (.cells #[.int .i64 e0, .int .i64 e1, .int .i64 e2] 42))
              have HO6 := Lib.hid (ho5.alloc (.cells #[.int .i64 e0, .int .i64 e1, .int .i64 e2] 42))
              have HA6 := Lib.hid (HA5.out.step ((Below.refl _ W5).alloc (Nat.le_refl _) (.cells #[.int .i64 e0, .int .i64 e1, .int .i64 e2] 42)))
              clear ho5 hg5 g0 g1 x0 x1 x2 r0 r1 gf rf
              obtain ⟨⟨g0, g1⟩, ⟨x0, x1, x2⟩, ⟨r0, r1⟩, ⟨gf, rf⟩, hs5⟩ := HA5.out.facts
              have htl : (R.take k).length = k := by rw [List.length_take]; omega
              go_wp2_with (at_builtin; refine app_e rfl (.tmp 58) (.tmp 60) rfl (w.heap.size + 3) _ _ e0 e1 e2 rfl HO6.out _ rfl HN6.out ?qb13 ?qb23 ?_)
              (try (case qb13 => omega))
              (try (case qb23 => have := HA6.out.size; omega))
              intro v7 W7 ho7 hg7
              have HA7 := Lib.hid (HA6.out.grown hg7 (fun j e => (own_lt HO6.out j e).1))
              have HO7 := Lib.hid ho7
              clear ho7 hg7 g0 g1 x0 x1 x2 r0 r1 gf rf
              obtain ⟨⟨g0, g1⟩, ⟨x0, x1, x2⟩, ⟨r0, r1⟩, ⟨gf, rf⟩, hs7⟩ := HA7.out.facts
              go_wp2_with (at_builtin; refine app_rest2 rfl (.tmp 62) (.tmp 66) rfl (w.heap.size + 3) _ _ (R.drop k) rfl HO7.out _ _ _ rfl ?qc03 ?qc13 ?qc23 ?qc33 ?_)
              (try (case qc03 => rw [HK.out, List.drop_length]; exact EAt.nil _ _))
              (try (case qc13 => first | omega | (rw [List.length_drop]; rfl)))
              (try (case qc23 => first | omega | (simp only [List.length_append, List.length_take, List.length_singleton]; omega)))
              (try (case qc33 => omega))
              intro v8 W8 ho8 hg8
              have HA8 := Lib.hid (HA7.out.grown hg8 (fun j e => (own_lt HO7.out j e).1))
              have HO8 := Lib.hid ho8
              obtain ⟨A8, n8, c8, hv8⟩ : ∃ A8 n8 c8, v8 = .slice A8 n8 c8 := by
                obtain ⟨A8, c8, hv8, _⟩ := ho8.form
                exact ⟨_, _, _, hv8⟩
              subst hv8
              clear ho8 hg8 g0 g1 x0 x1 x2 r0 r1 gf rf
              obtain ⟨⟨g0, g1⟩, ⟨x0, x1, x2⟩, ⟨r0, r1⟩, ⟨gf, rf⟩, hs8⟩ := HA8.out.facts
              go_wp2
              have hb8 : w.heap.size ≤ w.heap.size + 1 + 1 := by omega
              have hb9 : w.heap.size ≤ w.heap.size + 3 := by omega
              have hbr := heap_setCell_other W8 ⟨w.heap.size, 1, none⟩ (w.heap.size + 1 + 1) (.slice A8 n8 c8) (by show w.heap.size + 1 + 1 ≠ w.heap.size; omega)
              obtain ⟨q0, q1⟩ := gx_put (b := w.heap.size + 1 + 1) (hbr.trans HA8.out.br) (.int .i64 V) (.slice A8 n8 c8)
              refine bodyPost_ret (v := .tuple #[.agg #[.int .i64 V, .slice A8 n8 c8], .bool true]) (by simp [results, Tryz.results62, go_sem, q0, q1]) rfl ⟨⟨_, rfl, Lib.hid ?_⟩, Lib.hid ?_⟩
              · have ho := own_mono (ownsRow_setCell_below (ownsRow_setCell_below (ownsRow_setCell_below HO8.out (a := ⟨w.heap.size, 1, none⟩) (by show w.heap.size < _; omega) (.slice A8 n8 c8)) (a := ⟨w.heap.size + 1 + 1, 0, none⟩) (by show w.heap.size + 1 + 1 < _; omega) (.int .i64 V)) (a := ⟨w.heap.size + 1 + 1, 1, none⟩) (by show w.heap.size + 1 + 1 < _; omega) (.slice A8 n8 c8)) hb9
                exact ho
              · exact ((HA8.out.below.setCell (p := ⟨w.heap.size, 1, none⟩) (Nat.le_refl _) _).setCell (p := ⟨w.heap.size + 1 + 1, 0, none⟩) hb8 _).setCell (p := ⟨w.heap.size + 1 + 1, 1, none⟩) hb8 _
            · have hst := place_le (e0, e1, e2) R
              rw [HP.out] at hst
              have hrs : res = some (R.take k ++ (e0, e1, e2) :: R.drop k) := by
                rw [← hres.out]; unfold addR
                rw [if_neg (by
                  rw [HF.out]; rintro (h | h | h)
                  · exact absurd h (by simp)
                  · exact h8 h
                  · exact HN.out h)]
                unfold insR; rw [HP.out]
              subst hrs
              go_wp2_with (at_builtin; refine app_copy2 rfl (.tmp 52) (.tmp 56) rfl (w.heap.size + 3) (R.take k) rfl _ _ _ rfl (HA4.out.at_.take k) ?qa14 ?qa24 ?qa34 ?_)
              (try (case qa14 => first | omega | (rw [List.length_take]; omega)))
              (try (case qa24 => omega))
              (try (case qa34 => omega))
              intro v5 W5 ho5 hg5
              have HA5 := Lib.hid (HA4.out.grown hg5 nofun)
              have HN6 := Lib.hid (heap_alloc_new W5 (.cells #[.int .i64 e0, .int .i64 e1, .int .i64 e2] 42))
              have HO6 := Lib.hid (ho5.alloc (.cells #[.int .i64 e0, .int .i64 e1, .int .i64 e2] 42))
              have HA6 := Lib.hid (HA5.out.step ((Below.refl _ W5).alloc (Nat.le_refl _) (.cells #[.int .i64 e0, .int .i64 e1, .int .i64 e2] 42)))
              clear ho5 hg5 g0 g1 x0 x1 x2 r0 r1 gf rf
              obtain ⟨⟨g0, g1⟩, ⟨x0, x1, x2⟩, ⟨r0, r1⟩, ⟨gf, rf⟩, hs5⟩ := HA5.out.facts
              have htl : (R.take k).length = k := by rw [List.length_take]; omega
              go_wp2_with (at_builtin; refine app_e rfl (.tmp 58) (.tmp 60) rfl (w.heap.size + 3) _ _ e0 e1 e2 rfl HO6.out _ rfl HN6.out ?qb14 ?qb24 ?_)
              (try (case qb14 => omega))
              (try (case qb24 => have := HA6.out.size; omega))
              intro v7 W7 ho7 hg7
              have HA7 := Lib.hid (HA6.out.grown hg7 (fun j e => (own_lt HO6.out j e).1))
              have HO7 := Lib.hid ho7
              clear ho7 hg7 g0 g1 x0 x1 x2 r0 r1 gf rf
              obtain ⟨⟨g0, g1⟩, ⟨x0, x1, x2⟩, ⟨r0, r1⟩, ⟨gf, rf⟩, hs7⟩ := HA7.out.facts
              go_wp2_with (at_builtin; refine app_rest2 rfl (.tmp 62) (.tmp 66) rfl (w.heap.size + 3) _ _ (R.drop k) rfl HO7.out _ _ _ rfl ?qc04 ?qc14 ?qc24 ?qc34 ?_)
              (try (case qc04 => rw [HK.out, List.drop_length]; exact EAt.nil _ _))
              (try (case qc14 => first | omega | (rw [List.length_drop]; rfl)))
              (try (case qc24 => first | omega | (simp only [List.length_append, List.length_take, List.length_singleton]; omega)))
              (try (case qc34 => omega))
              intro v8 W8 ho8 hg8
              have HA8 := Lib.hid (HA7.out.grown hg8 (fun j e => (own_lt HO7.out j e).1))
              have HO8 := Lib.hid ho8
              obtain ⟨A8, n8, c8, hv8⟩ : ∃ A8 n8 c8, v8 = .slice A8 n8 c8 := by
                obtain ⟨A8, c8, hv8, _⟩ := ho8.form
                exact ⟨_, _, _, hv8⟩
              subst hv8
              clear ho8 hg8 g0 g1 x0 x1 x2 r0 r1 gf rf
              obtain ⟨⟨g0, g1⟩, ⟨x0, x1, x2⟩, ⟨r0, r1⟩, ⟨gf, rf⟩, hs8⟩ := HA8.out.facts
              go_wp2
              have hb8 : w.heap.size ≤ w.heap.size + 1 + 1 := by omega
              have hb9 : w.heap.size ≤ w.heap.size + 3 := by omega
              have hbr := heap_setCell_other W8 ⟨w.heap.size, 1, none⟩ (w.heap.size + 1 + 1) (.slice A8 n8 c8) (by show w.heap.size + 1 + 1 ≠ w.heap.size; omega)
              obtain ⟨q0, q1⟩ := gx_put (b := w.heap.size + 1 + 1) (hbr.trans HA8.out.br) (.int .i64 V) (.slice A8 n8 c8)
              refine bodyPost_ret (v := .tuple #[.agg #[.int .i64 V, .slice A8 n8 c8], .bool true]) (by simp [results, Tryz.results62, go_sem, q0, q1]) rfl ⟨⟨_, rfl, Lib.hid ?_⟩, Lib.hid ?_⟩
              · have ho := own_mono (ownsRow_setCell_below (ownsRow_setCell_below (ownsRow_setCell_below HO8.out (a := ⟨w.heap.size, 1, none⟩) (by show w.heap.size < _; omega) (.slice A8 n8 c8)) (a := ⟨w.heap.size + 1 + 1, 0, none⟩) (by show w.heap.size + 1 + 1 < _; omega) (.int .i64 V)) (a := ⟨w.heap.size + 1 + 1, 1, none⟩) (by show w.heap.size + 1 + 1 < _; omega) (.slice A8 n8 c8)) hb9
                exact ho
              · exact ((HA8.out.below.setCell (p := ⟨w.heap.size, 1, none⟩) (Nat.le_refl _) _).setCell (p := ⟨w.heap.size + 1 + 1, 0, none⟩) hb8 _).setCell (p := ⟨w.heap.size + 1 + 1, 1, none⟩) hb8 _

end Go.Proofs.YtmcmpjcijbeilaaGreatDoor.Gr

/-
  What is proved here: what the document's own reading of a line does beside the program's; words for its walk. No condition.
-/
namespace Go.Proofs.YtmcmpjcijbeilaaGreatDoor.Gr
open Go.RowKit Wd Ws

def nth0 (ns : List Nat) : Nat := ns[0]?.getD 0
def nth1 (ns : List Nat) : Nat := ns[1]?.getD 0
def nth2 (ns : List Nat) : Nat := ns[2]?.getD 1
def putR (V : Int) (R : List Ed) (both : Bool) (a b c : Nat) : Option (List Ed) :=
  if 512 ≤ a ∨ 512 ≤ b then none
  else match addR V R ((a : Int), (b : Int), (c : Int)) with
    | none => none
    | some S => if both = true ∧ a ≠ b then addR V S ((b : Int), (a : Int), (c : Int)) else some S
noncomputable def numsR (V : Int) (R : List Ed) (both : Bool) : Option (List Nat) → Option (List Ed)
  | none => none
  | some ns => putR V R both (nth0 ns) (nth1 ns) (nth2 ns)
noncomputable def lineR (V : Int) (R : List Ed) (x : List UInt8) (t : List (List UInt8)) : Option (List Ed) :=
  if (t.length = 2 ∨ t.length = 3) ∧ (x = edgeB ∨ x = bothB) then numsR V R (decide (x = bothB)) (numsOf t) else none

theorem numsOf_len : ∀ (t : List (List UInt8)) (ns : List Nat), numsOf t = some ns → ns.length = t.length
  | [], ns, h => by rw [numsOf] at h; cases h; rfl
  | x :: t, ns, h => by
    rw [numsOf] at h
    split at h
    · split at h
      · cases h
      · rename_i l hl
        cases h
        rw [List.length_cons, List.length_cons, numsOf_len t l hl]
    · cases h
theorem addR_unfit {V : Int} {R : List Ed} {e : Ed} (h : fitE V e = false) : addR V R e = none := by unfold addR; rw [if_pos (Or.inl h)]
theorem edge_big {R : List Ed} {both : Bool} {a b c : Nat} {V : Int} (hV : V ≤ 512) (h : fitE V ((a : Int), (b : Int), (c : Int)) = true) : putR V R both a b c = (match addR V R ((a : Int), (b : Int), (c : Int)) with | none => none | some S => if both = true ∧ a ≠ b then addR V S ((b : Int), (a : Int), (c : Int)) else some S) := by
  unfold putR
  rw [fitE_iff] at h
  rw [if_neg (by simp only at h; omega)]
theorem put_unfit {R : List Ed} {both : Bool} {a b c : Nat} {V : Int} (h : fitE V ((a : Int), (b : Int), (c : Int)) = false) : putR V R both a b c = none := by
  unfold putR
  split
  · rfl
  · rw [addR_unfit h]
/- A line that says an edge, or two: both ways take it alike. -/
def Alike (V : Int) (r : Option (Int × List Ed)) (q : Option (List Ed)) : Prop := (r = none → q = none) ∧ ∀ s, r = some s → ∃ S, q = some S ∧ s.1 = V ∧ S.Perm s.2 ∧ Rise S
theorem alike_none (V : Int) : Alike V none none := ⟨fun _ => rfl, fun s h => by cases h⟩
theorem edge_alike {V : Int} {L R : List Ed} (hs : Sd V L) (hp : R.Perm L) (hr : Rise R) (e : Ed) (hf : fitE V e = true) : Alike V (er V (addP L e)) (addR V R e) := by
  constructor
  · intro h
    cases ha : addP L e with
    | none => exact (addR_none hp hs.len hf).2 ha
    | some M => rw [ha] at h; cases h
  · intro s h
    cases ha : addP L e with
    | none => rw [ha] at h; cases h
    | some M =>
      rw [ha] at h; cases h
      obtain ⟨S, h1, h2, h3⟩ := addR_some hp hr hs.len hf ha
      exact ⟨S, h1, rfl, h2, h3⟩
theorem put_alike {V : Int} {L R : List Ed} (hs : Sd V L) (hp : R.Perm L) (hr : Rise R) (both : Bool) (a b c : Nat) (hf : fitE V ((a : Int), (b : Int), (c : Int)) = true) :
    Alike V (er V (if both = true then bothP L ((a : Int), (b : Int), (c : Int)) else addP L ((a : Int), (b : Int), (c : Int)))) (putR V R both a b c) := by
  rw [edge_big hs.v.2 hf]
  cases ha : addP L ((a : Int), (b : Int), (c : Int)) with
  | none =>
    rw [(addR_none hp hs.len hf).2 ha]
    cases both with
    | false => rw [if_neg (by simp)]; exact alike_none V
    | true => rw [if_pos rfl]; unfold bothP; rw [ha]; exact alike_none V
  | some M =>
    obtain ⟨S, h1, h2, h3⟩ := addR_some hp hr hs.len hf ha
    have hM := hs.add hf ha
    rw [h1]
    cases both with
    | false => rw [if_neg (by simp)]; exact ⟨fun h => (by cases h), fun s h => (by cases h; exact ⟨S, by simp, rfl, h2, h3⟩)⟩
    | true =>
      rw [if_pos rfl]
      unfold bothP
      rw [ha]
      show Alike V (er V (if (a : Int) = (b : Int) then some M else addP M (trn ((a : Int), (b : Int), (c : Int))))) (if true = true ∧ a ≠ b then addR V S ((b : Int), (a : Int), (c : Int)) else some S)
      by_cases hab : a = b
      · rw [if_pos (by rw [hab]), if_neg (by simp [hab])]
        exact ⟨fun h => (by cases h), fun s h => (by cases h; exact ⟨S, rfl, rfl, h2, h3⟩)⟩
      · rw [if_neg (by omega), if_pos ⟨rfl, hab⟩]
        exact edge_alike hM h2 h3 _ (fit_trn hf)
theorem line_alike {V : Int} {L R : List Ed} (hs : Sd V L) (hV : V ≠ 0) (hp : R.Perm L) (hr : Rise R) (x : List UInt8) (t : List (List UInt8)) : Alike V (stepW V L (x :: t)) (lineR V R x t) := by
  rw [stepW_cons]
  unfold lineR
  cases hn : numsOf t with
  | none =>
    have : afterN V L x none = none := rfl
    rw [this]
    split
    · exact alike_none V
    · exact alike_none V
  | some ns =>
    have hl := numsOf_len t ns hn
    have e1 : afterN V L x (some ns) = stepN V L x ns := rfl
    rw [e1]
    by_cases hx : x = edgeB
    · subst hx
      have hd : decide (edgeB = bothB) = false := by decide
      unfold stepN
      rw [if_neg hV, if_pos rfl, hd]
      match ns, hl with
      | [], hl => rw [if_neg (by simp only [List.length_nil] at hl; omega)]; exact alike_none V
      | [a], hl => rw [if_neg (by simp only [List.length_cons, List.length_nil] at hl; omega)]; exact alike_none V
      | [a, b], hl =>
        rw [if_pos ⟨by simp only [List.length_cons, List.length_nil] at hl; omega, Or.inl rfl⟩]
        show Alike V (match (if fitE V ((a : Int), (b : Int), 1) then some ((a : Int), (b : Int), 1) else none) with | none => none | some e => match addP L e with | none => none | some M => some (V, M)) (putR V R false a b 1)
        cases hf : fitE V ((a : Int), (b : Int), 1) with
        | false => rw [put_unfit hf]; exact alike_none V
        | true =>
          have := put_alike hs hp hr false a b 1 hf
          rw [if_neg (by simp)] at this
          rw [if_pos rfl]
          show Alike V (match addP L ((a : Int), (b : Int), 1) with | none => none | some M => some (V, M)) _
          have e2 : (match addP L ((a : Int), (b : Int), 1) with | none => none | some M => some (V, M)) = er V (addP L ((a : Int), (b : Int), 1)) := by cases addP L ((a : Int), (b : Int), 1) <;> rfl
          rw [e2]; exact this
      | [a, b, c], hl =>
        rw [if_pos ⟨by simp only [List.length_cons, List.length_nil] at hl; omega, Or.inl rfl⟩]
        show Alike V (match (if fitE V ((a : Int), (b : Int), (c : Int)) then some ((a : Int), (b : Int), (c : Int)) else none) with | none => none | some e => match addP L e with | none => none | some M => some (V, M)) (putR V R false a b c)
        cases hf : fitE V ((a : Int), (b : Int), (c : Int)) with
        | false => rw [put_unfit hf]; exact alike_none V
        | true =>
          have := put_alike hs hp hr false a b c hf
          rw [if_neg (by simp)] at this
          rw [if_pos rfl]
          show Alike V (match addP L ((a : Int), (b : Int), (c : Int)) with | none => none | some M => some (V, M)) _
          have e2 : (match addP L ((a : Int), (b : Int), (c : Int)) with | none => none | some M => some (V, M)) = er V (addP L ((a : Int), (b : Int), (c : Int))) := by cases addP L ((a : Int), (b : Int), (c : Int)) <;> rfl
          rw [e2]; exact this
      | a :: b :: c :: d :: l, hl => rw [if_neg (by simp only [List.length_cons] at hl; omega)]; exact alike_none V
    · by_cases hy : x = bothB
      · subst hy
        have hd : decide (bothB = bothB) = true := by decide
        unfold stepN
        rw [if_neg hV, if_neg hx, if_pos rfl, hd]
        match ns, hl with
        | [], hl => rw [if_neg (by simp only [List.length_nil] at hl; omega)]; exact alike_none V
        | [a], hl => rw [if_neg (by simp only [List.length_cons, List.length_nil] at hl; omega)]; exact alike_none V
        | [a, b], hl =>
          rw [if_pos ⟨by simp only [List.length_cons, List.length_nil] at hl; omega, Or.inr rfl⟩]
          show Alike V (match (if fitE V ((a : Int), (b : Int), 1) then some ((a : Int), (b : Int), 1) else none) with | none => none | some e => match bothP L e with | none => none | some M => some (V, M)) (putR V R true a b 1)
          cases hf : fitE V ((a : Int), (b : Int), 1) with
          | false => rw [put_unfit hf]; exact alike_none V
          | true =>
            have := put_alike hs hp hr true a b 1 hf
            rw [if_pos rfl] at this
            rw [if_pos rfl]
            show Alike V (match bothP L ((a : Int), (b : Int), 1) with | none => none | some M => some (V, M)) _
            have e2 : (match bothP L ((a : Int), (b : Int), 1) with | none => none | some M => some (V, M)) = er V (bothP L ((a : Int), (b : Int), 1)) := by cases bothP L ((a : Int), (b : Int), 1) <;> rfl
            rw [e2]; exact this
        | [a, b, c], hl =>
          rw [if_pos ⟨by simp only [List.length_cons, List.length_nil] at hl; omega, Or.inr rfl⟩]
          show Alike V (match (if fitE V ((a : Int), (b : Int), (c : Int)) then some ((a : Int), (b : Int), (c : Int)) else none) with | none => none | some e => match bothP L e with | none => none | some M => some (V, M)) (putR V R true a b c)
          cases hf : fitE V ((a : Int), (b : Int), (c : Int)) with
          | false => rw [put_unfit hf]; exact alike_none V
          | true =>
            have := put_alike hs hp hr true a b c hf
            rw [if_pos rfl] at this
            rw [if_pos rfl]
            show Alike V (match bothP L ((a : Int), (b : Int), (c : Int)) with | none => none | some M => some (V, M)) _
            have e2 : (match bothP L ((a : Int), (b : Int), (c : Int)) with | none => none | some M => some (V, M)) = er V (bothP L ((a : Int), (b : Int), (c : Int))) := by cases bothP L ((a : Int), (b : Int), (c : Int)) <;> rfl
            rw [e2]; exact this
        | a :: b :: c :: d :: l, hl => rw [if_neg (by simp only [List.length_cons] at hl; omega)]; exact alike_none V
      · rw [stepN_else V hV L x ns hx hy, if_neg (by rintro ⟨_, h⟩; exact h.elim hx hy)]
        exact alike_none V

/- The row of three numbers that line fills. -/
def a3 (l : List Nat) : Array Value := #[.int .i64 (nth0 l : Int), .int .i64 (nth1 l : Int), .int .i64 (nth2 l : Int)]
theorem a3_set : ∀ (l : List Nat) (j m : Nat), l.length = j → j < 3 → (a3 l).setIfInBounds j (.int .i64 (m : Int)) = a3 (l ++ [m])
  | [], j, m, h, _ => by subst h; rfl
  | [a], j, m, h, _ => by subst h; rfl
  | [a, b], j, m, h, _ => by subst h; rfl
  | a :: b :: c :: l, j, m, h, h3 => by simp only [List.length_cons] at h; omega

end Go.Proofs.YtmcmpjcijbeilaaGreatDoor.Gr
