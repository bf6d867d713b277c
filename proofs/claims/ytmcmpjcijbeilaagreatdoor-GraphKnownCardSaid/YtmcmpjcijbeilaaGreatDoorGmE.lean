/-
  What is proved here: the texts WdR7 of this seat, laid together (each says itself what it proves; no condition beyond theirs).
-/
import Derived.Test.YtmcmpjcijbeilaaGreatDoorGmD
/-
  What is proved here: the contract of the document's own Number: which number a word is. For words of more than one character first. Condition: at most 300000 bytes.
-/
namespace Go.Proofs.YtmcmpjcijbeilaaGreatDoor.Ws
open Go.RowKit Wd

set_option maxRecDepth 100000 in
set_option maxHeartbeats 4000000 in
theorem rnumber_more (l : List UInt8) (cs : List Ch) (w : World) (h : Rg l cs) (hl : l.length ≤ 300000) (hlen : 1 < cs.length) :
    Calls Tryz.prog 41 #[.string (sb l)] w fun e w' => e = .returned (.tuple #[.int .i64 ((numOf cs).1 : Int), .int .i64 (numOf cs).2]) ∧ Below w.heap.size w w' := by
  have hsz := sb_size l
  have HW := Lib.hid h; clear h
  have hrune : ∀ c ∈ cs, c.r ≤ 1114111 := rg_rune cs l HW.out
  go_enter Tryz.func41, Tryz.ntmps41
  go_wp2_with fail
  refine (chars_any l cs _ HW.out hl).mono ?_
  rintro e w1 ⟨v, rfl, hch, hb1⟩
  obtain ⟨A, cap, rfl, hca⟩ := hch.at_
  have HCA := Lib.hid hca; have HB1 := Lib.hid hb1; clear hch hca hb1
  rcases cs with _ | ⟨c0, t⟩
  · go_wp2
    all_goals (try (exfalso; omega))
    go_ret2
    exact ⟨rfl, HB1.out⟩
  · obtain ⟨n, hn⟩ : ∃ n, n = (c0 :: t).length := ⟨_, rfl⟩
    have hnl : n ≤ l.length := by rw [hn]; exact rg_len _ _ HW.out
    have hnt : n ≤ t.length + 1 ∧ t.length + 1 ≤ n := by rw [hn]; simp
    obtain ⟨gg, hA, hgg, b0, b1, b2⟩ := HCA.out 0 c0 rfl
    subst hA
    have hr0 := hrune c0 List.mem_cons_self
    have HRU := Lib.hid hrune; clear hrune
    clear b1 b2
    have hs1 := HB1.out.size
    rw [Nat.zero_mul] at b0
    rw [← hn]
    have HN := Lib.hid hn; clear hn
    go_wp2_with fail
    all_goals (try (exfalso; omega))
    refine (rkind_any (c0.r : Int) _ (by omega) (by omega)).mono ?_
    rintro e w2 ⟨rfl, hb2⟩
    have HB2 := Lib.hid (below_trans HB1.out hb2)
    have hs2 := hb2.size
    have q0 : w2.cell? ⟨gg, 0, none⟩ = some (.int .i32 (c0.r : Int)) := (hb2.cell (p := ⟨gg, 0, none⟩) hgg).trans b0
    have HCA2 := Lib.hid (HCA.out.below hb2); clear hb2 b0
    by_cases hk0 : kdOf (c0.r : Int) < 0
    · have HE := Lib.hid (numOf_not _ (isNum_neg c0 t hk0))
      go_wp2
      all_goals (try (exfalso; omega))
      go_ret2
      rw [HE.out]
      exact ⟨rfl, HB2.out⟩
    · have hkd : decide (kdOf (c0.r : Int) < 0) = false := by simpa using hk0
      have hkp : 0 ≤ kdOf (c0.r : Int) := by omega
      by_cases ht : t.length = 0
      · rw [List.length_cons] at hlen; omega
      · obtain ⟨x, t', ht'⟩ : ∃ x t', t = x :: t' := by
          cases t with
          | nil => simp at ht
          | cons x t' => exact ⟨x, t', rfl⟩
        have HT := Lib.hid ht'; clear ht'
        have hn1 : 1 < n := by omega
        have hn0 : ((n : Int) == 0) = false := by simp; omega
        go_wp2_with fail
        all_goals (try (exfalso; omega))
        refine (rdigit_any (c0.r : Int) _ (by omega) (by omega)).mono ?_
        rintro e w3 ⟨rfl, hb3⟩
        have HB3 := Lib.hid (below_trans HB2.out hb3)
        have hs3 := hb3.size
        have HCA3 := Lib.hid (HCA2.out.below hb3); clear hb3
        by_cases hv0 : dvOf (c0.r : Int) = 0
        · have HE := Lib.hid (show numOf (c0 :: t) = (0, 30) from by rw [HT.out]; exact numOf_not _ (isNum_lead c0 x t' hv0))
          go_wp2
          all_goals (try (exfalso; omega))
          go_ret2
          rw [HE.out]
          exact ⟨rfl, HB3.out⟩
        · have hvb : (dvOf (c0.r : Int) == 0) = false := by simpa using hv0
          have HV0 := Lib.hid hv0; clear hv0
          go_wp2
          all_goals (try (exfalso; omega))
          go_loopg [5, 6, 7] n (fun g o n i wr => RnRel w3 c0 (c0 :: t) g o n i wr)
          case atStart => exact ⟨[], c0 :: t, false, 0, rfl, HN.out.symm, rfl, rfl, rfl, Or.inl ⟨rfl, rfl, by omega, fun _ => by omega⟩, by simp, Below.refl _ _⟩
          case round =>
            obtain ⟨D, ds, ob, m, hD, hg, rfl, rfl, rfl, hpa, hkd2, hb⟩ := hrel
            have hsum : D.length + ds.length = n := by rw [HN.out, hD, List.length_append]
            have hs3 := hb.size
            have HB := Lib.hid hb; have HK := Lib.hid hkd2; have HPA := Lib.hid hpa; clear hb hkd2 hpa
            rcases ds with _ | ⟨c, ds⟩
            · have hDn : n ≤ D.length := by simp at hsum; omega
              have hDn2 : D.length ≤ n := by simp at hsum; omega
              have HE := Lib.hid (isNum_ok c0 t (by omega) (fun x hx => HK.out x (by rw [hD, List.append_nil] at hx; exact hx)) (Or.inr HV0.out))
              rcases HPA.out with ⟨ho, hm, hm2, _⟩ | ⟨ho, hov⟩
              · have HM := Lib.hid hm; subst ho; clear hm
                have HD := Lib.hid hD; clear hD
                go_wp2
                all_goals (try (exfalso; omega))
                go_ret2
                have hz := HD.out
                rw [List.append_nil] at hz
                refine ⟨?_, below_trans HB3.out HB.out⟩
                rw [numOf_end _ (num 0 (c0 :: t)) HE.out rfl (by rw [hz]; have := HM.out; omega)]
                rw [HM.out, hz]; rfl
              · subst ho
                have HOV := Lib.hid hov; clear hov
                have HD := Lib.hid hD; clear hD
                go_wp2
                all_goals (try (exfalso; omega))
                go_ret2
                rw [numOf_over _ HE.out HOV.out]
                exact ⟨rfl, below_trans HB3.out HB.out⟩
            · have hlt : D.length < n := by simp at hsum; omega
              obtain ⟨gg', hA', hgg', k0, _, _⟩ := HCA3.out.below HB.out D.length c (by rw [hD]; simp)
              obtain rfl : gg = gg' := by simpa using hA'
              obtain ⟨_, hA2, _, k1, _, _⟩ := HCA3.out.below HB.out 0 c0 rfl
              obtain rfl := (show gg = _ by simpa using hA2)
              rw [Nat.zero_mul] at k1
              have hrc := HRU.out c (by rw [hD]; simp)
              have HB0 : Hid (Below wr.heap.size wr wr) := Lib.hid (Below.refl _ _)
              have HK0 := Lib.hid k0; have HK1 := Lib.hid k1
              go_wp2
              all_goals (try (exfalso; omega))
              by_cases hkk : kdOf (c.r : Int) = kdOf (c0.r : Int)
              · have hbe : (kdOf (c.r : Int) == kdOf (c0.r : Int)) = true := by simpa using hkk
                have hbn : (kdOf (c.r : Int) != kdOf (c0.r : Int)) = false := by simpa using hkk
                have HKK := Lib.hid hkk; clear hkk
                go_region_with (first
                  | (go_at_call 60; refine (rkind_k _ _ wr gg 0 (D.length * 3) _ _ ?_ ?_ w4 HB4 ?_ hgg' HK1 HK0).mono ?_; omega; omega; exact ⟨rfl, rfl, rfl, rfl⟩; rintro e w5 ⟨rfl, HB5, q3, q4⟩)
                  | (go_at_call 60; refine (rkind_k _ _ wr gg 0 (D.length * 3) _ _ ?_ ?_ wr HB0 ?_ hgg' HK1 HK0).mono ?_; omega; omega; exact ⟨rfl, rfl, rfl, rfl⟩; rintro e w4 ⟨rfl, HB4, q1, q2⟩))
                all_goals
                  rcases HPA.out with ⟨ho, hm, hm2, hm3⟩ | ⟨ho, hov⟩
                  · subst ho
                    have hm3 := hm3 (by simp)
                    obtain ⟨M, hM⟩ : ∃ M, M = num 0 D := ⟨_, rfl⟩
                    rw [← hM] at hm
                    have HM := Lib.hid hM; clear hM
                    have HME := Lib.hid hm
                    obtain ⟨V, hV⟩ : ∃ V : Nat, dvOf (c.r : Int) = (V : Int) := ⟨(dvOf (c.r : Int)).toNat, by have := (kv_range (c.r : Int)).2.2.2.2 (by rw [HKK.out]; omega); omega⟩
                    have hV9 : V ≤ 9 := by have := (kv_range (c.r : Int)).2.2.2.1; omega
                    have HV := Lib.hid hV; clear hV
                    subst hm
                    have HNX := Lib.hid (show num 0 (D ++ [c]) = 10 * M + V by rw [num_snoc, ← HM.out, HV.out]; rfl)
                    have HCS := Lib.hid (show num 0 (c0 :: t) = num (num 0 (D ++ [c])) ds by rw [hD, ← num_app]; simp)
                    have HDD := Lib.hid (show c0 :: t = (D ++ [c]) ++ ds by rw [hD]; simp)
                    clear hD
                    have hsum2 : D.length + (ds.length + 1) = n := by simpa using hsum
                    have HSU := Lib.hid hsum2
                    have hlt1 : D.length + 1 ≤ n := by omega
                    have HG := Lib.hid hg
                    clear hsum hsum2 hg
                    go_wp2_with fail
                    all_goals (try (exfalso; omega))
                    refine (rdigit_at (c.r : Int) (V : Int) _ (by omega) (by omega) HV.out).mono ?_
                    rintro e w6 ⟨rfl, hb6⟩
                    have HB6 := Lib.hid (below_trans (HB.out.trans (HB5.out.mono hs3)) (hb6)); clear hb6
                    by_cases hc1 : 4611686018427387904 < 10 * M + V
                    · by_cases hc3 : D.length + 1 < n
                      · have hc4 : 1 ≤ ds.length := by have := HSU.out; omega
                        go_wp2
                        all_goals (try (exfalso; omega))
                        all_goals go_roundg (gk - 1)
                        all_goals first
                          | (have := HG.out; simp at this; omega)
                          | exact ⟨D ++ [c], ds, true, _, HDD.out, by have := HG.out; simp at this; omega, by rw [List.length_append]; go_num, by first | rfl | (congr 1; simp; omega), rfl, Or.inr ⟨rfl, by rw [HCS.out, HNX.out]; exact num_big _ _ (by omega)⟩, by intro x hx; rcases List.mem_append.1 hx with g | g; exact HK.out x g; simp at g; rw [g]; exact HKK.out, HB6.out⟩
                      · go_wp2
                        all_goals (try (exfalso; omega))
                        all_goals go_roundg (gk - 1)
                        all_goals first
                          | (have := HG.out; simp at this; omega)
                          | exact ⟨D ++ [c], ds, true, _, HDD.out, by have := HG.out; simp at this; omega, by rw [List.length_append]; go_num, by first | rfl | (congr 1; simp; omega), rfl, Or.inr ⟨rfl, by rw [HCS.out, HNX.out]; exact num_big _ _ (by omega)⟩, by intro x hx; rcases List.mem_append.1 hx with g | g; exact HK.out x g; simp at g; rw [g]; exact HKK.out, HB6.out⟩
                    · by_cases hc2 : 576460752303423488 < 10 * M + V
                      · by_cases hc3 : D.length + 1 < n
                        · have hc4 : 1 ≤ ds.length := by have := HSU.out; omega
                          go_wp2
                          all_goals (try (exfalso; omega))
                          all_goals go_roundg (gk - 1)
                          all_goals first
                            | (have := HG.out; simp at this; omega)
                            | exact ⟨D ++ [c], ds, true, _, HDD.out, by have := HG.out; simp at this; omega, by rw [List.length_append]; go_num, by first | rfl | (congr 1; simp; omega), rfl, Or.inr ⟨rfl, by rw [HCS.out, HNX.out]; exact num_big _ _ (by omega)⟩, by intro x hx; rcases List.mem_append.1 hx with g | g; exact HK.out x g; simp at g; rw [g]; exact HKK.out, HB6.out⟩
                        · have hc4 : ds.length ≤ 0 := by have := HSU.out; omega
                          go_wp2
                          all_goals (try (exfalso; omega))
                          all_goals go_roundg (gk - 1)
                          all_goals first
                            | (have := HG.out; simp at this; omega)
                            | exact ⟨D ++ [c], ds, false, _, HDD.out, by have := HG.out; simp at this; omega, by rw [List.length_append]; go_num, by first | rfl | (congr 1; simp; omega), rfl, Or.inl ⟨rfl, by rw [HNX.out]; omega, by omega, fun hne => absurd (List.eq_nil_of_length_eq_zero (by omega)) hne⟩, by intro x hx; rcases List.mem_append.1 hx with g | g; exact HK.out x g; simp at g; rw [g]; exact HKK.out, HB6.out⟩
                      · go_wp2
                        all_goals (try (exfalso; omega))
                        all_goals go_roundg (gk - 1)
                        all_goals first
                          | (have := HG.out; simp at this; omega)
                          | exact ⟨D ++ [c], ds, false, _, HDD.out, by have := HG.out; simp at this; omega, by rw [List.length_append]; go_num, by first | rfl | (congr 1; simp; omega), rfl, Or.inl ⟨rfl, by rw [HNX.out]; omega, by omega, fun _ => by omega⟩, by intro x hx; rcases List.mem_append.1 hx with g | g; exact HK.out x g; simp at g; rw [g]; exact HKK.out, HB6.out⟩
                  · subst ho
                    have HOV := Lib.hid hov; clear hov
                    have HDD := Lib.hid (show c0 :: t = (D ++ [c]) ++ ds by rw [hD]; simp)
                    have HG := Lib.hid hg
                    have HB6 := Lib.hid (HB.out.trans (HB5.out.mono hs3))
                    clear hD hsum hg
                    go_wp2
                    all_goals (try (exfalso; omega))
                    all_goals go_roundg (gk - 1)
                    all_goals first
                      | (have := HG.out; simp at this; omega)
                      | exact ⟨D ++ [c], ds, true, _, HDD.out, by have := HG.out; simp at this; omega, by rw [List.length_append]; go_num, by first | rfl | (congr 1; simp; omega), rfl, Or.inr ⟨rfl, HOV.out⟩, by intro x hx; rcases List.mem_append.1 hx with g | g; exact HK.out x g; simp at g; rw [g]; exact HKK.out, HB6.out⟩
              · have hbe : (kdOf (c.r : Int) == kdOf (c0.r : Int)) = false := by simpa using hkk
                have hbn : (kdOf (c.r : Int) != kdOf (c0.r : Int)) = true := by simpa using hkk
                have HE := Lib.hid (numOf_not _ (isNum_kind c0 D ds c t hD hkk)); clear hkk hD
                go_region_with (first
                  | (go_at_call 60; refine (rkind_k _ _ wr gg 0 (D.length * 3) _ _ ?_ ?_ w4 HB4 ?_ hgg' HK1 HK0).mono ?_; omega; omega; exact ⟨rfl, rfl, rfl, rfl⟩; rintro e w5 ⟨rfl, HB5, q3, q4⟩)
                  | (go_at_call 60; refine (rkind_k _ _ wr gg 0 (D.length * 3) _ _ ?_ ?_ wr HB0 ?_ hgg' HK1 HK0).mono ?_; omega; omega; exact ⟨rfl, rfl, rfl, rfl⟩; rintro e w4 ⟨rfl, HB4, q1, q2⟩))
                all_goals
                  go_wp2
                  go_ret2
                  rw [HE.out]
                  exact ⟨rfl, below_trans HB3.out (HB.out.trans (HB5.out.mono hs3))⟩

theorem rnumber_any (l : List UInt8) (cs : List Ch) (w : World) (h : Rg l cs) (hl : l.length ≤ 300000) :
    Calls Tryz.prog 41 #[.string (sb l)] w fun e w' => e = .returned (.tuple #[.int .i64 ((numOf cs).1 : Int), .int .i64 (numOf cs).2]) ∧ Below w.heap.size w w' := by
  rcases Nat.lt_or_ge 1 cs.length with g | g
  · exact rnumber_more l cs w h hl g
  · exact rnumber_one l cs w h hl g

end Go.Proofs.YtmcmpjcijbeilaaGreatDoor.Ws
