/-
  What is proved here: contracts of label.Take, label.Marks, and of the document's own. Conditions: numbers fit an int64, counts an int.
-/
import Derived.Test.YtenmolfclkfcmaaLbMem
namespace Go.Proofs.Ytenmolfclkfcmaa.Lb
open Go.RowKit Gr Wd Ws

def mailV (has : Bool) (x : Int) : Value := .agg #[.bool has, .int .i64 x]
theorem tak_yes {v x : Int} (h : x < v) : x = takM v true x ∧ true = takB v true x := by unfold takM takB; rw [if_pos ⟨rfl, h⟩, decide_eq_true h]; exact ⟨rfl, rfl⟩
theorem tak_no {v x : Int} (h : ¬ x < v) : v = takM v true x ∧ false = takB v true x := by unfold takM takB; rw [if_neg (fun g => h g.2), decide_eq_false h]; exact ⟨rfl, rfl⟩
theorem ret_tm {a a' : Int} {b b' : Bool} (h : a = a') (k : b = b') : Ending.returned (.tuple #[.int .i64 a, .bool b]) = .returned (.tuple #[.int .i64 a', .bool b']) := by rw [h, k]

set_option maxRecDepth 100000 in
theorem take_any (v x : Int) (has : Bool) (w : World) :
    Calls Try.prog 12 #[.int .i64 v, .agg #[.bool has, .int .i64 x]] w fun e w' => e = .returned (.tuple #[.int .i64 (takM v has x), .bool (takB v has x)]) ∧ Below w.heap.size w w' := by
  have hb : Below w.heap.size w (w.alloc (.cells #[.bool has, .int .i64 x] 30)) := (Below.refl _ w).alloc (Nat.le_refl _) _
  have HB := Lib.hid hb; clear hb
  cases has with
  | false =>
    go_enter Try.func12, Try.ntmps12
    go_wp2
    go_ret2
    exact ⟨ret_tm (by simp [takM]) (by simp [takB]), HB.out⟩
  | true =>
    by_cases hx : x < v
    · go_enter Try.func12, Try.ntmps12
      go_wp2
      go_ret2
      exact ⟨ret_tm (tak_yes (by omega)).1 (tak_yes (by omega)).2, HB.out⟩
    · go_enter Try.func12, Try.ntmps12
      go_wp2
      go_ret2
      exact ⟨ret_tm (tak_no (by omega)).1 (tak_no (by omega)).2, HB.out⟩
set_option maxRecDepth 100000 in
theorem rtake_any (v x : Int) (has : Bool) (w : World) :
    Calls Try.prog 13 #[.int .i64 v, .agg #[.bool has, .int .i64 x]] w fun e w' => e = .returned (.tuple #[.int .i64 (takM v has x), .bool (takB v has x)]) ∧ Below w.heap.size w w' := by
  have hb : Below w.heap.size w (w.alloc (.cells #[.bool has, .int .i64 x] 30)) := (Below.refl _ w).alloc (Nat.le_refl _) _
  have HB := Lib.hid hb; clear hb
  cases has with
  | false =>
    go_enter Try.func13, Try.ntmps13
    go_wp2
    go_ret2
    exact ⟨ret_tm (by simp [takM]) (by simp [takB]), HB.out⟩
  | true =>
    by_cases hx : x < v
    · go_enter Try.func13, Try.ntmps13
      go_wp2
      go_ret2
      exact ⟨ret_tm (tak_yes (by omega)).1 (tak_yes (by omega)).2, HB.out⟩
    · go_enter Try.func13, Try.ntmps13
      go_wp2
      go_ret2
      exact ⟨ret_tm (tak_no (by omega)).1 (tak_no (by omega)).2, HB.out⟩

/- Labels: what stands at a place. -/
theorem iat_at {w : World} {A : Option Addr} {l : List Int} (h : IAt w A l) {k : Nat} (hk : k < l.length) : ∃ x bk o, A = some ⟨bk, o, none⟩ ∧ Hid (l[k]? = some x) ∧ w.cell? ⟨bk, o + k, none⟩ = some (.int .i64 x) := by
  obtain ⟨x, hx⟩ := at_lt l k hk
  obtain ⟨bk, o, hA, c⟩ := h k x hx
  exact ⟨x, bk, o, hA, Lib.hid hx, c⟩
theorem lab_no {l : List Int} {k : Nat} {x : Int} (h : l[k]? = some x) (hn : ¬ (0 ≤ x ∧ x ≤ (k : Int))) : labOk l k = false := by
  unfold labOk; rw [h]
  by_cases h0 : 0 ≤ x
  · have : ¬ x ≤ (k : Int) := fun g => hn ⟨h0, g⟩
    simp [this]
  · simp [h0]
theorem lab_at {l : List Int} {k j : Nat} {z : Int} (h : l[k]? = some (j : Int)) (hj : j ≤ k) (hz : l[j]? = some z) : labOk l k = decide (z = (j : Int)) := by
  unfold labOk; rw [h]
  simp [hj, hz]
theorem own_at {l : List Int} {k : Nat} {x : Int} (h : l[k]? = some x) : mne l k = decide (x = (k : Int)) := by
  unfold mne; rw [h]; simp

set_option maxRecDepth 100000 in
theorem maybe_any (A : Option Addr) (c : Nat) (l : List Int) (k : Nat) (w : World) (hL : IAt w A l) (_hl : l.length ≤ 9223372036854775807) (hk : k < l.length) :
    Calls Try.prog 21 #[.slice A l.length c, .int .i64 (k : Int)] w fun e w' => e = .returned (.bool (labOk l k)) ∧ w = w' := by
  obtain ⟨x, bk, o, rfl, HX, c0⟩ := iat_at hL hk
  obtain ⟨R, hR⟩ : ∃ R, labOk l k = R := ⟨_, rfl⟩
  rw [hR]
  have HR := Lib.hid hR; clear hR
  obtain ⟨n, hn⟩ : ∃ n, n = l.length := ⟨_, rfl⟩
  rw [← hn] at hk ⊢
  have HN := Lib.hid hn; clear hn
  by_cases h0 : 0 ≤ x
  · by_cases h1 : x ≤ (k : Int)
    · obtain ⟨j, rfl⟩ : ∃ j : Nat, x = (j : Int) := ⟨x.toNat, by omega⟩
      obtain ⟨z, bk', o', e0, HZ, c1⟩ := iat_at hL (show j < l.length by rw [← HN.out]; omega)
      cases e0
      have HL := Lib.hid (lab_at HX.out (by omega) HZ.out)
      clear hL
      by_cases hz : z = (j : Int)
      · subst hz
        go_enter Try.func21, Try.ntmps21
        go_wp2
        go_ret
        refine ⟨ret_b ?_, rfl⟩
        rw [← HR.out, HL.out]; simp
      · go_enter Try.func21, Try.ntmps21
        go_wp2
        go_ret
        refine ⟨ret_b ?_, rfl⟩
        rw [← HR.out, HL.out]; simp [hz]
    · have HL := Lib.hid (lab_no HX.out (fun h => h1 h.2))
      clear hL
      go_enter Try.func21, Try.ntmps21
      go_wp2
      go_ret
      refine ⟨ret_b ?_, rfl⟩
      rw [← HR.out, HL.out]
  · have HL := Lib.hid (lab_no HX.out (fun h => h0 h.1))
    clear hL
    go_enter Try.func21, Try.ntmps21
    go_wp2
    go_ret
    refine ⟨ret_b ?_, rfl⟩
    rw [← HR.out, HL.out]

def MkRel (w : World) (l : List Int) (g : Nat) (m i : Value) (wr : World) : Prop :=
  ∃ k m' : Nat, k + g = l.length ∧ i = .int .i64 (k : Int) ∧ m = .int .i64 (m' : Int) ∧ w = wr ∧ m' ≤ k ∧ mrk l = mrkF l g k m'
theorem mrk_step {l : List Int} {g k m : Nat} (h : labOk l k = true) : mrkF l (g + 1) k m = mrkF l g (k + 1) (if mne l k then m + 1 else m) := by rw [mrkF, if_pos h]
theorem mrk_stop {l : List Int} {g k m : Nat} (h : labOk l k = false) : mrkF l (g + 1) k m = (0, false) := by rw [mrkF, if_neg (by rw [h]; exact Bool.false_ne_true)]

set_option maxRecDepth 100000 in
set_option maxHeartbeats 1000000 in
theorem marks_any (A : Option Addr) (c : Nat) (l : List Int) (w : World) (hL : IAt w A l) (hl : l.length ≤ 100000) :
    Calls Try.prog 14 #[.slice A l.length c] w fun e w' => e = .returned (.tuple #[.int .i64 (mrk l).1, .bool (mrk l).2]) ∧ w = w' := by
  have HL := Lib.hid hL; clear hL
  obtain ⟨R, hR⟩ : ∃ R, mrk l = R := ⟨_, rfl⟩
  rw [hR]
  have HR := Lib.hid hR; clear hR
  obtain ⟨n, hn⟩ : ∃ n, n = l.length := ⟨_, rfl⟩
  rw [← hn] at hl ⊢
  have HN := Lib.hid hn; clear hn
  go_enter Try.func14, Try.ntmps14
  go_wp2
  go_loopg [4, 8] n (fun g m i wr => MkRel w l g m i wr)
  case atStart => exact ⟨0, 0, by have := HN.out; omega, rfl, rfl, rfl, Nat.le_refl _, by unfold mrk; rw [← HN.out]⟩
  case round =>
    obtain ⟨k, m, hk, rfl, rfl, rfl, hmk, hmr⟩ := hrel
    rw [← HN.out] at hk
    have HM := Lib.hid hmr; clear hmr
    by_cases hlt : k < n
    · obtain ⟨x, bk, o, rfl, HX, c0⟩ := iat_at HL.out (show k < l.length by rw [← HN.out]; exact hlt)
      have HC := maybe_any _ c l k w HL.out (by rw [← HN.out]; omega) (by rw [← HN.out]; exact hlt)
      rw [← HN.out] at HC
      obtain ⟨r, hr⟩ : ∃ r, labOk l k = r := ⟨_, rfl⟩
      rw [hr] at HC
      have HRR := Lib.hid hr; clear hr
      have HC' := Lib.hid HC; clear HC
      obtain ⟨G, hG⟩ : ∃ G, gk = G + 1 := ⟨gk - 1, by omega⟩
      cases r with
      | false =>
        have HF := Lib.hid ((HM.out.trans (by rw [hG])).trans (mrk_stop (g := G) HRR.out))
        go_wp2_with fail
        refine HC'.out.mono ?_
        rintro er w1 ⟨rfl, rfl⟩
        go_wp2
        go_ret2
        have e := HR.out.symm.trans HF.out
        exact ⟨by subst e; rfl, rfl⟩
      | true =>
        have HF := Lib.hid ((HM.out.trans (by rw [hG])).trans (mrk_step (g := G) HRR.out))
        have HO := Lib.hid (own_at HX.out)
        by_cases hxk : x = (k : Int)
        · subst hxk
          go_wp2_with fail
          refine HC'.out.mono ?_
          rintro er w1 ⟨rfl, rfl⟩
          go_wp2
          go_roundg (gk - 1)
          case measure => omega
          case rel =>
            refine ⟨k + 1, m + 1, by have := HN.out; omega, by go_num, by go_num, rfl, by omega, ?_⟩
            rw [HF.out, HO.out]; simp [hG]
        · go_wp2_with fail
          refine HC'.out.mono ?_
          rintro er w1 ⟨rfl, rfl⟩
          go_wp2
          go_roundg (gk - 1)
          case measure => omega
          case rel =>
            refine ⟨k + 1, m, by have := HN.out; omega, by go_num, rfl, rfl, by omega, ?_⟩
            rw [HF.out, HO.out]; simp [hG, hxk]
    · have HG : Hid (gk = 0) := Lib.hid (by omega)
      have HF := Lib.hid (HM.out.trans (show mrkF l gk k m = ((m : Int), true) by rw [HG.out]; rfl))
      go_wp2
      go_ret2
      have e := HR.out.symm.trans HF.out
      exact ⟨by subst e; rfl, rfl⟩

set_option maxRecDepth 100000 in
set_option maxHeartbeats 1000000 in
theorem rmarks_any (A : Option Addr) (c : Nat) (l : List Int) (w : World) (hL : IAt w A l) (hl : l.length ≤ 100000) :
    Calls Try.prog 15 #[.slice A l.length c] w fun e w' => e = .returned (.tuple #[.int .i64 (mrk l).1, .bool (mrk l).2]) ∧ w = w' := by
  have HL := Lib.hid hL; clear hL
  obtain ⟨R, hR⟩ : ∃ R, mrk l = R := ⟨_, rfl⟩
  rw [hR]
  have HR := Lib.hid hR; clear hR
  obtain ⟨n, hn⟩ : ∃ n, n = l.length := ⟨_, rfl⟩
  rw [← hn] at hl ⊢
  have HN := Lib.hid hn; clear hn
  go_enter Try.func15, Try.ntmps15
  go_wp2
  go_loopg [4, 5] n (fun g m i wr => MkRel w l g m i wr)
  case atStart => exact ⟨0, 0, by have := HN.out; omega, rfl, rfl, rfl, Nat.le_refl _, by unfold mrk; rw [← HN.out]⟩
  case round =>
    obtain ⟨k, m, hk, rfl, rfl, rfl, hmk, hmr⟩ := hrel
    rw [← HN.out] at hk
    have HM := Lib.hid hmr; clear hmr
    by_cases hlt : k < n
    · obtain ⟨x, bk, o, rfl, HX, c0⟩ := iat_at HL.out (show k < l.length by rw [← HN.out]; exact hlt)
      obtain ⟨G, hG⟩ : ∃ G, gk = G + 1 := ⟨gk - 1, by omega⟩
      by_cases h01 : 0 ≤ x ∧ x ≤ (k : Int)
      · obtain ⟨h0, h1⟩ := h01
        obtain ⟨j, rfl⟩ : ∃ j : Nat, x = (j : Int) := ⟨x.toNat, by omega⟩
        obtain ⟨z, bk', o', e0, HZ, c1⟩ := iat_at HL.out (show j < l.length by rw [← HN.out]; omega)
        cases e0
        have HLB := Lib.hid (lab_at HX.out (by omega) HZ.out)
        by_cases hz : z = (j : Int)
        · have hok : labOk l k = true := by rw [HLB.out, hz]; simp
          have HF := Lib.hid ((HM.out.trans (by rw [hG])).trans (mrk_step (g := G) hok))
          have HO := Lib.hid (own_at HX.out)
          clear hok
          subst hz
          by_cases hxk : j = k
          · subst hxk
            go_wp2
            go_roundg (gk - 1)
            case measure => omega
            case rel =>
              refine ⟨j + 1, m + 1, by have := HN.out; omega, by go_num, by go_num, rfl, by omega, ?_⟩
              rw [HF.out, HO.out]; simp [hG]
          · go_wp2
            go_roundg (gk - 1)
            case measure => omega
            case rel =>
              refine ⟨k + 1, m, by have := HN.out; omega, by go_num, rfl, rfl, by omega, ?_⟩
              have hne : ¬ (j : Int) = (k : Int) := by omega
              rw [HF.out, HO.out]; simp [hG, hne]
        · have hok : labOk l k = false := by rw [HLB.out]; simp [hz]
          have HF := Lib.hid ((HM.out.trans (by rw [hG])).trans (mrk_stop (g := G) hok))
          clear hok
          have hzb : (z != (j : Int)) = true := by simp [hz]
          go_wp2
          go_ret2
          have e := HR.out.symm.trans HF.out
          exact ⟨by subst e; rfl, rfl⟩
      · have HF := Lib.hid ((HM.out.trans (by rw [hG])).trans (mrk_stop (g := G) (lab_no HX.out h01)))
        by_cases h0 : x < 0
        · go_wp2
          go_ret2
          have e := HR.out.symm.trans HF.out
          exact ⟨by subst e; rfl, rfl⟩
        · have h1 : (k : Int) < x := by omega
          go_wp2
          go_ret2
          have e := HR.out.symm.trans HF.out
          exact ⟨by subst e; rfl, rfl⟩
    · have HG : Hid (gk = 0) := Lib.hid (by omega)
      have HF := Lib.hid (HM.out.trans (show mrkF l gk k m = ((m : Int), true) by rw [HG.out]; rfl))
      go_wp2
      go_ret2
      have e := HR.out.symm.trans HF.out
      exact ⟨by subst e; rfl, rfl⟩

end Go.Proofs.Ytenmolfclkfcmaa.Lb
