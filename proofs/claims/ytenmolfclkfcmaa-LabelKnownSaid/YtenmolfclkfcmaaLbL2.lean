/-
  What is proved here: the law LabelNear walked: it returns true, and no block that was there has changed. Conditions: counts fit an int.
-/
import Derived.Test.YtenmolfclkfcmaaLbW3
namespace Go.Proofs.Ytenmolfclkfcmaa.Lb
open Go.RowKit Gr Wd Ws

theorem same_edges (A B : Option Addr) (c d n : Nat) (L : List Ed) (w : World) (hn : Hid (n = L.length)) (hL : EAt w A L) (hM : EAt w B L) (hl : n ≤ 200) :
    Calls Try.prog 11 #[.slice A n c, .slice B n d] w fun e w' => e = .returned (.bool true) ∧ Below w.heap.size w w' := by
  have := rsame_edges A B c d L L w hL hM (by rw [← hn.out]; omega) (by rw [← hn.out]; omega)
  rw [← hn.out] at this
  simpa using this
theorem same_ints (A B : Option Addr) (c d n : Nat) (L : List Int) (w : World) (hn : Hid (n = L.length)) (hL : IAt w A L) (hM : IAt w B L) (hl : n ≤ 100000) :
    Calls Try.prog 9 #[.slice A n c, .slice B n d] w fun e w' => e = .returned (.bool true) ∧ Below w.heap.size w w' := by
  have := kitsame_any A B c d L L w hL hM (by rw [← hn.out]; omega) (by rw [← hn.out]; omega)
  rw [← hn.out] at this
  simpa using this
theorem near_len (v : Int) (L M : List Ed) : (nearL v L M).length ≤ L.length + M.length := by
  unfold nearL
  have h1 := tos_len v L; have h2 := froms_len v M
  have h3 := putAll_len (tos v L ++ froms v M) []
  rw [List.length_append] at h3; simp at h3; omega

theorem app_copy_n {w : World} {ops : Array Oper} {rest : List Oper} {o : Oper} {a : Act} {Q : Exit → Act → World → Prop} (hgd : o.guard = none) (s x : Operand)
    (ho : o.op = .call { callee := .builtin .append, args := #[s, x], argTypes := #[22, 22] }) (B : Nat) (L : List Ed) (hs : a.eval s = .slice none 0 0)
    (A : Option Addr) (n c : Nat) (hnl : n = L.length) (hx : a.eval x = .slice A n c) (hL : EAt w A L) (hn : n < 1000000000) (hB : B ≤ w.heap.size)
    (h : ∀ v' w', EOwn w' B v' L → w.grownBy w' none → wpList Try.prog ops Q rest (a.put o.dst v') w') : wpList Try.prog ops Q (o :: rest) a w := by
  subst hnl
  exact app_copy hgd s x ho B L hs A c hx hL hn hB h

set_option maxRecDepth 100000 in
set_option maxHeartbeats 2000000 in
theorem law_near (v : Int) (A B : Option Addr) (c d : Nat) (L M : List Ed) (w : World) (hL : Hid (EAt w A L)) (hM : Hid (EAt w B M)) (hl : L.length ≤ 9223372036854775807) (hm : M.length ≤ 9223372036854775807) :
    Calls Try.prog 3 #[.int .i64 v, .slice A L.length c, .slice B M.length d] w fun e w' => e = .returned (.bool true) ∧ Below w.heap.size w w' := by
  obtain ⟨n, hn⟩ : ∃ n, n = L.length := ⟨_, rfl⟩
  obtain ⟨m, hm'⟩ : ∃ m, m = M.length := ⟨_, rfl⟩
  by_cases h2 : 200 < n ∨ 200 < m
  · rw [← hn] at hl ⊢; rw [← hm'] at hm ⊢
    clear hn hm'
    by_cases h3 : 200 < n
    · clear h2
      go_enter Try.func3, Try.ntmps3
      go_wp2_with fail
      refine (works_any _).mono ?_
      rintro e w1 ⟨rfl, h1⟩
      go_wp2
      go_ret
      exact ⟨rfl, h1.out⟩
    · have h4 : 200 < m := by omega
      clear h2
      go_enter Try.func3, Try.ntmps3
      go_wp2_with fail
      refine (works_any _).mono ?_
      rintro e w1 ⟨rfl, h1⟩
      go_wp2
      go_ret
      exact ⟨rfl, h1.out⟩
  · have h3 : ¬ 200 < n := fun h => h2 (Or.inl h)
    have h4 : ¬ 200 < m := fun h => h2 (Or.inr h)
    clear h2
    have N1 := Lib.hid (fun W A' B' c' d' (h : EAt W A' L) (k : EAt W B' M) => near_any v A' B' c' d' L M W h k (by omega) (by omega))
    have N2 := Lib.hid (fun W A' B' c' d' (h : EAt W A' L) (k : EAt W B' M) => rnear_any v A' B' c' d' L M W h k (by omega) (by omega))
    have hlen := near_len v L M
    obtain ⟨R, hR⟩ : ∃ R, nearL v L M = R := ⟨_, rfl⟩
    rw [hR] at N1 N2 hlen
    rw [← hn, ← hm'] at N1 N2 hlen
    rw [← hn] at hl ⊢; rw [← hm'] at hm ⊢
    have HN := Lib.hid hn; have HM := Lib.hid hm'
    obtain ⟨r, hr⟩ : ∃ r, r = R.length := ⟨_, rfl⟩
    rw [← hr] at hlen
    have HR := Lib.hid hr
    clear hn hm' hR hr
    go_enter Try.func3, Try.ntmps3
    go_wp2_with (at_builtin; refine app_copy_n rfl (.tmp 19) (.tmp 20) rfl w.heap.size L rfl A n c HN.out rfl hL.out (by omega) (Nat.le_refl _) ?_)
    intro v1 w1 ho1 hg1
    have hb1 : Below w.heap.size w w1 := Below.grown (Below.refl _ w) hg1 (Nat.le_refl _) nofun
    have HB1 := Lib.hid hb1; have HO1 := Lib.hid ho1
    have HM1 := Lib.hid (hM.out.below hb1)
    clear ho1 hg1 hb1
    go_wp2_with (at_builtin; refine app_copy_n rfl (.tmp 22) (.tmp 23) rfl w.heap.size M rfl B m d HM.out rfl HM1.out (by omega) HB1.out.size ?_)
    intro v2 w2 ho2 hg2
    have hb2 : Below w1.heap.size w1 w2 := Below.grown (Below.refl _ w1) hg2 (Nat.le_refl _) nofun
    have HB2 := Lib.hid (step_below HB1.out HB1.out.size hb2); have HO2 := Lib.hid ho2
    have HO1' := Lib.hid (HO1.out.below hb2)
    clear ho2 hg2 hb2 HM1 HO1
    obtain ⟨A1, c1, rfl, hA1, _, _⟩ := HO1'.out.form
    obtain ⟨A2, c2, rfl, hA2, _, _⟩ := HO2.out.form
    have hx : (Value.slice A1 L.length c1) = .slice A1 n c1 := by rw [HN.out]
    have hy : (Value.slice A2 M.length c2) = .slice A2 m c2 := by rw [HM.out]
    rw [hx, hy]
    have HA1 := Lib.hid hA1; have HA2 := Lib.hid hA2
    clear hA1 hA2 hx hy HO1' HO2
    go_wp2_with fail
    refine (N1.out _ _ _ _ _ HA1.out HA2.out).mono ?_
    rintro e w3 ⟨v3, rfl, hO3, hb3⟩
    have HB3 := Lib.hid (step_below HB2.out HB2.out.size hb3.out)
    have HA1' := Lib.hid (HA1.out.below hb3.out); have HA2' := Lib.hid (HA2.out.below hb3.out)
    clear HB1 HB2 HA1 HA2
    go_wp2_with fail
    refine (N2.out _ _ _ _ _ (hL.out.below HB3.out) (hM.out.below HB3.out)).mono ?_
    rintro e w4 ⟨v4, rfl, hO4, hb4⟩
    have HB4 := Lib.hid (step_below HB3.out HB3.out.size hb4.out)
    obtain ⟨A3, c3, rfl, hA3⟩ := (hO3.out.below hb4.out).form
    obtain ⟨A4, c4, rfl, hA4⟩ := hO4.out.form
    have hx : (Value.slice A3 R.length c3) = .slice A3 r c3 := by rw [HR.out]
    have hy : (Value.slice A4 R.length c4) = .slice A4 r c4 := by rw [HR.out]
    rw [hx, hy]
    have HX := Lib.hid (same_ints A3 A4 c3 c4 r R w4 HR hA3 hA4 (by omega))
    have HA1 := Lib.hid (HA1'.out.below hb4.out); have HA2 := Lib.hid (HA2'.out.below hb4.out)
    clear hA3 hA4 hx hy hb3 hb4 HA1' HA2' hO3 hO4
    go_wp2_with fail
    refine HX.out.mono ?_
    rintro e w5 ⟨rfl, hb5⟩
    have HB5 := Lib.hid (step_below HB4.out HB4.out.size hb5)
    have HA1' := Lib.hid (HA1.out.below hb5); have HA2' := Lib.hid (HA2.out.below hb5)
    clear hb5 HA1 HA2 HX HB4 HB3
    go_wp2_with fail
    refine (same_edges A1 A c1 c n L w5 HN HA1'.out (hL.out.below HB5.out) (by omega)).mono ?_
    rintro e w6 ⟨rfl, hb6⟩
    have HB6 := Lib.hid (step_below HB5.out HB5.out.size hb6)
    have HA2 := Lib.hid (HA2'.out.below hb6)
    clear hb6
    go_wp2_with fail
    refine (same_edges A2 B c2 d m M w6 HM HA2.out (hM.out.below HB6.out) (by omega)).mono ?_
    rintro e w7 ⟨rfl, hb7⟩
    have HB7 := Lib.hid (step_below HB6.out HB6.out.size hb7)
    clear hb7
    go_wp2_with fail
    refine (works_any _).mono ?_
    rintro e w8 ⟨rfl, h8⟩
    have HB8 := Lib.hid (step_below HB7.out HB7.out.size h8.out)
    go_wp2
    go_ret
    exact ⟨rfl, HB8.out⟩

end Go.Proofs.Ytenmolfclkfcmaa.Lb
