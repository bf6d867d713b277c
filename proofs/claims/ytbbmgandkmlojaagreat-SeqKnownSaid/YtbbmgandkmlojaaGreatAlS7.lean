/-
  What is proved here: the library's slices.SortStableFunc over a row of messages: behind it the row holds the same messages, in the order of vertices. Conditions: the row is one that the call has made, or there is none.
-/
import Derived.Test.YtbbmgandkmlojaaGreatAlS6
namespace Go.Proofs.YtbbmgandkmlojaaGreat.Al
open Go.RowKit Go.Sort Gr Wd Ws

theorem runs_last {s n q : Nat} {d e : Array Ms} (h : Runs s n q d) (h1 : n < q * (2 * s) + 2 * s) (hm : Mrg (q * (2 * s)) n d e) : Run1 (2 * s) n e := by
  intro r
  by_cases hr : r < q
  · have := mul_lt_steps (w := 2 * s) hr
    exact ((h.1 r hr).kept hm.1 (Or.inl this)).part (by omega) (by omega)
  · by_cases e' : r = q
    · subst e'; exact hm.2.part (by omega) (by omega)
    · have := mul_lt_steps (w := 2 * s) (show q < r by omega)
      exact srt_one _ _ _ (by omega)
theorem runs_short {s n q : Nat} {d : Array Ms} (hs : 0 < s) (h : Runs s n q d) (h1 : n ≤ q * (2 * s) + s) : Run1 (2 * s) n d :=
  runs_end h (by omega) ((runs_halves h).1.part (by omega) (by omega))

def B1Rel (w : World) (g N n : Nat) (d : Array Ms) (gk : Nat) (va vb : Value) (wr : World) : Prop :=
  ∃ (q A B : Nat) (e : Array Ms), va = .int .i64 (A : Int) ∧ vb = .int .i64 (B : Int) ∧ Hid (A = q * 20) ∧ Hid (B = A + 20) ∧ A ≤ n ∧ A + gk = n ∧ e.size = n ∧ SWm w wr g N e ∧ PermIn 0 n d e ∧ Blks 20 q e
def B2Rel (w : World) (g N n : Nat) (d : Array Ms) (gk : Nat) (vs : Value) (wr : World) : Prop :=
  ∃ (s : Nat) (e : Array Ms), vs = .int .i64 (s : Int) ∧ 0 < s ∧ s ≤ 20 + 2 * n ∧ n - s = gk ∧ e.size = n ∧ SWm w wr g N e ∧ PermIn 0 n d e ∧ Run1 s n e
def B3Rel (w : World) (g N n s : Nat) (d : Array Ms) (gk : Nat) (va vb : Value) (wr : World) : Prop :=
  ∃ (q A B : Nat) (e : Array Ms), va = .int .i64 (A : Int) ∧ vb = .int .i64 (B : Int) ∧ Hid (A = q * (2 * s)) ∧ Hid (B = A + 2 * s) ∧ A ≤ n ∧ A + gk = n ∧ e.size = n ∧ SWm w wr g N e ∧ PermIn 0 n d e ∧ Runs s n q e
set_option maxRecDepth 100000 in
set_option maxHeartbeats 4000000 in
theorem stable_any (w : World) (g N n c : Nat) (d : Array Ms) (h : Hid (SWm w w g N d)) (hd : Hid (d.size = n)) (hn : n < 100000000) :
    Calls Tryz.prog 109 #[.slice (some ⟨g, 0, none⟩) n c, .int .i64 (n : Int), .func (.func 106) #[] #[]] w fun e w' => e = .returned (.tuple #[]) ∧ ∃ d', Hid (SWm w w' g N d' ∧ PermIn 0 n d d' ∧ Srt 0 n d') := by
  go_enter Tryz.func109, Tryz.ntmps109
  go_wp2
  go_loopg [7, 8] n (fun gk va vb wr => B1Rel w g N n d gk va vb wr)
  case atStart => exact ⟨0, 0, 20, d, rfl, rfl, Lib.hid rfl, Lib.hid rfl, Nat.zero_le _, by omega, hd.out, h.out, pin_refl _ _ _, blks_start _ _⟩
  case round =>
    obtain ⟨q, A, B, e, rfl, rfl, HA, HAB, hAn, hgk, hes, hsw, hp, hb⟩ := hrel
    have hB1 : B ≤ A + 20 := Nat.le_of_eq HAB.out
    have hB2 : A + 20 ≤ B := Nat.le_of_eq HAB.out.symm
    have HS := Lib.hid hsw; have HP := Lib.hid hp; have HB := Lib.hid hb; have HE := Lib.hid hes; have HS1 := Lib.hid hsw.start
    clear hsw hp hb hes
    by_cases hlt : B ≤ n
    · obtain ⟨hi1, hi2⟩ := ins_srt e A B (by omega) (by rw [HE.out]; exact hlt)
      have HM : Hid (Mrg A B e (insertionSort ltm e A B)) := Lib.hid ⟨hi1, hi2⟩
      clear hi1 hi2
      go_wp2_with fail
      refine (insertion_any wr g N n c A B e HS1 HE (by omega) hlt (by omega)).mono ?_
      rintro x w2 ⟨rfl, HW⟩
      obtain ⟨f, hf⟩ : ∃ f, f = insertionSort ltm e A B := ⟨_, rfl⟩
      rw [← hf] at HW HM
      clear hf
      go_wp2
      go_roundg (gk - 20)
      case measure => omega
      case rel =>
        exact ⟨q + 1, B, B + 20, f, rfl, by go_num, Lib.hid (by have := HA.out; omega), Lib.hid rfl, hlt, by omega, HM.out.1.1.trans HE.out, HS.out.on HW.out, pin_trans HP.out (pin_wide HM.out.1 (Nat.zero_le _) hlt (by rw [HE.out]; exact Nat.le_refl _)),
          blks_step HB.out (by have := HM.out; rw [HAB.out, HA.out] at this; exact this)⟩
    · obtain ⟨hi1, hi2⟩ := ins_srt e A n hAn (by rw [HE.out]; exact Nat.le_refl _)
      have HM : Hid (Mrg A n e (insertionSort ltm e A n)) := Lib.hid ⟨hi1, hi2⟩
      clear hi1 hi2
      obtain ⟨G, rfl⟩ : ∃ G : Nat, G = gk := ⟨_, rfl⟩
      obtain ⟨wo, rfl⟩ : ∃ wo : World, wo = wr := ⟨_, rfl⟩
      go_wp2_with fail
      refine (insertion_any wo g N n c A n e HS1 HE hAn (Nat.le_refl _) (by omega)).mono ?_
      rintro x w2 ⟨rfl, HW⟩
      obtain ⟨f, hf⟩ : ∃ f, f = insertionSort ltm e A n := ⟨_, rfl⟩
      rw [← hf] at HW HM
      clear hf
      have HR : Hid (Run1 20 n f) := Lib.hid (blks_end HB.out (by have := HA.out; omega) (by have := HM.out; rw [HA.out] at this; exact this))
      have HS2 := Lib.hid (HS.out.on HW.out)
      have HP2 : Hid (PermIn 0 n d f) := Lib.hid (pin_trans HP.out (pin_wide HM.out.1 (Nat.zero_le _) (Nat.le_refl _) (by rw [HE.out]; exact Nat.le_refl _)))
      have HF : Hid (f.size = n) := Lib.hid (HM.out.1.1.trans HE.out)
      clear HM HW HB HS HP HE HS1 HA HAB hB1 hB2 hlt
      go_wp2
      go_loopg [6] (n - 20) (fun gk vs wr => B2Rel w g N n d gk vs wr)
      case atStart => exact ⟨20, f, rfl, by omega, by omega, rfl, HF.out, HS2.out, HP2.out, HR.out⟩
      case round =>
        obtain ⟨s, e2, rfl, hs0, hs1, hgk2, hes, hsw, hp, hr⟩ := hrel
        have HS := Lib.hid hsw; have HP := Lib.hid hp; have HRn := Lib.hid hr; have HE := Lib.hid hes
        clear hsw hp hr hes
        by_cases hsn : s < n
        · go_wp2
          obtain ⟨G2, rfl⟩ : ∃ G2 : Nat, G2 = gk := ⟨_, rfl⟩
          obtain ⟨wo2, rfl⟩ : ∃ wo2 : World, wo2 = wr := ⟨_, rfl⟩
          go_loopg [7, 8] n (fun gk va vb wr => B3Rel w g N n s d gk va vb wr)
          case atStart => exact ⟨0, 0, 2 * s, e2, rfl, by go_num, Lib.hid (by omega), Lib.hid (by omega), Nat.zero_le _, by omega, HE.out, HS.out, HP.out, runs_start HRn.out⟩
          case round =>
            obtain ⟨q, A, B, e, rfl, rfl, HA, HAB, hAn, hgk, hes, hsw, hp, hb⟩ := hrel
            have hB1 : B ≤ A + 2 * s := Nat.le_of_eq HAB.out
            have hB2 : A + 2 * s ≤ B := Nat.le_of_eq HAB.out.symm
            obtain ⟨hl1, hl2⟩ := runs_halves hb
            rw [← HA.out] at hl1 hl2
            have HL1 := Lib.hid hl1; have HL2 := Lib.hid hl2
            have KS := Lib.hid hsw; have KP := Lib.hid hp; have KB := Lib.hid hb; have KE := Lib.hid hes; have KS1 := Lib.hid hsw.start
            clear hsw hp hb hes hl1 hl2
            by_cases hbn : B ≤ n
            · have hm1 : A < A + s := by omega
              have hm2 : A + s < B := by omega
              go_wp2_with fail
              refine (sym_any (B - A) wr g N n c A (A + s) B e _ _ _ rfl (by omega) rfl KS1 KE hm1 hm2 hbn (by omega) (by omega) (Lib.hid ⟨HL1.out.part (by omega) (by omega), HL2.out.part (by omega) (by omega)⟩)).mono ?_
              rintro x w3 ⟨rfl, u, hu⟩
              have HU := Lib.hid (KS.out.on hu.out.1)
              have HUM := Lib.hid hu.out.2
              clear hu
              go_wp2
              go_roundg (gk - 2 * s)
              case measure => omega
              case rel =>
                exact ⟨q + 1, B, B + 2 * s, u, rfl, by go_num, Lib.hid (by have := HA.out; rw [Nat.add_mul, Nat.one_mul]; omega), Lib.hid rfl, hbn, by omega, HUM.out.1.1.trans KE.out, HU.out, pin_trans KP.out (pin_wide HUM.out.1 (Nat.zero_le _) hbn (by rw [KE.out]; exact Nat.le_refl _)),
                  runs_step KB.out (by rw [HAB.out, HA.out]) hbn (by have := HUM.out; rw [HA.out] at this; exact this)⟩
            · by_cases hmn : A + s < n
              · go_wp2_with fail
                refine (sym_any n wr g N n c A (A + s) n e _ _ _ rfl (by omega) rfl KS1 KE (by omega) hmn (Nat.le_refl _) (by omega) (by omega) (Lib.hid ⟨HL1.out.part (by omega) (by omega), HL2.out.part (by omega) (by omega)⟩)).mono ?_
                rintro x w3 ⟨rfl, u, hu⟩
                have HU := Lib.hid (KS.out.on hu.out.1)
                have HUM := Lib.hid hu.out.2
                clear hu
                go_wp2
                go_roundg (n - 2 * s)
                case measure => omega
                case rel =>
                  exact ⟨2 * s, u, by go_num, by omega, by omega, rfl, HUM.out.1.1.trans KE.out, HU.out, pin_trans KP.out (pin_wide HUM.out.1 (Nat.zero_le _) (Nat.le_refl _) (by rw [KE.out]; exact Nat.le_refl _)),
                    runs_last KB.out (by have := HA.out; omega) (by have := HUM.out; rw [HA.out] at this; exact this)⟩
              · go_wp2
                go_roundg (n - 2 * s)
                case measure => omega
                case rel =>
                  exact ⟨2 * s, e, by go_num, by omega, by omega, rfl, KE.out, KS.out, KP.out, runs_short hs0 KB.out (by have := HA.out; omega)⟩
        · go_wp2
          go_end0
          exact ⟨rfl, e2, Lib.hid ⟨HS.out, HP.out, runs_all HRn.out (by omega)⟩⟩
theorem sortStable_any (w : World) (g N n c : Nat) (d : Array Ms) (h : Hid (SWm w w g N d)) (hd : Hid (d.size = n)) (hn : n < 100000000) :
    Calls Tryz.prog 105 #[.slice (some ⟨g, 0, none⟩) n c, .func (.func 106) #[] #[]] w fun e w' => e = .returned (.tuple #[]) ∧ ∃ d', Hid (SWm w w' g N d' ∧ PermIn 0 n d d' ∧ Srt 0 n d') := by
  go_enter Tryz.func105, Tryz.ntmps105
  go_wp2_with fail
  refine (stable_any w g N n c d h hd hn).mono ?_
  rintro x w2 ⟨rfl, u, hu⟩
  go_wp2
  go_end0
  exact ⟨rfl, u, hu⟩
/- No row: nothing is done. -/
theorem insertion_none (w : World) : Calls Tryz.prog 112 #[.slice none 0 0, .int .i64 0, .int .i64 0, .func (.func 106) #[] #[]] w fun e w' => e = .returned (.tuple #[]) ∧ w = w' := by
  go_enter Tryz.func112, Tryz.ntmps112
  go_wp2
  go_loopg [8] 0 (fun gk vi wr => vi = .int .i64 1 ∧ gk = 0 ∧ wr = w)
  case atStart => exact ⟨rfl, rfl, rfl⟩
  case round =>
    obtain ⟨rfl, rfl, rfl⟩ := hrel
    go_wp2
    go_end0
    exact ⟨rfl, rfl⟩
theorem stable_none (w : World) : Calls Tryz.prog 109 #[.slice none 0 0, .int .i64 0, .func (.func 106) #[] #[]] w fun e w' => e = .returned (.tuple #[]) ∧ w = w' := by
  go_enter Tryz.func109, Tryz.ntmps109
  go_wp2
  go_loopg [7, 8] 0 (fun gk va vb wr => va = .int .i64 0 ∧ vb = .int .i64 20 ∧ gk = 0 ∧ wr = w)
  case atStart => exact ⟨rfl, rfl, rfl, rfl⟩
  case round =>
    obtain ⟨rfl, rfl, rfl, rfl⟩ := hrel
    go_wp2_with fail
    refine (insertion_none _).mono ?_
    rintro x w2 ⟨rfl, rfl⟩
    go_wp2
    go_loopg [6] 0 (fun gk vs wr' => vs = .int .i64 20 ∧ gk = 0 ∧ wr' = wr)
    case atStart => exact ⟨rfl, rfl, rfl⟩
    case round =>
      obtain ⟨rfl, rfl, rfl⟩ := hrel
      go_wp2
      go_end0
      exact ⟨rfl, rfl⟩
theorem sortStable_none (w : World) : Calls Tryz.prog 105 #[.slice none 0 0, .func (.func 106) #[] #[]] w fun e w' => e = .returned (.tuple #[]) ∧ w = w' := by
  go_enter Tryz.func105, Tryz.ntmps105
  go_wp2_with fail
  refine (stable_none w).mono ?_
  rintro x w2 ⟨rfl, rfl⟩
  go_wp2
  go_end0
  exact ⟨rfl, rfl⟩

end Go.Proofs.YtbbmgandkmlojaaGreat.Al
