/-
  What is proved here: a contract of container/heap's down from the first place on, over a heap of ways: they are the same ways in another row. Conditions: it is not longer than memory bears.
-/
import Derived.Test.YtkbmmlombigkmaaGreatQbMnHq
namespace Go.Proofs.YtkbmmlombigkmaaGreat.Mn
open Go.RowKit Gr Wd Ws Fx Rk Lb
open Pa (vl bt vl_of vl_at bt_of bt_at)
set_option maxRecDepth 100000 in
set_option maxHeartbeats 4000000 in
theorem down_any (b B g n cp m : Nat) (H : List Wy) (w : World) (hm : n < 4000000000000) (h : Hp b B g n cp H w) (hmn : m ≤ n) :
    Calls Tryz.prog 72 #[hpV b, .int .i64 0, .int .i64 (m : Int)] w fun e w' => (∃ r, e = .returned r) ∧ ∃ H', Hid (Mv b B g n cp H H' w w') := by
  have HH := Lib.hid h
  clear h
  go_enter Tryz.func72, Tryz.ntmps72
  go_wp2_with fail
  go_loopg [7] m (fun gk iv wr => ∃ (i : Nat) (H1 : List Wy), iv = .int .i64 (i : Int) ∧ i + gk = m ∧ (i < m ∨ i = 0) ∧ Hid (Mv b B g n cp H H1 w wr))
  case atStart => exact ⟨0, H, rfl, by omega, Or.inr rfl, Lib.hid (Mv.refl HH.out)⟩
  case round =>
    clear HH
    obtain ⟨i, H1, rfl, hik, him, HR⟩ := hrel
    by_cases h1 : 2 * i + 1 < m
    · have hi : i < m := by omega
      obtain ⟨pi, hpi⟩ := way_at HR.out.hp.len (show i < n by omega)
      obtain ⟨q1, hq1⟩ := way_at HR.out.hp.len (show 2 * i + 1 < n by omega)
      have HPI := Lib.hid hpi; have HQ1 := Lib.hid hq1
      clear hpi hq1
      by_cases h2 : 2 * i + 1 + 1 < m
      · obtain ⟨q2, hq2⟩ := way_at HR.out.hp.len (show 2 * i + 1 + 1 < n by omega)
        have HQ2 := Lib.hid hq2
        clear hq2
        have hlk := look_less wr b _ HR.out.hp.cell
        obtain ⟨r, hr⟩ : ∃ r, decide (q2.2 < q1.2) = r := ⟨_, rfl⟩
        have HC := Lib.hid (less_at B g n cp (2 * i + 1 + 1) (2 * i + 1) H1 q2 q1 wr (2 * (i : Int) + 1 + 1) (2 * (i : Int) + 1) (by omega) (by omega) HR.out.hp.len HR.out.hp.row HQ2.out HQ1.out hm)
        rw [hr] at HC
        clear hr
        go_wp2_with fail
        refine HC.out.mono ?_
        rintro e w2 ⟨rfl, hb2⟩
        have HR2 := Lib.hid (HR.out.below hb2)
        clear hlk HC hb2 HR
        cases r with
        | true =>
          have hlk := look_less w2 b _ HR2.out.hp.cell
          obtain ⟨r2, hr2⟩ : ∃ r, decide (q2.2 < pi.2) = r := ⟨_, rfl⟩
          have HC := Lib.hid (less_at B g n cp (2 * i + 1 + 1) i H1 q2 pi w2 (2 * (i : Int) + 1 + 1) i (by omega) rfl HR2.out.hp.len HR2.out.hp.row HQ2.out HPI.out hm)
          rw [hr2] at HC
          clear hr2
          go_wp2_with fail
          refine HC.out.mono ?_
          rintro e w3 ⟨rfl, hb3⟩
          have HR3 := Lib.hid (HR2.out.below hb3)
          clear hlk HC hb3
          cases r2 with
          | false =>
            go_wp2
            go_ret
            exact ⟨⟨_, rfl⟩, H1, HR3⟩
          | true =>
            have hlk := look_swap w3 b _ HR3.out.hp.cell
            have HC := Lib.hid (swap_at B g n cp i (2 * i + 1 + 1) H1 pi q2 w3 i (2 * (i : Int) + 1 + 1) rfl (by omega) HR3.out.hp.len HR3.out.hp.row HPI.out HQ2.out hm)
            go_wp2_with fail
            refine HC.out.mono ?_
            rintro e w4 ⟨rfl, h4⟩
            have HR4 := Lib.hid (HR3.out.swap HPI.out HQ2.out h4.out)
            clear hlk HC h4
            go_wp2
            go_roundg (m - (2 * i + 1 + 1))
            case measure => omega
            case rel => exact ⟨2 * i + 1 + 1, _, by go_num, by omega, by omega, HR4⟩
        | false =>
          have hlk := look_less w2 b _ HR2.out.hp.cell
          obtain ⟨r2, hr2⟩ : ∃ r, decide (q1.2 < pi.2) = r := ⟨_, rfl⟩
          have HC := Lib.hid (less_at B g n cp (2 * i + 1) i H1 q1 pi w2 (2 * (i : Int) + 1) i (by omega) rfl HR2.out.hp.len HR2.out.hp.row HQ1.out HPI.out hm)
          rw [hr2] at HC
          clear hr2
          go_wp2_with fail
          refine HC.out.mono ?_
          rintro e w3 ⟨rfl, hb3⟩
          have HR3 := Lib.hid (HR2.out.below hb3)
          clear hlk HC hb3
          cases r2 with
          | false =>
            go_wp2
            go_ret
            exact ⟨⟨_, rfl⟩, H1, HR3⟩
          | true =>
            have hlk := look_swap w3 b _ HR3.out.hp.cell
            have HC := Lib.hid (swap_at B g n cp i (2 * i + 1) H1 pi q1 w3 i (2 * (i : Int) + 1) rfl (by omega) HR3.out.hp.len HR3.out.hp.row HPI.out HQ1.out hm)
            go_wp2_with fail
            refine HC.out.mono ?_
            rintro e w4 ⟨rfl, h4⟩
            have HR4 := Lib.hid (HR3.out.swap HPI.out HQ1.out h4.out)
            clear hlk HC h4
            go_wp2
            go_roundg (m - (2 * i + 1))
            case measure => omega
            case rel => exact ⟨2 * i + 1, _, by go_num, by omega, by omega, HR4⟩
      · have hlk := look_less wr b _ HR.out.hp.cell
        obtain ⟨r2, hr2⟩ : ∃ r, decide (q1.2 < pi.2) = r := ⟨_, rfl⟩
        have HC := Lib.hid (less_at B g n cp (2 * i + 1) i H1 q1 pi wr (2 * (i : Int) + 1) i (by omega) rfl HR.out.hp.len HR.out.hp.row HQ1.out HPI.out hm)
        rw [hr2] at HC
        clear hr2
        go_wp2_with fail
        refine HC.out.mono ?_
        rintro e w3 ⟨rfl, hb3⟩
        have HR3 := Lib.hid (HR.out.below hb3)
        clear hlk HC hb3
        cases r2 with
        | false =>
          go_wp2
          go_ret
          exact ⟨⟨_, rfl⟩, H1, HR3⟩
        | true =>
          have hlk := look_swap w3 b _ HR3.out.hp.cell
          have HC := Lib.hid (swap_at B g n cp i (2 * i + 1) H1 pi q1 w3 i (2 * (i : Int) + 1) rfl (by omega) HR3.out.hp.len HR3.out.hp.row HPI.out HQ1.out hm)
          go_wp2_with fail
          refine HC.out.mono ?_
          rintro e w4 ⟨rfl, h4⟩
          have HR4 := Lib.hid (HR3.out.swap HPI.out HQ1.out h4.out)
          clear hlk HC h4
          go_wp2
          go_roundg (m - (2 * i + 1))
          case measure => omega
          case rel => exact ⟨2 * i + 1, _, by go_num, by omega, by omega, HR4⟩
    · go_wp2
      go_ret
      exact ⟨⟨_, rfl⟩, H1, HR⟩
end Go.Proofs.YtkbmmlombigkmaaGreat.Mn
