/-
  What is proved here: the texts GrPdq3 of this seat, laid together (each says itself what it proves; no condition beyond theirs).
-/
import Derived.Test.YtmcmpjcijbeilaaGreatDoorGmK
/-
  What is proved here: the contract of the library's partialInsertionSort_func over graph.order's closure. Conditions: the row is one that the call has made.
-/
namespace Go.Proofs.YtmcmpjcijbeilaaGreatDoor.Gr
open Go.RowKit Wd Ws Go.Sort

def PqiRel (w1 : World) (g N n a b : Nat) (d : Array Ed) (gk : Nat) (vi vs : Value) (wr : World) : Prop :=
  ∃ (i s : Nat) (dk : Array Ed), vi = .int .i64 (i : Int) ∧ vs = .int .i64 (s : Int) ∧ s ≤ 5 ∧ 5 - s ≤ gk ∧ a < i ∧ i ≤ b ∧ dk.size = n ∧ SWd w1 wr g N dk ∧ partialIns ahd a b (5 - s) i dk = partialIns ahd a b 5 (a + 1) d
def PqsRel (w1 : World) (g N b i : Nat) (dk : Array Ed) (gk : Nat) (vi : Value) (wr : World) : Prop :=
  ∃ (kx : Nat), vi = .int .i64 (kx : Int) ∧ i ≤ kx ∧ kx ≤ b ∧ b - kx ≤ gk ∧ SWd w1 wr g N dk ∧ scanSorted ahd dk b kx = scanSorted ahd dk b i
def PqdRel (w1 : World) (g N n kx : Nat) (X : Array Ed) (gk : Nat) (vj : Value) (wr : World) : Prop :=
  ∃ (j : Nat) (dj : Array Ed), vj = .int .i64 (j : Int) ∧ j ≤ kx - 1 ∧ j ≤ gk ∧ dj.size = n ∧ SWd w1 wr g N dj ∧ shiftDown ahd j dj = shiftDown ahd (kx - 1) X
def PquRel (w1 : World) (g N n b kx : Nat) (X : Array Ed) (gk : Nat) (vj : Value) (wr : World) : Prop :=
  ∃ (j : Nat) (dj : Array Ed), vj = .int .i64 (j : Int) ∧ kx + 1 ≤ j ∧ j ≤ b ∧ b - j ≤ gk ∧ dj.size = n ∧ SWd w1 wr g N dj ∧ shiftUp ahd b j dj = shiftUp ahd b (kx + 1) X

set_option maxRecDepth 100000 in
set_option maxHeartbeats 8000000 in
theorem partialIns_any (w : World) (g N Bs n c a b : Nat) (d : Array Ed) (th : Value) (hth : Hid (th = typeHandle Tryz.prog 42)) (h : Hid (SWd w w g N d)) (hB : Hid (Bes w g Bs n c)) (hd : Hid (d.size = n)) (hab : a < b) (hbn : b ≤ n) (hn : n < 4611686018427387904) :
    Calls Tryz.prog 100 #[.agg #[.func (.func 51) #[] #[.pointer (some ⟨Bs, 0, none⟩)], .func (.func 92) #[] #[.slice (some ⟨g, 0, none⟩) n c, th]], .int .i64 (a : Int), .int .i64 (b : Int)] w fun e w' => e = .returned (.bool (partialInsertionSort ahd d a b).2) ∧ Hid (SWd w w' g N (partialInsertionSort ahd d a b).1) := by
  obtain ⟨w1, HW, HS1, HS, HBe, HF⟩ := ent (th := th) h.out hB.out
  go_enter Tryz.func100, Tryz.ntmps100
  go_wp2
  rw [← HW.out]
  go_loopg [7, 8] 5 (fun gk vi vs wr => PqiRel w1 g N n a b d gk vi vs wr)
  case atStart => exact ⟨a + 1, 0, d, by go_num, rfl, by omega, by omega, by omega, by omega, hd.out, HS.out, rfl⟩
  case round =>
    obtain ⟨i, s, dk, rfl, rfl, hs5, hg1, hai, hib, hdk, hsw, ho⟩ := hrel
    have HO := Lib.hid ho; have HSK := Lib.hid hsw; have HDK := Lib.hid hdk; clear ho hsw hdk
    by_cases hs : s < 5
    · have hsz5 : (s : Int) < 5 := by omega
      go_wp2
      go_loopg [7] (b - i) (fun gk vi wr => PqsRel w1 g N b i dk gk vi wr)
      case atStart => exact ⟨i, rfl, Nat.le_refl _, hib, Nat.le_refl _, HSK.out, rfl⟩
      case round =>
        obtain ⟨kx, rfl, hik, hkb, hg2, hsw, hu⟩ := hrel
        obtain ⟨k0, k1, hks⟩ := HF.out.on hsw
        have HSX := Lib.hid hsw; have HSc := Lib.hid hu; clear hsw hu
        by_cases hkb' : kx < b
        · have hkz : (kx : Int) < (b : Int) := by omega
          obtain ⟨r, hr⟩ : ∃ r, ahd dk[kx]! dk[kx - 1]! = r := ⟨_, rfl⟩
          have HR := Lib.hid hr; clear hr
          have HC := Lib.hid (less_any w1 wr g N Bs n c dk kx (kx - 1) (kx : Int) ((kx : Int) - 1) rfl (by omega) r HSX HDK HBe (by omega) (by omega) HR)
          go_wp2_with fail
          refine HC.out.mono ?_
          rintro e w2 ⟨rfl, HS2⟩
          cases r with
          | false =>
            go_wp2
            go_roundg (b - (kx + 1))
            case measure => omega
            case rel => exact ⟨kx + 1, by go_num, by omega, by omega, Nat.le_refl _, HS2.out, by rw [← HSc.out, scanSorted_go ahd dk b kx hkb' HR.out]⟩
          | true =>
            have HK : Hid (scanSorted ahd dk b i = kx) := Lib.hid (by rw [← HSc.out, scanSorted_stop ahd dk b kx (Or.inr HR.out)])
            have hkne : ((kx : Int) == (b : Int)) = false := beq_eq_false_iff_ne.2 (by omega)
            by_cases h50 : b - a < 50
            · have h50z : (b : Int) - (a : Int) < 50 := by omega
              go_wp2
              have hv : partialInsertionSort ahd d a b = (dk, false) := by
                unfold Sort.partialInsertionSort
                rw [← HO.out, pi_short ahd a b s i dk hs (by rw [HK.out]; omega) h50]
              rw [hv]
              go_ret
              exact ⟨rfl, Lib.hid (HS1.out.on HS2.out)⟩
            · have h50z : ¬ ((b : Int) - (a : Int) < 50) := by omega
              obtain ⟨k0', k1', hks'⟩ := HF.out.on HS2.out
              clear k0 k1
              obtain ⟨W5, HSR, HS5⟩ := swap_at (c := c) hth HS2 HDK kx (kx - 1) (kx : Int) ((kx : Int) - 1) (by omega) (by omega) rfl (by omega)
              obtain ⟨X1, hX1⟩ : ∃ X1, X1 = swp dk kx (kx - 1) := ⟨_, rfl⟩
              have HDX : Hid (X1.size = n) := Lib.hid (by rw [hX1, size_swp]; exact HDK.out)
              rw [← hX1] at HS5
              have HX1 := Lib.hid hX1; clear hX1
              obtain ⟨k0, k1, hks''⟩ := HF.out.on HS5.out
              by_cases hka : kx - a ≥ 2
              · have hkaz : (2 : Int) ≤ (kx : Int) - (a : Int) := by omega
                go_wp2
                rw [HSR.out, Oper.upon_value]
                go_wp2
                go_loopg [9] (kx - 1) (fun gk vj wr => PqdRel w1 g N n kx X1 gk vj wr)
                case atStart => exact ⟨kx - 1, X1, by congr 1; omega, Nat.le_refl _, Nat.le_refl _, HDX.out, HS5.out, rfl⟩
                case round =>
                  clear k0 k1 k0' k1'
                  obtain ⟨j, dj, rfl, hjk, hg3, hdj, hsw, hu⟩ := hrel
                  obtain ⟨k0, k1, hks3⟩ := HF.out.on hsw
                  have HSJ := Lib.hid hsw; have HDJ := Lib.hid hdj; have HDn := Lib.hid hu; clear hsw hdj hu
                  by_cases hj1 : 1 ≤ j
                  · have hj1z : (1 : Int) ≤ (j : Int) := by omega
                    obtain ⟨r, hr⟩ : ∃ r, ahd dj[j]! dj[j - 1]! = r := ⟨_, rfl⟩
                    have HR := Lib.hid hr; clear hr
                    have HC := Lib.hid (less_any w1 wr g N Bs n c dj j (j - 1) (j : Int) ((j : Int) - 1) rfl (by omega) r HSJ HDJ HBe (by omega) (by omega) HR)
                    go_wp2_with fail
                    refine HC.out.mono ?_
                    rintro e w4 ⟨rfl, HS4⟩
                    cases r with
                    | true =>
                      obtain ⟨k0', k1', hks4⟩ := HF.out.on HS4.out
                      clear k0 k1
                      obtain ⟨W6, HSR2, HS6⟩ := swap_at (c := c) hth HS4 HDJ j (j - 1) (j : Int) ((j : Int) - 1) (by omega) (by omega) rfl (by omega)
                      go_wp2
                      rw [HSR2.out, Oper.upon_value]
                      go_wp2
                      go_roundg (j - 1)
                      case measure => omega
                      case rel => exact ⟨j - 1, swp dj j (j - 1), by congr 1; omega, by omega, Nat.le_refl _, by rw [size_swp]; exact HDJ.out, HS6.out, by rw [← HDn.out, shiftDown_go ahd j dj hj1 HR.out]⟩
                    | false =>
                      have HD : Hid (fixDown ahd a kx X1 = dj) := Lib.hid (by unfold fixDown; rw [if_pos hka, ← HDn.out, shiftDown_stop ahd j dj (Or.inr HR.out)])
                      obtain ⟨k0', k1', hks4⟩ := HF.out.on HS4.out
                      clear k0 k1
                      by_cases hbk : b - kx ≥ 2
                      · have hbkz : (2 : Int) ≤ (b : Int) - (kx : Int) := by omega
                        go_wp2
                        go_loopg [10] (b - (kx + 1)) (fun gk vj wr => PquRel w1 g N n b kx dj gk vj wr)
                        case atStart => exact ⟨kx + 1, dj, by go_num, Nat.le_refl _, by omega, Nat.le_refl _, HDJ.out, HS4.out, rfl⟩
                        case round =>
                          clear k0' k1'
                          obtain ⟨ju, du, rfl, hkj, hjb, hg4, hdj, hsw, hu⟩ := hrel
                          obtain ⟨k0, k1, hks⟩ := HF.out.on hsw
                          have HSU := Lib.hid hsw; have HDU := Lib.hid hdj; have HU := Lib.hid hu; clear hsw hdj hu
                          by_cases hjb' : ju < b
                          · have hjz : (ju : Int) < (b : Int) := by omega
                            obtain ⟨r, hr⟩ : ∃ r, ahd du[ju]! du[ju - 1]! = r := ⟨_, rfl⟩
                            have HR := Lib.hid hr; clear hr
                            have HC := Lib.hid (less_any w1 wr g N Bs n c du ju (ju - 1) (ju : Int) ((ju : Int) - 1) rfl (by omega) r HSU HDU HBe (by omega) (by omega) HR)
                            go_wp2_with fail
                            refine HC.out.mono ?_
                            rintro e w5 ⟨rfl, HS5⟩
                            cases r with
                            | true =>
                              obtain ⟨k0', k1', hks'⟩ := HF.out.on HS5.out
                              clear k0 k1
                              obtain ⟨W6, HSR, HS6⟩ := swap_at (c := c) hth HS5 HDU ju (ju - 1) (ju : Int) ((ju : Int) - 1) (by omega) (by omega) rfl (by omega)
                              go_wp2
                              rw [HSR.out, Oper.upon_value]
                              go_wp2
                              go_roundg (b - (ju + 1))
                              case measure => omega
                              case rel => exact ⟨ju + 1, swp du ju (ju - 1), by go_num, by omega, by omega, Nat.le_refl _, by rw [size_swp]; exact HDU.out, HS6.out, by rw [← HU.out, shiftUp_go ahd b ju du hjb' HR.out]⟩
                            | false =>
                              go_wp2
                              go_roundg (5 - (s + 1))
                              case measure => omega
                              case rel => exact ⟨kx, s + 1, du, rfl, by go_num, by omega, Nat.le_refl _, by omega, by omega, HDU.out, HS5.out, by rw [← HO.out, pi_go ahd a b s i kx dk hs HK.out (by omega) h50, ← HX1.out, HD.out, show fixUp ahd b kx dj = du from by unfold fixUp; rw [if_pos hbk, ← HU.out, shiftUp_stop ahd b ju du (Or.inr HR.out)]]⟩
                          · have hjz : ¬ (ju : Int) < (b : Int) := by omega
                            go_wp2
                            go_roundg (5 - (s + 1))
                            case measure => omega
                            case rel => exact ⟨kx, s + 1, du, rfl, by go_num, by omega, Nat.le_refl _, by omega, by omega, HDU.out, HSU.out, by rw [← HO.out, pi_go ahd a b s i kx dk hs HK.out (by omega) h50, ← HX1.out, HD.out, show fixUp ahd b kx dj = du from by unfold fixUp; rw [if_pos hbk, ← HU.out, shiftUp_stop ahd b ju du (Or.inl hjb')]]⟩
                      · have hbkz : ¬ (2 : Int) ≤ (b : Int) - (kx : Int) := by omega
                        go_wp2
                        go_roundg (5 - (s + 1))
                        case measure => omega
                        case rel => exact ⟨kx, s + 1, dj, rfl, by go_num, by omega, Nat.le_refl _, by omega, by omega, HDJ.out, HS4.out, by rw [← HO.out, pi_go ahd a b s i kx dk hs HK.out (by omega) h50, ← HX1.out, HD.out, show fixUp ahd b kx dj = dj from by unfold fixUp; rw [if_neg hbk]]⟩
                  · have hj1z : ¬ (1 : Int) ≤ (j : Int) := by omega
                    have HD : Hid (fixDown ahd a kx X1 = dj) := Lib.hid (by unfold fixDown; rw [if_pos hka, ← HDn.out, shiftDown_stop ahd j dj (Or.inl (by omega))])
                    by_cases hbk : b - kx ≥ 2
                    · have hbkz : (2 : Int) ≤ (b : Int) - (kx : Int) := by omega
                      go_wp2
                      go_loopg [10] (b - (kx + 1)) (fun gk vj wr => PquRel w1 g N n b kx dj gk vj wr)
                      case atStart => exact ⟨kx + 1, dj, by go_num, Nat.le_refl _, by omega, Nat.le_refl _, HDJ.out, HSJ.out, rfl⟩
                      case round =>
                        clear k0 k1
                        obtain ⟨ju, du, rfl, hkj, hjb, hg4, hdj, hsw, hu⟩ := hrel
                        obtain ⟨k0, k1, hks⟩ := HF.out.on hsw
                        have HSU := Lib.hid hsw; have HDU := Lib.hid hdj; have HU := Lib.hid hu; clear hsw hdj hu
                        by_cases hjb' : ju < b
                        · have hjz : (ju : Int) < (b : Int) := by omega
                          obtain ⟨r, hr⟩ : ∃ r, ahd du[ju]! du[ju - 1]! = r := ⟨_, rfl⟩
                          have HR := Lib.hid hr; clear hr
                          have HC := Lib.hid (less_any w1 wr g N Bs n c du ju (ju - 1) (ju : Int) ((ju : Int) - 1) rfl (by omega) r HSU HDU HBe (by omega) (by omega) HR)
                          go_wp2_with fail
                          refine HC.out.mono ?_
                          rintro e w5 ⟨rfl, HS5⟩
                          cases r with
                          | true =>
                            obtain ⟨k0', k1', hks'⟩ := HF.out.on HS5.out
                            clear k0 k1
                            obtain ⟨W6, HSR, HS6⟩ := swap_at (c := c) hth HS5 HDU ju (ju - 1) (ju : Int) ((ju : Int) - 1) (by omega) (by omega) rfl (by omega)
                            go_wp2
                            rw [HSR.out, Oper.upon_value]
                            go_wp2
                            go_roundg (b - (ju + 1))
                            case measure => omega
                            case rel => exact ⟨ju + 1, swp du ju (ju - 1), by go_num, by omega, by omega, Nat.le_refl _, by rw [size_swp]; exact HDU.out, HS6.out, by rw [← HU.out, shiftUp_go ahd b ju du hjb' HR.out]⟩
                          | false =>
                            go_wp2
                            go_roundg (5 - (s + 1))
                            case measure => omega
                            case rel => exact ⟨kx, s + 1, du, rfl, by go_num, by omega, Nat.le_refl _, by omega, by omega, HDU.out, HS5.out, by rw [← HO.out, pi_go ahd a b s i kx dk hs HK.out (by omega) h50, ← HX1.out, HD.out, show fixUp ahd b kx dj = du from by unfold fixUp; rw [if_pos hbk, ← HU.out, shiftUp_stop ahd b ju du (Or.inr HR.out)]]⟩
                        · have hjz : ¬ (ju : Int) < (b : Int) := by omega
                          go_wp2
                          go_roundg (5 - (s + 1))
                          case measure => omega
                          case rel => exact ⟨kx, s + 1, du, rfl, by go_num, by omega, Nat.le_refl _, by omega, by omega, HDU.out, HSU.out, by rw [← HO.out, pi_go ahd a b s i kx dk hs HK.out (by omega) h50, ← HX1.out, HD.out, show fixUp ahd b kx dj = du from by unfold fixUp; rw [if_pos hbk, ← HU.out, shiftUp_stop ahd b ju du (Or.inl hjb')]]⟩
                    · have hbkz : ¬ (2 : Int) ≤ (b : Int) - (kx : Int) := by omega
                      go_wp2
                      go_roundg (5 - (s + 1))
                      case measure => omega
                      case rel => exact ⟨kx, s + 1, dj, rfl, by go_num, by omega, Nat.le_refl _, by omega, by omega, HDJ.out, HSJ.out, by rw [← HO.out, pi_go ahd a b s i kx dk hs HK.out (by omega) h50, ← HX1.out, HD.out, show fixUp ahd b kx dj = dj from by unfold fixUp; rw [if_neg hbk]]⟩
              · have hkaz : ¬ (2 : Int) ≤ (kx : Int) - (a : Int) := by omega
                have HD : Hid (fixDown ahd a kx X1 = X1) := Lib.hid (by unfold fixDown; rw [if_neg hka])
                by_cases hbk : b - kx ≥ 2
                · have hbkz : (2 : Int) ≤ (b : Int) - (kx : Int) := by omega
                  go_wp2
                  rw [HSR.out, Oper.upon_value]
                  go_wp2
                  go_loopg [10] (b - (kx + 1)) (fun gk vj wr => PquRel w1 g N n b kx X1 gk vj wr)
                  case atStart => exact ⟨kx + 1, X1, by go_num, Nat.le_refl _, by omega, Nat.le_refl _, HDX.out, HS5.out, rfl⟩
                  case round =>
                    clear k0 k1 k0' k1'
                    obtain ⟨ju, du, rfl, hkj, hjb, hg4, hdj, hsw, hu⟩ := hrel
                    obtain ⟨k0, k1, hks⟩ := HF.out.on hsw
                    have HSU := Lib.hid hsw; have HDU := Lib.hid hdj; have HU := Lib.hid hu; clear hsw hdj hu
                    by_cases hjb' : ju < b
                    · have hjz : (ju : Int) < (b : Int) := by omega
                      obtain ⟨r, hr⟩ : ∃ r, ahd du[ju]! du[ju - 1]! = r := ⟨_, rfl⟩
                      have HR := Lib.hid hr; clear hr
                      have HC := Lib.hid (less_any w1 wr g N Bs n c du ju (ju - 1) (ju : Int) ((ju : Int) - 1) rfl (by omega) r HSU HDU HBe (by omega) (by omega) HR)
                      go_wp2_with fail
                      refine HC.out.mono ?_
                      rintro e w5 ⟨rfl, HS5⟩
                      cases r with
                      | true =>
                        obtain ⟨k0', k1', hks'⟩ := HF.out.on HS5.out
                        clear k0 k1
                        obtain ⟨W6, HSR, HS6⟩ := swap_at (c := c) hth HS5 HDU ju (ju - 1) (ju : Int) ((ju : Int) - 1) (by omega) (by omega) rfl (by omega)
                        go_wp2
                        rw [HSR.out, Oper.upon_value]
                        go_wp2
                        go_roundg (b - (ju + 1))
                        case measure => omega
                        case rel => exact ⟨ju + 1, swp du ju (ju - 1), by go_num, by omega, by omega, Nat.le_refl _, by rw [size_swp]; exact HDU.out, HS6.out, by rw [← HU.out, shiftUp_go ahd b ju du hjb' HR.out]⟩
                      | false =>
                        go_wp2
                        go_roundg (5 - (s + 1))
                        case measure => omega
                        case rel => exact ⟨kx, s + 1, du, rfl, by go_num, by omega, Nat.le_refl _, by omega, by omega, HDU.out, HS5.out, by rw [← HO.out, pi_go ahd a b s i kx dk hs HK.out (by omega) h50, ← HX1.out, HD.out, show fixUp ahd b kx X1 = du from by unfold fixUp; rw [if_pos hbk, ← HU.out, shiftUp_stop ahd b ju du (Or.inr HR.out)]]⟩
                    · have hjz : ¬ (ju : Int) < (b : Int) := by omega
                      go_wp2
                      go_roundg (5 - (s + 1))
                      case measure => omega
                      case rel => exact ⟨kx, s + 1, du, rfl, by go_num, by omega, Nat.le_refl _, by omega, by omega, HDU.out, HSU.out, by rw [← HO.out, pi_go ahd a b s i kx dk hs HK.out (by omega) h50, ← HX1.out, HD.out, show fixUp ahd b kx X1 = du from by unfold fixUp; rw [if_pos hbk, ← HU.out, shiftUp_stop ahd b ju du (Or.inl hjb')]]⟩
                · exfalso; omega
        · obtain rfl : kx = b := by omega
          have hkz : ¬ (kx : Int) < (kx : Int) := by omega
          go_wp2
          have hv : partialInsertionSort ahd d a kx = (dk, true) := by
            unfold Sort.partialInsertionSort
            rw [← HO.out, pi_true ahd a kx s i dk hs (by rw [← HSc.out, scanSorted_stop ahd dk kx kx (Or.inl (by omega))])]
          rw [hv]
          go_ret
          exact ⟨rfl, Lib.hid (HS1.out.on HSX.out)⟩
    · obtain rfl : s = 5 := by omega
      go_wp2
      have hv : partialInsertionSort ahd d a b = (dk, false) := by
        unfold Sort.partialInsertionSort
        rw [← HO.out, pi_end]
      rw [hv]
      go_ret
      exact ⟨rfl, Lib.hid (HS1.out.on HSK.out)⟩

end Go.Proofs.YtmcmpjcijbeilaaGreatDoor.Gr
