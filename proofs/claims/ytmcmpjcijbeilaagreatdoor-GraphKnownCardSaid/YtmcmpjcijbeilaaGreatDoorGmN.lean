/-
  What is proved here: the texts GrPdq5 of this seat, laid together (each says itself what it proves; no condition beyond theirs).
-/
import Derived.Test.YtmcmpjcijbeilaaGreatDoorGmK
/-
  What is proved here: the contract of the library's partition_func over graph.order's closure. Conditions: the row is one that the call has made.
-/
namespace Go.Proofs.YtmcmpjcijbeilaaGreatDoor.Gr
open Go.RowKit Wd Ws Go.Sort

def PaRel (w1 : World) (g N n a b I0 J0 : Nat) (D0 : Array Ed) (gk : Nat) (vi vj : Value) (wr : World) : Prop :=
  ∃ (i j : Nat) (dk : Array Ed), vi = .int .i64 (i : Int) ∧ vj = .int .i64 (j : Int) ∧ a < i ∧ i ≤ j + 1 ∧ j < b ∧ j + 1 - i ≤ gk ∧ dk.size = n ∧ SWd w1 wr g N dk ∧ partLoop ahd a i j dk = partLoop ahd a I0 J0 D0

set_option maxRecDepth 100000 in
set_option maxHeartbeats 8000000 in
theorem partition_any (w : World) (g N Bs n c a b pv : Nat) (d : Array Ed) (th : Value) (hth : Hid (th = typeHandle Tryz.prog 42)) (h : Hid (SWd w w g N d)) (hB : Hid (Bes w g Bs n c)) (hd : Hid (d.size = n)) (hap : a ≤ pv) (hpb : pv < b) (hbn : b ≤ n) (hn : n < 4611686018427387904) :
    Calls Tryz.prog 102 #[.agg #[.func (.func 51) #[] #[.pointer (some ⟨Bs, 0, none⟩)], .func (.func 92) #[] #[.slice (some ⟨g, 0, none⟩) n c, th]], .int .i64 (a : Int), .int .i64 (b : Int), .int .i64 (pv : Int)] w fun e w' => e = .returned (.tuple #[.int .i64 ((partition ahd d a b pv).1 : Int), .bool (partition ahd d a b pv).2.1]) ∧ Hid (SWd w w' g N (partition ahd d a b pv).2.2) := by
  obtain ⟨w1, HW, HS1, HS, HBe, HF⟩ := ent (th := th) h.out hB.out
  obtain ⟨k0, k1, hks⟩ := HF.out.on HS.out
  obtain ⟨W4, HSR0, HS4⟩ := swap_at (c := c) hth HS hd a pv (a : Int) (pv : Int) (by omega) (by omega) rfl rfl
  obtain ⟨i, hi⟩ : ∃ i : Nat, i = a + 1 := ⟨_, rfl⟩
  obtain ⟨j, hj⟩ : ∃ j : Nat, j = b - 1 := ⟨_, rfl⟩
  obtain ⟨dk, hdk⟩ : ∃ dk : Array Ed, dk = swp d a pv := ⟨_, rfl⟩
  have HDK : Hid (dk.size = n) := Lib.hid (by rw [hdk, size_swp]; exact hd.out)
  have HSK : Hid (SWd w1 W4 g N dk) := by rw [hdk]; exact HS4
  have hai : a < i := by omega
  have hij : i ≤ j + 1 := by omega
  have hjb : j < b := by omega
  have Hi := Lib.hid hi; have Hj := Lib.hid hj; have Hdk := Lib.hid hdk; clear hi hj hdk HS4
  go_enter Tryz.func102, Tryz.ntmps102
  go_wp2
  rw [← HW.out, HSR0.out, Oper.upon_value]
  go_wp2
  clear k0 k1
  rw [show ((a : Int) + 1) = (i : Int) by have := Hi.out; omega, show ((b : Int) - 1) = (j : Int) by have := Hj.out; omega]
  go_loopg [10] (j + 1 - i) (fun gk vi wr => PupRel w1 g N i j (fun x => ahd x dk[a]!) dk gk vi wr)
  case atStart => exact ⟨i, rfl, Nat.le_refl _, hij, Nat.le_refl _, HSK.out, rfl⟩
  case round =>
    (try clear k0 k1)
    obtain ⟨i', rfl, hii, hij', hgu, hsw, hu⟩ := hrel
    obtain ⟨k0, k1, hks⟩ := HF.out.on hsw
    have HSU := Lib.hid hsw; have HUs := Lib.hid hu; clear hsw hu
    by_cases hle : i' ≤ j
    · obtain ⟨r, hr⟩ : ∃ r, ahd dk[i']! dk[a]! = r := ⟨_, rfl⟩
      have HR := Lib.hid hr; clear hr
      have HC := Lib.hid (less_any w1 wr g N Bs n c dk i' a (i' : Int) (a : Int) rfl rfl r HSU HDK HBe (by omega) (by omega) HR)
      go_wp2_with fail
      refine HC.out.mono ?_
      rintro e w2 ⟨rfl, HS2⟩
      obtain ⟨k0', k1', hks'⟩ := HF.out.on HS2.out
      clear k0 k1
      cases r with
      | true =>
        go_wp2
        go_roundg (j + 1 - (i' + 1))
        case measure => omega
        case rel => exact ⟨i' + 1, by go_num, by omega, by omega, Nat.le_refl _, HS2.out, by rw [← HUs.out, scanUp_go (fun x => ahd x dk[a]!) dk j i' hle (by simp [HR.out])]⟩
      | false =>
        have HI2 : Hid (i' = scanUp (fun x => ahd x dk[a]!) dk j i) := Lib.hid (by rw [← HUs.out, scanUp_end (fun x => ahd x dk[a]!) dk j i' (Or.inr (by simp [HR.out]))])
        go_wp2
        go_loopg [11] j (fun gk vj wr => PdnRel w1 g N i' j (fun x => !ahd x dk[a]!) dk gk vj wr)
        case atStart => exact ⟨j, rfl, Nat.le_refl _, hij', Nat.le_refl _, HS2.out, rfl⟩
        case round =>
          clear k0' k1'
          obtain ⟨j', rfl, hjj, hij2, hgd, hsw, hu⟩ := hrel
          obtain ⟨k0, k1, hks⟩ := HF.out.on hsw
          have HSD := Lib.hid hsw; have HDs := Lib.hid hu; clear hsw hu
          by_cases hle2 : i' ≤ j'
          · obtain ⟨r, hr⟩ : ∃ r, ahd dk[j']! dk[a]! = r := ⟨_, rfl⟩
            have HR := Lib.hid hr; clear hr
            have HC := Lib.hid (less_any w1 wr g N Bs n c dk j' a (j' : Int) (a : Int) rfl rfl r HSD HDK HBe (by omega) (by omega) HR)
            go_wp2_with fail
            refine HC.out.mono ?_
            rintro e w3 ⟨rfl, HS3⟩
            obtain ⟨k0', k1', hks'⟩ := HF.out.on HS3.out
            clear k0 k1
            cases r with
            | false =>
              go_wp2
              go_roundg (j' - 1)
              case measure => omega
              case rel => exact ⟨j' - 1, by go_num, by omega, by omega, Nat.le_refl _, HS3.out, by rw [← HDs.out, scanDown_go (fun x => !ahd x dk[a]!) dk i' j' hle2 (by omega) (by simp [HR.out])]⟩
            | true =>
              have HJ2 : Hid (j' = scanDown (fun x => !ahd x dk[a]!) dk i' j) := Lib.hid (by rw [← HDs.out, scanDown_end (fun x => !ahd x dk[a]!) dk i' j' (Or.inr (by simp [HR.out]))])
              have hlt3 := part_scans_lt ahd a i j dk (by omega) HI2.out HJ2.out hle2
              obtain ⟨W5, HSR, HS5⟩ := swap_at (c := c) hth HS3 HDK i' j' (i' : Int) (j' : Int) (by omega) (by omega) rfl rfl
              go_wp2
              rw [HSR.out, Oper.upon_value]
              go_wp2
              (try rw [decide_eq_false (show ¬ j' < i' by omega)])
              obtain ⟨I0, hI0⟩ : ∃ I0 : Nat, I0 = i' + 1 := ⟨_, rfl⟩
              obtain ⟨J0, hJ0⟩ : ∃ J0 : Nat, J0 = j' - 1 := ⟨_, rfl⟩
              obtain ⟨D0, hD0⟩ : ∃ D0 : Array Ed, D0 = swp dk i' j' := ⟨_, rfl⟩
              have PF : Hid (partition ahd d a b pv = ((partLoop ahd a I0 J0 D0).1, false, swp (partLoop ahd a I0 J0 D0).2 (partLoop ahd a I0 J0 D0).1 a)) := Lib.hid (by
                rw [hI0, hJ0, hD0]; exact part_first_go ahd d a b pv Hi.out Hj.out Hdk.out HI2.out HJ2.out (by omega))
              have HDz : Hid (D0.size = n) := Lib.hid (by rw [hD0, size_swp]; exact HDK.out)
              rw [← hD0] at HS5
              have hrg : a < I0 ∧ I0 ≤ J0 + 1 ∧ J0 < b := by omega
              have HI0 := Lib.hid hI0; have HJ0 := Lib.hid hJ0
              clear hI0 hJ0 hD0
              go_loopg [10, 11] (J0 + 1 - I0) (fun gk vi vj wr => PaRel w1 g N n a b I0 J0 D0 gk vi vj wr)
              case atStart => exact ⟨I0, J0, D0, by rw [HI0.out]; go_num, by rw [HJ0.out]; go_num, by omega, by omega, by omega, Nat.le_refl _, HDz.out, HS5.out, rfl⟩
              case round =>
                clear k0' k1' HSK HDK Hi Hj Hdk HI2 HJ2 HSR HS5 HI0 HJ0
                obtain ⟨i, j, dk, rfl, rfl, hai, hij, hjb, hgo, hdk, hsw, ho⟩ := hrel
                have HE := Lib.hid ho; have HSK := Lib.hid hsw; have HDK := Lib.hid hdk; clear ho hsw hdk
                go_wp2
                go_loopg [10] (j + 1 - i) (fun gk vi wr => PupRel w1 g N i j (fun x => ahd x dk[a]!) dk gk vi wr)
                case atStart => exact ⟨i, rfl, Nat.le_refl _, hij, Nat.le_refl _, HSK.out, rfl⟩
                case round =>
                  (try clear k0 k1)
                  obtain ⟨i', rfl, hii, hij', hgu, hsw, hu⟩ := hrel
                  obtain ⟨k0, k1, hks⟩ := HF.out.on hsw
                  have HSU := Lib.hid hsw; have HUs := Lib.hid hu; clear hsw hu
                  by_cases hle : i' ≤ j
                  · obtain ⟨r, hr⟩ : ∃ r, ahd dk[i']! dk[a]! = r := ⟨_, rfl⟩
                    have HR := Lib.hid hr; clear hr
                    have HC := Lib.hid (less_any w1 wr g N Bs n c dk i' a (i' : Int) (a : Int) rfl rfl r HSU HDK HBe (by omega) (by omega) HR)
                    go_wp2_with fail
                    refine HC.out.mono ?_
                    rintro e w2 ⟨rfl, HS2⟩
                    obtain ⟨k0', k1', hks'⟩ := HF.out.on HS2.out
                    clear k0 k1
                    cases r with
                    | true =>
                      go_wp2
                      go_roundg (j + 1 - (i' + 1))
                      case measure => omega
                      case rel => exact ⟨i' + 1, by go_num, by omega, by omega, Nat.le_refl _, HS2.out, by rw [← HUs.out, scanUp_go (fun x => ahd x dk[a]!) dk j i' hle (by simp [HR.out])]⟩
                    | false =>
                      have HI2 : Hid (i' = scanUp (fun x => ahd x dk[a]!) dk j i) := Lib.hid (by rw [← HUs.out, scanUp_end (fun x => ahd x dk[a]!) dk j i' (Or.inr (by simp [HR.out]))])
                      go_wp2
                      go_loopg [11] j (fun gk vj wr => PdnRel w1 g N i' j (fun x => !ahd x dk[a]!) dk gk vj wr)
                      case atStart => exact ⟨j, rfl, Nat.le_refl _, hij', Nat.le_refl _, HS2.out, rfl⟩
                      case round =>
                        clear k0' k1'
                        obtain ⟨j', rfl, hjj, hij2, hgd, hsw, hu⟩ := hrel
                        obtain ⟨k0, k1, hks⟩ := HF.out.on hsw
                        have HSD := Lib.hid hsw; have HDs := Lib.hid hu; clear hsw hu
                        by_cases hle2 : i' ≤ j'
                        · obtain ⟨r, hr⟩ : ∃ r, ahd dk[j']! dk[a]! = r := ⟨_, rfl⟩
                          have HR := Lib.hid hr; clear hr
                          have HC := Lib.hid (less_any w1 wr g N Bs n c dk j' a (j' : Int) (a : Int) rfl rfl r HSD HDK HBe (by omega) (by omega) HR)
                          go_wp2_with fail
                          refine HC.out.mono ?_
                          rintro e w3 ⟨rfl, HS3⟩
                          obtain ⟨k0', k1', hks'⟩ := HF.out.on HS3.out
                          clear k0 k1
                          cases r with
                          | false =>
                            go_wp2
                            go_roundg (j' - 1)
                            case measure => omega
                            case rel => exact ⟨j' - 1, by go_num, by omega, by omega, Nat.le_refl _, HS3.out, by rw [← HDs.out, scanDown_go (fun x => !ahd x dk[a]!) dk i' j' hle2 (by omega) (by simp [HR.out])]⟩
                          | true =>
                            have HJ2 : Hid (j' = scanDown (fun x => !ahd x dk[a]!) dk i' j) := Lib.hid (by rw [← HDs.out, scanDown_end (fun x => !ahd x dk[a]!) dk i' j' (Or.inr (by simp [HR.out]))])
                            have hlt3 := part_scans_lt ahd a i j dk (by omega) HI2.out HJ2.out hle2
                            obtain ⟨W5, HSR, HS5⟩ := swap_at (c := c) hth HS3 HDK i' j' (i' : Int) (j' : Int) (by omega) (by omega) rfl rfl
                            go_wp2
                            rw [HSR.out, Oper.upon_value]
                            go_wp2
                            go_roundg (j' - 1 + 1 - (i' + 1))
                            case measure => omega
                            case rel => exact ⟨i' + 1, j' - 1, swp dk i' j', by go_num, by go_num, by omega, by omega, by omega, Nat.le_refl _, by rw [size_swp]; exact HDK.out, HS5.out, by rw [← HE.out]; exact (part_go ahd a i j dk HI2.out HJ2.out (by omega)).symm⟩
                        · have HJ2 : Hid (j' = scanDown (fun x => !ahd x dk[a]!) dk i' j) := Lib.hid (by rw [← HDs.out, scanDown_end (fun x => !ahd x dk[a]!) dk i' j' (Or.inl hle2)])
                          obtain ⟨W5, HSR, HS5⟩ := swap_at (c := c) hth HSD HDK j' a (j' : Int) (a : Int) (by omega) (by omega) rfl rfl
                          go_wp2
                          rw [HSR.out, Oper.upon_value]
                          go_wp2
                          go_ret2
                          have e := part_break ahd a i j dk HI2.out HJ2.out (by omega)
                          rw [PF.out, ← HE.out, e]
                          exact ⟨rfl, Lib.hid (HS1.out.on HS5.out)⟩
                  · have HI2 : Hid (i' = scanUp (fun x => ahd x dk[a]!) dk j i) := Lib.hid (by rw [← HUs.out, scanUp_end (fun x => ahd x dk[a]!) dk j i' (Or.inl hle)])
                    go_wp2
                    go_loopg [11] j (fun gk vj wr => PdnRel w1 g N i' j (fun x => !ahd x dk[a]!) dk gk vj wr)
                    case atStart => exact ⟨j, rfl, Nat.le_refl _, hij', Nat.le_refl _, HSU.out, rfl⟩
                    case round =>
                      clear k0 k1
                      obtain ⟨j', rfl, hjj, hij2, hgd, hsw, hu⟩ := hrel
                      obtain ⟨k0, k1, hks⟩ := HF.out.on hsw
                      have HSD := Lib.hid hsw; have HDs := Lib.hid hu; clear hsw hu
                      by_cases hle2 : i' ≤ j'
                      · exfalso; omega
                      · have HJ2 : Hid (j' = scanDown (fun x => !ahd x dk[a]!) dk i' j) := Lib.hid (by rw [← HDs.out, scanDown_end (fun x => !ahd x dk[a]!) dk i' j' (Or.inl hle2)])
                        obtain ⟨W5, HSR, HS5⟩ := swap_at (c := c) hth HSD HDK j' a (j' : Int) (a : Int) (by omega) (by omega) rfl rfl
                        go_wp2
                        rw [HSR.out, Oper.upon_value]
                        go_wp2
                        go_ret2
                        have e := part_break ahd a i j dk HI2.out HJ2.out (by omega)
                        rw [PF.out, ← HE.out, e]
                        exact ⟨rfl, Lib.hid (HS1.out.on HS5.out)⟩
          · have HJ2 : Hid (j' = scanDown (fun x => !ahd x dk[a]!) dk i' j) := Lib.hid (by rw [← HDs.out, scanDown_end (fun x => !ahd x dk[a]!) dk i' j' (Or.inl hle2)])
            obtain ⟨W5, HSR, HS5⟩ := swap_at (c := c) hth HSD HDK j' a (j' : Int) (a : Int) (by omega) (by omega) rfl rfl
            go_wp2
            rw [HSR.out, Oper.upon_value]
            go_wp2
            go_ret2
            have e := part_first_break ahd d a b pv Hi.out Hj.out Hdk.out HI2.out HJ2.out (by omega)
            rw [e]
            exact ⟨rfl, Lib.hid (HS1.out.on HS5.out)⟩
    · have HI2 : Hid (i' = scanUp (fun x => ahd x dk[a]!) dk j i) := Lib.hid (by rw [← HUs.out, scanUp_end (fun x => ahd x dk[a]!) dk j i' (Or.inl hle)])
      go_wp2
      go_loopg [11] j (fun gk vj wr => PdnRel w1 g N i' j (fun x => !ahd x dk[a]!) dk gk vj wr)
      case atStart => exact ⟨j, rfl, Nat.le_refl _, hij', Nat.le_refl _, HSU.out, rfl⟩
      case round =>
        clear k0 k1
        obtain ⟨j', rfl, hjj, hij2, hgd, hsw, hu⟩ := hrel
        obtain ⟨k0, k1, hks⟩ := HF.out.on hsw
        have HSD := Lib.hid hsw; have HDs := Lib.hid hu; clear hsw hu
        by_cases hle2 : i' ≤ j'
        · exfalso; omega
        · have HJ2 : Hid (j' = scanDown (fun x => !ahd x dk[a]!) dk i' j) := Lib.hid (by rw [← HDs.out, scanDown_end (fun x => !ahd x dk[a]!) dk i' j' (Or.inl hle2)])
          obtain ⟨W5, HSR, HS5⟩ := swap_at (c := c) hth HSD HDK j' a (j' : Int) (a : Int) (by omega) (by omega) rfl rfl
          go_wp2
          rw [HSR.out, Oper.upon_value]
          go_wp2
          go_ret2
          have e := part_first_break ahd d a b pv Hi.out Hj.out Hdk.out HI2.out HJ2.out (by omega)
          rw [e]
          exact ⟨rfl, Lib.hid (HS1.out.on HS5.out)⟩

end Go.Proofs.YtmcmpjcijbeilaaGreatDoor.Gr
