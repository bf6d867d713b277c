/-
  What is proved here: the texts GrPdq4 of this seat, laid together (each says itself what it proves; no condition beyond theirs).
-/
import Derived.Test.YtmcmpjcijbeilaaGreatDoorGmK
/-
  What is proved here: the contract of the library's partitionEqual_func over graph.order's closure. Conditions: the row is one that the call has made.
-/
namespace Go.Proofs.YtmcmpjcijbeilaaGreatDoor.Gr
open Go.RowKit Wd Ws Go.Sort

def PeRel (w1 : World) (g N n a b pv : Nat) (d : Array Ed) (gk : Nat) (vi vj : Value) (wr : World) : Prop :=
  ∃ (i j : Nat) (dk : Array Ed), vi = .int .i64 (i : Int) ∧ vj = .int .i64 (j : Int) ∧ a < i ∧ i ≤ j + 1 ∧ j < b ∧ j + 1 - i ≤ gk ∧ dk.size = n ∧ SWd w1 wr g N dk ∧ partEqLoop ahd a i j dk = partEqLoop ahd a (a + 1) (b - 1) (swp d a pv)

set_option maxRecDepth 100000 in
set_option maxHeartbeats 8000000 in
theorem partEq_any (w : World) (g N Bs n c a b pv : Nat) (d : Array Ed) (th : Value) (hth : Hid (th = typeHandle Tryz.prog 42)) (h : Hid (SWd w w g N d)) (hB : Hid (Bes w g Bs n c)) (hd : Hid (d.size = n)) (hap : a ≤ pv) (hpb : pv < b) (hbn : b ≤ n) (hn : n < 4611686018427387904) :
    Calls Tryz.prog 101 #[.agg #[.func (.func 51) #[] #[.pointer (some ⟨Bs, 0, none⟩)], .func (.func 92) #[] #[.slice (some ⟨g, 0, none⟩) n c, th]], .int .i64 (a : Int), .int .i64 (b : Int), .int .i64 (pv : Int)] w fun e w' => e = .returned (.int .i64 ((partitionEqual ahd d a b pv).1 : Int)) ∧ Hid (SWd w w' g N (partitionEqual ahd d a b pv).2) := by
  obtain ⟨w1, HW, HS1, HS, HBe, HF⟩ := ent (th := th) h.out hB.out
  obtain ⟨k0, k1, hks⟩ := HF.out.on HS.out
  obtain ⟨W5, HSR, HS5⟩ := swap_at (c := c) hth HS hd a pv (a : Int) (pv : Int) (by omega) (by omega) rfl rfl
  go_enter Tryz.func101, Tryz.ntmps101
  go_wp2
  rw [← HW.out, HSR.out, Oper.upon_value]
  go_wp2
  clear k0 k1
  go_loopg [9, 10] (b - 1 + 1 - (a + 1)) (fun gk vi vj wr => PeRel w1 g N n a b pv d gk vi vj wr)
  case atStart => exact ⟨a + 1, b - 1, swp d a pv, by go_num, by go_num, by omega, by omega, by omega, Nat.le_refl _, by rw [size_swp]; exact hd.out, HS5.out, rfl⟩
  case round =>
    obtain ⟨i, j, dk, rfl, rfl, hai, hij, hjb, hgo, hdk, hsw, ho⟩ := hrel
    have HE := Lib.hid ho; have HSK := Lib.hid hsw; have HDK := Lib.hid hdk; clear ho hsw hdk
    go_wp2
    go_loopg [9] (j + 1 - i) (fun gk vi wr => PupRel w1 g N i j (fun x => !ahd dk[a]! x) dk gk vi wr)
    case atStart => exact ⟨i, rfl, Nat.le_refl _, hij, Nat.le_refl _, HSK.out, rfl⟩
    case round =>
      (try clear k0 k1)
      obtain ⟨i', rfl, hii, hij', hgu, hsw, hu⟩ := hrel
      obtain ⟨k0, k1, hks⟩ := HF.out.on hsw
      have HSU := Lib.hid hsw; have HUs := Lib.hid hu; clear hsw hu
      by_cases hle : i' ≤ j
      · obtain ⟨r, hr⟩ : ∃ r, ahd dk[a]! dk[i']! = r := ⟨_, rfl⟩
        have HR := Lib.hid hr; clear hr
        have HC := Lib.hid (less_any w1 wr g N Bs n c dk a i' (a : Int) (i' : Int) rfl rfl r HSU HDK HBe (by omega) (by omega) HR)
        go_wp2_with fail
        refine HC.out.mono ?_
        rintro e w2 ⟨rfl, HS2⟩
        obtain ⟨k0', k1', hks'⟩ := HF.out.on HS2.out
        clear k0 k1
        cases r with
        | false =>
          go_wp2
          go_roundg (j + 1 - (i' + 1))
          case measure => omega
          case rel => exact ⟨i' + 1, by go_num, by omega, by omega, Nat.le_refl _, HS2.out, by rw [← HUs.out, scanUp_go (fun x => !ahd dk[a]! x) dk j i' hle (by simp [HR.out])]⟩
        | true =>
          have HI2 : Hid (i' = scanUp (fun x => !ahd dk[a]! x) dk j i) := Lib.hid (by rw [← HUs.out, scanUp_end (fun x => !ahd dk[a]! x) dk j i' (Or.inr (by simp [HR.out]))])
          go_wp2
          go_loopg [10] j (fun gk vj wr => PdnRel w1 g N i' j (fun x => ahd dk[a]! x) dk gk vj wr)
          case atStart => exact ⟨j, rfl, Nat.le_refl _, hij', Nat.le_refl _, HS2.out, rfl⟩
          case round =>
            clear k0' k1'
            obtain ⟨j', rfl, hjj, hij2, hgd, hsw, hu⟩ := hrel
            obtain ⟨k0, k1, hks⟩ := HF.out.on hsw
            have HSD := Lib.hid hsw; have HDs := Lib.hid hu; clear hsw hu
            by_cases hle2 : i' ≤ j'
            · obtain ⟨r, hr⟩ : ∃ r, ahd dk[a]! dk[j']! = r := ⟨_, rfl⟩
              have HR := Lib.hid hr; clear hr
              have HC := Lib.hid (less_any w1 wr g N Bs n c dk a j' (a : Int) (j' : Int) rfl rfl r HSD HDK HBe (by omega) (by omega) HR)
              go_wp2_with fail
              refine HC.out.mono ?_
              rintro e w3 ⟨rfl, HS3⟩
              obtain ⟨k0', k1', hks'⟩ := HF.out.on HS3.out
              clear k0 k1
              cases r with
              | true =>
                go_wp2
                go_roundg (j' - 1)
                case measure => omega
                case rel => exact ⟨j' - 1, by go_num, by omega, by omega, Nat.le_refl _, HS3.out, by rw [← HDs.out, scanDown_go (fun x => ahd dk[a]! x) dk i' j' hle2 (by omega) (by simp [HR.out])]⟩
              | false =>
                have HJ2 : Hid (j' = scanDown (fun x => ahd dk[a]! x) dk i' j) := Lib.hid (by rw [← HDs.out, scanDown_end (fun x => ahd dk[a]! x) dk i' j' (Or.inr (by simp [HR.out]))])
                have hlt3 := scans_lt ahd a i j dk (by omega) HI2.out HJ2.out hle2
                obtain ⟨W5, HSR, HS5⟩ := swap_at (c := c) hth HS3 HDK i' j' (i' : Int) (j' : Int) (by omega) (by omega) rfl rfl
                go_wp2
                rw [HSR.out, Oper.upon_value]
                go_wp2
                go_roundg (j' - 1 + 1 - (i' + 1))
                case measure => omega
                case rel => exact ⟨i' + 1, j' - 1, swp dk i' j', by go_num, by go_num, by omega, by omega, by omega, Nat.le_refl _, by rw [size_swp]; exact HDK.out, HS5.out, by rw [← HE.out]; exact (partEq_go ahd a i j dk HI2.out HJ2.out (by omega)).symm⟩
            · have HJ2 : Hid (j' = scanDown (fun x => ahd dk[a]! x) dk i' j) := Lib.hid (by rw [← HDs.out, scanDown_end (fun x => ahd dk[a]! x) dk i' j' (Or.inl hle2)])
              go_wp2
              go_ret
              have e := partEq_break ahd a i j dk HI2.out HJ2.out (by omega)
              refine ⟨?_, Lib.hid (HS1.out.on ?_)⟩
              · unfold Sort.partitionEqual; rw [← HE.out, e]; rfl
              · unfold Sort.partitionEqual; rw [← HE.out, e]; exact HSD.out
      · have HI2 : Hid (i' = scanUp (fun x => !ahd dk[a]! x) dk j i) := Lib.hid (by rw [← HUs.out, scanUp_end (fun x => !ahd dk[a]! x) dk j i' (Or.inl hle)])
        go_wp2
        go_loopg [10] j (fun gk vj wr => PdnRel w1 g N i' j (fun x => ahd dk[a]! x) dk gk vj wr)
        case atStart => exact ⟨j, rfl, Nat.le_refl _, hij', Nat.le_refl _, HSU.out, rfl⟩
        case round =>
          clear k0 k1
          obtain ⟨j', rfl, hjj, hij2, hgd, hsw, hu⟩ := hrel
          obtain ⟨k0, k1, hks⟩ := HF.out.on hsw
          have HSD := Lib.hid hsw; have HDs := Lib.hid hu; clear hsw hu
          by_cases hle2 : i' ≤ j'
          · exfalso; omega
          · have HJ2 : Hid (j' = scanDown (fun x => ahd dk[a]! x) dk i' j) := Lib.hid (by rw [← HDs.out, scanDown_end (fun x => ahd dk[a]! x) dk i' j' (Or.inl hle2)])
            go_wp2
            go_ret
            have e := partEq_break ahd a i j dk HI2.out HJ2.out (by omega)
            refine ⟨?_, Lib.hid (HS1.out.on ?_)⟩
            · unfold Sort.partitionEqual; rw [← HE.out, e]; rfl
            · unfold Sort.partitionEqual; rw [← HE.out, e]; exact HSD.out

end Go.Proofs.YtmcmpjcijbeilaaGreatDoor.Gr
