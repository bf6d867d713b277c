/-
  What is proved here: contracts of Owned and the document's own. Conditions: numbers fit an int.
-/
import Derived.Test.YtfbfckdabbaocaaQbPtW2x
namespace Go.Proofs.Ytfbfckdabbaocaa.Pt
open Go.RowKit Gr Wd Ws
set_option maxRecDepth 100000 in
theorem owned_any (n k x : Int) (w : World) :
    Calls Try.prog 53 #[.int .i64 n, .int .i64 k, .int .i64 x] w fun e w' => ∃ v, e = .returned v ∧ IOwn w' w.heap.size v (owned n k x) ∧ Below w.heap.size w w' := by
  have HM := fun W => isWorker_any x k W
  obtain ⟨r, hr⟩ : ∃ r, isK x k = r := ⟨_, rfl⟩
  rw [hr] at HM
  have HMH := Lib.hid HM
  clear HM
  cases r with
  | false =>
    have ho : owned n k x = [] := ow_none (of_decide_eq_false hr) _
    rw [ho]
    clear ho hr
    go_enter Try.func53, Try.ntmps53
    go_wp2_with fail
    refine (HMH.out _).mono ?_
    rintro e w' ⟨rfl, rfl⟩
    go_wp2_with fail
    go_ret
    exact ⟨_, rfl, IOwn.none_ _ _, Below.refl _ _⟩
  | true =>
    have hk := of_decide_eq_true hr
    clear hr
    obtain ⟨m, hm⟩ : ∃ m : Int, min n 512 = m := ⟨_, rfl⟩
    obtain ⟨N, hN⟩ : ∃ N : Nat, nv n = N := ⟨_, rfl⟩
    have hNm : N = m.toNat := by rw [← hN]; unfold nv; rw [hm]
    have hm2 : m ≤ 512 := by omega
    have HO : Hid (owned n k x = ow k x N) := Lib.hid (by unfold owned; rw [hN])
    clear hN
    go_enter Try.func53, Try.ntmps53
    go_wp2_with fail
    refine (HMH.out _).mono ?_
    rintro e w' ⟨rfl, rfl⟩
    by_cases h5 : n ≤ 512
    · have hmn : m = n := by omega
      go_wp2_with fail
      go_loopg [7, 15] N (fun g v i wr => OwRel w k x N g v i wr)
      case atStart => exact ⟨0, by omega, rfl, IOwn.none_ _ _, Below.refl _ w⟩
      case round =>
        obtain ⟨j, hj, rfl, ho, hb⟩ := hrel
        have HB := Lib.hid hb; have HW := Lib.hid ho
        have hlen := ow_len k x j
        clear hb ho
        by_cases hlt : j < N
        · obtain ⟨q, hq⟩ : ∃ q, ofI (j : Int) k = q := ⟨_, rfl⟩
          have HC := Lib.hid (fun W => of_any (j : Int) k W)
          rw [hq] at HC
          by_cases hqx : q = x
          · subst hqx
            have hsucc : ow k q (j + 1) = ow k q j ++ [(j : Int)] := by
              rw [ow_succ, isW_yes (by omega) hq]; rfl
            have HS := Lib.hid hsucc
            clear hsucc hq
            go_wp2_with fail
            refine (HC.out _).mono ?_
            rintro e w1 ⟨rfl, rfl⟩
            have hnew := heap_alloc_new wr (.cells #[.int .i64 (j : Int)] 3)
            have HN := Lib.hid hnew; clear hnew
            have HO2 := Lib.hid (HW.out.alloc (.cells #[.int .i64 (j : Int)] 3))
            have HB2 := Lib.hid (HB.out.alloc HB.out.size (.cells #[.int .i64 (j : Int)] 3))
            go_wp2_with (at_builtin; refine app_i rfl (.tmp 23) (.tmp 25) rfl w.heap.size _ _ (j : Int) rfl HO2.out _ rfl HN.out ?c1 ?c2 ?_)
            case c1 => omega
            case c2 => exact HB2.out.size
            intro v' w2 ho2 hg2
            have HB3 := Lib.hid (Below.grown HB2.out hg2 HB2.out.size fun j e => (own_lt HO2.out j e).1)
            have HO3 := Lib.hid ho2; clear ho2 hg2
            go_wp2
            go_roundg (gk - 1)
            case measure => omega
            case rel => exact ⟨j + 1, by omega, by go_num, by rw [HS.out]; exact HO3.out, HB3.out⟩
          · have hsucc : ow k x (j + 1) = ow k x j := by
              rw [ow_succ, isW_no (by rw [hq]; exact hqx)]; simp
            have HS := Lib.hid hsucc
            clear hsucc hq
            go_wp2_with fail
            refine (HC.out _).mono ?_
            rintro e w1 ⟨rfl, rfl⟩
            go_wp2
            go_roundg (gk - 1)
            case measure => omega
            case rel => exact ⟨j + 1, by omega, by go_num, by rw [HS.out]; exact HW.out, HB.out⟩
        · have HK : Hid (j = N) := Lib.hid (by omega)
          go_wp2
          go_ret
          refine ⟨_, rfl, ?_, HB.out⟩
          rw [HO.out, ← HK.out]; exact HW.out
    · have hmn : m = 512 := by omega
      go_wp2_with fail
      go_loopg [7, 15] N (fun g v i wr => OwRel w k x N g v i wr)
      case atStart => exact ⟨0, by omega, rfl, IOwn.none_ _ _, Below.refl _ w⟩
      case round =>
        obtain ⟨j, hj, rfl, ho, hb⟩ := hrel
        have HB := Lib.hid hb; have HW := Lib.hid ho
        have hlen := ow_len k x j
        clear hb ho
        by_cases hlt : j < N
        · obtain ⟨q, hq⟩ : ∃ q, ofI (j : Int) k = q := ⟨_, rfl⟩
          have HC := Lib.hid (fun W => of_any (j : Int) k W)
          rw [hq] at HC
          by_cases hqx : q = x
          · subst hqx
            have hsucc : ow k q (j + 1) = ow k q j ++ [(j : Int)] := by
              rw [ow_succ, isW_yes (by omega) hq]; rfl
            have HS := Lib.hid hsucc
            clear hsucc hq
            go_wp2_with fail
            refine (HC.out _).mono ?_
            rintro e w1 ⟨rfl, rfl⟩
            have hnew := heap_alloc_new wr (.cells #[.int .i64 (j : Int)] 3)
            have HN := Lib.hid hnew; clear hnew
            have HO2 := Lib.hid (HW.out.alloc (.cells #[.int .i64 (j : Int)] 3))
            have HB2 := Lib.hid (HB.out.alloc HB.out.size (.cells #[.int .i64 (j : Int)] 3))
            go_wp2_with (at_builtin; refine app_i rfl (.tmp 23) (.tmp 25) rfl w.heap.size _ _ (j : Int) rfl HO2.out _ rfl HN.out ?c1 ?c2 ?_)
            case c1 => omega
            case c2 => exact HB2.out.size
            intro v' w2 ho2 hg2
            have HB3 := Lib.hid (Below.grown HB2.out hg2 HB2.out.size fun j e => (own_lt HO2.out j e).1)
            have HO3 := Lib.hid ho2; clear ho2 hg2
            go_wp2
            go_roundg (gk - 1)
            case measure => omega
            case rel => exact ⟨j + 1, by omega, by go_num, by rw [HS.out]; exact HO3.out, HB3.out⟩
          · have hsucc : ow k x (j + 1) = ow k x j := by
              rw [ow_succ, isW_no (by rw [hq]; exact hqx)]; simp
            have HS := Lib.hid hsucc
            clear hsucc hq
            go_wp2_with fail
            refine (HC.out _).mono ?_
            rintro e w1 ⟨rfl, rfl⟩
            go_wp2
            go_roundg (gk - 1)
            case measure => omega
            case rel => exact ⟨j + 1, by omega, by go_num, by rw [HS.out]; exact HW.out, HB.out⟩
        · have HK : Hid (j = N) := Lib.hid (by omega)
          go_wp2
          go_ret
          refine ⟨_, rfl, ?_, HB.out⟩
          rw [HO.out, ← HK.out]; exact HW.out
end Go.Proofs.Ytfbfckdabbaocaa.Pt
