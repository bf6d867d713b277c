/-
  What is proved here: the walks of WordsNumber and WordsLines: each returns true for every text. Condition: the package variables lie as their texts lay them.
-/
import Derived.Test.YtjicbhnmdbnjpaaDoorV2
import Derived.Test.YtjicbhnmdbnjpaaDoorR1
namespace Go.Proofs.YtjicbhnmdbnjpaaDoor
open Go.RowKit Wd

theorem numOf_cases (cs : List Ch) : (isNum cs = true ∧ num 0 cs ≤ 4611686018427387904 ∧ numOf cs = (num 0 cs, 0)) ∨ numOf cs = (0, 30) ∨ numOf cs = (0, 50) := by
  unfold numOf
  cases isNum cs with
  | false => right; left; rfl
  | true =>
    by_cases h : 4611686018427387904 < num 0 cs
    · right; right; rw [if_pos rfl, if_pos h]
    · left; exact ⟨rfl, by omega, by rw [if_pos rfl, if_neg h]⟩

def NlRel (w0 : World) (k : Nat) (g : Nat) (i : Value) (wr : World) : Prop := ∃ j : Nat, j + g = 3 ∧ j ≤ k ∧ i = .int .i64 (j : Int) ∧ Below w0.heap.size w0 wr

set_option maxRecDepth 100000 in
set_option maxHeartbeats 1000000 in
theorem number_law (s : ByteArray) (w : World) (hL : Laid w) (_hs : s.size ≤ 9223372036854775807) : Calls Tryd.prog 6 #[.string s] w fun e w' => e = .returned (.bool true) ∧ Below w.heap.size w w' := by
  have HL := Lib.hid hL; clear hL
  by_cases hbig : 300 < s.size
  · go_enter Tryd.func6, Tryd.ntmps6
    go_wp2_with fail
    all_goals (try (exfalso; omega))
    refine (works_any _ HL.out).mono ?_
    rintro e w1 ⟨rfl, hb⟩
    have HB := Lib.hid hb; clear hb
    go_wp2
    go_ret
    exact ⟨rfl, HB.out⟩
  · obtain ⟨l, rfl⟩ : ∃ l, s = sb l := ⟨_, sb_list s⟩
    rw [sb_size] at hbig
    have hsz := sb_size l
    obtain ⟨cs, hr⟩ := rg_ex l
    have HG := Lib.hid hr; clear hr
    rcases numOf_cases cs with ⟨hn, hle, he⟩ | he | he
    · obtain ⟨k, hk, hpr⟩ := num_back cs l HG.out hn
      obtain ⟨n, hn'⟩ : ∃ n, n = num 0 cs := ⟨_, rfl⟩
      rw [← hn'] at hle he hpr
      have HE := Lib.hid he
      have HP := Lib.hid hpr; clear he hpr hn hn'
      go_enter Tryd.func6, Tryd.ntmps6
      go_wp2_with fail
      all_goals (try (exfalso; omega))
      refine (number_hid _ l _ n 0 _ rfl HL HG (by omega) HE).mono ?_
      rintro e w1 ⟨rfl, HB1⟩
      go_wp2_with fail
      refine (rnumber_hid _ l _ n 0 _ rfl HG (by omega) HE).mono ?_
      rintro e w2 ⟨rfl, HB⟩
      have HB2 := Lib.hid (below_trans HB1.out HB.out); clear HB HB1
      go_wp2
      go_loopg [7] 3 (fun g i wr => NlRel w2 k g i wr)
      case atStart => exact ⟨0, rfl, Nat.zero_le _, rfl, Below.refl _ _⟩
      case round =>
        obtain ⟨j, hj, hjk, rfl, hb⟩ := hrel
        have HB := Lib.hid (below_trans HB2.out hb)
        have HBr := Lib.hid hb; clear hb
        have hj3 : j < 3 := by omega
        obtain ⟨m, hm⟩ : ∃ m, m = pr j n := ⟨_, rfl⟩
        have HM := Lib.hid hm; clear hm
        by_cases heq : m = l
        · have hst : ((sb m).toList == (sb l).toList) = true := by rw [heq]; simp
          have HQ := Lib.hid heq; clear heq
          go_wp2_with fail
          all_goals (try (exfalso; omega))
          refine (print_ok n j _ (HL.out.bel HB.out) (by omega) hj3).mono ?_
          rw [← HM.out]
          rintro e w3 ⟨rfl, hb⟩
          have HB3 := Lib.hid (below_trans HB.out hb); clear hb
          go_wp2_with fail
          refine (works_any _ (HL.out.bel HB3.out)).mono ?_
          rintro e w4 ⟨rfl, hb⟩
          have HB4 := Lib.hid (below_trans HB3.out hb); clear hb
          go_wp2
          go_ret
          exact ⟨rfl, HB4.out⟩
        · have hst : ((sb m).toList == (sb l).toList) = false := by rw [sb_toList, sb_toList]; simpa using heq
          have hne : j ≠ k := by intro e; subst e; exact heq (HM.out.trans HP.out)
          have HQ := Lib.hid heq; clear heq
          go_wp2_with fail
          all_goals (try (exfalso; omega))
          refine (print_ok n j _ (HL.out.bel HB.out) (by omega) hj3).mono ?_
          rw [← HM.out]
          rintro e w3 ⟨rfl, hb⟩
          have HB3 := Lib.hid (below_trans HBr.out hb); clear hb
          go_wp2
          go_roundg (gk - 1)
          case measure => omega
          case rel => exact ⟨j + 1, by omega, by omega, by go_num, HB3.out⟩
    all_goals
      have HE := Lib.hid he; clear he
      go_enter Tryd.func6, Tryd.ntmps6
      go_wp2_with fail
      all_goals (try (exfalso; omega))
      refine (number_hid _ l _ 0 _ _ rfl HL HG (by omega) HE).mono ?_
      rintro e w1 ⟨rfl, HB1⟩
      go_wp2_with fail
      refine (rnumber_hid _ l _ 0 _ _ rfl HG (by omega) HE).mono ?_
      rintro e w2 ⟨rfl, HB⟩
      have HB2 := Lib.hid (below_trans HB1.out HB.out); clear HB HB1
      go_wp2_with fail
      refine (works_any _ (HL.out.bel HB2.out)).mono ?_
      rintro e w4 ⟨rfl, hb⟩
      have HB4 := Lib.hid (below_trans HB2.out hb); clear hb
      go_wp2
      go_ret
      exact ⟨rfl, HB4.out⟩

theorem rlines_at (s : ByteArray) (l : List UInt8) (L : List (List UInt8)) (w : World) (hs : s = sb l) (hl : l.length ≤ 100000) (hL : Hid (ln [] l = L)) :
    Calls Tryd.prog 12 #[.string s] w fun e w' => ∃ v, e = .returned v ∧ Hid (Own w' w.heap.size v L) ∧ Hid (Below w.heap.size w w') := by
  subst hs; rw [← hL.out]; exact (rlines_any l w hl).mono fun e w' ⟨v, h1, h2, h3⟩ => ⟨v, h1, Lib.hid h2, Lib.hid h3⟩
theorem lines_hid (s : ByteArray) (l : List UInt8) (L : List (List UInt8)) (w : World) (hs : s = sb l) (hl : l.length ≤ 100000) (hL : Hid (ln [] l = L)) :
    Calls Tryd.prog 10 #[.string s] w fun e w' => ∃ v, e = .returned v ∧ Hid (Own w' w.heap.size v L) ∧ Hid (Below w.heap.size w w') := by
  subst hs; rw [← hL.out]; exact (lines_any l w hl).mono fun e w' ⟨v, h1, h2, h3⟩ => ⟨v, h1, Lib.hid h2, Lib.hid h3⟩

end Go.Proofs.YtjicbhnmdbnjpaaDoor
