/-
  What is proved here: contracts of package fixed's distance, Add, Apart, Share and of the document's own dist, Add, Apart, Share. No condition.
-/
import Derived.Test.YtbbmgandkmlojaaGreatFxMath
import Derived.WalkKit
import Derived.WalkSpells
import Derived.Deep.LoopGhost
import Derived.Lib.Hide
namespace Go.Proofs.YtbbmgandkmlojaaGreat.Fx
open Go.RowKit

theorem below_trans {a b c : World} (h : Below a.heap.size a b) (k : Below b.heap.size b c) : Below a.heap.size a c := h.trans (k.mono h.size)
theorem ret_int {k : IntKind} {a b : Int} (h : a = b) : Ending.returned (.int k a) = .returned (.int k b) := by rw [h]
theorem ret_two {k j : IntKind} {a b c d : Int} (h : a = b) (g : c = d) : Ending.returned (.tuple #[.int k a, .int j c]) = .returned (.tuple #[.int k b, .int j d]) := by rw [h, g]

theorem distance_any (a : Int) (w : World) (_h0 : -9223372036854775808 ≤ a) (_h1 : a ≤ 9223372036854775807) : Calls Tryz.prog 50 #[.int .i64 a] w fun e w' => e = .returned (.int .i64 (dst a)) ∧ w = w' := by
  by_cases h : a < 0
  · have HE := Lib.hid (show dst a = 0 by unfold dst; rw [if_pos h])
    go_enter Tryz.func50, Tryz.ntmps50
    go_wp2
    go_ret
    exact ⟨ret_int HE.out.symm, rfl⟩
  · by_cases hi : 4611686018427387904 < a
    · have HE := Lib.hid (show dst a = 4611686018427387904 by unfold dst; rw [if_neg h, if_pos hi])
      go_enter Tryz.func50, Tryz.ntmps50
      go_wp2
      go_ret
      exact ⟨ret_int HE.out.symm, rfl⟩
    · have HE := Lib.hid (show dst a = a by unfold dst; rw [if_neg h, if_neg hi])
      go_enter Tryz.func50, Tryz.ntmps50
      go_wp2
      go_ret
      exact ⟨ret_int HE.out.symm, rfl⟩
theorem dist_any (a : Int) (w : World) (_h0 : -9223372036854775808 ≤ a) (_h1 : a ≤ 9223372036854775807) : Calls Tryz.prog 102 #[.int .i64 a] w fun e w' => e = .returned (.int .i64 (dst a)) ∧ w = w' := by
  by_cases h : a < 0
  · have HE := Lib.hid (show dst a = 0 by unfold dst; rw [if_pos h])
    go_enter Tryz.func102, Tryz.ntmps102
    go_wp2
    go_ret
    exact ⟨ret_int HE.out.symm, rfl⟩
  · by_cases hi : 4611686018427387904 < a
    · have HE := Lib.hid (show dst a = 4611686018427387904 by unfold dst; rw [if_neg h, if_pos hi])
      go_enter Tryz.func102, Tryz.ntmps102
      go_wp2
      go_ret
      exact ⟨ret_int HE.out.symm, rfl⟩
    · have HE := Lib.hid (show dst a = a by unfold dst; rw [if_neg h, if_neg hi])
      go_enter Tryz.func102, Tryz.ntmps102
      go_wp2
      go_ret
      exact ⟨ret_int HE.out.symm, rfl⟩
theorem add_any (a b : Int) (w : World) (h0 : -9223372036854775808 ≤ a) (h1 : a ≤ 9223372036854775807) (h2 : -9223372036854775808 ≤ b) (h3 : b ≤ 9223372036854775807) : Calls Tryz.prog 26 #[.int .i64 a, .int .i64 b] w fun e w' => e = .returned (.int .i64 (addI a b)) ∧ w = w' := by
  obtain ⟨A, hA⟩ : ∃ A, dst a = A := ⟨_, rfl⟩
  obtain ⟨B, hB⟩ : ∃ B, dst b = B := ⟨_, rfl⟩
  have ga := dst_in a; have gb := dst_in b
  rw [hA] at ga; rw [hB] at gb
  obtain ⟨ga0, ga1⟩ := ga; obtain ⟨gb0, gb1⟩ := gb
  have HA := Lib.hid hA; have HB := Lib.hid hB; clear hA hB
  have ca := fun v : World => distance_any a v h0 h1
  have cb := fun v : World => distance_any b v h2 h3
  rw [HA.out] at ca; rw [HB.out] at cb
  have CA := Lib.hid ca; have CB := Lib.hid cb; clear ca cb
  by_cases hs : 4611686018427387904 < A + B
  · have HE := Lib.hid (show addI a b = 4611686018427387904 by unfold addI; rw [HA.out, HB.out, if_pos hs])
    go_enter Tryz.func26, Tryz.ntmps26
    go_wp2_with fail
    refine (CA.out _).mono ?_
    rintro e w' ⟨rfl, rfl⟩
    go_wp2_with fail
    refine (CB.out _).mono ?_
    rintro e w' ⟨rfl, rfl⟩
    go_wp2
    all_goals (try (exfalso; omega))
    all_goals (go_ret; exact ⟨ret_int (by rw [HE.out]; try omega), rfl⟩)
  · have HE := Lib.hid (show addI a b = A + B by unfold addI; rw [HA.out, HB.out, if_neg hs])
    go_enter Tryz.func26, Tryz.ntmps26
    go_wp2_with fail
    refine (CA.out _).mono ?_
    rintro e w' ⟨rfl, rfl⟩
    go_wp2_with fail
    refine (CB.out _).mono ?_
    rintro e w' ⟨rfl, rfl⟩
    go_wp2
    all_goals (try (exfalso; omega))
    all_goals (go_ret; exact ⟨ret_int (by rw [HE.out]; try omega), rfl⟩)
theorem apart_any (a b : Int) (w : World) (h0 : -9223372036854775808 ≤ a) (h1 : a ≤ 9223372036854775807) (h2 : -9223372036854775808 ≤ b) (h3 : b ≤ 9223372036854775807) : Calls Tryz.prog 141 #[.int .i64 a, .int .i64 b] w fun e w' => e = .returned (.int .i64 (apt a b)) ∧ w = w' := by
  obtain ⟨A, hA⟩ : ∃ A, dst a = A := ⟨_, rfl⟩
  obtain ⟨B, hB⟩ : ∃ B, dst b = B := ⟨_, rfl⟩
  have ga := dst_in a; have gb := dst_in b
  rw [hA] at ga; rw [hB] at gb
  obtain ⟨ga0, ga1⟩ := ga; obtain ⟨gb0, gb1⟩ := gb
  have HA := Lib.hid hA; have HB := Lib.hid hB; clear hA hB
  have ca := fun v : World => distance_any a v h0 h1
  have cb := fun v : World => distance_any b v h2 h3
  rw [HA.out] at ca; rw [HB.out] at cb
  have CA := Lib.hid ca; have CB := Lib.hid cb; clear ca cb
  by_cases hs : A < B
  · have HE := Lib.hid (show apt a b = B - A by unfold apt; rw [HA.out, HB.out, if_pos hs])
    go_enter Tryz.func141, Tryz.ntmps141
    go_wp2_with fail
    refine (CA.out _).mono ?_
    rintro e w' ⟨rfl, rfl⟩
    go_wp2_with fail
    refine (CB.out _).mono ?_
    rintro e w' ⟨rfl, rfl⟩
    go_wp2
    all_goals (try (exfalso; omega))
    all_goals (go_ret; exact ⟨ret_int (by rw [HE.out]; try omega), rfl⟩)
  · have HE := Lib.hid (show apt a b = A - B by unfold apt; rw [HA.out, HB.out, if_neg hs])
    go_enter Tryz.func141, Tryz.ntmps141
    go_wp2_with fail
    refine (CA.out _).mono ?_
    rintro e w' ⟨rfl, rfl⟩
    go_wp2_with fail
    refine (CB.out _).mono ?_
    rintro e w' ⟨rfl, rfl⟩
    go_wp2
    all_goals (try (exfalso; omega))
    all_goals (go_ret; exact ⟨ret_int (by rw [HE.out]; try omega), rfl⟩)
theorem radd_any (a b : Int) (w : World) (h0 : -9223372036854775808 ≤ a) (h1 : a ≤ 9223372036854775807) (h2 : -9223372036854775808 ≤ b) (h3 : b ≤ 9223372036854775807) : Calls Tryz.prog 88 #[.int .i64 a, .int .i64 b] w fun e w' => e = .returned (.int .i64 (addI a b)) ∧ w = w' := by
  obtain ⟨A, hA⟩ : ∃ A, dst a = A := ⟨_, rfl⟩
  obtain ⟨B, hB⟩ : ∃ B, dst b = B := ⟨_, rfl⟩
  have ga := dst_in a; have gb := dst_in b
  rw [hA] at ga; rw [hB] at gb
  obtain ⟨ga0, ga1⟩ := ga; obtain ⟨gb0, gb1⟩ := gb
  have HA := Lib.hid hA; have HB := Lib.hid hB; clear hA hB
  have ca := fun v : World => dist_any a v h0 h1
  have cb := fun v : World => dist_any b v h2 h3
  rw [HA.out] at ca; rw [HB.out] at cb
  have CA := Lib.hid ca; have CB := Lib.hid cb; clear ca cb
  by_cases hs : 4611686018427387904 < A + B
  · have HE := Lib.hid (show addI a b = 4611686018427387904 by unfold addI; rw [HA.out, HB.out, if_pos hs])
    go_enter Tryz.func88, Tryz.ntmps88
    go_wp2_with fail
    refine (CA.out _).mono ?_
    rintro e w' ⟨rfl, rfl⟩
    go_wp2_with fail
    refine (CB.out _).mono ?_
    rintro e w' ⟨rfl, rfl⟩
    go_wp2
    all_goals (try (exfalso; omega))
    all_goals (go_ret; exact ⟨ret_int (by rw [HE.out]; try omega), rfl⟩)
  · have HE := Lib.hid (show addI a b = A + B by unfold addI; rw [HA.out, HB.out, if_neg hs])
    go_enter Tryz.func88, Tryz.ntmps88
    go_wp2_with fail
    refine (CA.out _).mono ?_
    rintro e w' ⟨rfl, rfl⟩
    go_wp2_with fail
    refine (CB.out _).mono ?_
    rintro e w' ⟨rfl, rfl⟩
    go_wp2
    all_goals (try (exfalso; omega))
    all_goals (go_ret; exact ⟨ret_int (by rw [HE.out]; try omega), rfl⟩)
theorem rapart_any (a b : Int) (w : World) (h0 : -9223372036854775808 ≤ a) (h1 : a ≤ 9223372036854775807) (h2 : -9223372036854775808 ≤ b) (h3 : b ≤ 9223372036854775807) : Calls Tryz.prog 89 #[.int .i64 a, .int .i64 b] w fun e w' => e = .returned (.int .i64 (apt a b)) ∧ w = w' := by
  obtain ⟨A, hA⟩ : ∃ A, dst a = A := ⟨_, rfl⟩
  obtain ⟨B, hB⟩ : ∃ B, dst b = B := ⟨_, rfl⟩
  have ga := dst_in a; have gb := dst_in b
  rw [hA] at ga; rw [hB] at gb
  obtain ⟨ga0, ga1⟩ := ga; obtain ⟨gb0, gb1⟩ := gb
  have HA := Lib.hid hA; have HB := Lib.hid hB; clear hA hB
  have ca := fun v : World => dist_any a v h0 h1
  have cb := fun v : World => dist_any b v h2 h3
  rw [HA.out] at ca; rw [HB.out] at cb
  have CA := Lib.hid ca; have CB := Lib.hid cb; clear ca cb
  by_cases hs : A < B
  · have HE := Lib.hid (show apt a b = B - A by unfold apt; rw [HA.out, HB.out, if_pos hs])
    go_enter Tryz.func89, Tryz.ntmps89
    go_wp2_with fail
    refine (CA.out _).mono ?_
    rintro e w' ⟨rfl, rfl⟩
    go_wp2_with fail
    refine (CB.out _).mono ?_
    rintro e w' ⟨rfl, rfl⟩
    go_wp2
    all_goals (try (exfalso; omega))
    all_goals (go_ret; exact ⟨ret_int (by rw [HE.out]; try omega), rfl⟩)
  · have HE := Lib.hid (show apt a b = A - B by unfold apt; rw [HA.out, HB.out, if_neg hs])
    go_enter Tryz.func89, Tryz.ntmps89
    go_wp2_with fail
    refine (CA.out _).mono ?_
    rintro e w' ⟨rfl, rfl⟩
    go_wp2_with fail
    refine (CB.out _).mono ?_
    rintro e w' ⟨rfl, rfl⟩
    go_wp2
    all_goals (try (exfalso; omega))
    all_goals (go_ret; exact ⟨ret_int (by rw [HE.out]; try omega), rfl⟩)
theorem share_any (a n x e : Int) (w : World) (hx : Hid (shareI a n = (x, e))) (_h0 : -9223372036854775808 ≤ a) (h1 : a ≤ 9223372036854775807) (_h2 : -9223372036854775808 ≤ n) (_h3 : n ≤ 9223372036854775807) : Calls Tryz.prog 148 #[.int .i64 a, .int .i64 n] w fun r w' => r = .returned (.tuple #[.int .i64 x, .int .i64 e]) ∧ w = w' := by
  by_cases h : a < 0 ∨ n < 1
  · rw [shareI_bad a n h] at hx
    obtain ⟨rfl, rfl⟩ : 0 = x ∧ 2 = e := by have := hx.out; simpa using this
    clear hx
    rcases (show a < 0 ∨ (0 ≤ a ∧ n < 1) by omega) with ha | ⟨ha, hn⟩
    all_goals
      go_enter Tryz.func148, Tryz.ntmps148
      go_wp2
      go_ret2
      exact ⟨rfl, rfl⟩
  · have ha : 0 ≤ a := by omega
    have hn : 1 ≤ n := by omega
    clear h
    rw [shareI_ok a n ha hn] at hx
    have hr := share_le a n ha hn
    obtain ⟨h5, h6⟩ : a / n = x ∧ 0 = e := by have := hx.out; simpa using this
    subst h6
    rw [h5] at hr
    have HE := Lib.hid h5; clear h5 hx
    obtain ⟨h7, h8⟩ := hr
    go_enter Tryz.func148, Tryz.ntmps148
    go_wp2
    all_goals (try (exfalso; omega))
    go_ret2
    exact ⟨ret_two HE.out rfl, rfl⟩

end Go.Proofs.YtbbmgandkmlojaaGreat.Fx
