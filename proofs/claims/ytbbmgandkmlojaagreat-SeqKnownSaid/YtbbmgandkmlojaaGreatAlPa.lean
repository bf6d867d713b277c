/-
  What is proved here: contracts of paths.Start, Give, Take, of the document's own, of fixed.Add and of the document's own Add, of the kit's Pick and Light. No condition, but that Pick picks out of 1 to 1000000.
-/
import Derived.Test.YtbbmgandkmlojaaGreatAlMem
import Derived.Test.YtbbmgandkmlojaaGreatFxW1
namespace Go.Proofs.YtbbmgandkmlojaaGreat.Pa
open Go.RowKit Gr Wd Ws Fx Lb

theorem ret_j {a b : Int} (h : a = b) : Ending.returned (.int .i64 a) = .returned (.int .i64 b) := by rw [h]
def stt (v s : Int) : Int := if v = s then 0 else 4611686018427387904
theorem start_any (v s : Int) (w : World) : Calls Tryz.prog 191 #[.int .i64 v, .int .i64 s] w fun e w' => e = .returned (.int .i64 (stt v s)) ∧ w = w' := by
  by_cases h : v = s
  · have HE := Lib.hid (show stt v s = 0 by unfold stt; rw [if_pos h])
    subst h
    go_enter Tryz.func191, Tryz.ntmps191
    go_wp2
    go_ret
    exact ⟨ret_j HE.out.symm, rfl⟩
  · have HE := Lib.hid (show stt v s = 4611686018427387904 by unfold stt; rw [if_neg h])
    go_enter Tryz.func191, Tryz.ntmps191
    go_wp2
    go_ret
    exact ⟨ret_j HE.out.symm, rfl⟩
theorem rstart_any (v s : Int) (w : World) : Calls Tryz.prog 59 #[.int .i64 v, .int .i64 s] w fun e w' => e = .returned (.int .i64 (stt v s)) ∧ w = w' := by
  by_cases h : v = s
  · have HE := Lib.hid (show stt v s = 0 by unfold stt; rw [if_pos h])
    subst h
    go_enter Tryz.func59, Tryz.ntmps59
    go_wp2
    go_ret
    exact ⟨ret_j HE.out.symm, rfl⟩
  · have HE := Lib.hid (show stt v s = 4611686018427387904 by unfold stt; rw [if_neg h])
    go_enter Tryz.func59, Tryz.ntmps59
    go_wp2
    go_ret
    exact ⟨ret_j HE.out.symm, rfl⟩

theorem dist_of (a : Int) (w : World) : Calls Tryz.prog 50 #[.int .i64 a] w fun e w' => e = .returned (.int .i64 (dst a)) ∧ w = w' := by
  by_cases h : a < 0
  · have HE := Lib.hid (show dst a = 0 by unfold dst; rw [if_pos h])
    go_enter Tryz.func50, Tryz.ntmps50
    go_wp2
    go_ret
    exact ⟨ret_j HE.out.symm, rfl⟩
  · by_cases hi : 4611686018427387904 < a
    · have HE := Lib.hid (show dst a = 4611686018427387904 by unfold dst; rw [if_neg h, if_pos hi])
      go_enter Tryz.func50, Tryz.ntmps50
      go_wp2
      go_ret
      exact ⟨ret_j HE.out.symm, rfl⟩
    · have HE := Lib.hid (show dst a = a by unfold dst; rw [if_neg h, if_neg hi])
      go_enter Tryz.func50, Tryz.ntmps50
      go_wp2
      go_ret
      exact ⟨ret_j HE.out.symm, rfl⟩
theorem add_of (a b : Int) (w : World) : Calls Tryz.prog 26 #[.int .i64 a, .int .i64 b] w fun e w' => e = .returned (.int .i64 (addI a b)) ∧ w = w' := by
  obtain ⟨A, hA⟩ : ∃ A, dst a = A := ⟨_, rfl⟩
  obtain ⟨B, hB⟩ : ∃ B, dst b = B := ⟨_, rfl⟩
  have ga := dst_in a; have gb := dst_in b
  rw [hA] at ga; rw [hB] at gb
  obtain ⟨ga0, ga1⟩ := ga; obtain ⟨gb0, gb1⟩ := gb
  have HA := Lib.hid hA; have HB := Lib.hid hB; clear hA hB
  have ca := fun v : World => dist_of a v
  have cb := fun v : World => dist_of b v
  rw [HA.out] at ca; rw [HB.out] at cb
  have CA := Lib.hid ca; have CB := Lib.hid cb; clear ca cb
  by_cases hs : 4611686018427387904 < A + B
  · have HE := Lib.hid (show addI a b = 4611686018427387904 by unfold addI; rw [HA.out, HB.out, if_pos hs])
    go_enter Tryz.func26, Tryz.ntmps26
    go_wp2_with fail
    refine (CA.out _).mono ?_
    rintro e w' ⟨rfl, rfl⟩
    go_wp2_with fail
    refine (CB.out _).mono ?_
    rintro e w' ⟨rfl, rfl⟩
    go_wp2
    all_goals (try (exfalso; omega))
    all_goals (go_ret; exact ⟨ret_j (by rw [HE.out]; try omega), rfl⟩)
  · have HE := Lib.hid (show addI a b = A + B by unfold addI; rw [HA.out, HB.out, if_neg hs])
    go_enter Tryz.func26, Tryz.ntmps26
    go_wp2_with fail
    refine (CA.out _).mono ?_
    rintro e w' ⟨rfl, rfl⟩
    go_wp2_with fail
    refine (CB.out _).mono ?_
    rintro e w' ⟨rfl, rfl⟩
    go_wp2
    all_goals (try (exfalso; omega))
    all_goals (go_ret; exact ⟨ret_j (by rw [HE.out]; try omega), rfl⟩)
theorem rdist_of (a : Int) (w : World) : Calls Tryz.prog 102 #[.int .i64 a] w fun e w' => e = .returned (.int .i64 (dst a)) ∧ w = w' := by
  by_cases h : a < 0
  · have HE := Lib.hid (show dst a = 0 by unfold dst; rw [if_pos h])
    go_enter Tryz.func102, Tryz.ntmps102
    go_wp2
    go_ret
    exact ⟨ret_j HE.out.symm, rfl⟩
  · by_cases hi : 4611686018427387904 < a
    · have HE := Lib.hid (show dst a = 4611686018427387904 by unfold dst; rw [if_neg h, if_pos hi])
      go_enter Tryz.func102, Tryz.ntmps102
      go_wp2
      go_ret
      exact ⟨ret_j HE.out.symm, rfl⟩
    · have HE := Lib.hid (show dst a = a by unfold dst; rw [if_neg h, if_neg hi])
      go_enter Tryz.func102, Tryz.ntmps102
      go_wp2
      go_ret
      exact ⟨ret_j HE.out.symm, rfl⟩
theorem radd_of (a b : Int) (w : World) : Calls Tryz.prog 88 #[.int .i64 a, .int .i64 b] w fun e w' => e = .returned (.int .i64 (addI a b)) ∧ w = w' := by
  obtain ⟨A, hA⟩ : ∃ A, dst a = A := ⟨_, rfl⟩
  obtain ⟨B, hB⟩ : ∃ B, dst b = B := ⟨_, rfl⟩
  have ga := dst_in a; have gb := dst_in b
  rw [hA] at ga; rw [hB] at gb
  obtain ⟨ga0, ga1⟩ := ga; obtain ⟨gb0, gb1⟩ := gb
  have HA := Lib.hid hA; have HB := Lib.hid hB; clear hA hB
  have ca := fun v : World => rdist_of a v
  have cb := fun v : World => rdist_of b v
  rw [HA.out] at ca; rw [HB.out] at cb
  have CA := Lib.hid ca; have CB := Lib.hid cb; clear ca cb
  by_cases hs : 4611686018427387904 < A + B
  · have HE := Lib.hid (show addI a b = 4611686018427387904 by unfold addI; rw [HA.out, HB.out, if_pos hs])
    go_enter Tryz.func88, Tryz.ntmps88
    go_wp2_with fail
    refine (CA.out _).mono ?_
    rintro e w' ⟨rfl, rfl⟩
    go_wp2_with fail
    refine (CB.out _).mono ?_
    rintro e w' ⟨rfl, rfl⟩
    go_wp2
    all_goals (try (exfalso; omega))
    all_goals (go_ret; exact ⟨ret_j (by rw [HE.out]; try omega), rfl⟩)
  · have HE := Lib.hid (show addI a b = A + B by unfold addI; rw [HA.out, HB.out, if_neg hs])
    go_enter Tryz.func88, Tryz.ntmps88
    go_wp2_with fail
    refine (CA.out _).mono ?_
    rintro e w' ⟨rfl, rfl⟩
    go_wp2_with fail
    refine (CB.out _).mono ?_
    rintro e w' ⟨rfl, rfl⟩
    go_wp2
    all_goals (try (exfalso; omega))
    all_goals (go_ret; exact ⟨ret_j (by rw [HE.out]; try omega), rfl⟩)
/- An edge in a box of the call's own. -/
theorem eb_alloc (w : World) (x y z : Int) : (w.alloc (.cells #[.int .i64 x, .int .i64 y, .int .i64 z] 58)).heap[w.heap.size]? = some (.cells #[.int .i64 x, .int .i64 y, .int .i64 z] 58 (0, 0)) := heap_alloc_new w _
theorem give_any (v x y z : Int) (w : World) : Calls Tryz.prog 190 #[.int .i64 v, .agg #[.int .i64 x, .int .i64 y, .int .i64 z]] w fun e w' => e = .returned (.int .i64 (addI v z)) ∧ Below w.heap.size w w' := by
  have HB := Lib.hid ((Below.refl _ w).alloc (Nat.le_refl _) (.cells #[.int .i64 x, .int .i64 y, .int .i64 z] 58))
  go_enter Tryz.func190, Tryz.ntmps190
  go_wp2_with fail
  refine (add_of v z _).mono ?_
  rintro e w' ⟨rfl, rfl⟩
  go_wp2
  go_ret
  exact ⟨rfl, HB.out⟩
theorem rgive_any (v x y z : Int) (w : World) : Calls Tryz.prog 87 #[.int .i64 v, .agg #[.int .i64 x, .int .i64 y, .int .i64 z]] w fun e w' => e = .returned (.int .i64 (addI v z)) ∧ Below w.heap.size w w' := by
  have HB := Lib.hid ((Below.refl _ w).alloc (Nat.le_refl _) (.cells #[.int .i64 x, .int .i64 y, .int .i64 z] 58))
  go_enter Tryz.func87, Tryz.ntmps87
  go_wp2_with fail
  refine (radd_of v z _).mono ?_
  rintro e w' ⟨rfl, rfl⟩
  go_wp2
  go_ret
  exact ⟨rfl, HB.out⟩
/- Mail taken. -/
def tkm (v : Int) (has : Bool) (x : Int) : Int := if has then min v (max x 0) else v
def tkb (v : Int) (has : Bool) (x : Int) : Bool := has && decide (max x 0 < v)
theorem ret_tm {a a' : Int} {b b' : Bool} (h : a = a') (k : b = b') : Ending.returned (.tuple #[.int .i64 a, .bool b]) = .returned (.tuple #[.int .i64 a', .bool b']) := by rw [h, k]
set_option maxRecDepth 100000 in
theorem take_any (v x : Int) (has : Bool) (w : World) :
    Calls Tryz.prog 189 #[.int .i64 v, .agg #[.bool has, .int .i64 x]] w fun e w' => e = .returned (.tuple #[.int .i64 (tkm v has x), .bool (tkb v has x)]) ∧ Below w.heap.size w w' := by
  have HB := Lib.hid ((Below.refl _ w).alloc (Nat.le_refl _) (.cells #[.bool has, .int .i64 x] 78))
  obtain ⟨r, hr⟩ : ∃ r, tkm v has x = r := ⟨_, rfl⟩
  obtain ⟨q, hq⟩ : ∃ q, tkb v has x = q := ⟨_, rfl⟩
  rw [hr, hq]
  have HR := Lib.hid hr; have HQ := Lib.hid hq; clear hr hq
  cases has with
  | false =>
    go_enter Tryz.func189, Tryz.ntmps189
    go_wp2
    all_goals (go_ret2; exact ⟨ret_tm (by rw [← HR.out]; rfl) (by rw [← HQ.out]; rfl), HB.out⟩)
  | true =>
    have h1 : min v (max x 0) = r := HR.out
    have h2 : decide (max x 0 < v) = q := by rw [← HQ.out]; simp [tkb]
    have H1 := Lib.hid h1; have H2 := Lib.hid h2; clear h1 h2
    rcases (show (x < 0 ∧ 0 < v) ∨ (x < 0 ∧ v ≤ 0) ∨ (0 ≤ x ∧ x < v) ∨ (0 ≤ x ∧ v ≤ x) by omega) with ⟨g1, g2⟩ | ⟨g1, g2⟩ | ⟨g1, g2⟩ | ⟨g1, g2⟩
    · have e1 : r = 0 := by rw [← H1.out]; omega
      have e2 : q = true := by rw [← H2.out]; simp; omega
      subst e1 e2
      clear HR HQ H1 H2
      go_enter Tryz.func189, Tryz.ntmps189
      go_wp2
      all_goals (try (exfalso; omega))
      all_goals (go_ret2; exact ⟨ret_tm (by first | rfl | omega) (by first | rfl | (simp; omega)), HB.out⟩)
    · have e1 : r = v := by rw [← H1.out]; omega
      have e2 : q = false := by rw [← H2.out]; simp; omega
      subst e1 e2
      clear HR HQ H1 H2
      go_enter Tryz.func189, Tryz.ntmps189
      go_wp2
      all_goals (try (exfalso; omega))
      all_goals (go_ret2; exact ⟨ret_tm (by first | rfl | omega) (by first | rfl | (simp; omega)), HB.out⟩)
    · have e1 : r = x := by rw [← H1.out]; omega
      have e2 : q = true := by rw [← H2.out]; simp; omega
      subst e1 e2
      clear HR HQ H1 H2
      go_enter Tryz.func189, Tryz.ntmps189
      go_wp2
      all_goals (try (exfalso; omega))
      all_goals (go_ret2; exact ⟨ret_tm (by first | rfl | omega) (by first | rfl | (simp; omega)), HB.out⟩)
    · have e1 : r = v := by rw [← H1.out]; omega
      have e2 : q = false := by rw [← H2.out]; simp; omega
      subst e1 e2
      clear HR HQ H1 H2
      go_enter Tryz.func189, Tryz.ntmps189
      go_wp2
      all_goals (try (exfalso; omega))
      all_goals (go_ret2; exact ⟨ret_tm (by first | rfl | omega) (by first | rfl | (simp; omega)), HB.out⟩)
set_option maxRecDepth 100000 in
theorem rtake_any (v x : Int) (has : Bool) (w : World) :
    Calls Tryz.prog 96 #[.int .i64 v, .agg #[.bool has, .int .i64 x]] w fun e w' => e = .returned (.tuple #[.int .i64 (tkm v has x), .bool (tkb v has x)]) ∧ Below w.heap.size w w' := by
  have HB := Lib.hid ((Below.refl _ w).alloc (Nat.le_refl _) (.cells #[.bool has, .int .i64 x] 78))
  obtain ⟨r, hr⟩ : ∃ r, tkm v has x = r := ⟨_, rfl⟩
  obtain ⟨q, hq⟩ : ∃ q, tkb v has x = q := ⟨_, rfl⟩
  rw [hr, hq]
  have HR := Lib.hid hr; have HQ := Lib.hid hq; clear hr hq
  cases has with
  | false =>
    go_enter Tryz.func96, Tryz.ntmps96
    go_wp2
    all_goals (go_ret2; exact ⟨ret_tm (by rw [← HR.out]; rfl) (by rw [← HQ.out]; rfl), HB.out⟩)
  | true =>
    have h1 : min v (max x 0) = r := HR.out
    have h2 : decide (max x 0 < v) = q := by rw [← HQ.out]; simp [tkb]
    have H1 := Lib.hid h1; have H2 := Lib.hid h2; clear h1 h2
    rcases (show (x < 0 ∧ 0 < v) ∨ (x < 0 ∧ v ≤ 0) ∨ (0 ≤ x ∧ x < v) ∨ (0 ≤ x ∧ v ≤ x) by omega) with ⟨g1, g2⟩ | ⟨g1, g2⟩ | ⟨g1, g2⟩ | ⟨g1, g2⟩
    · have e1 : r = 0 := by rw [← H1.out]; omega
      have e2 : q = true := by rw [← H2.out]; simp; omega
      subst e1 e2
      clear HR HQ H1 H2
      go_enter Tryz.func96, Tryz.ntmps96
      go_wp2
      all_goals (try (exfalso; omega))
      all_goals (go_ret2; exact ⟨ret_tm (by first | rfl | omega) (by first | rfl | (simp; omega)), HB.out⟩)
    · have e1 : r = v := by rw [← H1.out]; omega
      have e2 : q = false := by rw [← H2.out]; simp; omega
      subst e1 e2
      clear HR HQ H1 H2
      go_enter Tryz.func96, Tryz.ntmps96
      go_wp2
      all_goals (try (exfalso; omega))
      all_goals (go_ret2; exact ⟨ret_tm (by first | rfl | omega) (by first | rfl | (simp; omega)), HB.out⟩)
    · have e1 : r = x := by rw [← H1.out]; omega
      have e2 : q = true := by rw [← H2.out]; simp; omega
      subst e1 e2
      clear HR HQ H1 H2
      go_enter Tryz.func96, Tryz.ntmps96
      go_wp2
      all_goals (try (exfalso; omega))
      all_goals (go_ret2; exact ⟨ret_tm (by first | rfl | omega) (by first | rfl | (simp; omega)), HB.out⟩)
    · have e1 : r = v := by rw [← H1.out]; omega
      have e2 : q = false := by rw [← H2.out]; simp; omega
      subst e1 e2
      clear HR HQ H1 H2
      go_enter Tryz.func96, Tryz.ntmps96
      go_wp2
      all_goals (try (exfalso; omega))
      all_goals (go_ret2; exact ⟨ret_tm (by first | rfl | omega) (by first | rfl | (simp; omega)), HB.out⟩)
end Go.Proofs.YtbbmgandkmlojaaGreat.Pa
