/-
  What is proved here: contracts of paths.Start, Give, Take, of the document's own, of fixed.Add and of the document's own Add, of the kit's Pick and Light. No condition, but that Pick picks out of 1 to 1000000.
-/
import Derived.Test.YtkbmmlombigkmaaGreatQbMnMkx
import Derived.Test.YtkbmmlombigkmaaGreatQbRkW1x
namespace Go.Proofs.YtkbmmlombigkmaaGreat.Pa
open Go.RowKit Gr Wd Ws Fx Lb
theorem ret_j {a b : Int} (h : a = b) : Ending.returned (.int .i64 a) = .returned (.int .i64 b) := by rw [h]
def stt (v s : Int) : Int := if v = s then 0 else 4611686018427387904
theorem start_any (v s : Int) (w : World) : Calls Tryz.prog 49 #[.int .i64 v, .int .i64 s] w fun e w' => e = .returned (.int .i64 (stt v s)) ∧ w = w' := by
  by_cases h : v = s
  · have HE := Lib.hid (show stt v s = 0 by unfold stt; rw [if_pos h])
    subst h
    go_enter Tryz.func49, Tryz.ntmps49
    go_wp2
    go_ret
    exact ⟨ret_j HE.out.symm, rfl⟩
  · have HE := Lib.hid (show stt v s = 4611686018427387904 by unfold stt; rw [if_neg h])
    go_enter Tryz.func49, Tryz.ntmps49
    go_wp2
    go_ret
    exact ⟨ret_j HE.out.symm, rfl⟩
theorem dist_of (a : Int) (w : World) : Calls Tryz.prog 89 #[.int .i64 a] w fun e w' => e = .returned (.int .i64 (dst a)) ∧ w = w' := by
  by_cases h : a < 0
  · have HE := Lib.hid (show dst a = 0 by unfold dst; rw [if_pos h])
    go_enter Tryz.func89, Tryz.ntmps89
    go_wp2
    go_ret
    exact ⟨ret_j HE.out.symm, rfl⟩
  · by_cases hi : 4611686018427387904 < a
    · have HE := Lib.hid (show dst a = 4611686018427387904 by unfold dst; rw [if_neg h, if_pos hi])
      go_enter Tryz.func89, Tryz.ntmps89
      go_wp2
      go_ret
      exact ⟨ret_j HE.out.symm, rfl⟩
    · have HE := Lib.hid (show dst a = a by unfold dst; rw [if_neg h, if_neg hi])
      go_enter Tryz.func89, Tryz.ntmps89
      go_wp2
      go_ret
      exact ⟨ret_j HE.out.symm, rfl⟩
theorem add_of (a b : Int) (w : World) : Calls Tryz.prog 75 #[.int .i64 a, .int .i64 b] w fun e w' => e = .returned (.int .i64 (addI a b)) ∧ w = w' := by
  obtain ⟨A, hA⟩ : ∃ A, dst a = A := ⟨_, rfl⟩
  obtain ⟨B, hB⟩ : ∃ B, dst b = B := ⟨_, rfl⟩
  have ga := dst_in a; have gb := dst_in b
  rw [hA] at ga; rw [hB] at gb
  obtain ⟨ga0, ga1⟩ := ga; obtain ⟨gb0, gb1⟩ := gb
  have HA := Lib.hid hA; have HB := Lib.hid hB; clear hA hB
  have ca := fun v : World => dist_of a v
  have cb := fun v : World => dist_of b v
  rw [HA.out] at ca; rw [HB.out] at cb
  have CA := Lib.hid ca; have CB := Lib.hid cb; clear ca cb
  by_cases hs : 4611686018427387904 < A + B
  · have HE := Lib.hid (show addI a b = 4611686018427387904 by unfold addI; rw [HA.out, HB.out, if_pos hs])
    go_enter Tryz.func75, Tryz.ntmps75
    go_wp2_with fail
    refine (CA.out _).mono ?_
    rintro e w' ⟨rfl, rfl⟩
    go_wp2_with fail
    refine (CB.out _).mono ?_
    rintro e w' ⟨rfl, rfl⟩
    go_wp2
    all_goals (try (exfalso; omega))
    all_goals (go_ret; exact ⟨ret_j (by rw [HE.out]; try omega), rfl⟩)
  · have HE := Lib.hid (show addI a b = A + B by unfold addI; rw [HA.out, HB.out, if_neg hs])
    go_enter Tryz.func75, Tryz.ntmps75
    go_wp2_with fail
    refine (CA.out _).mono ?_
    rintro e w' ⟨rfl, rfl⟩
    go_wp2_with fail
    refine (CB.out _).mono ?_
    rintro e w' ⟨rfl, rfl⟩
    go_wp2
    all_goals (try (exfalso; omega))
    all_goals (go_ret; exact ⟨ret_j (by rw [HE.out]; try omega), rfl⟩)
theorem rdist_of (a : Int) (w : World) : Calls Tryz.prog 55 #[.int .i64 a] w fun e w' => e = .returned (.int .i64 (dst a)) ∧ w = w' := by
  by_cases h : a < 0
  · have HE := Lib.hid (show dst a = 0 by unfold dst; rw [if_pos h])
    go_enter Tryz.func55, Tryz.ntmps55
    go_wp2
    go_ret
    exact ⟨ret_j HE.out.symm, rfl⟩
  · by_cases hi : 4611686018427387904 < a
    · have HE := Lib.hid (show dst a = 4611686018427387904 by unfold dst; rw [if_neg h, if_pos hi])
      go_enter Tryz.func55, Tryz.ntmps55
      go_wp2
      go_ret
      exact ⟨ret_j HE.out.symm, rfl⟩
    · have HE := Lib.hid (show dst a = a by unfold dst; rw [if_neg h, if_neg hi])
      go_enter Tryz.func55, Tryz.ntmps55
      go_wp2
      go_ret
      exact ⟨ret_j HE.out.symm, rfl⟩
theorem radd_of (a b : Int) (w : World) : Calls Tryz.prog 30 #[.int .i64 a, .int .i64 b] w fun e w' => e = .returned (.int .i64 (addI a b)) ∧ w = w' := by
  obtain ⟨A, hA⟩ : ∃ A, dst a = A := ⟨_, rfl⟩
  obtain ⟨B, hB⟩ : ∃ B, dst b = B := ⟨_, rfl⟩
  have ga := dst_in a; have gb := dst_in b
  rw [hA] at ga; rw [hB] at gb
  obtain ⟨ga0, ga1⟩ := ga; obtain ⟨gb0, gb1⟩ := gb
  have HA := Lib.hid hA; have HB := Lib.hid hB; clear hA hB
  have ca := fun v : World => rdist_of a v
  have cb := fun v : World => rdist_of b v
  rw [HA.out] at ca; rw [HB.out] at cb
  have CA := Lib.hid ca; have CB := Lib.hid cb; clear ca cb
  by_cases hs : 4611686018427387904 < A + B
  · have HE := Lib.hid (show addI a b = 4611686018427387904 by unfold addI; rw [HA.out, HB.out, if_pos hs])
    go_enter Tryz.func30, Tryz.ntmps30
    go_wp2_with fail
    refine (CA.out _).mono ?_
    rintro e w' ⟨rfl, rfl⟩
    go_wp2_with fail
    refine (CB.out _).mono ?_
    rintro e w' ⟨rfl, rfl⟩
    go_wp2
    all_goals (try (exfalso; omega))
    all_goals (go_ret; exact ⟨ret_j (by rw [HE.out]; try omega), rfl⟩)
  · have HE := Lib.hid (show addI a b = A + B by unfold addI; rw [HA.out, HB.out, if_neg hs])
    go_enter Tryz.func30, Tryz.ntmps30
    go_wp2_with fail
    refine (CA.out _).mono ?_
    rintro e w' ⟨rfl, rfl⟩
    go_wp2_with fail
    refine (CB.out _).mono ?_
    rintro e w' ⟨rfl, rfl⟩
    go_wp2
    all_goals (try (exfalso; omega))
    all_goals (go_ret; exact ⟨ret_j (by rw [HE.out]; try omega), rfl⟩)
theorem eb_alloc (w : World) (x y z : Int) : (w.alloc (.cells #[.int .i64 x, .int .i64 y, .int .i64 z] 33)).heap[w.heap.size]? = some (.cells #[.int .i64 x, .int .i64 y, .int .i64 z] 33 (0, 0)) := heap_alloc_new w _
theorem give_any (v x y z : Int) (w : World) : Calls Tryz.prog 53 #[.int .i64 v, .agg #[.int .i64 x, .int .i64 y, .int .i64 z]] w fun e w' => e = .returned (.int .i64 (addI v z)) ∧ Below w.heap.size w w' := by
  have HB := Lib.hid ((Below.refl _ w).alloc (Nat.le_refl _) (.cells #[.int .i64 x, .int .i64 y, .int .i64 z] 33))
  go_enter Tryz.func53, Tryz.ntmps53
  go_wp2_with fail
  refine (add_of v z _).mono ?_
  rintro e w' ⟨rfl, rfl⟩
  go_wp2
  go_ret
  exact ⟨rfl, HB.out⟩
def tkm (v : Int) (has : Bool) (x : Int) : Int := if has then min v (max x 0) else v
def tkb (v : Int) (has : Bool) (x : Int) : Bool := has && decide (max x 0 < v)
end Go.Proofs.YtkbmmlombigkmaaGreat.Pa
