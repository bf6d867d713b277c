/-
  What is proved here: contracts of paths.Start, Give, Take, of the document's own, of fixed.Add and of the document's own Add, of the kit's Pick and Light. No condition, but that Pick picks out of 1 to 1000000.
-/
import Derived.Test.YtgkmmjlhphinhaaAlMem
import Derived.Test.YtgkmmjlhphinhaaFxW1
namespace Go.Proofs.Ytgkmmjlhphinhaa.Pa
open Go.RowKit Gr Wd Ws Fx Lb

theorem ret_j {a b : Int} (h : a = b) : Ending.returned (.int .i64 a) = .returned (.int .i64 b) := by rw [h]
def stt (v s : Int) : Int := if v = s then 0 else 4611686018427387904
theorem dist_of (a : Int) (w : World) : Calls Try.prog 83 #[.int .i64 a] w fun e w' => e = .returned (.int .i64 (dst a)) ∧ w = w' := by
  by_cases h : a < 0
  · have HE := Lib.hid (show dst a = 0 by unfold dst; rw [if_pos h])
    go_enter Try.func83, Try.ntmps83
    go_wp2
    go_ret
    exact ⟨ret_j HE.out.symm, rfl⟩
  · by_cases hi : 4611686018427387904 < a
    · have HE := Lib.hid (show dst a = 4611686018427387904 by unfold dst; rw [if_neg h, if_pos hi])
      go_enter Try.func83, Try.ntmps83
      go_wp2
      go_ret
      exact ⟨ret_j HE.out.symm, rfl⟩
    · have HE := Lib.hid (show dst a = a by unfold dst; rw [if_neg h, if_neg hi])
      go_enter Try.func83, Try.ntmps83
      go_wp2
      go_ret
      exact ⟨ret_j HE.out.symm, rfl⟩
theorem add_of (a b : Int) (w : World) : Calls Try.prog 82 #[.int .i64 a, .int .i64 b] w fun e w' => e = .returned (.int .i64 (addI a b)) ∧ w = w' := by
  obtain ⟨A, hA⟩ : ∃ A, dst a = A := ⟨_, rfl⟩
  obtain ⟨B, hB⟩ : ∃ B, dst b = B := ⟨_, rfl⟩
  have ga := dst_in a; have gb := dst_in b
  rw [hA] at ga; rw [hB] at gb
  obtain ⟨ga0, ga1⟩ := ga; obtain ⟨gb0, gb1⟩ := gb
  have HA := Lib.hid hA; have HB := Lib.hid hB; clear hA hB
  have ca := fun v : World => dist_of a v
  have cb := fun v : World => dist_of b v
  rw [HA.out] at ca; rw [HB.out] at cb
  have CA := Lib.hid ca; have CB := Lib.hid cb; clear ca cb
  by_cases hs : 4611686018427387904 < A + B
  · have HE := Lib.hid (show addI a b = 4611686018427387904 by unfold addI; rw [HA.out, HB.out, if_pos hs])
    go_enter Try.func82, Try.ntmps82
    go_wp2_with fail
    refine (CA.out _).mono ?_
    rintro e w' ⟨rfl, rfl⟩
    go_wp2_with fail
    refine (CB.out _).mono ?_
    rintro e w' ⟨rfl, rfl⟩
    go_wp2
    all_goals (try (exfalso; omega))
    all_goals (go_ret; exact ⟨ret_j (by rw [HE.out]; try omega), rfl⟩)
  · have HE := Lib.hid (show addI a b = A + B by unfold addI; rw [HA.out, HB.out, if_neg hs])
    go_enter Try.func82, Try.ntmps82
    go_wp2_with fail
    refine (CA.out _).mono ?_
    rintro e w' ⟨rfl, rfl⟩
    go_wp2_with fail
    refine (CB.out _).mono ?_
    rintro e w' ⟨rfl, rfl⟩
    go_wp2
    all_goals (try (exfalso; omega))
    all_goals (go_ret; exact ⟨ret_j (by rw [HE.out]; try omega), rfl⟩)
theorem rdist_of (a : Int) (w : World) : Calls Try.prog 51 #[.int .i64 a] w fun e w' => e = .returned (.int .i64 (dst a)) ∧ w = w' := by
  by_cases h : a < 0
  · have HE := Lib.hid (show dst a = 0 by unfold dst; rw [if_pos h])
    go_enter Try.func51, Try.ntmps51
    go_wp2
    go_ret
    exact ⟨ret_j HE.out.symm, rfl⟩
  · by_cases hi : 4611686018427387904 < a
    · have HE := Lib.hid (show dst a = 4611686018427387904 by unfold dst; rw [if_neg h, if_pos hi])
      go_enter Try.func51, Try.ntmps51
      go_wp2
      go_ret
      exact ⟨ret_j HE.out.symm, rfl⟩
    · have HE := Lib.hid (show dst a = a by unfold dst; rw [if_neg h, if_neg hi])
      go_enter Try.func51, Try.ntmps51
      go_wp2
      go_ret
      exact ⟨ret_j HE.out.symm, rfl⟩
theorem radd_of (a b : Int) (w : World) : Calls Try.prog 38 #[.int .i64 a, .int .i64 b] w fun e w' => e = .returned (.int .i64 (addI a b)) ∧ w = w' := by
  obtain ⟨A, hA⟩ : ∃ A, dst a = A := ⟨_, rfl⟩
  obtain ⟨B, hB⟩ : ∃ B, dst b = B := ⟨_, rfl⟩
  have ga := dst_in a; have gb := dst_in b
  rw [hA] at ga; rw [hB] at gb
  obtain ⟨ga0, ga1⟩ := ga; obtain ⟨gb0, gb1⟩ := gb
  have HA := Lib.hid hA; have HB := Lib.hid hB; clear hA hB
  have ca := fun v : World => rdist_of a v
  have cb := fun v : World => rdist_of b v
  rw [HA.out] at ca; rw [HB.out] at cb
  have CA := Lib.hid ca; have CB := Lib.hid cb; clear ca cb
  by_cases hs : 4611686018427387904 < A + B
  · have HE := Lib.hid (show addI a b = 4611686018427387904 by unfold addI; rw [HA.out, HB.out, if_pos hs])
    go_enter Try.func38, Try.ntmps38
    go_wp2_with fail
    refine (CA.out _).mono ?_
    rintro e w' ⟨rfl, rfl⟩
    go_wp2_with fail
    refine (CB.out _).mono ?_
    rintro e w' ⟨rfl, rfl⟩
    go_wp2
    all_goals (try (exfalso; omega))
    all_goals (go_ret; exact ⟨ret_j (by rw [HE.out]; try omega), rfl⟩)
  · have HE := Lib.hid (show addI a b = A + B by unfold addI; rw [HA.out, HB.out, if_neg hs])
    go_enter Try.func38, Try.ntmps38
    go_wp2_with fail
    refine (CA.out _).mono ?_
    rintro e w' ⟨rfl, rfl⟩
    go_wp2_with fail
    refine (CB.out _).mono ?_
    rintro e w' ⟨rfl, rfl⟩
    go_wp2
    all_goals (try (exfalso; omega))
    all_goals (go_ret; exact ⟨ret_j (by rw [HE.out]; try omega), rfl⟩)
/- An edge in a box of the call's own. -/
theorem eb_alloc (w : World) (x y z : Int) : (w.alloc (.cells #[.int .i64 x, .int .i64 y, .int .i64 z] 120)).heap[w.heap.size]? = some (.cells #[.int .i64 x, .int .i64 y, .int .i64 z] 120 (0, 0)) := heap_alloc_new w _
/- Mail taken. -/
def tkm (v : Int) (has : Bool) (x : Int) : Int := if has then min v (max x 0) else v
def tkb (v : Int) (has : Bool) (x : Int) : Bool := has && decide (max x 0 < v)
theorem ret_tm {a a' : Int} {b b' : Bool} (h : a = a') (k : b = b') : Ending.returned (.tuple #[.int .i64 a, .bool b]) = .returned (.tuple #[.int .i64 a', .bool b']) := by rw [h, k]
end Go.Proofs.Ytgkmmjlhphinhaa.Pa
