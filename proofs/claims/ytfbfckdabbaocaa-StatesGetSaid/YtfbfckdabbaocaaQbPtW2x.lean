/-
  What is proved here: contracts of parts.Of, workersMayBe, isWorker and of the document's own Of. Conditions: numbers fit an int. What is proved here: contracts of what holds two rows of numbers against one another, of Place and slices.Index, of Owned and the document's own. Conditions: numbers and counts fit an int.
-/
import Derived.Test.YtfbfckdabbaocaaQbPtMemx
import Derived.Outline
import Derived.IntWalk
namespace Go.Proofs.Ytfbfckdabbaocaa.Pt
open Go.RowKit Gr Wd Ws
theorem may_any (k : Int) (w : World) : Calls Try.prog 80 #[.int .i64 k] w fun e w' => e = .returned (.bool (decide (1 ≤ k) && decide (k ≤ 64))) ∧ w = w' := by
  by_cases h1 : 1 ≤ k
  · go_enter Try.func80, Try.ntmps80
    go_wp2
    go_ret
    refine ⟨ret_b ?_, rfl⟩
    simp [h1]
  · go_enter Try.func80, Try.ntmps80
    go_wp2
    go_ret
    refine ⟨ret_b ?_, rfl⟩
    simp; omega
theorem may_at (k : Int) (r : Bool) (w : World) (hr : Hid ((decide (1 ≤ k) && decide (k ≤ 64)) = r)) : Calls Try.prog 80 #[.int .i64 k] w fun e w' => e = .returned (.bool r) ∧ w = w' := by
  rw [← hr.out]; exact may_any k w
def isK (w k : Int) : Bool := decide (1 ≤ k ∧ k ≤ 64 ∧ 0 ≤ w ∧ w < k)
theorem isWorker_any (x k : Int) (w : World) : Calls Try.prog 72 #[.int .i64 x, .int .i64 k] w fun e w' => e = .returned (.bool (isK x k)) ∧ w = w' := by
  by_cases h : 1 ≤ k ∧ k ≤ 64
  · have HM := fun W => may_at k true W (Lib.hid (by simp [h]))
    by_cases h1 : 0 ≤ x
    · go_enter Try.func72, Try.ntmps72
      go_wp2_with fail
      refine (HM _).mono ?_
      rintro e w' ⟨rfl, rfl⟩
      go_wp2_with fail
      go_ret
      refine ⟨ret_b ?_, rfl⟩
      simp [isK, h, h1]
    · go_enter Try.func72, Try.ntmps72
      go_wp2_with fail
      refine (HM _).mono ?_
      rintro e w' ⟨rfl, rfl⟩
      go_wp2_with fail
      go_ret
      refine ⟨ret_b ?_, rfl⟩
      simp [isK]; omega
  · have HM := fun W => may_at k false W (Lib.hid (by simp; omega))
    go_enter Try.func72, Try.ntmps72
    go_wp2_with fail
    refine (HM _).mono ?_
    rintro e w' ⟨rfl, rfl⟩
    go_wp2_with fail
    go_ret
    refine ⟨ret_b ?_, rfl⟩
    simp [isK]; omega
set_option maxRecDepth 100000 in
theorem of_any (v k : Int) (w : World) : Calls Try.prog 73 #[.int .i64 v, .int .i64 k] w fun e w' => e = .returned (.int .i64 (ofI v k)) ∧ w = w' := by
  by_cases h0 : v < 0
  · rw [ofI_not (by omega)]
    go_enter Try.func73, Try.ntmps73
    go_wp2
    go_ret
    exact ⟨rfl, rfl⟩
  · by_cases h1 : 512 ≤ v
    · rw [ofI_not (by omega)]
      go_enter Try.func73, Try.ntmps73
      go_wp2
      go_ret
      exact ⟨rfl, rfl⟩
    · by_cases h : 1 ≤ k ∧ k ≤ 64
      · have HM := fun W => may_at k true W (Lib.hid (by simp [h]))
        obtain ⟨x, hx⟩ : ∃ x, 2654435761 * v % 4294967296 = x := ⟨_, rfl⟩
        obtain ⟨z, hz⟩ : ∃ z, x * k = z := ⟨_, rfl⟩
        obtain ⟨q, hq⟩ : ∃ q, z / 4294967296 = q := ⟨_, rfl⟩
        have ho : ofI v k = q := by unfold ofI; rw [if_pos (by omega), hx, hz, hq]
        rw [ho]
        go_enter Try.func73, Try.ntmps73
        go_wp2_with fail
        refine (HM _).mono ?_
        rintro e w' ⟨rfl, rfl⟩
        have hx0 : 0 ≤ x ∧ x < 4294967296 := by omega
        have hz0 : 0 ≤ z := by rw [← hz]; exact Int.mul_nonneg hx0.1 (by omega)
        have hz1 : z ≤ x * 64 := by rw [← hz]; exact Int.mul_le_mul_of_nonneg_left h.2 hx0.1
        rw [Int.mul_comm] at hx
        have e1 : IntKind.u64.wrap z = z := IntWalk.u64_in _ (by omega)
        have e2 : IntKind.i64.wrap q = q := IntWalk.i64_in _ (by omega)
        go_wp2_with fail
        go_ret
        exact ⟨rfl, rfl⟩
      · have HM := fun W => may_at k false W (Lib.hid (by simp; omega))
        rw [ofI_not (by omega)]
        go_enter Try.func73, Try.ntmps73
        go_wp2_with fail
        refine (HM _).mono ?_
        rintro e w' ⟨rfl, rfl⟩
        go_wp2_with fail
        go_ret
        exact ⟨rfl, rfl⟩
set_option maxRecDepth 100000 in
theorem rof_any (v k : Int) (w : World) : Calls Try.prog 55 #[.int .i64 v, .int .i64 k] w fun e w' => e = .returned (.int .i64 (ofI v k)) ∧ w = w' := by
  by_cases h0 : v < 0
  · rw [ofI_not (by omega)]
    go_enter Try.func55, Try.ntmps55
    go_wp2
    go_ret
    exact ⟨rfl, rfl⟩
  · by_cases h1 : 512 ≤ v
    · rw [ofI_not (by omega)]
      go_enter Try.func55, Try.ntmps55
      go_wp2
      go_ret
      exact ⟨rfl, rfl⟩
    · by_cases h2 : k < 1
      · rw [ofI_not (by omega)]
        go_enter Try.func55, Try.ntmps55
        go_wp2
        go_ret
        exact ⟨rfl, rfl⟩
      · by_cases h3 : 64 < k
        · rw [ofI_not (by omega)]
          go_enter Try.func55, Try.ntmps55
          go_wp2
          go_ret
          exact ⟨rfl, rfl⟩
        · obtain ⟨x, hx⟩ : ∃ x, 2654435761 * v % 4294967296 = x := ⟨_, rfl⟩
          obtain ⟨z, hz⟩ : ∃ z, x * k = z := ⟨_, rfl⟩
          obtain ⟨q, hq⟩ : ∃ q, z / 4294967296 = q := ⟨_, rfl⟩
          have ho : ofI v k = q := by unfold ofI; rw [if_pos (by omega), hx, hz, hq]
          rw [ho]
          have hx0 : 0 ≤ x ∧ x < 4294967296 := by omega
          have hz0 : 0 ≤ z := by rw [← hz]; exact Int.mul_nonneg hx0.1 (by omega)
          have hz1 : z ≤ x * 64 := by rw [← hz]; exact Int.mul_le_mul_of_nonneg_left (by omega) hx0.1
          obtain ⟨y, hy⟩ : ∃ y, 2654435761 * v = y := ⟨_, rfl⟩
          have f1 : IntKind.i64.wrap (2654435761 * v) = y := by rw [IntWalk.i64_in _ (by omega), hy]
          have f2 : y.tmod 4294967296 = x := by rw [Int.tmod_eq_emod_of_nonneg (by omega)]; omega
          have f3 : IntKind.i64.wrap (x * k) = z := by rw [hz]; exact IntWalk.i64_in _ (by omega)
          have f4 : z.tdiv 4294967296 = q := by rw [Int.tdiv_eq_ediv_of_nonneg hz0]; exact hq
          have f5 : IntKind.i64.wrap x = x := IntWalk.i64_in _ (by omega)
          have f6 : IntKind.i64.wrap q = q := IntWalk.i64_in _ (by omega)
          go_enter Try.func55, Try.ntmps55
          go_wp2_with fail
          go_ret
          exact ⟨rfl, rfl⟩
end Go.Proofs.Ytfbfckdabbaocaa.Pt
namespace Go.Proofs.Ytfbfckdabbaocaa.Pt
open Go.RowKit Gr Wd Ws
def OwRel (w : World) (k x : Int) (N : Nat) (g : Nat) (v i : Value) (wr : World) : Prop :=
  ∃ j : Nat, j + g = N ∧ i = .int .i64 (j : Int) ∧ IOwn wr w.heap.size v (ow k x j) ∧ Below w.heap.size w wr
end Go.Proofs.Ytfbfckdabbaocaa.Pt
