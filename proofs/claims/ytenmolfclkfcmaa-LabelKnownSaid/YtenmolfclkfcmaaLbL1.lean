/-
  What is proved here: the laws LabelTake and LabelMarks walked: they return true, and no block that was there has changed. Conditions: at most 9223372036854775807 labels.
-/
import Derived.Test.YtenmolfclkfcmaaLbW3
namespace Go.Proofs.Ytenmolfclkfcmaa.Lb
open Go.RowKit Gr Wd Ws

theorem tak_le (v x : Int) (h : Bool) : takM v h x ≤ v := by unfold takM; split <;> omega
theorem tak_same (v x : Int) (h : Bool) : takB v h x = (takM v h x != v) := by
  unfold takM takB
  cases h with
  | false => simp
  | true =>
    by_cases g : x < v
    · have : ¬ x = v := by omega
      simp [g, this]
    · simp [g]
theorem tak_twice (v x : Int) (h : Bool) : takM (takM v h x) h x = takM v h x ∧ takB (takM v h x) h x = false := by
  unfold takM takB
  cases h with
  | false => simp
  | true =>
    by_cases g : x < v
    · simp [g]
    · simp [g]
theorem tak_comm (v x y : Int) (h k : Bool) : takM (takM v h x) k y = takM (takM v k y) h x := by
  unfold takM
  cases h <;> cases k <;> simp <;> (repeat' split) <;> omega

def Mb (w : World) (b : Nat) (h : Bool) (x : Int) : Prop := w.heap[b]? = some (.cells #[.bool h, .int .i64 x] 30 (0, 0))
theorem Mb.cells {w : World} {b : Nat} {h : Bool} {x : Int} (m : Mb w b h x) : w.cell? ⟨b, 0, none⟩ = some (.bool h) ∧ w.cell? ⟨b, 1, none⟩ = some (.int .i64 x) :=
  ⟨by rw [Lib.cell_of_heap m]; rfl, by rw [Lib.cell_of_heap m]; rfl⟩
theorem Mb.below {w w' : World} {b : Nat} {h : Bool} {x : Int} (m : Mb w b h x) (hb : Below w.heap.size w w') : Mb w' b h x := (hb.block _ (lt_of_block m)).trans m
structure Tw (w W : World) (ha : Bool) (a : Int) (hb : Bool) (b : Int) : Prop where
  below : Below w.heap.size w W
  one : Mb W w.heap.size ha a
  two : Mb W (w.heap.size + 1) hb b
theorem Tw.step {w W W' : World} {ha hb : Bool} {a b : Int} (h : Tw w W ha a hb b) (k : Below W.heap.size W W') : Tw w W' ha a hb b := ⟨step_below h.below h.below.size k, h.one.below k, h.two.below k⟩

set_option maxRecDepth 100000 in
set_option maxHeartbeats 2000000 in
theorem law_take (v a b : Int) (ha hb : Bool) (w : World) : Calls Try.prog 4 #[.int .i64 v, .agg #[.bool ha, .int .i64 a], .agg #[.bool hb, .int .i64 b]] w fun e w' => e = .returned (.bool true) ∧ Below w.heap.size w w' := by
  obtain ⟨W0, hW0⟩ : ∃ W0, W0 = (w.alloc (.cells #[.bool ha, .int .i64 a] 30)).alloc (.cells #[.bool hb, .int .i64 b] 30) := ⟨_, rfl⟩
  have ht : Tw w W0 ha a hb b := by rw [hW0]; exact ⟨two_boxes w _ _, heap_alloc2_old w _ _, heap_alloc2_new w _ _⟩
  have HW := Lib.hid hW0; clear hW0
  obtain ⟨x, hx⟩ : ∃ x, takM v ha a = x := ⟨_, rfl⟩
  obtain ⟨q, hq⟩ : ∃ q, takM v hb b = q := ⟨_, rfl⟩
  obtain ⟨c, hc⟩ : ∃ c, takB v ha a = c := ⟨_, rfl⟩
  obtain ⟨c2, hc2⟩ : ∃ c, takB v hb b = c := ⟨_, rfl⟩
  obtain ⟨p, hp⟩ : ∃ p, takM x hb b = p := ⟨_, rfl⟩
  obtain ⟨c3, hc3⟩ : ∃ c, takB x hb b = c := ⟨_, rfl⟩
  obtain ⟨c4, hc4⟩ : ∃ c, takB q ha a = c := ⟨_, rfl⟩
  have t1 := fun W => take_any v a ha W
  have t2 := fun W => rtake_any v a ha W
  have t3 := fun W => take_any x a ha W
  have t4 := fun W => take_any x b hb W
  have t5 := fun W => take_any v b hb W
  have t6 := fun W => take_any q a ha W
  have e3 := tak_twice v a ha
  rw [hx] at e3
  have e6 : takM q ha a = p := by rw [← hp, ← hx, ← hq]; exact tak_comm v b a hb ha
  rw [hx, hc] at t1 t2
  rw [e3.1, e3.2] at t3
  rw [hp, hc3] at t4
  rw [hq, hc2] at t5
  rw [e6, hc4] at t6
  have hxv : x ≤ v := by rw [← hx]; exact tak_le v a ha
  have hxb : decide (v < x) = false := by simp; omega
  have hcx : (x != v) = c := by rw [← hc, ← hx, tak_same]
  have hcc : (c != c) = false := by simp
  have T1 := Lib.hid t1; have T2 := Lib.hid t2; have T3 := Lib.hid t3; have T4 := Lib.hid t4; have T5 := Lib.hid t5; have T6 := Lib.hid t6
  clear t1 t2 t3 t4 t5 t6 e3 e6 hx hq hc hc2 hp hc3 hc4
  have HT0 := Lib.hid ht; clear ht
  go_enter Try.func4, Try.ntmps4
  go_wp2_with fail
  rw [← HW.out]
  obtain ⟨a0, a1⟩ := HT0.out.one.cells
  go_wp2_with fail
  refine (T1.out _).mono ?_
  rintro e w1 ⟨rfl, h1⟩
  clear a0 a1
  have HT1 := Lib.hid (HT0.out.step h1); clear h1
  obtain ⟨a0, a1⟩ := HT1.out.one.cells
  go_wp2_with fail
  refine (T2.out _).mono ?_
  rintro e w2 ⟨rfl, h2⟩
  clear a0 a1
  have HT2 := Lib.hid (HT1.out.step h2); clear h2
  obtain ⟨a0, a1⟩ := HT2.out.one.cells
  go_wp2_with fail
  refine (T3.out _).mono ?_
  rintro e w3 ⟨rfl, h3⟩
  clear a0 a1
  have HT3 := Lib.hid (HT2.out.step h3); clear h3
  obtain ⟨a0, a1⟩ := HT3.out.two.cells
  go_wp2_with fail
  refine (T4.out _).mono ?_
  rintro e w4 ⟨rfl, h4⟩
  clear a0 a1
  have HT4 := Lib.hid (HT3.out.step h4); clear h4
  obtain ⟨a0, a1⟩ := HT4.out.two.cells
  go_wp2_with fail
  refine (T5.out _).mono ?_
  rintro e w5 ⟨rfl, h5⟩
  clear a0 a1
  have HT5 := Lib.hid (HT4.out.step h5); clear h5
  obtain ⟨a0, a1⟩ := HT5.out.one.cells
  go_wp2_with fail
  refine (T6.out _).mono ?_
  rintro e w6 ⟨rfl, h6⟩
  clear a0 a1
  have HT6 := Lib.hid (HT5.out.step h6); clear h6
  go_wp2_with fail
  refine (works_any _).mono ?_
  rintro e w7 ⟨rfl, h7⟩
  have HT7 := Lib.hid (HT6.out.step h7.out); clear h7
  go_wp2
  go_ret
  exact ⟨rfl, HT7.out.below⟩

set_option maxRecDepth 100000 in
set_option maxHeartbeats 2000000 in
theorem law_marks (l : List Int) (A : Option Addr) (c : Nat) (w : World) (hL : Hid (IAt w A l)) (hl : l.length ≤ 9223372036854775807) : Calls Try.prog 5 #[.slice A l.length c] w fun e w' => e = .returned (.bool true) ∧ Below w.heap.size w w' := by
  by_cases h6 : 600 < l.length
  · obtain ⟨n, hn⟩ : ∃ n, n = l.length := ⟨_, rfl⟩
    rw [← hn] at h6 hl ⊢
    clear hn
    go_enter Try.func5, Try.ntmps5
    go_wp2_with fail
    refine (works_any _).mono ?_
    rintro e w1 ⟨rfl, h1⟩
    go_wp2
    go_ret
    exact ⟨rfl, h1.out⟩
  · have m1 := fun W (h : IAt W A l) => marks_any A c l W h (by omega)
    have m2 := fun W (h : IAt W A l) => rmarks_any A c l W h (by omega)
    obtain ⟨n, hn⟩ : ∃ n, n = l.length := ⟨_, rfl⟩
    obtain ⟨r, hr⟩ : ∃ r, mrk l = r := ⟨_, rfl⟩
    rw [← hn, hr] at m1 m2
    rw [← hn] at h6 hl ⊢
    obtain ⟨r1, r2⟩ := r
    have M1 := Lib.hid m1; have M2 := Lib.hid m2
    clear m1 m2 hn hr
    go_enter Try.func5, Try.ntmps5
    go_wp2_with fail
    refine (M1.out _ hL.out).mono ?_
    rintro e w1 ⟨rfl, h1⟩
    obtain rfl := h1
    go_wp2_with fail
    refine (M2.out _ hL.out).mono ?_
    rintro e w2 ⟨rfl, h2⟩
    obtain rfl := h2
    go_wp2_with fail
    refine (works_any _).mono ?_
    rintro e w3 ⟨rfl, h3⟩
    go_wp2
    go_ret
    exact ⟨rfl, h3.out⟩

end Go.Proofs.Ytenmolfclkfcmaa.Lb
