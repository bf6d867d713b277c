/-
  What is proved here: the calls that stand in each law of the chapter hold (works), walked. No condition.
-/
import Derived.Test.YtenmolfclkfcmaaLbR2
import Derived.Test.YtenmolfclkfcmaaLbW2
namespace Go.Proofs.Ytenmolfclkfcmaa.Lb
open Go.RowKit Gr Wd Ws

theorem eat_block {w : World} {g : Nat} {L : List Ed} (h : w.heap[g]? = some (.cells (ecs L).toArray 42 (0, 0))) : EAt w (some ⟨g, 0, none⟩) L := by
  intro k e hx
  obtain ⟨a0, a1, a2⟩ := ecs_at L k e hx
  refine ⟨g, 0, rfl, ?_, ?_, ?_⟩
  · rw [Nat.zero_add, cell_of_row w g _ _ 42 (0, 0) h, List.getElem?_toArray]; exact a0
  · rw [Nat.zero_add, cell_of_row w g _ _ 42 (0, 0) h, List.getElem?_toArray]; exact a1
  · rw [Nat.zero_add, cell_of_row w g _ _ 42 (0, 0) h, List.getElem?_toArray]; exact a2
theorem iat_block {w : World} {g : Nat} {t : TypeId} {l : List Int} (h : w.heap[g]? = some (.cells (ints l).toArray t (0, 0))) : IAt w (some ⟨g, 0, none⟩) l := by
  intro k x hx
  refine ⟨g, 0, rfl, ?_⟩
  rw [Nat.zero_add, cell_of_row w g _ _ t (0, 0) h, List.getElem?_toArray, ints_at, hx]; rfl

def exA : List Ed := [(1, 3, 0), (1, 1, 0)]
def exB : List Ed := [(0, 1, 0), (3, 1, 0)]
theorem ex_near : nearL 1 exA exB = [0, 3] := by decide
set_option maxRecDepth 100000 in
theorem near_ex (w : World) : Calls Try.prog 8 #[.int .i64 1, .slice (some ⟨w.heap.size, 0, none⟩) 2 2, .slice (some ⟨w.heap.size + 1, 0, none⟩) 2 2]
    ((w.alloc (.cells #[.int .i64 1, .int .i64 3, .int .i64 0, .int .i64 1, .int .i64 1, .int .i64 0] 42)).alloc (.cells #[.int .i64 0, .int .i64 1, .int .i64 0, .int .i64 3, .int .i64 1, .int .i64 0] 42))
    fun e w' => (∃ A c, e = .returned (.slice A 2 c) ∧ Hid (IAt w' A [0, 3])) ∧ Hid (Below w.heap.size w w') := by
  have hb := two_boxes w (.cells #[.int .i64 1, .int .i64 3, .int .i64 0, .int .i64 1, .int .i64 1, .int .i64 0] 42) (.cells #[.int .i64 0, .int .i64 1, .int .i64 0, .int .i64 3, .int .i64 1, .int .i64 0] 42)
  refine (near_any 1 _ _ 2 2 exA exB _ (eat_block (heap_alloc2_old w _ _)) (eat_block (heap_alloc2_new w _ _)) (by decide) (by decide)).mono ?_
  rintro e w' ⟨r, rfl, hO, hb2⟩
  have ho := hO.out
  rw [ex_near] at ho
  obtain ⟨A, c, rfl, hat⟩ := ho.form
  exact ⟨⟨A, c, rfl, Lib.hid hat⟩, Lib.hid (step_below hb hb.size hb2.out)⟩
theorem mrk_ex1 : mrk [0, 0, 2, 0] = (2, true) := by decide
theorem mrk_ex2 : mrk [1, 1] = (0, false) := by decide
set_option maxRecDepth 100000 in
theorem marks_ex1 (w : World) : Calls Try.prog 14 #[.slice (some ⟨w.heap.size, 0, none⟩) 4 4] (w.alloc (.cells #[.int .i64 0, .int .i64 0, .int .i64 2, .int .i64 0] 2))
    fun e w' => e = .returned (.tuple #[.int .i64 2, .bool true]) ∧ (w.alloc (.cells #[.int .i64 0, .int .i64 0, .int .i64 2, .int .i64 0] 2)) = w' := by
  have h := marks_any (some ⟨w.heap.size, 0, none⟩) 4 [0, 0, 2, 0] _ (iat_block (heap_alloc_new w (.cells #[.int .i64 0, .int .i64 0, .int .i64 2, .int .i64 0] 2))) (by decide)
  rw [mrk_ex1] at h
  exact h
set_option maxRecDepth 100000 in
theorem marks_ex2 (w : World) : Calls Try.prog 14 #[.slice (some ⟨w.heap.size, 0, none⟩) 2 2] (w.alloc (.cells #[.int .i64 1, .int .i64 1] 2))
    fun e w' => e = .returned (.tuple #[.int .i64 0, .bool false]) ∧ (w.alloc (.cells #[.int .i64 1, .int .i64 1] 2)) = w' := by
  have h := marks_any (some ⟨w.heap.size, 0, none⟩) 2 [1, 1] _ (iat_block (heap_alloc_new w (.cells #[.int .i64 1, .int .i64 1] 2))) (by decide)
  rw [mrk_ex2] at h
  exact h
set_option maxRecDepth 100000 in
theorem same_ex (A : Option Addr) (c : Nat) (w : World) (h : IAt w A [0, 3]) : Calls Try.prog 9 #[.slice A 2 c, .slice (some ⟨w.heap.size, 0, none⟩) 2 2] (w.alloc (.cells #[.int .i64 0, .int .i64 3] 3))
    fun e w' => e = .returned (.bool true) ∧ Hid (Below w.heap.size w w') := by
  have hb : Below w.heap.size w (w.alloc (.cells #[.int .i64 0, .int .i64 3] 3)) := (Below.refl _ w).alloc (Nat.le_refl _) _
  refine (kitsame_any A (some ⟨w.heap.size, 0, none⟩) c 2 [0, 3] [0, 3] _ (h.below hb) (iat_block (heap_alloc_new w (.cells #[.int .i64 0, .int .i64 3] 3))) (by decide) (by decide)).mono ?_
  rintro e w' ⟨rfl, hb2⟩
  exact ⟨ret_b (by simp), Lib.hid (step_below hb hb.size hb2)⟩

set_option maxRecDepth 100000 in
set_option maxHeartbeats 2000000 in
theorem works_any (w : World) : Calls Try.prog 7 #[] w fun e w' => e = .returned (.bool true) ∧ Hid (Below w.heap.size w w') := by
  have H1 := Lib.hid (near_ex w)
  go_enter Try.func7, Try.ntmps7
  go_wp2_with fail
  refine H1.out.mono ?_
  rintro e w1 ⟨⟨A, c, rfl, hat⟩, hb⟩
  go_wp2_with fail
  refine (take_any 5 3 true _).mono ?_
  rintro e w2 ⟨rfl, hb2⟩
  have hat2 := Lib.hid (hat.out.below hb2)
  have HB2 := Lib.hid (step_below hb.out hb.out.size hb2); clear hb hat hb2 H1
  go_wp2_with fail
  refine (take_any 5 7 true _).mono ?_
  rintro e w3 ⟨rfl, hb3⟩
  have hat3 := Lib.hid (hat2.out.below hb3)
  have HB3 := Lib.hid (step_below HB2.out HB2.out.size hb3); clear HB2 hat2 hb3
  go_wp2_with fail
  refine (take_any 5 3 false _).mono ?_
  rintro e w4 ⟨rfl, hb4⟩
  have hat4 := Lib.hid (hat3.out.below hb4)
  have HB4 := Lib.hid (step_below HB3.out HB3.out.size hb4); clear HB3 hat3 hb4
  go_wp2_with fail
  refine (marks_ex1 _).mono ?_
  rintro e w5 ⟨rfl, he5⟩
  have hb5 : Below w4.heap.size w4 w5 := by rw [← he5]; exact (Below.refl _ w4).alloc (Nat.le_refl _) _
  have hat5 := Lib.hid (hat4.out.below hb5)
  have HB5 := Lib.hid (step_below HB4.out HB4.out.size hb5); clear HB4 hat4 hb5 he5
  go_wp2_with fail
  refine (marks_ex2 _).mono ?_
  rintro e w6 ⟨rfl, he6⟩
  have hb6 : Below w5.heap.size w5 w6 := by rw [← he6]; exact (Below.refl _ w5).alloc (Nat.le_refl _) _
  have hat6 := Lib.hid (hat5.out.below hb6)
  have HB6 := Lib.hid (step_below HB5.out HB5.out.size hb6); clear HB5 hat5 hb6 he6
  go_wp2_with fail
  refine (same_ex A c _ hat6.out).mono ?_
  rintro e w7 ⟨rfl, hb7⟩
  have HB7 := Lib.hid (step_below HB6.out HB6.out.size hb7.out); clear HB6 hat6 hb7
  go_wp2
  go_ret
  exact ⟨rfl, HB7⟩

end Go.Proofs.Ytenmolfclkfcmaa.Lb
