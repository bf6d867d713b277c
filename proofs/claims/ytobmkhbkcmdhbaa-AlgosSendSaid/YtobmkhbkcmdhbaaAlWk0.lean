/-
  What is proved here: a contract of works(): the chapter's examples hold. No condition.
-/
import Derived.Test.YtobmkhbkcmdhbaaAlP5
import Derived.Test.YtobmkhbkcmdhbaaAlSm
import Derived.Test.YtobmkhbkcmdhbaaAlSd3
namespace Go.Proofs.Ytobmkhbkcmdhbaa.Al
open Go.RowKit Gr Wd Ws Fx Rk Lb

def wkL : List Ed := [(0, 1, 0), (0, 2, 0)]
theorem wk_start2 (w : World) : Calls Try.prog 10 #[.agg #[.int .u8 2, .int .i64 0, .int .i64 0, .int .i64 0, .int .i64 0], .int .i64 5, .int .i64 3] w fun e w' => e = .returned (.tuple #[.int .i64 3, .bool true]) ∧ Below w.heap.size w w' :=
  start_any 2 0 0 0 0 5 3 (by decide) (by decide) (by decide) (by decide) w
theorem wk_start3 (w : World) : Calls Try.prog 10 #[.agg #[.int .u8 3, .int .i64 0, .int .i64 2, .int .i64 0, .int .i64 0], .int .i64 5, .int .i64 3] w fun e w' => e = .returned (.tuple #[.int .i64 4611686018427387904, .bool false]) ∧ Below w.heap.size w w' :=
  start_any 3 0 2 0 0 5 3 (by decide) (by decide) (by decide) (by decide) w
theorem wk_compute (w : World) : Calls Try.prog 16 #[.agg #[.int .u8 3, .int .i64 0, .int .i64 0, .int .i64 0, .int .i64 0], .int .i64 5, .int .i64 9, .agg #[.bool true, .int .i64 4], .int .i64 0] w fun e w' => e = .returned (.tuple #[.int .i64 4, .bool true]) ∧ Below w.heap.size w w' :=
  compute_any 3 0 0 0 0 5 9 4 0 true (by decide) (by decide) (by decide) (by decide) (by decide) (by decide) (by decide) (by decide) w
theorem wk_eat {w : World} {g : Nat} (h : w.heap[g]? = some (.cells #[.int .i64 0, .int .i64 1, .int .i64 0, .int .i64 0, .int .i64 2, .int .i64 0] 58 (0, 0))) : EAt w (some ⟨g, 0, none⟩) wkL := by
  intro k e hk
  rcases k with _ | _ | k
  · simp only [wkL, List.getElem?_cons_zero, Option.some.injEq] at hk; subst hk
    exact ⟨_, _, rfl, by rw [Lib.cell_of_heap h]; rfl, by rw [Lib.cell_of_heap h]; rfl, by rw [Lib.cell_of_heap h]; rfl⟩
  · simp only [wkL, List.getElem?_cons_zero, List.getElem?_cons_succ, Option.some.injEq] at hk; subst hk
    exact ⟨_, _, rfl, by rw [Lib.cell_of_heap h]; rfl, by rw [Lib.cell_of_heap h]; rfl, by rw [Lib.cell_of_heap h]; rfl⟩
  · simp [wkL] at hk
theorem wk_send (w : World) : Calls Try.prog 18 #[.agg #[.int .u8 1, .int .i64 0, .int .i64 0, .int .i64 0, .int .i64 0], .int .i64 0, .int .i64 8, .bool false, .slice (some ⟨w.heap.size, 0, none⟩) 2 2, .slice none 0 0] (w.alloc (.cells #[.int .i64 0, .int .i64 1, .int .i64 0, .int .i64 0, .int .i64 2, .int .i64 0] 58))
    fun e w' => ∃ A c, e = .returned (.slice A 2 c) ∧ Hid (MAt w' A [(1, 4), (2, 4)]) ∧ Hid (Below w.heap.size w w') := by
  have hb : Below w.heap.size w (w.alloc (.cells #[.int .i64 0, .int .i64 1, .int .i64 0, .int .i64 0, .int .i64 2, .int .i64 0] 58)) := (Below.refl _ w).alloc (Nat.le_refl _) _
  refine (send_any 1 0 0 0 0 0 8 false (some ⟨w.heap.size, 0, none⟩) none 2 0 wkL [] _ (wk_eat (heap_alloc_new w _)) (EAt.nil _ _) (by decide) (by decide) (by decide) (by decide)).mono ?_
  rintro e w' ⟨r, rfl, ho, hb2⟩
  have e1 : sendM 1 0 8 false wkL [] = [(1, 4), (2, 4)] := by decide
  rw [e1] at ho
  obtain ⟨A, c, rfl, hat, _⟩ := ho.out.room
  exact ⟨A, c, rfl, Lib.hid hat, Lib.hid (step_below hb hb.size hb2.out)⟩
theorem wk_same (A : Option Addr) (c : Nat) (W : World) (h : MAt W A [(1, 4), (2, 4)]) : Calls Try.prog 19 #[.slice A 2 c, .slice (some ⟨W.heap.size, 0, none⟩) 2 2] (W.alloc (.cells #[.int .i64 1, .int .i64 4, .int .i64 2, .int .i64 4] 44)) fun e w' => e = .returned (.bool true) ∧ Below W.heap.size W w' := by
  have hb : Below W.heap.size W (W.alloc (.cells #[.int .i64 1, .int .i64 4, .int .i64 2, .int .i64 4] 44)) := (Below.refl _ W).alloc (Nat.le_refl _) _
  have hx : (W.alloc (.cells #[.int .i64 1, .int .i64 4, .int .i64 2, .int .i64 4] 44)).heap[W.heap.size]? = some (.cells #[.int .i64 1, .int .i64 4, .int .i64 2, .int .i64 4] 44 (0, 0)) := heap_alloc_new W _
  have hm : MAt (W.alloc (.cells #[.int .i64 1, .int .i64 4, .int .i64 2, .int .i64 4] 44)) (some ⟨W.heap.size, 0, none⟩) [(1, 4), (2, 4)] := by
    intro k e hk
    rcases k with _ | _ | k
    · simp only [List.getElem?_cons_zero, Option.some.injEq] at hk; subst hk
      exact ⟨_, _, rfl, by rw [Lib.cell_of_heap hx]; rfl, by rw [Lib.cell_of_heap hx]; rfl⟩
    · simp only [List.getElem?_cons_zero, List.getElem?_cons_succ, Option.some.injEq] at hk; subst hk
      exact ⟨_, _, rfl, by rw [Lib.cell_of_heap hx]; rfl, by rw [Lib.cell_of_heap hx]; rfl⟩
    · simp at hk
  refine (samem_any A (some ⟨W.heap.size, 0, none⟩) c 2 [(1, 4), (2, 4)] [(1, 4), (2, 4)] _ (h.below hb) hm (by decide) (by decide)).mono ?_
  rintro e w' ⟨rfl, h2⟩
  exact ⟨by simp, step_below hb hb.size h2⟩
theorem wk_done (s m : Int) (r : Bool) (hr : donB 2 5 0 s m = r) (w : World) : Calls Try.prog 14 #[.agg #[.int .u8 2, .int .i64 5, .int .i64 0, .int .i64 0, .int .i64 0], .int .i64 s, .int .i64 m] w fun e w' => e = .returned (.bool r) ∧ Below w.heap.size w w' := by
  rw [← hr]; exact done_any 2 5 0 0 0 s m w
theorem wk_comb (w : World) : Calls Try.prog 27 #[.agg #[.int .u8 2, .int .i64 5, .int .i64 0, .int .i64 0, .int .i64 0], .int .i64 3, .int .i64 7] w fun e w' => e = .returned (.int .i64 3) ∧ Below w.heap.size w w' :=
  comb_any 2 5 0 0 0 3 7 w
theorem wk_check (A : Option Addr) (c : Nat) (w : World) (h : EAt w A millL) : Calls Try.prog 12 #[.agg #[.int .i64 6, .slice A 5 c], .agg #[.int .u8 2, .int .i64 5, .int .i64 0, .int .i64 0, .int .i64 0]] w fun e w' => e = .returned (.int .i64 0) ∧ Below w.heap.size w w' := by
  have := checkj_any 2 5 0 0 0 6 A c millL w h (by decide)
  rw [show chkJ 2 5 0 0 0 6 millL = 0 by decide +kernel] at this
  exact this
structure Wk (w W : World) (b : Nat) (A : Option Addr) : Prop where
  below : Below w.heap.size w W
  box : W.heap[b]? = some (.cells #[.int .u8 2, .int .i64 5, .int .i64 0, .int .i64 0, .int .i64 0] 26 (0, 0))
  row : MAt W A [(1, 4), (2, 4)]
theorem Wk.step {w W W' : World} {b : Nat} {A : Option Addr} (h : Wk w W b A) (k : Below W.heap.size W W') : Wk w W' b A := ⟨step_below h.below h.below.size k, keep h.box k, h.row.below k⟩

end Go.Proofs.Ytobmkhbkcmdhbaa.Al
