/-
  What is proved here: a contract of works(): the chapter's examples hold. No condition.
-/
import Derived.Test.YtiaihloncpkjbaaPaW4
namespace Go.Proofs.Ytiaihloncpkjbaa.Pa
open Go.RowKit Gr Wd Ws Fx Lb

def exL : List Ed := [(0, 1, 4), (0, 2, 1), (2, 1, 2)]
theorem ex_chk : chk 4 exL = 0 := by decide +kernel
theorem ex_one : tgt 4 exL 0 [0, 3, 1, 4611686018427387904] = true := by decide +kernel
theorem ex_two : tgt 4 exL 0 [0, 4, 1, 4611686018427387904] = false := by decide +kernel
theorem ex_three : tgt 4 exL 0 [0, 2, 1, 4611686018427387904] = false := by decide +kernel
theorem ex_four : tgt 4 exL 0 [0, 3, 1, 7] = false := by decide +kernel
def Xb (w : World) (g : Nat) : Prop := w.heap[g]? = some (.cells #[.int .i64 0, .int .i64 1, .int .i64 4, .int .i64 0, .int .i64 2, .int .i64 1, .int .i64 2, .int .i64 1, .int .i64 2] 23 (0, 0))
theorem Xb.eat {w : World} {g : Nat} (h : Xb w g) : EAt w (some ⟨g, 0, none⟩) exL := by
  intro k e hk
  rcases k with _ | _ | _ | k
  all_goals (first | (simp [exL] at hk; done) | (simp only [exL, List.getElem?_cons_zero, List.getElem?_cons_succ, Option.some.injEq] at hk; subst hk; exact ⟨_, _, rfl, by rw [Lib.cell_of_heap h]; rfl, by rw [Lib.cell_of_heap h]; rfl, by rw [Lib.cell_of_heap h]; rfl⟩))
theorem Xb.below {w w' : World} {g : Nat} (h : Xb w g) (hb : Below w.heap.size w w') : Xb w' g := (hb.block _ (lt_of_block h)).trans h
def Vb (w : World) (v : Nat) (a b c d : Int) : Prop := w.heap[v]? = some (.cells #[.int .i64 a, .int .i64 b, .int .i64 c, .int .i64 d] 2 (0, 0))
theorem Vb.iat {w : World} {v : Nat} {a b c d : Int} (h : Vb w v a b c d) : IAt w (some ⟨v, 0, none⟩) [a, b, c, d] := by
  intro k e hk
  rcases k with _ | _ | _ | _ | k
  all_goals (first | (simp at hk; done) | (simp only [List.getElem?_cons_zero, List.getElem?_cons_succ, Option.some.injEq] at hk; subst hk; exact ⟨_, _, rfl, by rw [Lib.cell_of_heap h]; rfl⟩))
theorem ex_lit (a b c d : Int) (r : Bool) (hr : tgt 4 exL 0 [a, b, c, d] = r) (g : Nat) (W : World) (h : Hid (Xb W g)) :
    Calls Try.prog 16 #[.agg #[.int .i64 4, .slice (some ⟨g, 0, none⟩) 3 3], .int .i64 0, .slice (some ⟨W.heap.size, 0, none⟩) 4 4] (W.alloc (.cells #[.int .i64 a, .int .i64 b, .int .i64 c, .int .i64 d] 2)) fun e w' => e = .returned (.bool r) ∧ Hid (Below W.heap.size W w') := by
  have hb : Below W.heap.size W (W.alloc (.cells #[.int .i64 a, .int .i64 b, .int .i64 c, .int .i64 d] 2)) := (Below.refl _ W).alloc (Nat.le_refl _) _
  have hv : Vb (W.alloc (.cells #[.int .i64 a, .int .i64 b, .int .i64 c, .int .i64 d] 2)) W.heap.size a b c d := heap_alloc_new W _
  have := tight_any 4 0 (some ⟨g, 0, none⟩) (some ⟨W.heap.size, 0, none⟩) 3 4 exL [a, b, c, d] _ (h.out.below hb).eat hv.iat (by decide) (by simp)
  rw [hr] at this
  exact this.mono fun e w' k => ⟨k.1, Lib.hid (step_below hb hb.size k.2)⟩
theorem take_at_ (v x : Int) (has : Bool) (r : Int) (b : Bool) (hr : tkm v has x = r) (hb : tkb v has x = b) (w : World) :
    Calls Try.prog 13 #[.int .i64 v, .agg #[.bool has, .int .i64 x]] w fun e w' => e = .returned (.tuple #[.int .i64 r, .bool b]) ∧ Hid (Below w.heap.size w w') := by
  have := take_any v x has w
  rw [hr, hb] at this
  exact this.mono fun e w' k => ⟨k.1, Lib.hid k.2⟩
theorem give_at (v x y z r : Int) (hr : addI v z = r) (w : World) :
    Calls Try.prog 10 #[.int .i64 v, .agg #[.int .i64 x, .int .i64 y, .int .i64 z]] w fun e w' => e = .returned (.int .i64 r) ∧ Hid (Below w.heap.size w w') := by
  have := give_any v x y z w
  rw [hr] at this
  exact this.mono fun e w' k => ⟨k.1, Lib.hid k.2⟩
theorem start_at (v s r : Int) (hr : stt v s = r) (w : World) : Calls Try.prog 8 #[.int .i64 v, .int .i64 s] w fun e w' => e = .returned (.int .i64 r) ∧ w = w' := by
  have := start_any v s w
  rw [hr] at this
  exact this
structure Wx (w W : World) (b g : Nat) : Prop where
  below : Below w.heap.size w W
  box : W.heap[b]? = some (.cells #[.int .i64 4, .slice (some ⟨g, 0, none⟩) 3 3] 35 (0, 0))
  row : Xb W g
theorem Wx.step {w W W' : World} {b g : Nat} (h : Wx w W b g) (k : Below W.heap.size W W') : Wx w W' b g := ⟨step_below h.below h.below.size k, (k.block _ (lt_of_block h.box)).trans h.box, h.row.below k⟩
theorem Wx.cells {w W : World} {b g : Nat} (h : Wx w W b g) : W.cell? ⟨b, 0, none⟩ = some (.int .i64 4) ∧ W.cell? ⟨b, 1, none⟩ = some (.slice (some ⟨g, 0, none⟩) 3 3) ∧ W.cell? ⟨g, 0, none⟩ = some (.int .i64 0) ∧ W.cell? ⟨g, 1, none⟩ = some (.int .i64 1) ∧ W.cell? ⟨g, 2, none⟩ = some (.int .i64 4) :=
  ⟨by rw [Lib.cell_of_heap h.box]; rfl, by rw [Lib.cell_of_heap h.box]; rfl, by rw [Lib.cell_of_heap h.row]; rfl, by rw [Lib.cell_of_heap h.row]; rfl, by rw [Lib.cell_of_heap h.row]; rfl⟩

set_option maxRecDepth 100000 in
set_option maxHeartbeats 2000000 in
theorem works_any (w : World) : Calls Try.prog 12 #[] w fun e w' => e = .returned (.bool true) ∧ Hid (Below w.heap.size w w') := by
  go_enter Try.func12, Try.ntmps12
  go_upto_region 2 with fail
  obtain ⟨W0, hW0⟩ : ∃ W0, W0 = w.alloc (.cells #[.int .i64 0, .int .i64 1, .int .i64 4, .int .i64 0, .int .i64 2, .int .i64 1, .int .i64 2, .int .i64 1, .int .i64 2] 23) := ⟨_, rfl⟩
  have hx : Xb W0 w.heap.size := by rw [hW0]; exact heap_alloc_new w _
  have hb0 : Below w.heap.size w W0 := by rw [hW0]; exact (Below.refl _ w).alloc (Nat.le_refl _) _
  have s0 : W0.heap.size = w.heap.size + 1 := by rw [hW0]; simp
  rw [← hW0]
  obtain ⟨W1, hW1⟩ : ∃ W1, W1 = W0.alloc (.cells #[.int .i64 4, .slice (some ⟨w.heap.size, 0, none⟩) 3 3] 35) := ⟨_, rfl⟩
  have hb1 : Below W0.heap.size W0 W1 := by rw [hW1]; exact (Below.refl _ W0).alloc (Nat.le_refl _) _
  have hbx : W1.heap[W0.heap.size]? = some (.cells #[.int .i64 4, .slice (some ⟨w.heap.size, 0, none⟩) 3 3] 35 (0, 0)) := by rw [hW1]; exact heap_alloc_new W0 _
  rw [← hW1]
  rw [s0] at hbx
  obtain ⟨b, hb⟩ : ∃ b, b = w.heap.size + 1 := ⟨_, rfl⟩
  rw [← hb] at hbx ⊢
  obtain ⟨g, hg⟩ : ∃ g, g = w.heap.size := ⟨_, rfl⟩
  have hH : Hid (Wx w W1 b g) := Lib.hid ⟨step_below hb0 hb0.size hb1, by rw [hg]; exact hbx, by rw [hg]; exact hx.below hb1⟩
  rw [← hg]
  clear hW0 hx hb0 s0 hW1 hb1 hbx hb hg
  go_wp2_with fail
  refine (take_at_ 5 3 true 3 true (by decide) (by decide) _).mono ?_
  rintro e w2 ⟨rfl, h2⟩
  have H2 := Lib.hid (hH.out.step h2.out); clear h2 hH
  go_wp2_with fail
  refine (take_at_ 5 3 false 5 false (by decide) (by decide) _).mono ?_
  rintro e w3 ⟨rfl, h3⟩
  have H3 := Lib.hid (H2.out.step h3.out); clear h3 H2
  obtain ⟨k0, k1, k2, k3, k4⟩ := H3.out.cells
  have X3 := Lib.hid H3.out.row
  go_wp2_with fail
  refine (ex_lit 0 3 1 4611686018427387904 true ex_one g w3 X3).mono ?_
  rintro e w4 ⟨rfl, h4⟩
  have H4 := Lib.hid (H3.out.step h4.out); clear h4 H3 k0 k1 k2 k3 k4 X3
  obtain ⟨k0, k1, k2, k3, k4⟩ := H4.out.cells
  have X4 := Lib.hid H4.out.row
  go_wp2_with fail
  refine (ex_lit 0 4 1 4611686018427387904 false ex_two g w4 X4).mono ?_
  rintro e w5 ⟨rfl, h5⟩
  have H5 := Lib.hid (H4.out.step h5.out); clear h5 H4 k0 k1 k2 k3 k4 X4
  obtain ⟨k0, k1, k2, k3, k4⟩ := H5.out.cells
  have X5 := Lib.hid H5.out.row
  go_wp2_with fail
  refine (ex_lit 0 2 1 4611686018427387904 false ex_three g w5 X5).mono ?_
  rintro e w6 ⟨rfl, h6⟩
  have H6 := Lib.hid (H5.out.step h6.out); clear h6 H5 k0 k1 k2 k3 k4 X5
  obtain ⟨k0, k1, k2, k3, k4⟩ := H6.out.cells
  have X6 := Lib.hid H6.out.row
  go_wp2_with fail
  refine (ex_lit 0 3 1 7 false ex_four g w6 X6).mono ?_
  rintro e w7 ⟨rfl, h7⟩
  have H7 := Lib.hid (H6.out.step h7.out); clear h7 H6 k0 k1 k2 k3 k4 X6
  obtain ⟨k0, k1, k2, k3, k4⟩ := H7.out.cells
  go_wp2_with fail
  refine (give_at 4611686018427387904 0 1 4 4611686018427387904 (by decide) _).mono ?_
  rintro e w8 ⟨rfl, h8⟩
  have H8 := Lib.hid (H7.out.step h8.out); clear h8 H7 k0 k1 k2 k3 k4
  obtain ⟨k0, k1, k2, k3, k4⟩ := H8.out.cells
  go_wp2_with fail
  refine (give_at 2 0 1 4 6 (by decide) _).mono ?_
  rintro e w9 ⟨rfl, h9⟩
  have H9 := Lib.hid (H8.out.step h9.out); clear h9 H8 k0 k1 k2 k3 k4
  go_wp2_with fail
  refine (start_at 1 1 0 (by decide) _).mono ?_
  rintro e wa ⟨rfl, rfl⟩
  go_wp2_with fail
  refine (start_at 0 1 4611686018427387904 (by decide) _).mono ?_
  rintro e wb ⟨rfl, rfl⟩
  go_wp2
  go_ret
  exact ⟨rfl, Lib.hid H9.out.below⟩

end Go.Proofs.Ytiaihloncpkjbaa.Pa
