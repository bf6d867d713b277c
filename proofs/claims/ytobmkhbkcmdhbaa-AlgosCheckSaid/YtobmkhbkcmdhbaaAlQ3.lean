/-
  What is proved here: contracts of algos.Join, Check of the document, and plain. Conditions: numbers fit an int.
-/
import Derived.Test.YtobmkhbkcmdhbaaAlQ2
import Derived.Laws.StructEq
import Derived.Test.YtobmkhbkcmdhbaaPaTail
namespace Go.Proofs.Ytobmkhbkcmdhbaa.Al
open Go.RowKit Gr Wd Ws Fx Rk Lb

set_option maxRecDepth 100000 in
set_option maxHeartbeats 2000000 in
theorem rjoin_any (k st so dm ep a b c d : Int) (w : World) : Calls Try.prog 26 #[.agg #[.int .u8 k, .int .i64 st, .int .i64 so, .int .i64 dm, .int .i64 ep], .agg #[.int .i64 a, .int .i64 b], .agg #[.int .i64 c, .int .i64 d]] w fun e w' => e = .returned (.agg #[.int .i64 (jonS k a c), .int .i64 (jonM k b d)]) ∧ Below w.heap.size w w' := by
  have mixed := mixedO
  by_cases h1 : k = 1
  · subst h1
    obtain ⟨W1, hW1⟩ : ∃ W1, W1 = (((w.alloc (.cells #[.int .u8 1, .int .i64 st, .int .i64 so, .int .i64 dm, .int .i64 ep] 26)).alloc (.cells #[.int .i64 a, .int .i64 b] 48)).alloc (.cells #[.int .i64 c, .int .i64 d] 48)).alloc (.cells #[.int .i64 0, .int .i64 0] 48) := ⟨_, rfl⟩
    have hal := al4 w (.cells #[.int .u8 1, .int .i64 st, .int .i64 so, .int .i64 dm, .int .i64 ep] 26) (.cells #[.int .i64 a, .int .i64 b] 48) (.cells #[.int .i64 c, .int .i64 d] 48) (.cells #[.int .i64 0, .int .i64 0] 48)
    rw [← hW1] at hal
    obtain ⟨b0, e0⟩ : ∃ b0, b0 = w.heap.size := ⟨_, rfl⟩
    obtain ⟨b2, e2⟩ : ∃ b2, b2 = w.heap.size + 1 := ⟨_, rfl⟩
    obtain ⟨b3, e3⟩ : ∃ b3, b3 = w.heap.size + 2 := ⟨_, rfl⟩
    obtain ⟨b1, e1⟩ : ∃ b1, b1 = w.heap.size + 3 := ⟨_, rfl⟩
    obtain ⟨x0, x2, x3, x1, hb⟩ := hal
    rw [← e0] at x0; rw [← e1] at x1; rw [← e2] at x2; rw [← e3] at x3
    have X1 := Lib.hid x1; have HB := Lib.hid hb
    have HGE : Hid (w.heap.size ≤ b1) := Lib.hid (by omega)
    obtain ⟨j0, _, _, _, _, _⟩ := jb_cells x0
    obtain ⟨y0, y1, _⟩ := tot_cells x2
    obtain ⟨z0, z1, _⟩ := tot_cells x3
    clear x0 x1 x2 x3 hb
    go_enter Try.func26, Try.ntmps26
    go_upto_region 1 with fail
    rw [← hW1]
    rw [show w.heap.size + 3 = b1 from e1.symm, show w.heap.size + 2 = b3 from e3.symm, show w.heap.size + 1 = b2 from e2.symm, show w.heap.size = b0 from e0.symm]
    clear hW1 e0 e1 e2 e3
    go_wp2_with fail
    have fy0 := cell_regrown y0; have fy1 := cell_regrown y1; have fz0 := cell_regrown z0; have fz1 := cell_regrown z1
    have C1 := Lib.hid (regr fun W (_ : Below W1.heap.size W1 W) => raddq a c W)
    clear y0 y1 z0 z1 j0
    refine Tl.region_tail_below 11 mixed (by kernel_rfl) ?_
    simp only [List.take_succ_cons, List.take_zero, List.drop_succ_cons, List.drop_zero]
    repeat (go_big_quiet_step ((with_reducible exact C1.out _ _)))
    refine wpQuiet_nil ?_
    intro _ hw'
    obtain ⟨⟨dq, osq⟩, hw''⟩ := hw'
    subst hw''
    obtain ⟨W4, hW4⟩ : ∃ W4, W4 = Sort.grow (redrawn W1 dq) osq := ⟨_, rfl⟩
    have hb4 : Below W1.heap.size W1 W4 := by rw [hW4]; exact below_regrown W1 dq osq
    rw [← hW4]
    have Z3 := Lib.hid (keep X1.out hb4)
    have HB4 := Lib.hid (step_below HB.out HB.out.size hb4)
    clear hW4 hb4 fy0 fy1 fz0 fz1 C1
    obtain ⟨u0, u1, u2⟩ := tot_cells Z3.out
    go_wp2_with fail
    have hp := put_tot Z3.out (addI a c) (max b d)
    obtain ⟨k0, k1, _⟩ := tot_cells hp
    have hB5 : Below w.heap.size w ((W4.setCell ⟨b1, 0, none⟩ (.int .i64 (addI a c))).setCell ⟨b1, 1, none⟩ (.int .i64 (max b d))) := (HB4.out.setCell (p := ⟨b1, 0, none⟩) HGE.out _).setCell (p := ⟨b1, 1, none⟩) HGE.out _
    refine bodyPost_ret (v := .agg #[.int .i64 (addI a c), .int .i64 (max b d)]) (by simp [results, Try.results26, go_sem, k0, k1]) rfl ⟨?_, hB5⟩
    exact ret_ag (by unfold jonS; simp) (by unfold jonM; simp)
  have g1 : (k == 1) = false := by simp [h1]
  by_cases h2 : k = 2
  · subst h2
    obtain ⟨W1, hW1⟩ : ∃ W1, W1 = (((w.alloc (.cells #[.int .u8 2, .int .i64 st, .int .i64 so, .int .i64 dm, .int .i64 ep] 26)).alloc (.cells #[.int .i64 a, .int .i64 b] 48)).alloc (.cells #[.int .i64 c, .int .i64 d] 48)).alloc (.cells #[.int .i64 0, .int .i64 0] 48) := ⟨_, rfl⟩
    have hal := al4 w (.cells #[.int .u8 2, .int .i64 st, .int .i64 so, .int .i64 dm, .int .i64 ep] 26) (.cells #[.int .i64 a, .int .i64 b] 48) (.cells #[.int .i64 c, .int .i64 d] 48) (.cells #[.int .i64 0, .int .i64 0] 48)
    rw [← hW1] at hal
    obtain ⟨b0, e0⟩ : ∃ b0, b0 = w.heap.size := ⟨_, rfl⟩
    obtain ⟨b2, e2⟩ : ∃ b2, b2 = w.heap.size + 1 := ⟨_, rfl⟩
    obtain ⟨b3, e3⟩ : ∃ b3, b3 = w.heap.size + 2 := ⟨_, rfl⟩
    obtain ⟨b1, e1⟩ : ∃ b1, b1 = w.heap.size + 3 := ⟨_, rfl⟩
    obtain ⟨x0, x2, x3, x1, hb⟩ := hal
    rw [← e0] at x0; rw [← e1] at x1; rw [← e2] at x2; rw [← e3] at x3
    have X1 := Lib.hid x1; have HB := Lib.hid hb
    have HGE : Hid (w.heap.size ≤ b1) := Lib.hid (by omega)
    obtain ⟨j0, _, _, _, _, _⟩ := jb_cells x0
    obtain ⟨y0, y1, _⟩ := tot_cells x2
    obtain ⟨z0, z1, _⟩ := tot_cells x3
    clear x0 x1 x2 x3 hb
    go_enter Try.func26, Try.ntmps26
    go_upto_region 1 with fail
    rw [← hW1]
    rw [show w.heap.size + 3 = b1 from e1.symm, show w.heap.size + 2 = b3 from e3.symm, show w.heap.size + 1 = b2 from e2.symm, show w.heap.size = b0 from e0.symm]
    clear hW1 e0 e1 e2 e3
    go_wp2_with fail
    have fy0 := cell_regrown y0; have fy1 := cell_regrown y1; have fz0 := cell_regrown z0; have fz1 := cell_regrown z1
    have C1 := Lib.hid (regr fun W (_ : Below W1.heap.size W1 W) => raddq a c W)
    have C2 := Lib.hid (regr fun W (_ : Below W1.heap.size W1 W) => raddq b d W)
    clear y0 y1 z0 z1 j0
    refine Tl.region_tail_below 11 mixed (by kernel_rfl) ?_
    simp only [List.take_succ_cons, List.take_zero, List.drop_succ_cons, List.drop_zero]
    repeat (go_big_quiet_step ((with_reducible first | exact C1.out _ _ | exact C2.out _ _)))
    refine wpQuiet_nil ?_
    intro _ hw'
    obtain ⟨⟨dq, osq⟩, hw''⟩ := hw'
    subst hw''
    obtain ⟨W4, hW4⟩ : ∃ W4, W4 = Sort.grow (redrawn W1 dq) osq := ⟨_, rfl⟩
    have hb4 : Below W1.heap.size W1 W4 := by rw [hW4]; exact below_regrown W1 dq osq
    rw [← hW4]
    have Z3 := Lib.hid (keep X1.out hb4)
    have HB4 := Lib.hid (step_below HB.out HB.out.size hb4)
    clear hW4 hb4 fy0 fy1 fz0 fz1 C1 C2
    obtain ⟨u0, u1, u2⟩ := tot_cells Z3.out
    go_wp2_with fail
    have hp := put_tot Z3.out (addI a c) (addI b d)
    obtain ⟨k0, k1, _⟩ := tot_cells hp
    have hB5 : Below w.heap.size w ((W4.setCell ⟨b1, 0, none⟩ (.int .i64 (addI a c))).setCell ⟨b1, 1, none⟩ (.int .i64 (addI b d))) := (HB4.out.setCell (p := ⟨b1, 0, none⟩) HGE.out _).setCell (p := ⟨b1, 1, none⟩) HGE.out _
    refine bodyPost_ret (v := .agg #[.int .i64 (addI a c), .int .i64 (addI b d)]) (by simp [results, Try.results26, go_sem, k0, k1]) rfl ⟨?_, hB5⟩
    exact ret_ag (by unfold jonS; simp) (by unfold jonM; simp)
  have g2 : (k == 2) = false := by simp [h2]
  by_cases h3 : k = 3
  · subst h3
    obtain ⟨W1, hW1⟩ : ∃ W1, W1 = (((w.alloc (.cells #[.int .u8 3, .int .i64 st, .int .i64 so, .int .i64 dm, .int .i64 ep] 26)).alloc (.cells #[.int .i64 a, .int .i64 b] 48)).alloc (.cells #[.int .i64 c, .int .i64 d] 48)).alloc (.cells #[.int .i64 0, .int .i64 0] 48) := ⟨_, rfl⟩
    have hal := al4 w (.cells #[.int .u8 3, .int .i64 st, .int .i64 so, .int .i64 dm, .int .i64 ep] 26) (.cells #[.int .i64 a, .int .i64 b] 48) (.cells #[.int .i64 c, .int .i64 d] 48) (.cells #[.int .i64 0, .int .i64 0] 48)
    rw [← hW1] at hal
    obtain ⟨b0, e0⟩ : ∃ b0, b0 = w.heap.size := ⟨_, rfl⟩
    obtain ⟨b2, e2⟩ : ∃ b2, b2 = w.heap.size + 1 := ⟨_, rfl⟩
    obtain ⟨b3, e3⟩ : ∃ b3, b3 = w.heap.size + 2 := ⟨_, rfl⟩
    obtain ⟨b1, e1⟩ : ∃ b1, b1 = w.heap.size + 3 := ⟨_, rfl⟩
    obtain ⟨x0, x2, x3, x1, hb⟩ := hal
    rw [← e0] at x0; rw [← e1] at x1; rw [← e2] at x2; rw [← e3] at x3
    have X1 := Lib.hid x1; have HB := Lib.hid hb
    have HGE : Hid (w.heap.size ≤ b1) := Lib.hid (by omega)
    obtain ⟨j0, _, _, _, _, _⟩ := jb_cells x0
    obtain ⟨y0, y1, _⟩ := tot_cells x2
    obtain ⟨z0, z1, _⟩ := tot_cells x3
    clear x0 x1 x2 x3 hb
    go_enter Try.func26, Try.ntmps26
    go_upto_region 1 with fail
    rw [← hW1]
    rw [show w.heap.size + 3 = b1 from e1.symm, show w.heap.size + 2 = b3 from e3.symm, show w.heap.size + 1 = b2 from e2.symm, show w.heap.size = b0 from e0.symm]
    clear hW1 e0 e1 e2 e3
    go_wp2_with fail
    have fy0 := cell_regrown y0; have fy1 := cell_regrown y1; have fz0 := cell_regrown z0; have fz1 := cell_regrown z1
    have C1 := Lib.hid (regr fun W (_ : Below W1.heap.size W1 W) => raddq a c W)
    have C2 := Lib.hid (regr fun W (_ : Below W1.heap.size W1 W) => raddq b d W)
    clear y0 y1 z0 z1 j0
    refine Tl.region_tail_below 11 mixed (by kernel_rfl) ?_
    simp only [List.take_succ_cons, List.take_zero, List.drop_succ_cons, List.drop_zero]
    repeat (go_big_quiet_step ((with_reducible first | exact C1.out _ _ | exact C2.out _ _)))
    refine wpQuiet_nil ?_
    intro _ hw'
    obtain ⟨⟨dq, osq⟩, hw''⟩ := hw'
    subst hw''
    obtain ⟨W4, hW4⟩ : ∃ W4, W4 = Sort.grow (redrawn W1 dq) osq := ⟨_, rfl⟩
    have hb4 : Below W1.heap.size W1 W4 := by rw [hW4]; exact below_regrown W1 dq osq
    rw [← hW4]
    have Z3 := Lib.hid (keep X1.out hb4)
    have HB4 := Lib.hid (step_below HB.out HB.out.size hb4)
    clear hW4 hb4 fy0 fy1 fz0 fz1 C1 C2
    obtain ⟨u0, u1, u2⟩ := tot_cells Z3.out
    go_wp2_with fail
    have hp := put_tot Z3.out (addI a c) (addI b d)
    obtain ⟨k0, k1, _⟩ := tot_cells hp
    have hB5 : Below w.heap.size w ((W4.setCell ⟨b1, 0, none⟩ (.int .i64 (addI a c))).setCell ⟨b1, 1, none⟩ (.int .i64 (addI b d))) := (HB4.out.setCell (p := ⟨b1, 0, none⟩) HGE.out _).setCell (p := ⟨b1, 1, none⟩) HGE.out _
    refine bodyPost_ret (v := .agg #[.int .i64 (addI a c), .int .i64 (addI b d)]) (by simp [results, Try.results26, go_sem, k0, k1]) rfl ⟨?_, hB5⟩
    exact ret_ag (by unfold jonS; simp) (by unfold jonM; simp)
  have g3 : (k == 3) = false := by simp [h3]
  obtain ⟨W1, hW1⟩ : ∃ W1, W1 = (((w.alloc (.cells #[.int .u8 k, .int .i64 st, .int .i64 so, .int .i64 dm, .int .i64 ep] 26)).alloc (.cells #[.int .i64 a, .int .i64 b] 48)).alloc (.cells #[.int .i64 c, .int .i64 d] 48)).alloc (.cells #[.int .i64 0, .int .i64 0] 48) := ⟨_, rfl⟩
  have hal := al4 w (.cells #[.int .u8 k, .int .i64 st, .int .i64 so, .int .i64 dm, .int .i64 ep] 26) (.cells #[.int .i64 a, .int .i64 b] 48) (.cells #[.int .i64 c, .int .i64 d] 48) (.cells #[.int .i64 0, .int .i64 0] 48)
  rw [← hW1] at hal
  obtain ⟨b0, e0⟩ : ∃ b0, b0 = w.heap.size := ⟨_, rfl⟩
  obtain ⟨b2, e2⟩ : ∃ b2, b2 = w.heap.size + 1 := ⟨_, rfl⟩
  obtain ⟨b3, e3⟩ : ∃ b3, b3 = w.heap.size + 2 := ⟨_, rfl⟩
  obtain ⟨b1, e1⟩ : ∃ b1, b1 = w.heap.size + 3 := ⟨_, rfl⟩
  obtain ⟨x0, x2, x3, x1, hb⟩ := hal
  rw [← e0] at x0; rw [← e1] at x1; rw [← e2] at x2; rw [← e3] at x3
  have X1 := Lib.hid x1; have HB := Lib.hid hb
  have HGE : Hid (w.heap.size ≤ b1) := Lib.hid (by omega)
  obtain ⟨j0, _, _, _, _, _⟩ := jb_cells x0
  obtain ⟨y0, y1, _⟩ := tot_cells x2
  obtain ⟨z0, z1, _⟩ := tot_cells x3
  clear x0 x1 x2 x3 hb
  go_enter Try.func26, Try.ntmps26
  go_upto_region 1 with fail
  rw [← hW1]
  rw [show w.heap.size + 3 = b1 from e1.symm, show w.heap.size + 2 = b3 from e3.symm, show w.heap.size + 1 = b2 from e2.symm, show w.heap.size = b0 from e0.symm]
  clear hW1 e0 e1 e2 e3
  obtain ⟨u0, u1, u2⟩ := tot_cells X1.out
  go_wp2_with fail
  have hp := put_tot X1.out (0) (0)
  obtain ⟨k0, k1, _⟩ := tot_cells hp
  have hB5 : Below w.heap.size w ((W1.setCell ⟨b1, 0, none⟩ (.int .i64 (0))).setCell ⟨b1, 1, none⟩ (.int .i64 (0))) := (HB.out.setCell (p := ⟨b1, 0, none⟩) HGE.out _).setCell (p := ⟨b1, 1, none⟩) HGE.out _
  refine bodyPost_ret (v := .agg #[.int .i64 (0), .int .i64 (0)]) (by simp [results, Try.results26, go_sem, k0, k1]) rfl ⟨?_, hB5⟩
  exact ret_ag (by unfold jonS; rw [if_neg (by omega)]) (by unfold jonM; rw [if_neg h1, if_neg (by omega)])
theorem plain_any (a b : Int) (w : World) : Calls Try.prog 22 #[.agg #[.int .i64 a, .int .i64 b]] w fun e w' => e = .returned (.agg #[.int .i64 a, .int .i64 b]) ∧ Below w.heap.size w w' := by
  obtain ⟨W1, hW1⟩ : ∃ W1, W1 = (w.alloc (.cells #[.int .i64 a, .int .i64 b] 47)).alloc (.cells #[.int .i64 0, .int .i64 0] 48) := ⟨_, rfl⟩
  have hal := al2 w (.cells #[.int .i64 a, .int .i64 b] 47) (.cells #[.int .i64 0, .int .i64 0] 48)
  rw [← hW1] at hal
  obtain ⟨b0, e0⟩ : ∃ b0, b0 = w.heap.size := ⟨_, rfl⟩
  obtain ⟨b1, e1⟩ : ∃ b1, b1 = w.heap.size + 1 := ⟨_, rfl⟩
  obtain ⟨x0, x1, hb⟩ := hal
  rw [← e0] at x0; rw [← e1] at x1
  have X1 := Lib.hid x1; have HB := Lib.hid hb
  have HGE : Hid (w.heap.size ≤ b1) := Lib.hid (by omega)
  obtain ⟨y0, y1, _⟩ := tot_cells x0
  obtain ⟨u0, u1, u2⟩ := tot_cells x1
  clear x0 x1 hb
  go_enter Try.func22, Try.ntmps22
  go_upto_region 1 with fail
  rw [← hW1]
  rw [show w.heap.size + 1 = b1 from e1.symm, show w.heap.size = b0 from e0.symm]
  clear hW1 e0 e1
  go_wp2_with fail
  have hp := put_tot X1.out (a) (b)
  obtain ⟨k0, k1, _⟩ := tot_cells hp
  have hB5 : Below w.heap.size w ((W1.setCell ⟨b1, 0, none⟩ (.int .i64 (a))).setCell ⟨b1, 1, none⟩ (.int .i64 (b))) := (HB.out.setCell (p := ⟨b1, 0, none⟩) HGE.out _).setCell (p := ⟨b1, 1, none⟩) HGE.out _
  refine bodyPost_ret (v := .agg #[.int .i64 (a), .int .i64 (b)]) (by simp [results, Try.results22, go_sem, k0, k1]) rfl ⟨?_, hB5⟩
  rfl
theorem eq_t (a0 a1 b0 b1 : Int) (r : Bool) (hr : Hid ((decide (a0 = b0) && decide (a1 = b1)) = r)) (w : World) :
    Sem.run Try.prog (binOp .eql 47 (.agg #[.int .i64 a0, .int .i64 a1]) (.agg #[.int .i64 b0, .int .i64 b1])) w = .ok (.bool r) w := by
  have u3 := Try.underlying2
  have a3 := Try.isAgg2
  have z3 := Try.sizeOf2
  have hS : Try.prog.underlying 47 = some (.struct (Try.prog.fieldsOf 47)) := by kernel_rfl
  have hp : Try.prog.stoodInHeld 47 = false := by kernel_rfl
  rw [run_eql_struct, show (10000 : Nat) = 9999 + 1 from rfl, run_equalIn_agg w 9999 47 _ _ hS hp]
  simp only [Program.fieldsOf, Try.underlying47]
  go_simp
  have hr' := hr.out
  by_cases h1 : a0 = b0 <;> by_cases h2 : a1 = b1 <;> subst hr' <;> simp [h1, h2]
theorem eq_r (a0 a1 b0 b1 : Int) (r : Bool) (hr : Hid ((decide (a0 = b0) && decide (a1 = b1)) = r)) (w : World) :
    Sem.run Try.prog (binOp .eql 48 (.agg #[.int .i64 a0, .int .i64 a1]) (.agg #[.int .i64 b0, .int .i64 b1])) w = .ok (.bool r) w := by
  have u3 := Try.underlying2
  have a3 := Try.isAgg2
  have z3 := Try.sizeOf2
  have hS : Try.prog.underlying 48 = some (.struct (Try.prog.fieldsOf 48)) := by kernel_rfl
  have hp : Try.prog.stoodInHeld 48 = false := by kernel_rfl
  rw [run_eql_struct, show (10000 : Nat) = 9999 + 1 from rfl, run_equalIn_agg w 9999 48 _ _ hS hp]
  simp only [Program.fieldsOf, Try.underlying48]
  go_simp
  have hr' := hr.out
  by_cases h1 : a0 = b0 <;> by_cases h2 : a1 = b1 <;> subst hr' <;> simp [h1, h2]
end Go.Proofs.Ytobmkhbkcmdhbaa.Al
