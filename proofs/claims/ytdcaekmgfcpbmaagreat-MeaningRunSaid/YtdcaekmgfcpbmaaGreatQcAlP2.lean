/-
  What is proved here: contracts of algos.Start, Compute, Combine, Part, Join, Done, Check and of the document's own. Conditions: numbers fit an int.
-/
import Derived.Test.YtdcaekmgfcpbmaaGreatQcAlR1x
import Derived.Test.YtdcaekmgfcpbmaaGreatQcPtG6x
import Derived.Test.YtdcaekmgfcpbmaaGreatQcPaTail
namespace Go.Proofs.YtdcaekmgfcpbmaaGreat.Al
open Go.RowKit Gr Wd Ws Fx Rk Lb
def sttM (k V v so : Int) : Int := if k = 1 then giveI 4294967296 V else if k = 2 then v else if k = 3 then Pa.stt v so else 0
def sttB (k v so : Int) : Bool := if k = 1 then true else if k = 2 then true else if k = 3 then decide (v = so) else false
def cmpM (k V dm x : Int) (h : Bool) (m s : Int) : Int := if k = 1 then takeI V dm (gotI h m) s else if k = 2 then takM x h m else if k = 3 then Pa.tkm x h m else 0
def cmpB (k V dm x : Int) (h : Bool) (m s : Int) : Bool := if k = 1 then decide (¬ takeI V dm (gotI h m) s = x) else if k = 2 then takB x h m else if k = 3 then Pa.tkb x h m else false
def prtS (k v : Int) (n : Nat) : Int := if k = 1 then (if n = 0 then max v 0 else 0) else 0
def prtM (k a v : Int) (c : Bool) : Int := if k = 1 then apt a v else if k = 2 ∨ k = 3 then (if c = true then 1 else 0) else 0
def jonS (k a b : Int) : Int := if k = 1 ∨ k = 2 ∨ k = 3 then addI a b else 0
def jonM (k a b : Int) : Int := if k = 1 then max a b else if k = 2 ∨ k = 3 then addI a b else 0
def jobOk (k st so dm ep V : Int) : Bool := decide (0 ≤ st) && decide (st ≤ 2000) && (if k = 1 then decide (0 ≤ dm) && decide (dm ≤ 4294967296) && decide (0 ≤ ep) && decide (ep ≤ 4294967296) && decide (so = 0) else if k = 2 then decide (so = 0) && decide (dm = 0) && decide (ep = 0) else if k = 3 then decide (0 ≤ so) && decide (so < V) && decide (dm = 0) && decide (ep = 0) else false)
def chkJ (k st so dm ep V : Int) (L : List Ed) : Int := if chk V L = 0 then (if jobOk k st so dm ep V = true then 0 else 100) else chk V L
def donB (k st ep s m : Int) : Bool := if k = 1 then (decide (st ≤ s) || (decide (1 ≤ s) && decide (m ≤ ep))) else if k = 2 ∨ k = 3 then (decide (st ≤ s) || (decide (1 ≤ s) && decide (m ≤ 0))) else false
theorem ret_tb {a a' : Int} {b b' : Bool} (h : a = a') (k : b = b') : Ending.returned (.tuple #[.int .i64 a, .bool b]) = .returned (.tuple #[.int .i64 a', .bool b']) := by rw [h, k]
theorem ret_ag {a a' b b' : Int} (h : a = a') (k : b = b') : Ending.returned (.agg #[.int .i64 a, .int .i64 b]) = .returned (.agg #[.int .i64 a', .int .i64 b']) := by rw [h, k]
theorem at_alloc {w : World} {i : Nat} {x : Obj} (h : w.heap[i]? = some x) (o : Obj) : (w.alloc o).heap[i]? = some x := (((Below.refl _ w).alloc (Nat.le_refl _) o).block i (lt_of_block h)).trans h
theorem al2 (w : World) (a b : Obj) : ((w.alloc a).alloc b).heap[w.heap.size]? = some a ∧ ((w.alloc a).alloc b).heap[w.heap.size + 1]? = some b ∧ Below w.heap.size w ((w.alloc a).alloc b) := by
  refine ⟨at_alloc (heap_alloc_new w a) b, ?_, ((Below.refl _ w).alloc (Nat.le_refl _) a).alloc (by simp) b⟩
  have := heap_alloc_new (w.alloc a) b
  rw [show (w.alloc a).heap.size = w.heap.size + 1 by simp] at this; exact this
theorem al3 (w : World) (a b c : Obj) : (((w.alloc a).alloc b).alloc c).heap[w.heap.size]? = some a ∧ (((w.alloc a).alloc b).alloc c).heap[w.heap.size + 1]? = some b ∧ (((w.alloc a).alloc b).alloc c).heap[w.heap.size + 2]? = some c ∧ Below w.heap.size w (((w.alloc a).alloc b).alloc c) := by
  obtain ⟨h1, h2, h3⟩ := al2 w a b
  refine ⟨at_alloc h1 c, at_alloc h2 c, ?_, h3.alloc h3.size c⟩
  have := heap_alloc_new ((w.alloc a).alloc b) c
  rw [show ((w.alloc a).alloc b).heap.size = w.heap.size + 2 by simp] at this; exact this
theorem al4 (w : World) (a b c d : Obj) : ((((w.alloc a).alloc b).alloc c).alloc d).heap[w.heap.size]? = some a ∧ ((((w.alloc a).alloc b).alloc c).alloc d).heap[w.heap.size + 1]? = some b ∧ ((((w.alloc a).alloc b).alloc c).alloc d).heap[w.heap.size + 2]? = some c ∧ ((((w.alloc a).alloc b).alloc c).alloc d).heap[w.heap.size + 3]? = some d ∧ Below w.heap.size w ((((w.alloc a).alloc b).alloc c).alloc d) := by
  obtain ⟨h1, h2, h3, h4⟩ := al3 w a b c
  refine ⟨at_alloc h1 d, at_alloc h2 d, at_alloc h3 d, ?_, h4.alloc h4.size d⟩
  have := heap_alloc_new (((w.alloc a).alloc b).alloc c) d
  rw [show (((w.alloc a).alloc b).alloc c).heap.size = w.heap.size + 3 by simp] at this; exact this
theorem keep {w w' : World} {i : Nat} {o : Obj} (h : w.heap[i]? = some o) (hb : Below w.heap.size w w') : w'.heap[i]? = some o := (hb.block i (lt_of_block h)).trans h
theorem tot_cells {W : World} {b : Nat} {x y : Int} {T : TypeId} (h : W.heap[b]? = some (.cells #[.int .i64 x, .int .i64 y] T (0, 0))) : W.cell? ⟨b, 0, none⟩ = some (.int .i64 x) ∧ W.cell? ⟨b, 1, none⟩ = some (.int .i64 y) ∧ ∀ j, W.frozen? ⟨b, j, none⟩ = false :=
  ⟨by rw [Lib.cell_of_heap h]; rfl, by rw [Lib.cell_of_heap h]; rfl, fun j => Lib.frozen_of_heap h j⟩
theorem jb_cells {W : World} {b : Nat} {k st so dm ep : Int} (h : W.heap[b]? = some (.cells #[.int .u8 k, .int .i64 st, .int .i64 so, .int .i64 dm, .int .i64 ep] 40 (0, 0))) : W.cell? ⟨b, 0, none⟩ = some (.int .u8 k) ∧ W.cell? ⟨b, 1, none⟩ = some (.int .i64 st) ∧ W.cell? ⟨b, 2, none⟩ = some (.int .i64 so) ∧ W.cell? ⟨b, 3, none⟩ = some (.int .i64 dm) ∧ W.cell? ⟨b, 4, none⟩ = some (.int .i64 ep) ∧ b < W.heap.size :=
  ⟨by rw [Lib.cell_of_heap h]; rfl, by rw [Lib.cell_of_heap h]; rfl, by rw [Lib.cell_of_heap h]; rfl, by rw [Lib.cell_of_heap h]; rfl, by rw [Lib.cell_of_heap h]; rfl, lt_of_block h⟩
theorem put_tot {W : World} {b : Nat} {x y : Int} {T : TypeId} (h : W.heap[b]? = some (.cells #[.int .i64 x, .int .i64 y] T (0, 0))) (p q : Int) :
    ((W.setCell ⟨b, 0, none⟩ (.int .i64 p)).setCell ⟨b, 1, none⟩ (.int .i64 q)).heap[b]? = some (.cells #[.int .i64 p, .int .i64 q] T (0, 0)) := by
  have h1 := heap_setCell_same W b 0 _ T (.int .i64 p) h
  have h2 := heap_setCell_same _ b 1 _ T (.int .i64 q) h1
  exact h2
theorem addq (a b : Int) (w : World) : Calls Tryz.prog 75 #[.int .i64 a, .int .i64 b] w fun e w' => e = .returned (.int .i64 (addI a b)) ∧ Below w.heap.size w w' :=
  (Pa.add_of a b w).mono fun _ _ k => ⟨k.1, k.2 ▸ Below.refl _ _⟩
set_option maxRecDepth 100000 in
theorem comb_any (k st so dm ep a b : Int) (w : World) : Calls Tryz.prog 111 #[.agg #[.int .u8 k, .int .i64 st, .int .i64 so, .int .i64 dm, .int .i64 ep], .int .i64 a, .int .i64 b] w fun e w' => e = .returned (.int .i64 (comb k a b)) ∧ Below w.heap.size w w' := by
  have HB1 := fun (k : Int) => Lib.hid ((Below.refl _ w).alloc (Nat.le_refl _) (.cells #[.int .u8 k, .int .i64 st, .int .i64 so, .int .i64 dm, .int .i64 ep] 40))
  by_cases h1 : k = 1
  · subst h1
    have hl_combine := look_combine_1 st so dm ep
    go_enter Tryz.func111, Tryz.ntmps111
    go_wp2_with fail
    refine (prog_1 st so dm ep _).mono ?_
    rintro e w2 ⟨rfl, hb2⟩
    have HB2 : Hid (Below w.heap.size w w2) := Lib.hid (step_below (HB1 1).out (HB1 1).out.size hb2)
    clear hb2
    go_wp2_with fail
    refine (comb_ranks 1 st so dm ep a b _).mono ?_
    rintro e w3 ⟨rfl, hb3⟩
    have HB3 : Hid (Below w.heap.size w w3) := Lib.hid (step_below HB2.out HB2.out.size hb3)
    clear hb3
    go_wp2
    go_ret
    exact ⟨rfl, HB3.out⟩
  by_cases h2 : k = 2
  · subst h2
    have hl_combine := look_combine_2 st so dm ep
    go_enter Tryz.func111, Tryz.ntmps111
    go_wp2_with fail
    refine (prog_2 st so dm ep _).mono ?_
    rintro e w2 ⟨rfl, hb2⟩
    have HB2 : Hid (Below w.heap.size w w2) := Lib.hid (step_below (HB1 2).out (HB1 2).out.size hb2)
    clear hb2
    go_wp2_with fail
    refine (comb_least a b _).mono ?_
    rintro e w3 ⟨rfl, hb3⟩
    have HB3 : Hid (Below w.heap.size w w3) := Lib.hid (step_below HB2.out HB2.out.size hb3)
    clear hb3
    go_wp2
    go_ret
    exact ⟨rfl, HB3.out⟩
  by_cases h3 : k = 3
  · subst h3
    have hl_combine := look_combine_3 st so dm ep
    go_enter Tryz.func111, Tryz.ntmps111
    go_wp2_with fail
    refine (prog_3 st so dm ep _).mono ?_
    rintro e w2 ⟨rfl, hb2⟩
    have HB2 : Hid (Below w.heap.size w w2) := Lib.hid (step_below (HB1 3).out (HB1 3).out.size hb2)
    clear hb2
    go_wp2_with fail
    refine (comb_least a b _).mono ?_
    rintro e w3 ⟨rfl, hb3⟩
    have HB3 : Hid (Below w.heap.size w w3) := Lib.hid (step_below HB2.out HB2.out.size hb3)
    clear hb3
    go_wp2
    go_ret
    exact ⟨rfl, HB3.out⟩
  go_enter Tryz.func111, Tryz.ntmps111
  go_wp2_with fail
  refine (prog_no k st so dm ep h1 h2 h3 _).mono ?_
  rintro e w2 ⟨rfl, hb2⟩
  have HB2 : Hid (Below w.heap.size w w2) := Lib.hid (step_below (HB1 k).out (HB1 k).out.size hb2)
  clear hb2
  go_wp2
  go_ret
  exact ⟨Fx.ret_int (by unfold comb; rw [if_neg h1, if_neg (by omega)]), HB2.out⟩
set_option maxRecDepth 100000 in
set_option maxHeartbeats 2000000 in
theorem join_any (k st so dm ep a b c d : Int) (w : World) : Calls Tryz.prog 80 #[.agg #[.int .u8 k, .int .i64 st, .int .i64 so, .int .i64 dm, .int .i64 ep], .agg #[.int .i64 a, .int .i64 b], .agg #[.int .i64 c, .int .i64 d]] w fun e w' => e = .returned (.agg #[.int .i64 (jonS k a c), .int .i64 (jonM k b d)]) ∧ Below w.heap.size w w' := by
  have mixed := mixedO
  by_cases h1 : k = 1
  · subst h1
    obtain ⟨W1, hW1⟩ : ∃ W1, W1 = (((w.alloc (.cells #[.int .u8 1, .int .i64 st, .int .i64 so, .int .i64 dm, .int .i64 ep] 40)).alloc (.cells #[.int .i64 a, .int .i64 b] 132)).alloc (.cells #[.int .i64 c, .int .i64 d] 132)).alloc (.cells #[.int .i64 0, .int .i64 0] 132) := ⟨_, rfl⟩
    have hal := al4 w (.cells #[.int .u8 1, .int .i64 st, .int .i64 so, .int .i64 dm, .int .i64 ep] 40) (.cells #[.int .i64 a, .int .i64 b] 132) (.cells #[.int .i64 c, .int .i64 d] 132) (.cells #[.int .i64 0, .int .i64 0] 132)
    rw [← hW1] at hal
    obtain ⟨b0, e0⟩ : ∃ b0, b0 = w.heap.size := ⟨_, rfl⟩
    obtain ⟨b1, e1⟩ : ∃ b1, b1 = w.heap.size + 1 := ⟨_, rfl⟩
    obtain ⟨b2, e2⟩ : ∃ b2, b2 = w.heap.size + 2 := ⟨_, rfl⟩
    obtain ⟨b3, e3⟩ : ∃ b3, b3 = w.heap.size + 3 := ⟨_, rfl⟩
    obtain ⟨x0, x1, x2, x3, hb⟩ := hal
    rw [← e0] at x0; rw [← e1] at x1; rw [← e2] at x2; rw [← e3] at x3
    have X0 := Lib.hid x0; have X1 := Lib.hid x1; have X2 := Lib.hid x2; have X3 := Lib.hid x3; have HB := Lib.hid hb
    have hge : w.heap.size ≤ b3 := by omega
    clear x0 x1 x2 x3 hb
    have hl := look_joinChanges_1 st so dm ep
    go_enter Tryz.func80, Tryz.ntmps80
    go_upto_region 1 with fail
    rw [← hW1]
    rw [show w.heap.size + 3 = b3 from e3.symm, show w.heap.size + 2 = b2 from e2.symm, show w.heap.size + 1 = b1 from e1.symm, show w.heap.size = b0 from e0.symm]
    have HGE : Hid (w.heap.size ≤ b3) := Lib.hid (by omega)
    clear hW1 e0 e1 e2 e3 hge
    obtain ⟨j0, j1, j2, j3, j4, _⟩ := jb_cells X0.out
    go_wp2_with fail
    clear j0 j1 j2 j3 j4
    refine (prog_1 st so dm ep _).mono ?_
    rintro e w2 ⟨rfl, hb2⟩
    have Y1 := Lib.hid (keep X1.out hb2); have Y2 := Lib.hid (keep X2.out hb2); have Y3 := Lib.hid (keep X3.out hb2); have HB2 := Lib.hid (step_below HB.out HB.out.size hb2)
    clear hb2 X0 X1 X2 X3
    obtain ⟨y0, y1, _⟩ := tot_cells Y1.out
    obtain ⟨z0, z1, _⟩ := tot_cells Y2.out
    go_wp2_with fail
    have fy0 := cell_regrown y0; have fy1 := cell_regrown y1; have fz0 := cell_regrown z0; have fz1 := cell_regrown z1
    have C1 := Lib.hid (regr fun W (_ : Below w2.heap.size w2 W) => addq a c W)
    have C2 := Lib.hid (regr fun W (_ : Below w2.heap.size w2 W) => joinc_ranks 1 st so dm ep b d W)
    clear y0 y1 z0 z1
    refine Tl.region_tail_below 12 mixed (by kernel_rfl) ?_
    simp only [List.take_succ_cons, List.take_zero, List.drop_succ_cons, List.drop_zero]
    repeat (go_big_quiet_step ((with_reducible first | exact C1.out _ _ | exact C2.out _ _)))
    refine wpQuiet_nil ?_
    intro _ hw'
    obtain ⟨⟨dq, osq⟩, hw''⟩ := hw'
    subst hw''
    obtain ⟨W4, hW4⟩ : ∃ W4, W4 = Sort.grow (redrawn w2 dq) osq := ⟨_, rfl⟩
    have hb4 : Below w2.heap.size w2 W4 := by rw [hW4]; exact below_regrown w2 dq osq
    rw [← hW4]
    have Z3 := Lib.hid (keep Y3.out hb4)
    have HB4 := Lib.hid (step_below HB2.out HB2.out.size hb4)
    clear hW4 hb4 fy0 fy1 fz0 fz1 C1 C2
    obtain ⟨u0, u1, u2⟩ := tot_cells Z3.out
    go_wp2_with fail
    have hp := put_tot Z3.out (addI a c) (max b d)
    obtain ⟨k0, k1, _⟩ := tot_cells hp
    have hB5 : Below w.heap.size w ((W4.setCell ⟨b3, 0, none⟩ (.int .i64 (addI a c))).setCell ⟨b3, 1, none⟩ (.int .i64 (max b d))) := (HB4.out.setCell (p := ⟨b3, 0, none⟩) HGE.out _).setCell (p := ⟨b3, 1, none⟩) HGE.out _
    refine bodyPost_ret (v := .agg #[.int .i64 (addI a c), .int .i64 (max b d)]) (by simp [results, Tryz.results80, go_sem, k0, k1]) rfl ⟨?_, hB5⟩
    exact ret_ag (by unfold jonS; simp) (by unfold jonM; simp)
  by_cases h2 : k = 2
  · subst h2
    obtain ⟨W1, hW1⟩ : ∃ W1, W1 = (((w.alloc (.cells #[.int .u8 2, .int .i64 st, .int .i64 so, .int .i64 dm, .int .i64 ep] 40)).alloc (.cells #[.int .i64 a, .int .i64 b] 132)).alloc (.cells #[.int .i64 c, .int .i64 d] 132)).alloc (.cells #[.int .i64 0, .int .i64 0] 132) := ⟨_, rfl⟩
    have hal := al4 w (.cells #[.int .u8 2, .int .i64 st, .int .i64 so, .int .i64 dm, .int .i64 ep] 40) (.cells #[.int .i64 a, .int .i64 b] 132) (.cells #[.int .i64 c, .int .i64 d] 132) (.cells #[.int .i64 0, .int .i64 0] 132)
    rw [← hW1] at hal
    obtain ⟨b0, e0⟩ : ∃ b0, b0 = w.heap.size := ⟨_, rfl⟩
    obtain ⟨b1, e1⟩ : ∃ b1, b1 = w.heap.size + 1 := ⟨_, rfl⟩
    obtain ⟨b2, e2⟩ : ∃ b2, b2 = w.heap.size + 2 := ⟨_, rfl⟩
    obtain ⟨b3, e3⟩ : ∃ b3, b3 = w.heap.size + 3 := ⟨_, rfl⟩
    obtain ⟨x0, x1, x2, x3, hb⟩ := hal
    rw [← e0] at x0; rw [← e1] at x1; rw [← e2] at x2; rw [← e3] at x3
    have X0 := Lib.hid x0; have X1 := Lib.hid x1; have X2 := Lib.hid x2; have X3 := Lib.hid x3; have HB := Lib.hid hb
    have hge : w.heap.size ≤ b3 := by omega
    clear x0 x1 x2 x3 hb
    have hl := look_joinChanges_2 st so dm ep
    go_enter Tryz.func80, Tryz.ntmps80
    go_upto_region 1 with fail
    rw [← hW1]
    rw [show w.heap.size + 3 = b3 from e3.symm, show w.heap.size + 2 = b2 from e2.symm, show w.heap.size + 1 = b1 from e1.symm, show w.heap.size = b0 from e0.symm]
    have HGE : Hid (w.heap.size ≤ b3) := Lib.hid (by omega)
    clear hW1 e0 e1 e2 e3 hge
    obtain ⟨j0, j1, j2, j3, j4, _⟩ := jb_cells X0.out
    go_wp2_with fail
    clear j0 j1 j2 j3 j4
    refine (prog_2 st so dm ep _).mono ?_
    rintro e w2 ⟨rfl, hb2⟩
    have Y1 := Lib.hid (keep X1.out hb2); have Y2 := Lib.hid (keep X2.out hb2); have Y3 := Lib.hid (keep X3.out hb2); have HB2 := Lib.hid (step_below HB.out HB.out.size hb2)
    clear hb2 X0 X1 X2 X3
    obtain ⟨y0, y1, _⟩ := tot_cells Y1.out
    obtain ⟨z0, z1, _⟩ := tot_cells Y2.out
    go_wp2_with fail
    have fy0 := cell_regrown y0; have fy1 := cell_regrown y1; have fz0 := cell_regrown z0; have fz1 := cell_regrown z1
    have C1 := Lib.hid (regr fun W (_ : Below w2.heap.size w2 W) => addq a c W)
    have C2 := Lib.hid (regr fun W (_ : Below w2.heap.size w2 W) => joinc_least b d W)
    clear y0 y1 z0 z1
    refine Tl.region_tail_below 12 mixed (by kernel_rfl) ?_
    simp only [List.take_succ_cons, List.take_zero, List.drop_succ_cons, List.drop_zero]
    repeat (go_big_quiet_step ((with_reducible first | exact C1.out _ _ | exact C2.out _ _)))
    refine wpQuiet_nil ?_
    intro _ hw'
    obtain ⟨⟨dq, osq⟩, hw''⟩ := hw'
    subst hw''
    obtain ⟨W4, hW4⟩ : ∃ W4, W4 = Sort.grow (redrawn w2 dq) osq := ⟨_, rfl⟩
    have hb4 : Below w2.heap.size w2 W4 := by rw [hW4]; exact below_regrown w2 dq osq
    rw [← hW4]
    have Z3 := Lib.hid (keep Y3.out hb4)
    have HB4 := Lib.hid (step_below HB2.out HB2.out.size hb4)
    clear hW4 hb4 fy0 fy1 fz0 fz1 C1 C2
    obtain ⟨u0, u1, u2⟩ := tot_cells Z3.out
    go_wp2_with fail
    have hp := put_tot Z3.out (addI a c) (addI b d)
    obtain ⟨k0, k1, _⟩ := tot_cells hp
    have hB5 : Below w.heap.size w ((W4.setCell ⟨b3, 0, none⟩ (.int .i64 (addI a c))).setCell ⟨b3, 1, none⟩ (.int .i64 (addI b d))) := (HB4.out.setCell (p := ⟨b3, 0, none⟩) HGE.out _).setCell (p := ⟨b3, 1, none⟩) HGE.out _
    refine bodyPost_ret (v := .agg #[.int .i64 (addI a c), .int .i64 (addI b d)]) (by simp [results, Tryz.results80, go_sem, k0, k1]) rfl ⟨?_, hB5⟩
    exact ret_ag (by unfold jonS; simp) (by unfold jonM; simp)
  by_cases h3 : k = 3
  · subst h3
    obtain ⟨W1, hW1⟩ : ∃ W1, W1 = (((w.alloc (.cells #[.int .u8 3, .int .i64 st, .int .i64 so, .int .i64 dm, .int .i64 ep] 40)).alloc (.cells #[.int .i64 a, .int .i64 b] 132)).alloc (.cells #[.int .i64 c, .int .i64 d] 132)).alloc (.cells #[.int .i64 0, .int .i64 0] 132) := ⟨_, rfl⟩
    have hal := al4 w (.cells #[.int .u8 3, .int .i64 st, .int .i64 so, .int .i64 dm, .int .i64 ep] 40) (.cells #[.int .i64 a, .int .i64 b] 132) (.cells #[.int .i64 c, .int .i64 d] 132) (.cells #[.int .i64 0, .int .i64 0] 132)
    rw [← hW1] at hal
    obtain ⟨b0, e0⟩ : ∃ b0, b0 = w.heap.size := ⟨_, rfl⟩
    obtain ⟨b1, e1⟩ : ∃ b1, b1 = w.heap.size + 1 := ⟨_, rfl⟩
    obtain ⟨b2, e2⟩ : ∃ b2, b2 = w.heap.size + 2 := ⟨_, rfl⟩
    obtain ⟨b3, e3⟩ : ∃ b3, b3 = w.heap.size + 3 := ⟨_, rfl⟩
    obtain ⟨x0, x1, x2, x3, hb⟩ := hal
    rw [← e0] at x0; rw [← e1] at x1; rw [← e2] at x2; rw [← e3] at x3
    have X0 := Lib.hid x0; have X1 := Lib.hid x1; have X2 := Lib.hid x2; have X3 := Lib.hid x3; have HB := Lib.hid hb
    have hge : w.heap.size ≤ b3 := by omega
    clear x0 x1 x2 x3 hb
    have hl := look_joinChanges_3 st so dm ep
    go_enter Tryz.func80, Tryz.ntmps80
    go_upto_region 1 with fail
    rw [← hW1]
    rw [show w.heap.size + 3 = b3 from e3.symm, show w.heap.size + 2 = b2 from e2.symm, show w.heap.size + 1 = b1 from e1.symm, show w.heap.size = b0 from e0.symm]
    have HGE : Hid (w.heap.size ≤ b3) := Lib.hid (by omega)
    clear hW1 e0 e1 e2 e3 hge
    obtain ⟨j0, j1, j2, j3, j4, _⟩ := jb_cells X0.out
    go_wp2_with fail
    clear j0 j1 j2 j3 j4
    refine (prog_3 st so dm ep _).mono ?_
    rintro e w2 ⟨rfl, hb2⟩
    have Y1 := Lib.hid (keep X1.out hb2); have Y2 := Lib.hid (keep X2.out hb2); have Y3 := Lib.hid (keep X3.out hb2); have HB2 := Lib.hid (step_below HB.out HB.out.size hb2)
    clear hb2 X0 X1 X2 X3
    obtain ⟨y0, y1, _⟩ := tot_cells Y1.out
    obtain ⟨z0, z1, _⟩ := tot_cells Y2.out
    go_wp2_with fail
    have fy0 := cell_regrown y0; have fy1 := cell_regrown y1; have fz0 := cell_regrown z0; have fz1 := cell_regrown z1
    have C1 := Lib.hid (regr fun W (_ : Below w2.heap.size w2 W) => addq a c W)
    have C2 := Lib.hid (regr fun W (_ : Below w2.heap.size w2 W) => joinc_least b d W)
    clear y0 y1 z0 z1
    refine Tl.region_tail_below 12 mixed (by kernel_rfl) ?_
    simp only [List.take_succ_cons, List.take_zero, List.drop_succ_cons, List.drop_zero]
    repeat (go_big_quiet_step ((with_reducible first | exact C1.out _ _ | exact C2.out _ _)))
    refine wpQuiet_nil ?_
    intro _ hw'
    obtain ⟨⟨dq, osq⟩, hw''⟩ := hw'
    subst hw''
    obtain ⟨W4, hW4⟩ : ∃ W4, W4 = Sort.grow (redrawn w2 dq) osq := ⟨_, rfl⟩
    have hb4 : Below w2.heap.size w2 W4 := by rw [hW4]; exact below_regrown w2 dq osq
    rw [← hW4]
    have Z3 := Lib.hid (keep Y3.out hb4)
    have HB4 := Lib.hid (step_below HB2.out HB2.out.size hb4)
    clear hW4 hb4 fy0 fy1 fz0 fz1 C1 C2
    obtain ⟨u0, u1, u2⟩ := tot_cells Z3.out
    go_wp2_with fail
    have hp := put_tot Z3.out (addI a c) (addI b d)
    obtain ⟨k0, k1, _⟩ := tot_cells hp
    have hB5 : Below w.heap.size w ((W4.setCell ⟨b3, 0, none⟩ (.int .i64 (addI a c))).setCell ⟨b3, 1, none⟩ (.int .i64 (addI b d))) := (HB4.out.setCell (p := ⟨b3, 0, none⟩) HGE.out _).setCell (p := ⟨b3, 1, none⟩) HGE.out _
    refine bodyPost_ret (v := .agg #[.int .i64 (addI a c), .int .i64 (addI b d)]) (by simp [results, Tryz.results80, go_sem, k0, k1]) rfl ⟨?_, hB5⟩
    exact ret_ag (by unfold jonS; simp) (by unfold jonM; simp)
  obtain ⟨W1, hW1⟩ : ∃ W1, W1 = (((w.alloc (.cells #[.int .u8 k, .int .i64 st, .int .i64 so, .int .i64 dm, .int .i64 ep] 40)).alloc (.cells #[.int .i64 a, .int .i64 b] 132)).alloc (.cells #[.int .i64 c, .int .i64 d] 132)).alloc (.cells #[.int .i64 0, .int .i64 0] 132) := ⟨_, rfl⟩
  have hal := al4 w (.cells #[.int .u8 k, .int .i64 st, .int .i64 so, .int .i64 dm, .int .i64 ep] 40) (.cells #[.int .i64 a, .int .i64 b] 132) (.cells #[.int .i64 c, .int .i64 d] 132) (.cells #[.int .i64 0, .int .i64 0] 132)
  rw [← hW1] at hal
  obtain ⟨b0, e0⟩ : ∃ b0, b0 = w.heap.size := ⟨_, rfl⟩
  obtain ⟨b1, e1⟩ : ∃ b1, b1 = w.heap.size + 1 := ⟨_, rfl⟩
  obtain ⟨b2, e2⟩ : ∃ b2, b2 = w.heap.size + 2 := ⟨_, rfl⟩
  obtain ⟨b3, e3⟩ : ∃ b3, b3 = w.heap.size + 3 := ⟨_, rfl⟩
  obtain ⟨x0, x1, x2, x3, hb⟩ := hal
  rw [← e0] at x0; rw [← e1] at x1; rw [← e2] at x2; rw [← e3] at x3
  have X0 := Lib.hid x0; have X1 := Lib.hid x1; have X2 := Lib.hid x2; have X3 := Lib.hid x3; have HB := Lib.hid hb
  have hge : w.heap.size ≤ b3 := by omega
  clear x0 x1 x2 x3 hb
  go_enter Tryz.func80, Tryz.ntmps80
  go_upto_region 1 with fail
  rw [← hW1]
  rw [show w.heap.size + 3 = b3 from e3.symm, show w.heap.size + 2 = b2 from e2.symm, show w.heap.size + 1 = b1 from e1.symm, show w.heap.size = b0 from e0.symm]
  have HGE : Hid (w.heap.size ≤ b3) := Lib.hid (by omega)
  clear hW1 e0 e1 e2 e3 hge
  obtain ⟨j0, j1, j2, j3, j4, _⟩ := jb_cells X0.out
  go_wp2_with fail
  clear j0 j1 j2 j3 j4
  refine (prog_no k st so dm ep h1 h2 h3 _).mono ?_
  rintro e W4 ⟨rfl, hb2⟩
  have Z3 := Lib.hid (keep X3.out hb2); have HB4 := Lib.hid (step_below HB.out HB.out.size hb2)
  clear hb2 X0 X1 X2 X3
  obtain ⟨u0, u1, u2⟩ := tot_cells Z3.out
  go_wp2_with fail
  have hp := put_tot Z3.out (0) (0)
  obtain ⟨k0, k1, _⟩ := tot_cells hp
  have hB5 : Below w.heap.size w ((W4.setCell ⟨b3, 0, none⟩ (.int .i64 (0))).setCell ⟨b3, 1, none⟩ (.int .i64 (0))) := (HB4.out.setCell (p := ⟨b3, 0, none⟩) HGE.out _).setCell (p := ⟨b3, 1, none⟩) HGE.out _
  refine bodyPost_ret (v := .agg #[.int .i64 (0), .int .i64 (0)]) (by simp [results, Tryz.results80, go_sem, k0, k1]) rfl ⟨?_, hB5⟩
  exact ret_ag (by unfold jonS; rw [if_neg (by omega)]) (by unfold jonM; rw [if_neg h1, if_neg (by omega)])
end Go.Proofs.YtdcaekmgfcpbmaaGreat.Al
