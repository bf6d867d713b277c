/-
  What is proved here: contracts of algos.Done, Check and Part. Conditions: numbers fit an int.
-/
import Derived.Test.YtdcaekmgfcpbmaaGreatQcAlP3
import Derived.Stop.Asserts
namespace Go.Proofs.YtdcaekmgfcpbmaaGreat.Al
open Go.RowKit Gr Wd Ws Fx Rk Lb
theorem may_ranks (k st so dm ep V : Int) (w : World) : Calls Tryz.prog 151 #[.agg #[.int .u8 k, .int .i64 st, .int .i64 so, .int .i64 dm, .int .i64 ep], .int .i64 V] w fun e w' => e = .returned (.bool (decide (0 ≤ dm ∧ dm ≤ 4294967296) && decide (0 ≤ ep ∧ ep ≤ 4294967296) && decide (so = 0))) ∧ Below w.heap.size w w' := by
  have HB := Lib.hid ((Below.refl _ w).alloc (Nat.le_refl _) (.cells #[.int .u8 k, .int .i64 st, .int .i64 so, .int .i64 dm, .int .i64 ep] 96))
  obtain ⟨p, hp⟩ : ∃ p, decide (0 ≤ dm ∧ dm ≤ 4294967296) = p := ⟨_, rfl⟩
  obtain ⟨q, hq⟩ : ∃ q, decide (0 ≤ ep ∧ ep ≤ 4294967296) = q := ⟨_, rfl⟩
  have c1 := fun W => isFraction_any dm W
  have c2 := fun W => isFraction_any ep W
  rw [hp] at c1 ⊢
  rw [hq] at c2 ⊢
  have C1 := Lib.hid c1; have C2 := Lib.hid c2
  clear c1 c2 hp hq
  cases p
  · go_enter Tryz.func151, Tryz.ntmps151
    go_wp2_with fail
    refine (C1.out _).mono ?_
    rintro e w' ⟨rfl, rfl⟩
    go_wp2
    go_ret
    exact ⟨ret_b (by simp), HB.out⟩
  · cases q
    · go_enter Tryz.func151, Tryz.ntmps151
      go_wp2_with fail
      refine (C1.out _).mono ?_
      rintro e w' ⟨rfl, rfl⟩
      go_wp2_with fail
      refine (C2.out _).mono ?_
      rintro e w' ⟨rfl, rfl⟩
      go_wp2
      go_ret
      exact ⟨ret_b (by simp), HB.out⟩
    · go_enter Tryz.func151, Tryz.ntmps151
      go_wp2_with fail
      refine (C1.out _).mono ?_
      rintro e w' ⟨rfl, rfl⟩
      go_wp2_with fail
      refine (C2.out _).mono ?_
      rintro e w' ⟨rfl, rfl⟩
      go_wp2
      go_ret
      exact ⟨ret_b (by by_cases h : so = 0 <;> simp [h]), HB.out⟩
theorem may_labels (k st so dm ep V : Int) (w : World) : Calls Tryz.prog 173 #[.agg #[.int .u8 k, .int .i64 st, .int .i64 so, .int .i64 dm, .int .i64 ep], .int .i64 V] w fun e w' => e = .returned (.bool (decide (so = 0) && decide (dm = 0) && decide (ep = 0))) ∧ Below w.heap.size w w' := by
  have HB := fun (so dm ep : Int) => Lib.hid ((Below.refl _ w).alloc (Nat.le_refl _) (.cells #[.int .u8 k, .int .i64 st, .int .i64 so, .int .i64 dm, .int .i64 ep] 100))
  by_cases g0 : so = 0
  · skip
    by_cases g1 : dm = 0
    · skip
      by_cases g2 : ep = 0
      · skip
        go_enter Tryz.func173, Tryz.ntmps173
        go_wp2
        all_goals (go_ret; exact ⟨ret_b (by first | (simp [*]; done) | (simp [*]; omega) | (simp; omega)), (HB _ _ _).out⟩)
      · go_enter Tryz.func173, Tryz.ntmps173
        go_wp2
        all_goals (go_ret; exact ⟨ret_b (by first | (simp [*]; done) | (simp [*]; omega) | (simp; omega)), (HB _ _ _).out⟩)
    · go_enter Tryz.func173, Tryz.ntmps173
      go_wp2
      all_goals (go_ret; exact ⟨ret_b (by first | (simp [*]; done) | (simp [*]; omega) | (simp; omega)), (HB _ _ _).out⟩)
  · go_enter Tryz.func173, Tryz.ntmps173
    go_wp2
    all_goals (go_ret; exact ⟨ret_b (by first | (simp [*]; done) | (simp [*]; omega) | (simp; omega)), (HB _ _ _).out⟩)
theorem may_distances (k st so dm ep V : Int) (w : World) : Calls Tryz.prog 200 #[.agg #[.int .u8 k, .int .i64 st, .int .i64 so, .int .i64 dm, .int .i64 ep], .int .i64 V] w fun e w' => e = .returned (.bool (decide (0 ≤ so) && decide (so < V) && decide (dm = 0) && decide (ep = 0))) ∧ Below w.heap.size w w' := by
  have HB := fun (so dm ep : Int) => Lib.hid ((Below.refl _ w).alloc (Nat.le_refl _) (.cells #[.int .u8 k, .int .i64 st, .int .i64 so, .int .i64 dm, .int .i64 ep] 101))
  by_cases g0 : 0 ≤ so
  · skip
    by_cases g1 : so < V
    · skip
      by_cases g2 : dm = 0
      · skip
        by_cases g3 : ep = 0
        · skip
          go_enter Tryz.func200, Tryz.ntmps200
          go_wp2
          all_goals (go_ret; exact ⟨ret_b (by first | (simp [*]; done) | (simp [*]; omega) | (simp; omega)), (HB _ _ _).out⟩)
        · go_enter Tryz.func200, Tryz.ntmps200
          go_wp2
          all_goals (go_ret; exact ⟨ret_b (by first | (simp [*]; done) | (simp [*]; omega) | (simp; omega)), (HB _ _ _).out⟩)
      · go_enter Tryz.func200, Tryz.ntmps200
        go_wp2
        all_goals (go_ret; exact ⟨ret_b (by first | (simp [*]; done) | (simp [*]; omega) | (simp; omega)), (HB _ _ _).out⟩)
    · go_enter Tryz.func200, Tryz.ntmps200
      go_wp2
      all_goals (go_ret; exact ⟨ret_b (by first | (simp [*]; done) | (simp [*]; omega) | (simp; omega)), (HB _ _ _).out⟩)
  · go_enter Tryz.func200, Tryz.ntmps200
    go_wp2
    all_goals (go_ret; exact ⟨ret_b (by first | (simp [*]; done) | (simp [*]; omega) | (simp; omega)), (HB _ _ _).out⟩)
set_option maxRecDepth 100000 in
set_option maxHeartbeats 1000000 in
theorem done_any (k st so dm ep s m : Int) (w : World) : Calls Tryz.prog 37 #[.agg #[.int .u8 k, .int .i64 st, .int .i64 so, .int .i64 dm, .int .i64 ep], .int .i64 s, .int .i64 m] w fun e w' => e = .returned (.bool (donB k st ep s m)) ∧ Below w.heap.size w w' := by
  by_cases h1 : k = 1
  · subst h1
    by_cases g0 : st ≤ s
    · have hl := look_still_1 st so dm ep
      obtain ⟨W1, hW1⟩ : ∃ W1, W1 = w.alloc (.cells #[.int .u8 1, .int .i64 st, .int .i64 so, .int .i64 dm, .int .i64 ep] 40) := ⟨_, rfl⟩
      have HB : Hid (Below w.heap.size w W1) := Lib.hid (by rw [hW1]; exact (Below.refl _ w).alloc (Nat.le_refl _) _)
      have x0 : W1.heap[w.heap.size]? = some (.cells #[.int .u8 1, .int .i64 st, .int .i64 so, .int .i64 dm, .int .i64 ep] 40 (0, 0)) := by rw [hW1]; exact heap_alloc_new w _
      obtain ⟨b0, e0⟩ : ∃ b0, b0 = w.heap.size := ⟨_, rfl⟩
      rw [← e0] at x0
      have X0 := Lib.hid x0
      clear x0
      go_enter Tryz.func37, Tryz.ntmps37
      go_upto_region 1 with fail
      rw [← hW1]
      rw [show w.heap.size = b0 from e0.symm]
      clear hW1 e0
      obtain ⟨j0, j1, j2, j3, j4, _⟩ := jb_cells X0.out
      go_wp2_with fail
      clear j0 j1 j2 j3 j4
      refine (prog_1 st so dm ep _).mono ?_
      rintro e w2 ⟨rfl, hb2⟩
      have HB2 := Lib.hid (step_below HB.out HB.out.size hb2)
      obtain ⟨j0, j1, j2, j3, j4, _⟩ := jb_cells (keep X0.out hb2)
      clear hb2 X0 j0 j2 j3 j4
      go_wp2
      all_goals (go_ret; exact ⟨ret_b (by simp [donB, *]; try omega), HB2.out⟩)
    · by_cases g1 : 1 ≤ s
      · have hl := look_still_1 st so dm ep
        obtain ⟨W1, hW1⟩ : ∃ W1, W1 = w.alloc (.cells #[.int .u8 1, .int .i64 st, .int .i64 so, .int .i64 dm, .int .i64 ep] 40) := ⟨_, rfl⟩
        have HB : Hid (Below w.heap.size w W1) := Lib.hid (by rw [hW1]; exact (Below.refl _ w).alloc (Nat.le_refl _) _)
        have x0 : W1.heap[w.heap.size]? = some (.cells #[.int .u8 1, .int .i64 st, .int .i64 so, .int .i64 dm, .int .i64 ep] 40 (0, 0)) := by rw [hW1]; exact heap_alloc_new w _
        obtain ⟨b0, e0⟩ : ∃ b0, b0 = w.heap.size := ⟨_, rfl⟩
        rw [← e0] at x0
        have X0 := Lib.hid x0
        clear x0
        go_enter Tryz.func37, Tryz.ntmps37
        go_upto_region 1 with fail
        rw [← hW1]
        rw [show w.heap.size = b0 from e0.symm]
        clear hW1 e0
        obtain ⟨j0, j1, j2, j3, j4, _⟩ := jb_cells X0.out
        go_wp2_with fail
        clear j0 j1 j2 j3 j4
        refine (prog_1 st so dm ep _).mono ?_
        rintro e w2 ⟨rfl, hb2⟩
        have HB2 := Lib.hid (step_below HB.out HB.out.size hb2)
        obtain ⟨j0, j1, j2, j3, j4, _⟩ := jb_cells (keep X0.out hb2)
        clear hb2 X0 j0 j2 j3 j4
        go_wp2_with fail
        refine (still_ranks 1 st so dm ep _).mono ?_
        rintro e w3 ⟨rfl, hb3⟩
        have HB3 := Lib.hid (step_below HB2.out HB2.out.size hb3)
        clear hb3 j1
        go_wp2
        all_goals (go_ret; exact ⟨ret_b (by simp [donB, *]; try omega), HB3.out⟩)
      · have hl := look_still_1 st so dm ep
        obtain ⟨W1, hW1⟩ : ∃ W1, W1 = w.alloc (.cells #[.int .u8 1, .int .i64 st, .int .i64 so, .int .i64 dm, .int .i64 ep] 40) := ⟨_, rfl⟩
        have HB : Hid (Below w.heap.size w W1) := Lib.hid (by rw [hW1]; exact (Below.refl _ w).alloc (Nat.le_refl _) _)
        have x0 : W1.heap[w.heap.size]? = some (.cells #[.int .u8 1, .int .i64 st, .int .i64 so, .int .i64 dm, .int .i64 ep] 40 (0, 0)) := by rw [hW1]; exact heap_alloc_new w _
        obtain ⟨b0, e0⟩ : ∃ b0, b0 = w.heap.size := ⟨_, rfl⟩
        rw [← e0] at x0
        have X0 := Lib.hid x0
        clear x0
        go_enter Tryz.func37, Tryz.ntmps37
        go_upto_region 1 with fail
        rw [← hW1]
        rw [show w.heap.size = b0 from e0.symm]
        clear hW1 e0
        obtain ⟨j0, j1, j2, j3, j4, _⟩ := jb_cells X0.out
        go_wp2_with fail
        clear j0 j1 j2 j3 j4
        refine (prog_1 st so dm ep _).mono ?_
        rintro e w2 ⟨rfl, hb2⟩
        have HB2 := Lib.hid (step_below HB.out HB.out.size hb2)
        obtain ⟨j0, j1, j2, j3, j4, _⟩ := jb_cells (keep X0.out hb2)
        clear hb2 X0 j0 j2 j3 j4
        go_wp2
        all_goals (go_ret; exact ⟨ret_b (by simp [donB, *]; try omega), HB2.out⟩)
  by_cases h2 : k = 2
  · subst h2
    by_cases g0 : st ≤ s
    · have hl := look_still_2 st so dm ep
      obtain ⟨W1, hW1⟩ : ∃ W1, W1 = w.alloc (.cells #[.int .u8 2, .int .i64 st, .int .i64 so, .int .i64 dm, .int .i64 ep] 40) := ⟨_, rfl⟩
      have HB : Hid (Below w.heap.size w W1) := Lib.hid (by rw [hW1]; exact (Below.refl _ w).alloc (Nat.le_refl _) _)
      have x0 : W1.heap[w.heap.size]? = some (.cells #[.int .u8 2, .int .i64 st, .int .i64 so, .int .i64 dm, .int .i64 ep] 40 (0, 0)) := by rw [hW1]; exact heap_alloc_new w _
      obtain ⟨b0, e0⟩ : ∃ b0, b0 = w.heap.size := ⟨_, rfl⟩
      rw [← e0] at x0
      have X0 := Lib.hid x0
      clear x0
      go_enter Tryz.func37, Tryz.ntmps37
      go_upto_region 1 with fail
      rw [← hW1]
      rw [show w.heap.size = b0 from e0.symm]
      clear hW1 e0
      obtain ⟨j0, j1, j2, j3, j4, _⟩ := jb_cells X0.out
      go_wp2_with fail
      clear j0 j1 j2 j3 j4
      refine (prog_2 st so dm ep _).mono ?_
      rintro e w2 ⟨rfl, hb2⟩
      have HB2 := Lib.hid (step_below HB.out HB.out.size hb2)
      obtain ⟨j0, j1, j2, j3, j4, _⟩ := jb_cells (keep X0.out hb2)
      clear hb2 X0 j0 j2 j3 j4
      go_wp2
      all_goals (go_ret; exact ⟨ret_b (by simp [donB, *]; try omega), HB2.out⟩)
    · by_cases g1 : 1 ≤ s
      · have hl := look_still_2 st so dm ep
        obtain ⟨W1, hW1⟩ : ∃ W1, W1 = w.alloc (.cells #[.int .u8 2, .int .i64 st, .int .i64 so, .int .i64 dm, .int .i64 ep] 40) := ⟨_, rfl⟩
        have HB : Hid (Below w.heap.size w W1) := Lib.hid (by rw [hW1]; exact (Below.refl _ w).alloc (Nat.le_refl _) _)
        have x0 : W1.heap[w.heap.size]? = some (.cells #[.int .u8 2, .int .i64 st, .int .i64 so, .int .i64 dm, .int .i64 ep] 40 (0, 0)) := by rw [hW1]; exact heap_alloc_new w _
        obtain ⟨b0, e0⟩ : ∃ b0, b0 = w.heap.size := ⟨_, rfl⟩
        rw [← e0] at x0
        have X0 := Lib.hid x0
        clear x0
        go_enter Tryz.func37, Tryz.ntmps37
        go_upto_region 1 with fail
        rw [← hW1]
        rw [show w.heap.size = b0 from e0.symm]
        clear hW1 e0
        obtain ⟨j0, j1, j2, j3, j4, _⟩ := jb_cells X0.out
        go_wp2_with fail
        clear j0 j1 j2 j3 j4
        refine (prog_2 st so dm ep _).mono ?_
        rintro e w2 ⟨rfl, hb2⟩
        have HB2 := Lib.hid (step_below HB.out HB.out.size hb2)
        obtain ⟨j0, j1, j2, j3, j4, _⟩ := jb_cells (keep X0.out hb2)
        clear hb2 X0 j0 j2 j3 j4
        go_wp2_with fail
        refine (still_least _).mono ?_
        rintro e w3 ⟨rfl, hb3⟩
        have HB3 := Lib.hid (step_below HB2.out HB2.out.size hb3)
        clear hb3 j1
        go_wp2
        all_goals (go_ret; exact ⟨ret_b (by simp [donB, *]; try omega), HB3.out⟩)
      · have hl := look_still_2 st so dm ep
        obtain ⟨W1, hW1⟩ : ∃ W1, W1 = w.alloc (.cells #[.int .u8 2, .int .i64 st, .int .i64 so, .int .i64 dm, .int .i64 ep] 40) := ⟨_, rfl⟩
        have HB : Hid (Below w.heap.size w W1) := Lib.hid (by rw [hW1]; exact (Below.refl _ w).alloc (Nat.le_refl _) _)
        have x0 : W1.heap[w.heap.size]? = some (.cells #[.int .u8 2, .int .i64 st, .int .i64 so, .int .i64 dm, .int .i64 ep] 40 (0, 0)) := by rw [hW1]; exact heap_alloc_new w _
        obtain ⟨b0, e0⟩ : ∃ b0, b0 = w.heap.size := ⟨_, rfl⟩
        rw [← e0] at x0
        have X0 := Lib.hid x0
        clear x0
        go_enter Tryz.func37, Tryz.ntmps37
        go_upto_region 1 with fail
        rw [← hW1]
        rw [show w.heap.size = b0 from e0.symm]
        clear hW1 e0
        obtain ⟨j0, j1, j2, j3, j4, _⟩ := jb_cells X0.out
        go_wp2_with fail
        clear j0 j1 j2 j3 j4
        refine (prog_2 st so dm ep _).mono ?_
        rintro e w2 ⟨rfl, hb2⟩
        have HB2 := Lib.hid (step_below HB.out HB.out.size hb2)
        obtain ⟨j0, j1, j2, j3, j4, _⟩ := jb_cells (keep X0.out hb2)
        clear hb2 X0 j0 j2 j3 j4
        go_wp2
        all_goals (go_ret; exact ⟨ret_b (by simp [donB, *]; try omega), HB2.out⟩)
  by_cases h3 : k = 3
  · subst h3
    by_cases g0 : st ≤ s
    · have hl := look_still_3 st so dm ep
      obtain ⟨W1, hW1⟩ : ∃ W1, W1 = w.alloc (.cells #[.int .u8 3, .int .i64 st, .int .i64 so, .int .i64 dm, .int .i64 ep] 40) := ⟨_, rfl⟩
      have HB : Hid (Below w.heap.size w W1) := Lib.hid (by rw [hW1]; exact (Below.refl _ w).alloc (Nat.le_refl _) _)
      have x0 : W1.heap[w.heap.size]? = some (.cells #[.int .u8 3, .int .i64 st, .int .i64 so, .int .i64 dm, .int .i64 ep] 40 (0, 0)) := by rw [hW1]; exact heap_alloc_new w _
      obtain ⟨b0, e0⟩ : ∃ b0, b0 = w.heap.size := ⟨_, rfl⟩
      rw [← e0] at x0
      have X0 := Lib.hid x0
      clear x0
      go_enter Tryz.func37, Tryz.ntmps37
      go_upto_region 1 with fail
      rw [← hW1]
      rw [show w.heap.size = b0 from e0.symm]
      clear hW1 e0
      obtain ⟨j0, j1, j2, j3, j4, _⟩ := jb_cells X0.out
      go_wp2_with fail
      clear j0 j1 j2 j3 j4
      refine (prog_3 st so dm ep _).mono ?_
      rintro e w2 ⟨rfl, hb2⟩
      have HB2 := Lib.hid (step_below HB.out HB.out.size hb2)
      obtain ⟨j0, j1, j2, j3, j4, _⟩ := jb_cells (keep X0.out hb2)
      clear hb2 X0 j0 j2 j3 j4
      go_wp2
      all_goals (go_ret; exact ⟨ret_b (by simp [donB, *]; try omega), HB2.out⟩)
    · by_cases g1 : 1 ≤ s
      · have hl := look_still_3 st so dm ep
        obtain ⟨W1, hW1⟩ : ∃ W1, W1 = w.alloc (.cells #[.int .u8 3, .int .i64 st, .int .i64 so, .int .i64 dm, .int .i64 ep] 40) := ⟨_, rfl⟩
        have HB : Hid (Below w.heap.size w W1) := Lib.hid (by rw [hW1]; exact (Below.refl _ w).alloc (Nat.le_refl _) _)
        have x0 : W1.heap[w.heap.size]? = some (.cells #[.int .u8 3, .int .i64 st, .int .i64 so, .int .i64 dm, .int .i64 ep] 40 (0, 0)) := by rw [hW1]; exact heap_alloc_new w _
        obtain ⟨b0, e0⟩ : ∃ b0, b0 = w.heap.size := ⟨_, rfl⟩
        rw [← e0] at x0
        have X0 := Lib.hid x0
        clear x0
        go_enter Tryz.func37, Tryz.ntmps37
        go_upto_region 1 with fail
        rw [← hW1]
        rw [show w.heap.size = b0 from e0.symm]
        clear hW1 e0
        obtain ⟨j0, j1, j2, j3, j4, _⟩ := jb_cells X0.out
        go_wp2_with fail
        clear j0 j1 j2 j3 j4
        refine (prog_3 st so dm ep _).mono ?_
        rintro e w2 ⟨rfl, hb2⟩
        have HB2 := Lib.hid (step_below HB.out HB.out.size hb2)
        obtain ⟨j0, j1, j2, j3, j4, _⟩ := jb_cells (keep X0.out hb2)
        clear hb2 X0 j0 j2 j3 j4
        go_wp2_with fail
        refine (still_least _).mono ?_
        rintro e w3 ⟨rfl, hb3⟩
        have HB3 := Lib.hid (step_below HB2.out HB2.out.size hb3)
        clear hb3 j1
        go_wp2
        all_goals (go_ret; exact ⟨ret_b (by simp [donB, *]; try omega), HB3.out⟩)
      · have hl := look_still_3 st so dm ep
        obtain ⟨W1, hW1⟩ : ∃ W1, W1 = w.alloc (.cells #[.int .u8 3, .int .i64 st, .int .i64 so, .int .i64 dm, .int .i64 ep] 40) := ⟨_, rfl⟩
        have HB : Hid (Below w.heap.size w W1) := Lib.hid (by rw [hW1]; exact (Below.refl _ w).alloc (Nat.le_refl _) _)
        have x0 : W1.heap[w.heap.size]? = some (.cells #[.int .u8 3, .int .i64 st, .int .i64 so, .int .i64 dm, .int .i64 ep] 40 (0, 0)) := by rw [hW1]; exact heap_alloc_new w _
        obtain ⟨b0, e0⟩ : ∃ b0, b0 = w.heap.size := ⟨_, rfl⟩
        rw [← e0] at x0
        have X0 := Lib.hid x0
        clear x0
        go_enter Tryz.func37, Tryz.ntmps37
        go_upto_region 1 with fail
        rw [← hW1]
        rw [show w.heap.size = b0 from e0.symm]
        clear hW1 e0
        obtain ⟨j0, j1, j2, j3, j4, _⟩ := jb_cells X0.out
        go_wp2_with fail
        clear j0 j1 j2 j3 j4
        refine (prog_3 st so dm ep _).mono ?_
        rintro e w2 ⟨rfl, hb2⟩
        have HB2 := Lib.hid (step_below HB.out HB.out.size hb2)
        obtain ⟨j0, j1, j2, j3, j4, _⟩ := jb_cells (keep X0.out hb2)
        clear hb2 X0 j0 j2 j3 j4
        go_wp2
        all_goals (go_ret; exact ⟨ret_b (by simp [donB, *]; try omega), HB2.out⟩)
  obtain ⟨W1, hW1⟩ : ∃ W1, W1 = w.alloc (.cells #[.int .u8 k, .int .i64 st, .int .i64 so, .int .i64 dm, .int .i64 ep] 40) := ⟨_, rfl⟩
  have HB : Hid (Below w.heap.size w W1) := Lib.hid (by rw [hW1]; exact (Below.refl _ w).alloc (Nat.le_refl _) _)
  have x0 : W1.heap[w.heap.size]? = some (.cells #[.int .u8 k, .int .i64 st, .int .i64 so, .int .i64 dm, .int .i64 ep] 40 (0, 0)) := by rw [hW1]; exact heap_alloc_new w _
  obtain ⟨b0, e0⟩ : ∃ b0, b0 = w.heap.size := ⟨_, rfl⟩
  rw [← e0] at x0
  have X0 := Lib.hid x0
  clear x0
  go_enter Tryz.func37, Tryz.ntmps37
  go_upto_region 1 with fail
  rw [← hW1]
  rw [show w.heap.size = b0 from e0.symm]
  clear hW1 e0
  obtain ⟨j0, j1, j2, j3, j4, _⟩ := jb_cells X0.out
  go_wp2_with fail
  clear j0 j1 j2 j3 j4
  refine (prog_no k st so dm ep h1 h2 h3 _).mono ?_
  rintro e w2 ⟨rfl, hb2⟩
  have HB2 := Lib.hid (step_below HB.out HB.out.size hb2)
  clear hb2
  go_wp2
  go_ret
  exact ⟨ret_b (by unfold donB; rw [if_neg h1, if_neg (by omega)]), HB2.out⟩
theorem asserts_1 (st so dm ep : Int) (w : World) : (Instr.typeAssert (.iface 96 (.agg #[.int .u8 1, .int .i64 st, .int .i64 so, .int .i64 dm, .int .i64 ep])) 65 147 true).run Tryz.prog w = .ok (.tuple #[.iface 96 (.agg #[.int .u8 1, .int .i64 st, .int .i64 so, .int .i64 dm, .int .i64 ep]), .bool true]) w := run_typeAssert_hasB Tryz.underlying147 (by kernel_rfl) _ _ w
theorem asserts_2 (st so dm ep : Int) (w : World) : (Instr.typeAssert (.iface 100 (.agg #[.int .u8 2, .int .i64 st, .int .i64 so, .int .i64 dm, .int .i64 ep])) 65 147 true).run Tryz.prog w = .ok (.tuple #[.nilIface, .bool false]) w := run_typeAssert_lacksB Tryz.underlying147 (by kernel_rfl) (by kernel_rfl) _ _ w
theorem asserts_3 (st so dm ep : Int) (w : World) : (Instr.typeAssert (.iface 101 (.agg #[.int .u8 3, .int .i64 st, .int .i64 so, .int .i64 dm, .int .i64 ep])) 65 147 true).run Tryz.prog w = .ok (.tuple #[.nilIface, .bool false]) w := run_typeAssert_lacksB Tryz.underlying147 (by kernel_rfl) (by kernel_rfl) _ _ w
set_option maxRecDepth 100000 in
set_option maxHeartbeats 1000000 in
theorem part_any (k st so dm ep a v : Int) (c : Bool) (A : Option Addr) (n cc : Nat) (ha0 : -9223372036854775808 ≤ a) (ha1 : a ≤ 9223372036854775807) (hv0 : -9223372036854775808 ≤ v) (hv1 : v ≤ 9223372036854775807) (w : World) : Calls Tryz.prog 81 #[.agg #[.int .u8 k, .int .i64 st, .int .i64 so, .int .i64 dm, .int .i64 ep], .int .i64 a, .int .i64 v, .bool c, .slice A n cc] w fun e w' => e = .returned (.agg #[.int .i64 (prtS k v n), .int .i64 (prtM k a v c)]) ∧ Below w.heap.size w w' := by
  by_cases h1 : k = 1
  · subst h1
    have hl := look_change_1 st so dm ep
    have hl2 := look_lost_1 st so dm ep
    have has := asserts_1 st so dm ep
    obtain ⟨W1, hW1⟩ : ∃ W1, W1 = (w.alloc (.cells #[.int .u8 1, .int .i64 st, .int .i64 so, .int .i64 dm, .int .i64 ep] 40)).alloc (.cells #[.int .i64 0, .int .i64 0] 132) := ⟨_, rfl⟩
    have hal := al2 w (.cells #[.int .u8 1, .int .i64 st, .int .i64 so, .int .i64 dm, .int .i64 ep] 40) (.cells #[.int .i64 0, .int .i64 0] 132)
    rw [← hW1] at hal
    obtain ⟨b0, e0⟩ : ∃ b0, b0 = w.heap.size := ⟨_, rfl⟩
    obtain ⟨b1, e1⟩ : ∃ b1, b1 = w.heap.size + 1 := ⟨_, rfl⟩
    obtain ⟨x0, x1, hb⟩ := hal
    rw [← e0] at x0; rw [← e1] at x1
    have X0 := Lib.hid x0; have X1 := Lib.hid x1; have HB := Lib.hid hb
    have HGE : Hid (w.heap.size ≤ b1) := Lib.hid (by omega)
    clear x0 x1 hb
    go_enter Tryz.func81, Tryz.ntmps81
    go_upto_region 1 with fail
    rw [← hW1]
    rw [show w.heap.size + 1 = b1 from e1.symm, show w.heap.size = b0 from e0.symm]
    clear hW1 e0 e1
    obtain ⟨j0, j1, j2, j3, j4, _⟩ := jb_cells X0.out
    go_wp2_with fail
    clear j0 j1 j2 j3 j4
    refine (prog_1 st so dm ep _).mono ?_
    rintro e w2 ⟨rfl, hb2⟩
    have Y1 := Lib.hid (keep X1.out hb2); have HB2 := Lib.hid (step_below HB.out HB.out.size hb2)
    clear hb2 X0 X1
    go_wp2_with fail
    refine (change_ranks 1 st so dm ep a v c _ ha0 ha1 hv0 hv1).mono ?_
    rintro e w3 ⟨rfl, hb3⟩
    have Y3 := Lib.hid (keep Y1.out hb3); have HB3 := Lib.hid (step_below HB2.out HB2.out.size hb3)
    clear hb3 Y1 HB2
    obtain ⟨q, hq⟩ : ∃ q, apt a v = q := ⟨_, rfl⟩
    rw [hq]
    have HQ := Lib.hid hq
    clear hq
    obtain ⟨W4, hW4⟩ : ∃ W4, W4 = w3.alloc (.cells #[.int .i64 0, .int .i64 q] 132) := ⟨_, rfl⟩
    have hb4 : Below w3.heap.size w3 W4 := by rw [hW4]; exact (Below.refl _ w3).alloc (Nat.le_refl _) _
    have Z4 : Hid (W4.heap[w3.heap.size]? = some (.cells #[.int .i64 0, .int .i64 q] 132 (0, 0))) := Lib.hid (by rw [hW4]; exact heap_alloc_new w3 _)
    have Y4 := Lib.hid (keep Y3.out hb4); have HB4 := Lib.hid (step_below HB3.out HB3.out.size hb4)
    obtain ⟨b4, e4⟩ : ∃ b4, b4 = w3.heap.size := ⟨_, rfl⟩
    rw [← e4] at Z4
    have HG4 : Hid (w.heap.size ≤ b4) := Lib.hid (by rw [e4]; exact HB3.out.size)
    have HNE : Hid (¬ b1 = b4) := Lib.hid (by have := lt_of_block Y3.out; omega)
    go_upto_region 5 with fail
    rw [← hW4]
    rw [show w3.heap.size = b4 from e4.symm]
    clear hW4 hb4 e4 Y3 HB3
    obtain ⟨z0, z1, zf⟩ := tot_cells Z4.out
    go_wp2_with fail
    refine (lost_ranks 1 st so dm ep v A n cc _).mono ?_
    rintro e w5 ⟨rfl, hb5⟩
    have Z5 := Lib.hid (keep Z4.out hb5); have Y5 := Lib.hid (keep Y4.out hb5); have HB5 := Lib.hid (step_below HB4.out HB4.out.size hb5)
    clear hb5 Z4 Y4 HB4 z0 z1 zf
    obtain ⟨t, ht⟩ : ∃ t, (if n = 0 then max v 0 else 0) = t := ⟨_, rfl⟩
    rw [ht]
    have HT := Lib.hid ht
    clear ht
    obtain ⟨z0, z1, zf⟩ := tot_cells Z5.out
    obtain ⟨W6, hW6⟩ : ∃ W6, W6 = w5.setCell ⟨b4, 0, none⟩ (.int .i64 t) := ⟨_, rfl⟩
    have Z6 : Hid (W6.heap[b4]? = some (.cells #[.int .i64 t, .int .i64 q] 132 (0, 0))) := Lib.hid (by rw [hW6]; exact heap_setCell_same w5 b4 0 _ _ _ Z5.out)
    have Y6 : Hid (W6.heap[b1]? = some (.cells #[.int .i64 0, .int .i64 0] 132 (0, 0))) := Lib.hid (by rw [hW6]; exact (heap_setCell_other w5 ⟨b4, 0, none⟩ b1 _ HNE.out).trans Y5.out)
    have HBZ : Hid (Below w.heap.size w W6) := Lib.hid (by rw [hW6]; exact HB5.out.setCell (p := ⟨b4, 0, none⟩) HG4.out _)
    go_upto_region 8 with fail
    rw [← hW6]
    clear hW6 z0 z1 zf
    obtain ⟨z0, z1, zf⟩ := tot_cells Z6.out
    obtain ⟨y0, y1, yf⟩ := tot_cells Y6.out
    go_wp2_with fail
    have hp := put_tot Y6.out (t) (q)
    obtain ⟨k0, k1, _⟩ := tot_cells hp
    have hB5 : Below w.heap.size w ((W6.setCell ⟨b1, 0, none⟩ (.int .i64 (t))).setCell ⟨b1, 1, none⟩ (.int .i64 (q))) := (HBZ.out.setCell (p := ⟨b1, 0, none⟩) HGE.out _).setCell (p := ⟨b1, 1, none⟩) HGE.out _
    refine bodyPost_ret (v := .agg #[.int .i64 (t), .int .i64 (q)]) (by simp [results, Tryz.results81, go_sem, k0, k1]) rfl ⟨?_, hB5⟩
    exact ret_ag (by rw [← HT.out]; unfold prtS; simp) (by rw [← HQ.out]; unfold prtM; simp)
  by_cases h2 : k = 2
  · subst h2
    have hl := look_change_2 st so dm ep
    have has := asserts_2 st so dm ep
    obtain ⟨W1, hW1⟩ : ∃ W1, W1 = (w.alloc (.cells #[.int .u8 2, .int .i64 st, .int .i64 so, .int .i64 dm, .int .i64 ep] 40)).alloc (.cells #[.int .i64 0, .int .i64 0] 132) := ⟨_, rfl⟩
    have hal := al2 w (.cells #[.int .u8 2, .int .i64 st, .int .i64 so, .int .i64 dm, .int .i64 ep] 40) (.cells #[.int .i64 0, .int .i64 0] 132)
    rw [← hW1] at hal
    obtain ⟨b0, e0⟩ : ∃ b0, b0 = w.heap.size := ⟨_, rfl⟩
    obtain ⟨b1, e1⟩ : ∃ b1, b1 = w.heap.size + 1 := ⟨_, rfl⟩
    obtain ⟨x0, x1, hb⟩ := hal
    rw [← e0] at x0; rw [← e1] at x1
    have X0 := Lib.hid x0; have X1 := Lib.hid x1; have HB := Lib.hid hb
    have HGE : Hid (w.heap.size ≤ b1) := Lib.hid (by omega)
    clear x0 x1 hb
    go_enter Tryz.func81, Tryz.ntmps81
    go_upto_region 1 with fail
    rw [← hW1]
    rw [show w.heap.size + 1 = b1 from e1.symm, show w.heap.size = b0 from e0.symm]
    clear hW1 e0 e1
    obtain ⟨j0, j1, j2, j3, j4, _⟩ := jb_cells X0.out
    go_wp2_with fail
    clear j0 j1 j2 j3 j4
    refine (prog_2 st so dm ep _).mono ?_
    rintro e w2 ⟨rfl, hb2⟩
    have Y1 := Lib.hid (keep X1.out hb2); have HB2 := Lib.hid (step_below HB.out HB.out.size hb2)
    clear hb2 X0 X1
    go_wp2_with fail
    refine (change_least a v c _).mono ?_
    rintro e w3 ⟨rfl, hb3⟩
    have Y3 := Lib.hid (keep Y1.out hb3); have HB3 := Lib.hid (step_below HB2.out HB2.out.size hb3)
    clear hb3 Y1 HB2
    obtain ⟨q, hq⟩ : ∃ q, (if c = true then (1 : Int) else 0) = q := ⟨_, rfl⟩
    rw [hq]
    have HQ := Lib.hid hq
    clear hq
    obtain ⟨W4, hW4⟩ : ∃ W4, W4 = w3.alloc (.cells #[.int .i64 0, .int .i64 q] 132) := ⟨_, rfl⟩
    have hb4 : Below w3.heap.size w3 W4 := by rw [hW4]; exact (Below.refl _ w3).alloc (Nat.le_refl _) _
    have Z4 : Hid (W4.heap[w3.heap.size]? = some (.cells #[.int .i64 0, .int .i64 q] 132 (0, 0))) := Lib.hid (by rw [hW4]; exact heap_alloc_new w3 _)
    have Y4 := Lib.hid (keep Y3.out hb4); have HB4 := Lib.hid (step_below HB3.out HB3.out.size hb4)
    obtain ⟨b4, e4⟩ : ∃ b4, b4 = w3.heap.size := ⟨_, rfl⟩
    rw [← e4] at Z4
    have HG4 : Hid (w.heap.size ≤ b4) := Lib.hid (by rw [e4]; exact HB3.out.size)
    have HNE : Hid (¬ b1 = b4) := Lib.hid (by have := lt_of_block Y3.out; omega)
    go_upto_region 5 with fail
    rw [← hW4]
    rw [show w3.heap.size = b4 from e4.symm]
    clear hW4 hb4 e4 Y3 HB3
    obtain ⟨z0, z1, zf⟩ := tot_cells Z4.out
    have HBZ := HB4
    obtain ⟨y0, y1, yf⟩ := tot_cells Y4.out
    go_wp2_with fail
    have hp := put_tot Y4.out (0) (q)
    obtain ⟨k0, k1, _⟩ := tot_cells hp
    have hB5 : Below w.heap.size w ((W4.setCell ⟨b1, 0, none⟩ (.int .i64 (0))).setCell ⟨b1, 1, none⟩ (.int .i64 (q))) := (HBZ.out.setCell (p := ⟨b1, 0, none⟩) HGE.out _).setCell (p := ⟨b1, 1, none⟩) HGE.out _
    refine bodyPost_ret (v := .agg #[.int .i64 (0), .int .i64 (q)]) (by simp [results, Tryz.results81, go_sem, k0, k1]) rfl ⟨?_, hB5⟩
    exact ret_ag (by unfold prtS; simp) (by rw [← HQ.out]; unfold prtM; simp)
  by_cases h3 : k = 3
  · subst h3
    have hl := look_change_3 st so dm ep
    have has := asserts_3 st so dm ep
    obtain ⟨W1, hW1⟩ : ∃ W1, W1 = (w.alloc (.cells #[.int .u8 3, .int .i64 st, .int .i64 so, .int .i64 dm, .int .i64 ep] 40)).alloc (.cells #[.int .i64 0, .int .i64 0] 132) := ⟨_, rfl⟩
    have hal := al2 w (.cells #[.int .u8 3, .int .i64 st, .int .i64 so, .int .i64 dm, .int .i64 ep] 40) (.cells #[.int .i64 0, .int .i64 0] 132)
    rw [← hW1] at hal
    obtain ⟨b0, e0⟩ : ∃ b0, b0 = w.heap.size := ⟨_, rfl⟩
    obtain ⟨b1, e1⟩ : ∃ b1, b1 = w.heap.size + 1 := ⟨_, rfl⟩
    obtain ⟨x0, x1, hb⟩ := hal
    rw [← e0] at x0; rw [← e1] at x1
    have X0 := Lib.hid x0; have X1 := Lib.hid x1; have HB := Lib.hid hb
    have HGE : Hid (w.heap.size ≤ b1) := Lib.hid (by omega)
    clear x0 x1 hb
    go_enter Tryz.func81, Tryz.ntmps81
    go_upto_region 1 with fail
    rw [← hW1]
    rw [show w.heap.size + 1 = b1 from e1.symm, show w.heap.size = b0 from e0.symm]
    clear hW1 e0 e1
    obtain ⟨j0, j1, j2, j3, j4, _⟩ := jb_cells X0.out
    go_wp2_with fail
    clear j0 j1 j2 j3 j4
    refine (prog_3 st so dm ep _).mono ?_
    rintro e w2 ⟨rfl, hb2⟩
    have Y1 := Lib.hid (keep X1.out hb2); have HB2 := Lib.hid (step_below HB.out HB.out.size hb2)
    clear hb2 X0 X1
    go_wp2_with fail
    refine (change_least a v c _).mono ?_
    rintro e w3 ⟨rfl, hb3⟩
    have Y3 := Lib.hid (keep Y1.out hb3); have HB3 := Lib.hid (step_below HB2.out HB2.out.size hb3)
    clear hb3 Y1 HB2
    obtain ⟨q, hq⟩ : ∃ q, (if c = true then (1 : Int) else 0) = q := ⟨_, rfl⟩
    rw [hq]
    have HQ := Lib.hid hq
    clear hq
    obtain ⟨W4, hW4⟩ : ∃ W4, W4 = w3.alloc (.cells #[.int .i64 0, .int .i64 q] 132) := ⟨_, rfl⟩
    have hb4 : Below w3.heap.size w3 W4 := by rw [hW4]; exact (Below.refl _ w3).alloc (Nat.le_refl _) _
    have Z4 : Hid (W4.heap[w3.heap.size]? = some (.cells #[.int .i64 0, .int .i64 q] 132 (0, 0))) := Lib.hid (by rw [hW4]; exact heap_alloc_new w3 _)
    have Y4 := Lib.hid (keep Y3.out hb4); have HB4 := Lib.hid (step_below HB3.out HB3.out.size hb4)
    obtain ⟨b4, e4⟩ : ∃ b4, b4 = w3.heap.size := ⟨_, rfl⟩
    rw [← e4] at Z4
    have HG4 : Hid (w.heap.size ≤ b4) := Lib.hid (by rw [e4]; exact HB3.out.size)
    have HNE : Hid (¬ b1 = b4) := Lib.hid (by have := lt_of_block Y3.out; omega)
    go_upto_region 5 with fail
    rw [← hW4]
    rw [show w3.heap.size = b4 from e4.symm]
    clear hW4 hb4 e4 Y3 HB3
    obtain ⟨z0, z1, zf⟩ := tot_cells Z4.out
    have HBZ := HB4
    obtain ⟨y0, y1, yf⟩ := tot_cells Y4.out
    go_wp2_with fail
    have hp := put_tot Y4.out (0) (q)
    obtain ⟨k0, k1, _⟩ := tot_cells hp
    have hB5 : Below w.heap.size w ((W4.setCell ⟨b1, 0, none⟩ (.int .i64 (0))).setCell ⟨b1, 1, none⟩ (.int .i64 (q))) := (HBZ.out.setCell (p := ⟨b1, 0, none⟩) HGE.out _).setCell (p := ⟨b1, 1, none⟩) HGE.out _
    refine bodyPost_ret (v := .agg #[.int .i64 (0), .int .i64 (q)]) (by simp [results, Tryz.results81, go_sem, k0, k1]) rfl ⟨?_, hB5⟩
    exact ret_ag (by unfold prtS; simp) (by rw [← HQ.out]; unfold prtM; simp)
  obtain ⟨W1, hW1⟩ : ∃ W1, W1 = (w.alloc (.cells #[.int .u8 k, .int .i64 st, .int .i64 so, .int .i64 dm, .int .i64 ep] 40)).alloc (.cells #[.int .i64 0, .int .i64 0] 132) := ⟨_, rfl⟩
  have hal := al2 w (.cells #[.int .u8 k, .int .i64 st, .int .i64 so, .int .i64 dm, .int .i64 ep] 40) (.cells #[.int .i64 0, .int .i64 0] 132)
  rw [← hW1] at hal
  obtain ⟨b0, e0⟩ : ∃ b0, b0 = w.heap.size := ⟨_, rfl⟩
  obtain ⟨b1, e1⟩ : ∃ b1, b1 = w.heap.size + 1 := ⟨_, rfl⟩
  obtain ⟨x0, x1, hb⟩ := hal
  rw [← e0] at x0; rw [← e1] at x1
  have X0 := Lib.hid x0; have X1 := Lib.hid x1; have HB := Lib.hid hb
  have HGE : Hid (w.heap.size ≤ b1) := Lib.hid (by omega)
  clear x0 x1 hb
  go_enter Tryz.func81, Tryz.ntmps81
  go_upto_region 1 with fail
  rw [← hW1]
  rw [show w.heap.size + 1 = b1 from e1.symm, show w.heap.size = b0 from e0.symm]
  clear hW1 e0 e1
  obtain ⟨j0, j1, j2, j3, j4, _⟩ := jb_cells X0.out
  go_wp2_with fail
  clear j0 j1 j2 j3 j4
  refine (prog_no k st so dm ep h1 h2 h3 _).mono ?_
  rintro e W4 ⟨rfl, hb2⟩
  have Y4 := Lib.hid (keep X1.out hb2); have HBZ := Lib.hid (step_below HB.out HB.out.size hb2)
  clear hb2 X0 X1
  obtain ⟨y0, y1, yf⟩ := tot_cells Y4.out
  go_wp2_with fail
  have hp := put_tot Y4.out (0) (0)
  obtain ⟨k0, k1, _⟩ := tot_cells hp
  have hB5 : Below w.heap.size w ((W4.setCell ⟨b1, 0, none⟩ (.int .i64 (0))).setCell ⟨b1, 1, none⟩ (.int .i64 (0))) := (HBZ.out.setCell (p := ⟨b1, 0, none⟩) HGE.out _).setCell (p := ⟨b1, 1, none⟩) HGE.out _
  refine bodyPost_ret (v := .agg #[.int .i64 (0), .int .i64 (0)]) (by simp [results, Tryz.results81, go_sem, k0, k1]) rfl ⟨?_, hB5⟩
  exact ret_ag (by unfold prtS; rw [if_neg h1]) (by unfold prtM; rw [if_neg h1, if_neg (by omega)])
end Go.Proofs.YtdcaekmgfcpbmaaGreat.Al
