/-
  What is proved here: contracts of algos.Start and Compute. Conditions: numbers fit an int. What is proved here: contracts of algos.Done, Check and Part. Conditions: numbers fit an int.
-/
import Derived.Test.YtkbmmlombigkmaaGreatQbSqMathx
import Derived.Stop.Asserts
namespace Go.Proofs.YtkbmmlombigkmaaGreat.Al
open Go.RowKit Gr Wd Ws Fx Rk Lb
theorem start_ranks (k st so dm ep V v : Int) (hV0 : -9223372036854775808 ≤ V) (hV1 : V ≤ 9223372036854775807) (w : World) : Calls Tryz.prog 153 #[.agg #[.int .u8 k, .int .i64 st, .int .i64 so, .int .i64 dm, .int .i64 ep], .int .i64 V, .int .i64 v] w fun e w' => e = .returned (.tuple #[.int .i64 (giveI 4294967296 V), .bool true]) ∧ Below w.heap.size w w' := by
  have HB := Lib.hid ((Below.refl _ w).alloc (Nat.le_refl _) (.cells #[.int .u8 k, .int .i64 st, .int .i64 so, .int .i64 dm, .int .i64 ep] 96))
  obtain ⟨g, hg⟩ : ∃ g, giveI 4294967296 V = g := ⟨_, rfl⟩
  have HG := Lib.hid hg
  rw [hg]
  clear hg
  go_enter Tryz.func153, Tryz.ntmps153
  go_wp2_with fail
  refine (Rk.start_any V g _ HG hV0 hV1).mono ?_
  rintro e w' ⟨rfl, rfl⟩
  go_wp2
  go_ret2
  exact ⟨rfl, HB.out⟩
theorem start_labels (k st so dm ep V v : Int) (hv0 : -9223372036854775808 ≤ v) (hv1 : v ≤ 9223372036854775807) (w : World) : Calls Tryz.prog 175 #[.agg #[.int .u8 k, .int .i64 st, .int .i64 so, .int .i64 dm, .int .i64 ep], .int .i64 V, .int .i64 v] w fun e w' => e = .returned (.tuple #[.int .i64 v, .bool true]) ∧ Below w.heap.size w w' := by
  have HB := Lib.hid ((Below.refl _ w).alloc (Nat.le_refl _) (.cells #[.int .u8 k, .int .i64 st, .int .i64 so, .int .i64 dm, .int .i64 ep] 100))
  have hw : IntKind.i64.wrap v = v := by rw [IntKind.wrap_i64]; omega
  go_enter Tryz.func175, Tryz.ntmps175
  go_wp2
  go_ret2
  exact ⟨rfl, HB.out⟩
theorem start_distances (k st so dm ep V v : Int) (w : World) : Calls Tryz.prog 202 #[.agg #[.int .u8 k, .int .i64 st, .int .i64 so, .int .i64 dm, .int .i64 ep], .int .i64 V, .int .i64 v] w fun e w' => e = .returned (.tuple #[.int .i64 (Pa.stt v so), .bool (decide (v = so))]) ∧ Below w.heap.size w w' := by
  have mixed := mixedO
  obtain ⟨W1, hW1⟩ : ∃ W1, W1 = w.alloc (.cells #[.int .u8 k, .int .i64 st, .int .i64 so, .int .i64 dm, .int .i64 ep] 101) := ⟨_, rfl⟩
  have HB : Hid (Below w.heap.size w W1) := Lib.hid (by rw [hW1]; exact (Below.refl _ w).alloc (Nat.le_refl _) _)
  have x0 : W1.heap[w.heap.size]? = some (.cells #[.int .u8 k, .int .i64 st, .int .i64 so, .int .i64 dm, .int .i64 ep] 101 (0, 0)) := by rw [hW1]; exact heap_alloc_new w _
  obtain ⟨b0, e0⟩ : ∃ b0, b0 = w.heap.size := ⟨_, rfl⟩
  rw [← e0] at x0
  have y2 : W1.cell? ⟨b0, 2, none⟩ = some (.int .i64 so) := by rw [Lib.cell_of_heap x0]; rfl
  have fy := cell_regrown y2
  have C1 := Lib.hid (regr fun W (_ : Below W1.heap.size W1 W) => ((Pa.start_any v so W).mono fun _ _ k => ⟨k.1, k.2 ▸ Below.refl _ _⟩ : Calls Tryz.prog 49 #[.int .i64 v, .int .i64 so] W fun e w' => e = .returned (.int .i64 (Pa.stt v so)) ∧ Below W.heap.size W w'))
  clear x0 y2
  go_enter Tryz.func202, Tryz.ntmps202
  go_upto_region 1 with fail
  rw [← hW1]
  rw [show w.heap.size = b0 from e0.symm]
  clear hW1 e0
  go_wp2_with fail
  refine wp_region_quiet_below mixed (by kernel_rfl) ?_
  repeat (go_big_quiet_step ((with_reducible exact C1.out _ _)))
  refine wpQuiet_nil ?_
  intro _ hw'
  obtain ⟨⟨dq, osq⟩, hw''⟩ := hw'
  subst hw''
  have HB2 := Lib.hid (step_below HB.out HB.out.size (below_regrown W1 dq osq))
  go_wp2
  go_ret2
  exact ⟨ret_tb rfl (by first | rfl | (by_cases h : v = so <;> simp [h])), HB2.out⟩
set_option maxRecDepth 100000 in
theorem start_any (k st so dm ep V v : Int) (hV0 : -9223372036854775808 ≤ V) (hV1 : V ≤ 9223372036854775807) (hv0 : -9223372036854775808 ≤ v) (hv1 : v ≤ 9223372036854775807) (w : World) : Calls Tryz.prog 59 #[.agg #[.int .u8 k, .int .i64 st, .int .i64 so, .int .i64 dm, .int .i64 ep], .int .i64 V, .int .i64 v] w fun e w' => e = .returned (.tuple #[.int .i64 (sttM k V v so), .bool (sttB k v so)]) ∧ Below w.heap.size w w' := by
  have HB1 := fun (k : Int) => Lib.hid ((Below.refl _ w).alloc (Nat.le_refl _) (.cells #[.int .u8 k, .int .i64 st, .int .i64 so, .int .i64 dm, .int .i64 ep] 40))
  by_cases h1 : k = 1
  · subst h1
    have hl_start := look_start_1 st so dm ep
    go_enter Tryz.func59, Tryz.ntmps59
    go_wp2_with fail
    refine (prog_1 st so dm ep _).mono ?_
    rintro e w2 ⟨rfl, hb2⟩
    have HB2 : Hid (Below w.heap.size w w2) := Lib.hid (step_below (HB1 1).out (HB1 1).out.size hb2)
    clear hb2
    go_wp2_with fail
    refine (start_ranks 1 st so dm ep V v hV0 hV1 _).mono ?_
    rintro e w3 ⟨rfl, hb3⟩
    have HB3 : Hid (Below w.heap.size w w3) := Lib.hid (step_below HB2.out HB2.out.size hb3)
    clear hb3
    go_wp2
    go_ret2
    exact ⟨ret_tb (by unfold sttM; simp) (by unfold sttB; simp), HB3.out⟩
  by_cases h2 : k = 2
  · subst h2
    have hl_start := look_start_2 st so dm ep
    go_enter Tryz.func59, Tryz.ntmps59
    go_wp2_with fail
    refine (prog_2 st so dm ep _).mono ?_
    rintro e w2 ⟨rfl, hb2⟩
    have HB2 : Hid (Below w.heap.size w w2) := Lib.hid (step_below (HB1 2).out (HB1 2).out.size hb2)
    clear hb2
    go_wp2_with fail
    refine (start_labels 2 st so dm ep V v hv0 hv1 _).mono ?_
    rintro e w3 ⟨rfl, hb3⟩
    have HB3 : Hid (Below w.heap.size w w3) := Lib.hid (step_below HB2.out HB2.out.size hb3)
    clear hb3
    go_wp2
    go_ret2
    exact ⟨ret_tb (by unfold sttM; simp) (by unfold sttB; simp), HB3.out⟩
  by_cases h3 : k = 3
  · subst h3
    have hl_start := look_start_3 st so dm ep
    go_enter Tryz.func59, Tryz.ntmps59
    go_wp2_with fail
    refine (prog_3 st so dm ep _).mono ?_
    rintro e w2 ⟨rfl, hb2⟩
    have HB2 : Hid (Below w.heap.size w w2) := Lib.hid (step_below (HB1 3).out (HB1 3).out.size hb2)
    clear hb2
    go_wp2_with fail
    refine (start_distances 3 st so dm ep V v _).mono ?_
    rintro e w3 ⟨rfl, hb3⟩
    have HB3 : Hid (Below w.heap.size w w3) := Lib.hid (step_below HB2.out HB2.out.size hb3)
    clear hb3
    go_wp2
    go_ret2
    exact ⟨ret_tb (by unfold sttM; simp) (by unfold sttB; simp), HB3.out⟩
  go_enter Tryz.func59, Tryz.ntmps59
  go_wp2_with fail
  refine (prog_no k st so dm ep h1 h2 h3 _).mono ?_
  rintro e w2 ⟨rfl, hb2⟩
  have HB2 : Hid (Below w.heap.size w w2) := Lib.hid (step_below (HB1 k).out (HB1 k).out.size hb2)
  clear hb2
  go_wp2
  go_ret2
  exact ⟨ret_tb (by unfold sttM; rw [if_neg h1, if_neg h2, if_neg h3]) (by unfold sttB; rw [if_neg h1, if_neg h2, if_neg h3]), HB2.out⟩
end Go.Proofs.YtkbmmlombigkmaaGreat.Al
namespace Go.Proofs.YtkbmmlombigkmaaGreat.Al
open Go.RowKit Gr Wd Ws Fx Rk Lb
theorem may_ranks (k st so dm ep V : Int) (w : World) : Calls Tryz.prog 151 #[.agg #[.int .u8 k, .int .i64 st, .int .i64 so, .int .i64 dm, .int .i64 ep], .int .i64 V] w fun e w' => e = .returned (.bool (decide (0 ≤ dm ∧ dm ≤ 4294967296) && decide (0 ≤ ep ∧ ep ≤ 4294967296) && decide (so = 0))) ∧ Below w.heap.size w w' := by
  have HB := Lib.hid ((Below.refl _ w).alloc (Nat.le_refl _) (.cells #[.int .u8 k, .int .i64 st, .int .i64 so, .int .i64 dm, .int .i64 ep] 96))
  obtain ⟨p, hp⟩ : ∃ p, decide (0 ≤ dm ∧ dm ≤ 4294967296) = p := ⟨_, rfl⟩
  obtain ⟨q, hq⟩ : ∃ q, decide (0 ≤ ep ∧ ep ≤ 4294967296) = q := ⟨_, rfl⟩
  have c1 := fun W => isFraction_any dm W
  have c2 := fun W => isFraction_any ep W
  rw [hp] at c1 ⊢
  rw [hq] at c2 ⊢
  have C1 := Lib.hid c1; have C2 := Lib.hid c2
  clear c1 c2 hp hq
  cases p
  · go_enter Tryz.func151, Tryz.ntmps151
    go_wp2_with fail
    refine (C1.out _).mono ?_
    rintro e w' ⟨rfl, rfl⟩
    go_wp2
    go_ret
    exact ⟨ret_b (by simp), HB.out⟩
  · cases q
    · go_enter Tryz.func151, Tryz.ntmps151
      go_wp2_with fail
      refine (C1.out _).mono ?_
      rintro e w' ⟨rfl, rfl⟩
      go_wp2_with fail
      refine (C2.out _).mono ?_
      rintro e w' ⟨rfl, rfl⟩
      go_wp2
      go_ret
      exact ⟨ret_b (by simp), HB.out⟩
    · go_enter Tryz.func151, Tryz.ntmps151
      go_wp2_with fail
      refine (C1.out _).mono ?_
      rintro e w' ⟨rfl, rfl⟩
      go_wp2_with fail
      refine (C2.out _).mono ?_
      rintro e w' ⟨rfl, rfl⟩
      go_wp2
      go_ret
      exact ⟨ret_b (by by_cases h : so = 0 <;> simp [h]), HB.out⟩
theorem may_labels (k st so dm ep V : Int) (w : World) : Calls Tryz.prog 173 #[.agg #[.int .u8 k, .int .i64 st, .int .i64 so, .int .i64 dm, .int .i64 ep], .int .i64 V] w fun e w' => e = .returned (.bool (decide (so = 0) && decide (dm = 0) && decide (ep = 0))) ∧ Below w.heap.size w w' := by
  have HB := fun (so dm ep : Int) => Lib.hid ((Below.refl _ w).alloc (Nat.le_refl _) (.cells #[.int .u8 k, .int .i64 st, .int .i64 so, .int .i64 dm, .int .i64 ep] 100))
  by_cases g0 : so = 0
  · skip
    by_cases g1 : dm = 0
    · skip
      by_cases g2 : ep = 0
      · skip
        go_enter Tryz.func173, Tryz.ntmps173
        go_wp2
        all_goals (go_ret; exact ⟨ret_b (by first | (simp [*]; done) | (simp [*]; omega) | (simp; omega)), (HB _ _ _).out⟩)
      · go_enter Tryz.func173, Tryz.ntmps173
        go_wp2
        all_goals (go_ret; exact ⟨ret_b (by first | (simp [*]; done) | (simp [*]; omega) | (simp; omega)), (HB _ _ _).out⟩)
    · go_enter Tryz.func173, Tryz.ntmps173
      go_wp2
      all_goals (go_ret; exact ⟨ret_b (by first | (simp [*]; done) | (simp [*]; omega) | (simp; omega)), (HB _ _ _).out⟩)
  · go_enter Tryz.func173, Tryz.ntmps173
    go_wp2
    all_goals (go_ret; exact ⟨ret_b (by first | (simp [*]; done) | (simp [*]; omega) | (simp; omega)), (HB _ _ _).out⟩)
theorem may_distances (k st so dm ep V : Int) (w : World) : Calls Tryz.prog 200 #[.agg #[.int .u8 k, .int .i64 st, .int .i64 so, .int .i64 dm, .int .i64 ep], .int .i64 V] w fun e w' => e = .returned (.bool (decide (0 ≤ so) && decide (so < V) && decide (dm = 0) && decide (ep = 0))) ∧ Below w.heap.size w w' := by
  have HB := fun (so dm ep : Int) => Lib.hid ((Below.refl _ w).alloc (Nat.le_refl _) (.cells #[.int .u8 k, .int .i64 st, .int .i64 so, .int .i64 dm, .int .i64 ep] 101))
  by_cases g0 : 0 ≤ so
  · skip
    by_cases g1 : so < V
    · skip
      by_cases g2 : dm = 0
      · skip
        by_cases g3 : ep = 0
        · skip
          go_enter Tryz.func200, Tryz.ntmps200
          go_wp2
          all_goals (go_ret; exact ⟨ret_b (by first | (simp [*]; done) | (simp [*]; omega) | (simp; omega)), (HB _ _ _).out⟩)
        · go_enter Tryz.func200, Tryz.ntmps200
          go_wp2
          all_goals (go_ret; exact ⟨ret_b (by first | (simp [*]; done) | (simp [*]; omega) | (simp; omega)), (HB _ _ _).out⟩)
      · go_enter Tryz.func200, Tryz.ntmps200
        go_wp2
        all_goals (go_ret; exact ⟨ret_b (by first | (simp [*]; done) | (simp [*]; omega) | (simp; omega)), (HB _ _ _).out⟩)
    · go_enter Tryz.func200, Tryz.ntmps200
      go_wp2
      all_goals (go_ret; exact ⟨ret_b (by first | (simp [*]; done) | (simp [*]; omega) | (simp; omega)), (HB _ _ _).out⟩)
  · go_enter Tryz.func200, Tryz.ntmps200
    go_wp2
    all_goals (go_ret; exact ⟨ret_b (by first | (simp [*]; done) | (simp [*]; omega) | (simp; omega)), (HB _ _ _).out⟩)
end Go.Proofs.YtkbmmlombigkmaaGreat.Al
