/-
  What is proved here: the texts AlP3 AlP4 AlP5 of this seat, laid together (each says itself what it proves; no condition beyond theirs).
-/
import Derived.Test.YtbbmgandkmlojaaGreatAlP2
import Derived.Stop.Asserts
/-
  What is proved here: contracts of algos.Start and Compute. Conditions: numbers fit an int.
-/
namespace Go.Proofs.YtbbmgandkmlojaaGreat.Al
open Go.RowKit Gr Wd Ws Fx Rk Lb

theorem start_ranks (k st so dm ep V v : Int) (hV0 : -9223372036854775808 ≤ V) (hV1 : V ≤ 9223372036854775807) (w : World) : Calls Tryz.prog 139 #[.agg #[.int .u8 k, .int .i64 st, .int .i64 so, .int .i64 dm, .int .i64 ep], .int .i64 V, .int .i64 v] w fun e w' => e = .returned (.tuple #[.int .i64 (giveI 4294967296 V), .bool true]) ∧ Below w.heap.size w w' := by
  have HB := Lib.hid ((Below.refl _ w).alloc (Nat.le_refl _) (.cells #[.int .u8 k, .int .i64 st, .int .i64 so, .int .i64 dm, .int .i64 ep] 110))
  obtain ⟨g, hg⟩ : ∃ g, giveI 4294967296 V = g := ⟨_, rfl⟩
  have HG := Lib.hid hg
  rw [hg]
  clear hg
  go_enter Tryz.func139, Tryz.ntmps139
  go_wp2_with fail
  refine (Rk.start_any V g _ HG hV0 hV1).mono ?_
  rintro e w' ⟨rfl, rfl⟩
  go_wp2
  go_ret2
  exact ⟨rfl, HB.out⟩
theorem start_labels (k st so dm ep V v : Int) (hv0 : -9223372036854775808 ≤ v) (hv1 : v ≤ 9223372036854775807) (w : World) : Calls Tryz.prog 161 #[.agg #[.int .u8 k, .int .i64 st, .int .i64 so, .int .i64 dm, .int .i64 ep], .int .i64 V, .int .i64 v] w fun e w' => e = .returned (.tuple #[.int .i64 v, .bool true]) ∧ Below w.heap.size w w' := by
  have HB := Lib.hid ((Below.refl _ w).alloc (Nat.le_refl _) (.cells #[.int .u8 k, .int .i64 st, .int .i64 so, .int .i64 dm, .int .i64 ep] 114))
  have hw : IntKind.i64.wrap v = v := by rw [IntKind.wrap_i64]; omega
  go_enter Tryz.func161, Tryz.ntmps161
  go_wp2
  go_ret2
  exact ⟨rfl, HB.out⟩
theorem start_distances (k st so dm ep V v : Int) (w : World) : Calls Tryz.prog 188 #[.agg #[.int .u8 k, .int .i64 st, .int .i64 so, .int .i64 dm, .int .i64 ep], .int .i64 V, .int .i64 v] w fun e w' => e = .returned (.tuple #[.int .i64 (Pa.stt v so), .bool (decide (v = so))]) ∧ Below w.heap.size w w' := by
  have mixed := mixedO
  obtain ⟨W1, hW1⟩ : ∃ W1, W1 = w.alloc (.cells #[.int .u8 k, .int .i64 st, .int .i64 so, .int .i64 dm, .int .i64 ep] 115) := ⟨_, rfl⟩
  have HB : Hid (Below w.heap.size w W1) := Lib.hid (by rw [hW1]; exact (Below.refl _ w).alloc (Nat.le_refl _) _)
  have x0 : W1.heap[w.heap.size]? = some (.cells #[.int .u8 k, .int .i64 st, .int .i64 so, .int .i64 dm, .int .i64 ep] 115 (0, 0)) := by rw [hW1]; exact heap_alloc_new w _
  obtain ⟨b0, e0⟩ : ∃ b0, b0 = w.heap.size := ⟨_, rfl⟩
  rw [← e0] at x0
  have y2 : W1.cell? ⟨b0, 2, none⟩ = some (.int .i64 so) := by rw [Lib.cell_of_heap x0]; rfl
  have fy := cell_regrown y2
  have C1 := Lib.hid (regr fun W (_ : Below W1.heap.size W1 W) => ((Pa.start_any v so W).mono fun _ _ k => ⟨k.1, k.2 ▸ Below.refl _ _⟩ : Calls Tryz.prog 191 #[.int .i64 v, .int .i64 so] W fun e w' => e = .returned (.int .i64 (Pa.stt v so)) ∧ Below W.heap.size W w'))
  clear x0 y2
  go_enter Tryz.func188, Tryz.ntmps188
  go_upto_region 1 with fail
  rw [← hW1]
  rw [show w.heap.size = b0 from e0.symm]
  clear hW1 e0
  go_wp2_with fail
  refine wp_region_quiet_below mixed (by kernel_rfl) ?_
  repeat (go_big_quiet_step ((with_reducible exact C1.out _ _)))
  refine wpQuiet_nil ?_
  intro _ hw'
  obtain ⟨⟨dq, osq⟩, hw''⟩ := hw'
  subst hw''
  have HB2 := Lib.hid (step_below HB.out HB.out.size (below_regrown W1 dq osq))
  go_wp2
  go_ret2
  exact ⟨ret_tb rfl (by first | rfl | (by_cases h : v = so <;> simp [h])), HB2.out⟩
set_option maxRecDepth 100000 in
theorem start_any (k st so dm ep V v : Int) (hV0 : -9223372036854775808 ≤ V) (hV1 : V ≤ 9223372036854775807) (hv0 : -9223372036854775808 ≤ v) (hv1 : v ≤ 9223372036854775807) (w : World) : Calls Tryz.prog 56 #[.agg #[.int .u8 k, .int .i64 st, .int .i64 so, .int .i64 dm, .int .i64 ep], .int .i64 V, .int .i64 v] w fun e w' => e = .returned (.tuple #[.int .i64 (sttM k V v so), .bool (sttB k v so)]) ∧ Below w.heap.size w w' := by
  have HB1 := fun (k : Int) => Lib.hid ((Below.refl _ w).alloc (Nat.le_refl _) (.cells #[.int .u8 k, .int .i64 st, .int .i64 so, .int .i64 dm, .int .i64 ep] 26))
  by_cases h1 : k = 1
  · subst h1
    have hl_start := look_start_1 st so dm ep
    go_enter Tryz.func56, Tryz.ntmps56
    go_wp2_with fail
    refine (prog_1 st so dm ep _).mono ?_
    rintro e w2 ⟨rfl, hb2⟩
    have HB2 : Hid (Below w.heap.size w w2) := Lib.hid (step_below (HB1 1).out (HB1 1).out.size hb2)
    clear hb2
    go_wp2_with fail
    refine (start_ranks 1 st so dm ep V v hV0 hV1 _).mono ?_
    rintro e w3 ⟨rfl, hb3⟩
    have HB3 : Hid (Below w.heap.size w w3) := Lib.hid (step_below HB2.out HB2.out.size hb3)
    clear hb3
    go_wp2
    go_ret2
    exact ⟨ret_tb (by unfold sttM; simp) (by unfold sttB; simp), HB3.out⟩
  by_cases h2 : k = 2
  · subst h2
    have hl_start := look_start_2 st so dm ep
    go_enter Tryz.func56, Tryz.ntmps56
    go_wp2_with fail
    refine (prog_2 st so dm ep _).mono ?_
    rintro e w2 ⟨rfl, hb2⟩
    have HB2 : Hid (Below w.heap.size w w2) := Lib.hid (step_below (HB1 2).out (HB1 2).out.size hb2)
    clear hb2
    go_wp2_with fail
    refine (start_labels 2 st so dm ep V v hv0 hv1 _).mono ?_
    rintro e w3 ⟨rfl, hb3⟩
    have HB3 : Hid (Below w.heap.size w w3) := Lib.hid (step_below HB2.out HB2.out.size hb3)
    clear hb3
    go_wp2
    go_ret2
    exact ⟨ret_tb (by unfold sttM; simp) (by unfold sttB; simp), HB3.out⟩
  by_cases h3 : k = 3
  · subst h3
    have hl_start := look_start_3 st so dm ep
    go_enter Tryz.func56, Tryz.ntmps56
    go_wp2_with fail
    refine (prog_3 st so dm ep _).mono ?_
    rintro e w2 ⟨rfl, hb2⟩
    have HB2 : Hid (Below w.heap.size w w2) := Lib.hid (step_below (HB1 3).out (HB1 3).out.size hb2)
    clear hb2
    go_wp2_with fail
    refine (start_distances 3 st so dm ep V v _).mono ?_
    rintro e w3 ⟨rfl, hb3⟩
    have HB3 : Hid (Below w.heap.size w w3) := Lib.hid (step_below HB2.out HB2.out.size hb3)
    clear hb3
    go_wp2
    go_ret2
    exact ⟨ret_tb (by unfold sttM; simp) (by unfold sttB; simp), HB3.out⟩
  go_enter Tryz.func56, Tryz.ntmps56
  go_wp2_with fail
  refine (prog_no k st so dm ep h1 h2 h3 _).mono ?_
  rintro e w2 ⟨rfl, hb2⟩
  have HB2 : Hid (Below w.heap.size w w2) := Lib.hid (step_below (HB1 k).out (HB1 k).out.size hb2)
  clear hb2
  go_wp2
  go_ret2
  exact ⟨ret_tb (by unfold sttM; rw [if_neg h1, if_neg h2, if_neg h3]) (by unfold sttB; rw [if_neg h1, if_neg h2, if_neg h3]), HB2.out⟩

theorem taker_q (V d m s g : Int) (hg : Hid (takeI V d m s = g)) (hV0 : -9223372036854775808 ≤ V) (hV1 : V ≤ 9223372036854775807) (hd0 : -9223372036854775808 ≤ d) (hd1 : d ≤ 9223372036854775807) (hm0 : -9223372036854775808 ≤ m) (hm1 : m ≤ 9223372036854775807) (hs0 : -9223372036854775808 ≤ s) (hs1 : s ≤ 9223372036854775807) (w : World) : Calls Tryz.prog 142 #[.int .i64 V, .int .i64 d, .int .i64 m, .int .i64 s] w fun e w' => e = .returned (.int .i64 g) ∧ Below w.heap.size w w' :=
  (Rk.take_any V d m s g w hg hV0 hV1 hd0 hd1 hm0 hm1 hs0 hs1).mono fun _ _ k => ⟨k.1, k.2.out⟩
theorem gotI_in (h : Bool) (m : Int) (h1 : m ≤ 9223372036854775807) : 0 ≤ gotI h m ∧ gotI h m ≤ 9223372036854775807 := by unfold gotI; split <;> omega
set_option maxRecDepth 100000 in
set_option maxHeartbeats 1000000 in
theorem compute_ranks (k st so dm ep V x m s : Int) (h : Bool) (hV0 : -9223372036854775808 ≤ V) (hV1 : V ≤ 9223372036854775807) (hdm0 : -9223372036854775808 ≤ dm) (hdm1 : dm ≤ 9223372036854775807) (_hm0 : -9223372036854775808 ≤ m) (hm1 : m ≤ 9223372036854775807) (hs0 : -9223372036854775808 ≤ s) (hs1 : s ≤ 9223372036854775807) (w : World) : Calls Tryz.prog 134 #[.agg #[.int .u8 k, .int .i64 st, .int .i64 so, .int .i64 dm, .int .i64 ep], .int .i64 V, .int .i64 x, .agg #[.bool h, .int .i64 m], .int .i64 s] w fun e w' => e = .returned (.tuple #[.int .i64 (takeI V dm (gotI h m) s), .bool (decide (¬ takeI V dm (gotI h m) s = x))]) ∧ Below w.heap.size w w' := by
  have mixed := mixedO
  obtain ⟨W1, hW1⟩ : ∃ W1, W1 = (w.alloc (.cells #[.int .u8 k, .int .i64 st, .int .i64 so, .int .i64 dm, .int .i64 ep] 110)).alloc (.cells #[.bool h, .int .i64 m] 78) := ⟨_, rfl⟩
  have hal := al2 w (.cells #[.int .u8 k, .int .i64 st, .int .i64 so, .int .i64 dm, .int .i64 ep] 110) (.cells #[.bool h, .int .i64 m] 78)
  rw [← hW1] at hal
  obtain ⟨b0, e0⟩ : ∃ b0, b0 = w.heap.size := ⟨_, rfl⟩
  obtain ⟨b1, e1⟩ : ∃ b1, b1 = w.heap.size + 1 := ⟨_, rfl⟩
  obtain ⟨x0, x1, hb⟩ := hal
  rw [← e0] at x0; rw [← e1] at x1
  have HB := Lib.hid hb
  obtain ⟨G, hG⟩ : ∃ G, gotI h m = G := ⟨_, rfl⟩
  have hgi := gotI_in h m hm1
  rw [hG] at hgi
  obtain ⟨r, hr⟩ : ∃ r, takeI V dm G s = r := ⟨_, rfl⟩
  have HR := Lib.hid hr
  rw [hG, hr]
  have c1 : ∀ W, Calls Tryz.prog 143 #[.agg #[.bool h, .int .i64 m]] W fun e w' => e = .returned (.int .i64 G) ∧ Below W.heap.size W w' := fun W => by rw [← hG]; exact sentTo_any h m W
  have C1 := Lib.hid (regr fun W (_ : Below W1.heap.size W1 W) => c1 W)
  have C2 := Lib.hid (regr fun W (_ : Below W1.heap.size W1 W) => taker_q V dm G s r HR hV0 hV1 hdm0 hdm1 (by omega) hgi.2 hs0 hs1 W)
  have y3 : W1.cell? ⟨b0, 3, none⟩ = some (.int .i64 dm) := by rw [Lib.cell_of_heap x0]; rfl
  have m0 : W1.cell? ⟨b1, 0, none⟩ = some (.bool h) := by rw [Lib.cell_of_heap x1]; rfl
  have m1 : W1.cell? ⟨b1, 1, none⟩ = some (.int .i64 m) := by rw [Lib.cell_of_heap x1]; rfl
  have fy := cell_regrown y3; have f0 := cell_regrown m0; have f1 := cell_regrown m1
  clear c1 x0 x1 hb hG hgi hr y3 m0 m1
  go_enter Tryz.func134, Tryz.ntmps134
  go_upto_region 1 with fail
  rw [← hW1]
  rw [show w.heap.size + 1 = b1 from e1.symm, show w.heap.size = b0 from e0.symm]
  clear hW1 e0 e1
  go_wp2_with fail
  refine wp_region_quiet_below mixed (by kernel_rfl) ?_
  repeat (go_big_quiet_step ((with_reducible first | exact C1.out _ _ | exact C2.out _ _)))
  refine wpQuiet_nil ?_
  intro _ hw'
  obtain ⟨⟨dq, osq⟩, hw''⟩ := hw'
  subst hw''
  have HB2 := Lib.hid (step_below HB.out HB.out.size (below_regrown W1 dq osq))
  go_wp2
  go_ret2
  exact ⟨ret_tb rfl (by first | rfl | (by_cases h : r = x <;> simp [h, bne])), HB2.out⟩
theorem compute_labels (k st so dm ep V x m s : Int) (h : Bool) (w : World) : Calls Tryz.prog 158 #[.agg #[.int .u8 k, .int .i64 st, .int .i64 so, .int .i64 dm, .int .i64 ep], .int .i64 V, .int .i64 x, .agg #[.bool h, .int .i64 m], .int .i64 s] w fun e w' => e = .returned (.tuple #[.int .i64 (takM x h m), .bool (takB x h m)]) ∧ Below w.heap.size w w' := by
  have hal := al2 w (.cells #[.int .u8 k, .int .i64 st, .int .i64 so, .int .i64 dm, .int .i64 ep] 114) (.cells #[.bool h, .int .i64 m] 78)
  have HB := Lib.hid hal.2.2
  clear hal
  go_enter Tryz.func158, Tryz.ntmps158
  go_wp2_with fail
  refine (Lb.take_any x m h _).mono ?_
  rintro e w' ⟨rfl, hb⟩
  have HB2 := Lib.hid (step_below HB.out HB.out.size hb)
  clear hb
  go_wp2
  go_ret2
  exact ⟨rfl, HB2.out⟩
theorem compute_distances (k st so dm ep V x m s : Int) (h : Bool) (w : World) : Calls Tryz.prog 185 #[.agg #[.int .u8 k, .int .i64 st, .int .i64 so, .int .i64 dm, .int .i64 ep], .int .i64 V, .int .i64 x, .agg #[.bool h, .int .i64 m], .int .i64 s] w fun e w' => e = .returned (.tuple #[.int .i64 (Pa.tkm x h m), .bool (Pa.tkb x h m)]) ∧ Below w.heap.size w w' := by
  have hal := al2 w (.cells #[.int .u8 k, .int .i64 st, .int .i64 so, .int .i64 dm, .int .i64 ep] 115) (.cells #[.bool h, .int .i64 m] 78)
  have HB := Lib.hid hal.2.2
  clear hal
  go_enter Tryz.func185, Tryz.ntmps185
  go_wp2_with fail
  refine (Pa.take_any x m h _).mono ?_
  rintro e w' ⟨rfl, hb⟩
  have HB2 := Lib.hid (step_below HB.out HB.out.size hb)
  clear hb
  go_wp2
  go_ret2
  exact ⟨rfl, HB2.out⟩
set_option maxRecDepth 100000 in
set_option maxHeartbeats 1000000 in
theorem compute_any (k st so dm ep V x m s : Int) (h : Bool) (hV0 : -9223372036854775808 ≤ V) (hV1 : V ≤ 9223372036854775807) (hdm0 : -9223372036854775808 ≤ dm) (hdm1 : dm ≤ 9223372036854775807) (hm0 : -9223372036854775808 ≤ m) (hm1 : m ≤ 9223372036854775807) (hs0 : -9223372036854775808 ≤ s) (hs1 : s ≤ 9223372036854775807) (w : World) : Calls Tryz.prog 70 #[.agg #[.int .u8 k, .int .i64 st, .int .i64 so, .int .i64 dm, .int .i64 ep], .int .i64 V, .int .i64 x, .agg #[.bool h, .int .i64 m], .int .i64 s] w fun e w' => e = .returned (.tuple #[.int .i64 (cmpM k V dm x h m s), .bool (cmpB k V dm x h m s)]) ∧ Below w.heap.size w w' := by
  by_cases h1 : k = 1
  · subst h1
    have hl := look_compute_1 st so dm ep
    obtain ⟨W1, hW1⟩ : ∃ W1, W1 = (w.alloc (.cells #[.int .u8 1, .int .i64 st, .int .i64 so, .int .i64 dm, .int .i64 ep] 26)).alloc (.cells #[.bool h, .int .i64 m] 78) := ⟨_, rfl⟩
    have hal := al2 w (.cells #[.int .u8 1, .int .i64 st, .int .i64 so, .int .i64 dm, .int .i64 ep] 26) (.cells #[.bool h, .int .i64 m] 78)
    rw [← hW1] at hal
    obtain ⟨b0, e0⟩ : ∃ b0, b0 = w.heap.size := ⟨_, rfl⟩
    obtain ⟨b1, e1⟩ : ∃ b1, b1 = w.heap.size + 1 := ⟨_, rfl⟩
    obtain ⟨x0, x1, hb⟩ := hal
    rw [← e0] at x0; rw [← e1] at x1
    have X0 := Lib.hid x0; have X1 := Lib.hid x1; have HB := Lib.hid hb
    clear x0 x1 hb
    go_enter Tryz.func70, Tryz.ntmps70
    go_upto_region 1 with fail
    rw [← hW1]
    rw [show w.heap.size + 1 = b1 from e1.symm, show w.heap.size = b0 from e0.symm]
    clear hW1 e0 e1
    obtain ⟨j0, j1, j2, j3, j4, _⟩ := jb_cells X0.out
    go_wp2_with fail
    clear j0 j1 j2 j3 j4
    refine (prog_1 st so dm ep _).mono ?_
    rintro e w2 ⟨rfl, hb2⟩
    have Y1 := Lib.hid (keep X1.out hb2); have HB2 := Lib.hid (step_below HB.out HB.out.size hb2)
    clear hb2 X0 X1
    have m0 : w2.cell? ⟨b1, 0, none⟩ = some (.bool h) := by rw [Lib.cell_of_heap Y1.out]; rfl
    have m1 : w2.cell? ⟨b1, 1, none⟩ = some (.int .i64 m) := by rw [Lib.cell_of_heap Y1.out]; rfl
    go_wp2_with fail
    refine (compute_ranks 1 st so dm ep V x m s h hV0 hV1 hdm0 hdm1 hm0 hm1 hs0 hs1 _).mono ?_
    rintro e w3 ⟨rfl, hb3⟩
    have HB3 := Lib.hid (step_below HB2.out HB2.out.size hb3)
    clear hb3 m0 m1
    go_wp2
    go_ret2
    exact ⟨ret_tb (by unfold cmpM; simp) (by unfold cmpB; simp), HB3.out⟩
  by_cases h2 : k = 2
  · subst h2
    have hl := look_compute_2 st so dm ep
    obtain ⟨W1, hW1⟩ : ∃ W1, W1 = (w.alloc (.cells #[.int .u8 2, .int .i64 st, .int .i64 so, .int .i64 dm, .int .i64 ep] 26)).alloc (.cells #[.bool h, .int .i64 m] 78) := ⟨_, rfl⟩
    have hal := al2 w (.cells #[.int .u8 2, .int .i64 st, .int .i64 so, .int .i64 dm, .int .i64 ep] 26) (.cells #[.bool h, .int .i64 m] 78)
    rw [← hW1] at hal
    obtain ⟨b0, e0⟩ : ∃ b0, b0 = w.heap.size := ⟨_, rfl⟩
    obtain ⟨b1, e1⟩ : ∃ b1, b1 = w.heap.size + 1 := ⟨_, rfl⟩
    obtain ⟨x0, x1, hb⟩ := hal
    rw [← e0] at x0; rw [← e1] at x1
    have X0 := Lib.hid x0; have X1 := Lib.hid x1; have HB := Lib.hid hb
    clear x0 x1 hb
    go_enter Tryz.func70, Tryz.ntmps70
    go_upto_region 1 with fail
    rw [← hW1]
    rw [show w.heap.size + 1 = b1 from e1.symm, show w.heap.size = b0 from e0.symm]
    clear hW1 e0 e1
    obtain ⟨j0, j1, j2, j3, j4, _⟩ := jb_cells X0.out
    go_wp2_with fail
    clear j0 j1 j2 j3 j4
    refine (prog_2 st so dm ep _).mono ?_
    rintro e w2 ⟨rfl, hb2⟩
    have Y1 := Lib.hid (keep X1.out hb2); have HB2 := Lib.hid (step_below HB.out HB.out.size hb2)
    clear hb2 X0 X1
    have m0 : w2.cell? ⟨b1, 0, none⟩ = some (.bool h) := by rw [Lib.cell_of_heap Y1.out]; rfl
    have m1 : w2.cell? ⟨b1, 1, none⟩ = some (.int .i64 m) := by rw [Lib.cell_of_heap Y1.out]; rfl
    go_wp2_with fail
    refine (compute_labels 2 st so dm ep V x m s h _).mono ?_
    rintro e w3 ⟨rfl, hb3⟩
    have HB3 := Lib.hid (step_below HB2.out HB2.out.size hb3)
    clear hb3 m0 m1
    go_wp2
    go_ret2
    exact ⟨ret_tb (by unfold cmpM; simp) (by unfold cmpB; simp), HB3.out⟩
  by_cases h3 : k = 3
  · subst h3
    have hl := look_compute_3 st so dm ep
    obtain ⟨W1, hW1⟩ : ∃ W1, W1 = (w.alloc (.cells #[.int .u8 3, .int .i64 st, .int .i64 so, .int .i64 dm, .int .i64 ep] 26)).alloc (.cells #[.bool h, .int .i64 m] 78) := ⟨_, rfl⟩
    have hal := al2 w (.cells #[.int .u8 3, .int .i64 st, .int .i64 so, .int .i64 dm, .int .i64 ep] 26) (.cells #[.bool h, .int .i64 m] 78)
    rw [← hW1] at hal
    obtain ⟨b0, e0⟩ : ∃ b0, b0 = w.heap.size := ⟨_, rfl⟩
    obtain ⟨b1, e1⟩ : ∃ b1, b1 = w.heap.size + 1 := ⟨_, rfl⟩
    obtain ⟨x0, x1, hb⟩ := hal
    rw [← e0] at x0; rw [← e1] at x1
    have X0 := Lib.hid x0; have X1 := Lib.hid x1; have HB := Lib.hid hb
    clear x0 x1 hb
    go_enter Tryz.func70, Tryz.ntmps70
    go_upto_region 1 with fail
    rw [← hW1]
    rw [show w.heap.size + 1 = b1 from e1.symm, show w.heap.size = b0 from e0.symm]
    clear hW1 e0 e1
    obtain ⟨j0, j1, j2, j3, j4, _⟩ := jb_cells X0.out
    go_wp2_with fail
    clear j0 j1 j2 j3 j4
    refine (prog_3 st so dm ep _).mono ?_
    rintro e w2 ⟨rfl, hb2⟩
    have Y1 := Lib.hid (keep X1.out hb2); have HB2 := Lib.hid (step_below HB.out HB.out.size hb2)
    clear hb2 X0 X1
    have m0 : w2.cell? ⟨b1, 0, none⟩ = some (.bool h) := by rw [Lib.cell_of_heap Y1.out]; rfl
    have m1 : w2.cell? ⟨b1, 1, none⟩ = some (.int .i64 m) := by rw [Lib.cell_of_heap Y1.out]; rfl
    go_wp2_with fail
    refine (compute_distances 3 st so dm ep V x m s h _).mono ?_
    rintro e w3 ⟨rfl, hb3⟩
    have HB3 := Lib.hid (step_below HB2.out HB2.out.size hb3)
    clear hb3 m0 m1
    go_wp2
    go_ret2
    exact ⟨ret_tb (by unfold cmpM; simp) (by unfold cmpB; simp), HB3.out⟩
  obtain ⟨W1, hW1⟩ : ∃ W1, W1 = (w.alloc (.cells #[.int .u8 k, .int .i64 st, .int .i64 so, .int .i64 dm, .int .i64 ep] 26)).alloc (.cells #[.bool h, .int .i64 m] 78) := ⟨_, rfl⟩
  have hal := al2 w (.cells #[.int .u8 k, .int .i64 st, .int .i64 so, .int .i64 dm, .int .i64 ep] 26) (.cells #[.bool h, .int .i64 m] 78)
  rw [← hW1] at hal
  obtain ⟨b0, e0⟩ : ∃ b0, b0 = w.heap.size := ⟨_, rfl⟩
  obtain ⟨b1, e1⟩ : ∃ b1, b1 = w.heap.size + 1 := ⟨_, rfl⟩
  obtain ⟨x0, x1, hb⟩ := hal
  rw [← e0] at x0; rw [← e1] at x1
  have X0 := Lib.hid x0; have X1 := Lib.hid x1; have HB := Lib.hid hb
  clear x0 x1 hb
  go_enter Tryz.func70, Tryz.ntmps70
  go_upto_region 1 with fail
  rw [← hW1]
  rw [show w.heap.size + 1 = b1 from e1.symm, show w.heap.size = b0 from e0.symm]
  clear hW1 e0 e1
  obtain ⟨j0, j1, j2, j3, j4, _⟩ := jb_cells X0.out
  go_wp2_with fail
  clear j0 j1 j2 j3 j4
  refine (prog_no k st so dm ep h1 h2 h3 _).mono ?_
  rintro e w2 ⟨rfl, hb2⟩
  have HB2 := Lib.hid (step_below HB.out HB.out.size hb2)
  clear hb2
  go_wp2
  go_ret2
  exact ⟨ret_tb (by unfold cmpM; rw [if_neg h1, if_neg h2, if_neg h3]) (by unfold cmpB; rw [if_neg h1, if_neg h2, if_neg h3]), HB2.out⟩
end Go.Proofs.YtbbmgandkmlojaaGreat.Al

/-
  What is proved here: contracts of algos.Done, Check and Part. Conditions: numbers fit an int.
-/
namespace Go.Proofs.YtbbmgandkmlojaaGreat.Al
open Go.RowKit Gr Wd Ws Fx Rk Lb

theorem may_ranks (k st so dm ep V : Int) (w : World) : Calls Tryz.prog 137 #[.agg #[.int .u8 k, .int .i64 st, .int .i64 so, .int .i64 dm, .int .i64 ep], .int .i64 V] w fun e w' => e = .returned (.bool (decide (0 ≤ dm ∧ dm ≤ 4294967296) && decide (0 ≤ ep ∧ ep ≤ 4294967296) && decide (so = 0))) ∧ Below w.heap.size w w' := by
  have HB := Lib.hid ((Below.refl _ w).alloc (Nat.le_refl _) (.cells #[.int .u8 k, .int .i64 st, .int .i64 so, .int .i64 dm, .int .i64 ep] 110))
  obtain ⟨p, hp⟩ : ∃ p, decide (0 ≤ dm ∧ dm ≤ 4294967296) = p := ⟨_, rfl⟩
  obtain ⟨q, hq⟩ : ∃ q, decide (0 ≤ ep ∧ ep ≤ 4294967296) = q := ⟨_, rfl⟩
  have c1 := fun W => isFraction_any dm W
  have c2 := fun W => isFraction_any ep W
  rw [hp] at c1 ⊢
  rw [hq] at c2 ⊢
  have C1 := Lib.hid c1; have C2 := Lib.hid c2
  clear c1 c2 hp hq
  cases p
  · go_enter Tryz.func137, Tryz.ntmps137
    go_wp2_with fail
    refine (C1.out _).mono ?_
    rintro e w' ⟨rfl, rfl⟩
    go_wp2
    go_ret
    exact ⟨ret_b (by simp), HB.out⟩
  · cases q
    · go_enter Tryz.func137, Tryz.ntmps137
      go_wp2_with fail
      refine (C1.out _).mono ?_
      rintro e w' ⟨rfl, rfl⟩
      go_wp2_with fail
      refine (C2.out _).mono ?_
      rintro e w' ⟨rfl, rfl⟩
      go_wp2
      go_ret
      exact ⟨ret_b (by simp), HB.out⟩
    · go_enter Tryz.func137, Tryz.ntmps137
      go_wp2_with fail
      refine (C1.out _).mono ?_
      rintro e w' ⟨rfl, rfl⟩
      go_wp2_with fail
      refine (C2.out _).mono ?_
      rintro e w' ⟨rfl, rfl⟩
      go_wp2
      go_ret
      exact ⟨ret_b (by by_cases h : so = 0 <;> simp [h]), HB.out⟩
theorem may_labels (k st so dm ep V : Int) (w : World) : Calls Tryz.prog 159 #[.agg #[.int .u8 k, .int .i64 st, .int .i64 so, .int .i64 dm, .int .i64 ep], .int .i64 V] w fun e w' => e = .returned (.bool (decide (so = 0) && decide (dm = 0) && decide (ep = 0))) ∧ Below w.heap.size w w' := by
  have HB := fun (so dm ep : Int) => Lib.hid ((Below.refl _ w).alloc (Nat.le_refl _) (.cells #[.int .u8 k, .int .i64 st, .int .i64 so, .int .i64 dm, .int .i64 ep] 114))
  by_cases g0 : so = 0
  · skip
    by_cases g1 : dm = 0
    · skip
      by_cases g2 : ep = 0
      · skip
        go_enter Tryz.func159, Tryz.ntmps159
        go_wp2
        all_goals (go_ret; exact ⟨ret_b (by first | (simp [*]; done) | (simp [*]; omega) | (simp; omega)), (HB _ _ _).out⟩)
      · go_enter Tryz.func159, Tryz.ntmps159
        go_wp2
        all_goals (go_ret; exact ⟨ret_b (by first | (simp [*]; done) | (simp [*]; omega) | (simp; omega)), (HB _ _ _).out⟩)
    · go_enter Tryz.func159, Tryz.ntmps159
      go_wp2
      all_goals (go_ret; exact ⟨ret_b (by first | (simp [*]; done) | (simp [*]; omega) | (simp; omega)), (HB _ _ _).out⟩)
  · go_enter Tryz.func159, Tryz.ntmps159
    go_wp2
    all_goals (go_ret; exact ⟨ret_b (by first | (simp [*]; done) | (simp [*]; omega) | (simp; omega)), (HB _ _ _).out⟩)
theorem may_distances (k st so dm ep V : Int) (w : World) : Calls Tryz.prog 186 #[.agg #[.int .u8 k, .int .i64 st, .int .i64 so, .int .i64 dm, .int .i64 ep], .int .i64 V] w fun e w' => e = .returned (.bool (decide (0 ≤ so) && decide (so < V) && decide (dm = 0) && decide (ep = 0))) ∧ Below w.heap.size w w' := by
  have HB := fun (so dm ep : Int) => Lib.hid ((Below.refl _ w).alloc (Nat.le_refl _) (.cells #[.int .u8 k, .int .i64 st, .int .i64 so, .int .i64 dm, .int .i64 ep] 115))
  by_cases g0 : 0 ≤ so
  · skip
    by_cases g1 : so < V
    · skip
      by_cases g2 : dm = 0
      · skip
        by_cases g3 : ep = 0
        · skip
          go_enter Tryz.func186, Tryz.ntmps186
          go_wp2
          all_goals (go_ret; exact ⟨ret_b (by first | (simp [*]; done) | (simp [*]; omega) | (simp; omega)), (HB _ _ _).out⟩)
        · go_enter Tryz.func186, Tryz.ntmps186
          go_wp2
          all_goals (go_ret; exact ⟨ret_b (by first | (simp [*]; done) | (simp [*]; omega) | (simp; omega)), (HB _ _ _).out⟩)
      · go_enter Tryz.func186, Tryz.ntmps186
        go_wp2
        all_goals (go_ret; exact ⟨ret_b (by first | (simp [*]; done) | (simp [*]; omega) | (simp; omega)), (HB _ _ _).out⟩)
    · go_enter Tryz.func186, Tryz.ntmps186
      go_wp2
      all_goals (go_ret; exact ⟨ret_b (by first | (simp [*]; done) | (simp [*]; omega) | (simp; omega)), (HB _ _ _).out⟩)
  · go_enter Tryz.func186, Tryz.ntmps186
    go_wp2
    all_goals (go_ret; exact ⟨ret_b (by first | (simp [*]; done) | (simp [*]; omega) | (simp; omega)), (HB _ _ _).out⟩)
set_option maxRecDepth 100000 in
set_option maxHeartbeats 1000000 in
theorem done_any (k st so dm ep s m : Int) (w : World) : Calls Tryz.prog 28 #[.agg #[.int .u8 k, .int .i64 st, .int .i64 so, .int .i64 dm, .int .i64 ep], .int .i64 s, .int .i64 m] w fun e w' => e = .returned (.bool (donB k st ep s m)) ∧ Below w.heap.size w w' := by
  by_cases h1 : k = 1
  · subst h1
    by_cases g0 : st ≤ s
    · have hl := look_still_1 st so dm ep
      obtain ⟨W1, hW1⟩ : ∃ W1, W1 = w.alloc (.cells #[.int .u8 1, .int .i64 st, .int .i64 so, .int .i64 dm, .int .i64 ep] 26) := ⟨_, rfl⟩
      have HB : Hid (Below w.heap.size w W1) := Lib.hid (by rw [hW1]; exact (Below.refl _ w).alloc (Nat.le_refl _) _)
      have x0 : W1.heap[w.heap.size]? = some (.cells #[.int .u8 1, .int .i64 st, .int .i64 so, .int .i64 dm, .int .i64 ep] 26 (0, 0)) := by rw [hW1]; exact heap_alloc_new w _
      obtain ⟨b0, e0⟩ : ∃ b0, b0 = w.heap.size := ⟨_, rfl⟩
      rw [← e0] at x0
      have X0 := Lib.hid x0
      clear x0
      go_enter Tryz.func28, Tryz.ntmps28
      go_upto_region 1 with fail
      rw [← hW1]
      rw [show w.heap.size = b0 from e0.symm]
      clear hW1 e0
      obtain ⟨j0, j1, j2, j3, j4, _⟩ := jb_cells X0.out
      go_wp2_with fail
      clear j0 j1 j2 j3 j4
      refine (prog_1 st so dm ep _).mono ?_
      rintro e w2 ⟨rfl, hb2⟩
      have HB2 := Lib.hid (step_below HB.out HB.out.size hb2)
      obtain ⟨j0, j1, j2, j3, j4, _⟩ := jb_cells (keep X0.out hb2)
      clear hb2 X0 j0 j2 j3 j4
      go_wp2
      all_goals (go_ret; exact ⟨ret_b (by simp [donB, *]; try omega), HB2.out⟩)
    · by_cases g1 : 1 ≤ s
      · have hl := look_still_1 st so dm ep
        obtain ⟨W1, hW1⟩ : ∃ W1, W1 = w.alloc (.cells #[.int .u8 1, .int .i64 st, .int .i64 so, .int .i64 dm, .int .i64 ep] 26) := ⟨_, rfl⟩
        have HB : Hid (Below w.heap.size w W1) := Lib.hid (by rw [hW1]; exact (Below.refl _ w).alloc (Nat.le_refl _) _)
        have x0 : W1.heap[w.heap.size]? = some (.cells #[.int .u8 1, .int .i64 st, .int .i64 so, .int .i64 dm, .int .i64 ep] 26 (0, 0)) := by rw [hW1]; exact heap_alloc_new w _
        obtain ⟨b0, e0⟩ : ∃ b0, b0 = w.heap.size := ⟨_, rfl⟩
        rw [← e0] at x0
        have X0 := Lib.hid x0
        clear x0
        go_enter Tryz.func28, Tryz.ntmps28
        go_upto_region 1 with fail
        rw [← hW1]
        rw [show w.heap.size = b0 from e0.symm]
        clear hW1 e0
        obtain ⟨j0, j1, j2, j3, j4, _⟩ := jb_cells X0.out
        go_wp2_with fail
        clear j0 j1 j2 j3 j4
        refine (prog_1 st so dm ep _).mono ?_
        rintro e w2 ⟨rfl, hb2⟩
        have HB2 := Lib.hid (step_below HB.out HB.out.size hb2)
        obtain ⟨j0, j1, j2, j3, j4, _⟩ := jb_cells (keep X0.out hb2)
        clear hb2 X0 j0 j2 j3 j4
        go_wp2_with fail
        refine (still_ranks 1 st so dm ep _).mono ?_
        rintro e w3 ⟨rfl, hb3⟩
        have HB3 := Lib.hid (step_below HB2.out HB2.out.size hb3)
        clear hb3 j1
        go_wp2
        all_goals (go_ret; exact ⟨ret_b (by simp [donB, *]; try omega), HB3.out⟩)
      · have hl := look_still_1 st so dm ep
        obtain ⟨W1, hW1⟩ : ∃ W1, W1 = w.alloc (.cells #[.int .u8 1, .int .i64 st, .int .i64 so, .int .i64 dm, .int .i64 ep] 26) := ⟨_, rfl⟩
        have HB : Hid (Below w.heap.size w W1) := Lib.hid (by rw [hW1]; exact (Below.refl _ w).alloc (Nat.le_refl _) _)
        have x0 : W1.heap[w.heap.size]? = some (.cells #[.int .u8 1, .int .i64 st, .int .i64 so, .int .i64 dm, .int .i64 ep] 26 (0, 0)) := by rw [hW1]; exact heap_alloc_new w _
        obtain ⟨b0, e0⟩ : ∃ b0, b0 = w.heap.size := ⟨_, rfl⟩
        rw [← e0] at x0
        have X0 := Lib.hid x0
        clear x0
        go_enter Tryz.func28, Tryz.ntmps28
        go_upto_region 1 with fail
        rw [← hW1]
        rw [show w.heap.size = b0 from e0.symm]
        clear hW1 e0
        obtain ⟨j0, j1, j2, j3, j4, _⟩ := jb_cells X0.out
        go_wp2_with fail
        clear j0 j1 j2 j3 j4
        refine (prog_1 st so dm ep _).mono ?_
        rintro e w2 ⟨rfl, hb2⟩
        have HB2 := Lib.hid (step_below HB.out HB.out.size hb2)
        obtain ⟨j0, j1, j2, j3, j4, _⟩ := jb_cells (keep X0.out hb2)
        clear hb2 X0 j0 j2 j3 j4
        go_wp2
        all_goals (go_ret; exact ⟨ret_b (by simp [donB, *]; try omega), HB2.out⟩)
  by_cases h2 : k = 2
  · subst h2
    by_cases g0 : st ≤ s
    · have hl := look_still_2 st so dm ep
      obtain ⟨W1, hW1⟩ : ∃ W1, W1 = w.alloc (.cells #[.int .u8 2, .int .i64 st, .int .i64 so, .int .i64 dm, .int .i64 ep] 26) := ⟨_, rfl⟩
      have HB : Hid (Below w.heap.size w W1) := Lib.hid (by rw [hW1]; exact (Below.refl _ w).alloc (Nat.le_refl _) _)
      have x0 : W1.heap[w.heap.size]? = some (.cells #[.int .u8 2, .int .i64 st, .int .i64 so, .int .i64 dm, .int .i64 ep] 26 (0, 0)) := by rw [hW1]; exact heap_alloc_new w _
      obtain ⟨b0, e0⟩ : ∃ b0, b0 = w.heap.size := ⟨_, rfl⟩
      rw [← e0] at x0
      have X0 := Lib.hid x0
      clear x0
      go_enter Tryz.func28, Tryz.ntmps28
      go_upto_region 1 with fail
      rw [← hW1]
      rw [show w.heap.size = b0 from e0.symm]
      clear hW1 e0
      obtain ⟨j0, j1, j2, j3, j4, _⟩ := jb_cells X0.out
      go_wp2_with fail
      clear j0 j1 j2 j3 j4
      refine (prog_2 st so dm ep _).mono ?_
      rintro e w2 ⟨rfl, hb2⟩
      have HB2 := Lib.hid (step_below HB.out HB.out.size hb2)
      obtain ⟨j0, j1, j2, j3, j4, _⟩ := jb_cells (keep X0.out hb2)
      clear hb2 X0 j0 j2 j3 j4
      go_wp2
      all_goals (go_ret; exact ⟨ret_b (by simp [donB, *]; try omega), HB2.out⟩)
    · by_cases g1 : 1 ≤ s
      · have hl := look_still_2 st so dm ep
        obtain ⟨W1, hW1⟩ : ∃ W1, W1 = w.alloc (.cells #[.int .u8 2, .int .i64 st, .int .i64 so, .int .i64 dm, .int .i64 ep] 26) := ⟨_, rfl⟩
        have HB : Hid (Below w.heap.size w W1) := Lib.hid (by rw [hW1]; exact (Below.refl _ w).alloc (Nat.le_refl _) _)
        have x0 : W1.heap[w.heap.size]? = some (.cells #[.int .u8 2, .int .i64 st, .int .i64 so, .int .i64 dm, .int .i64 ep] 26 (0, 0)) := by rw [hW1]; exact heap_alloc_new w _
        obtain ⟨b0, e0⟩ : ∃ b0, b0 = w.heap.size := ⟨_, rfl⟩
        rw [← e0] at x0
        have X0 := Lib.hid x0
        clear x0
        go_enter Tryz.func28, Tryz.ntmps28
        go_upto_region 1 with fail
        rw [← hW1]
        rw [show w.heap.size = b0 from e0.symm]
        clear hW1 e0
        obtain ⟨j0, j1, j2, j3, j4, _⟩ := jb_cells X0.out
        go_wp2_with fail
        clear j0 j1 j2 j3 j4
        refine (prog_2 st so dm ep _).mono ?_
        rintro e w2 ⟨rfl, hb2⟩
        have HB2 := Lib.hid (step_below HB.out HB.out.size hb2)
        obtain ⟨j0, j1, j2, j3, j4, _⟩ := jb_cells (keep X0.out hb2)
        clear hb2 X0 j0 j2 j3 j4
        go_wp2_with fail
        refine (still_least _).mono ?_
        rintro e w3 ⟨rfl, hb3⟩
        have HB3 := Lib.hid (step_below HB2.out HB2.out.size hb3)
        clear hb3 j1
        go_wp2
        all_goals (go_ret; exact ⟨ret_b (by simp [donB, *]; try omega), HB3.out⟩)
      · have hl := look_still_2 st so dm ep
        obtain ⟨W1, hW1⟩ : ∃ W1, W1 = w.alloc (.cells #[.int .u8 2, .int .i64 st, .int .i64 so, .int .i64 dm, .int .i64 ep] 26) := ⟨_, rfl⟩
        have HB : Hid (Below w.heap.size w W1) := Lib.hid (by rw [hW1]; exact (Below.refl _ w).alloc (Nat.le_refl _) _)
        have x0 : W1.heap[w.heap.size]? = some (.cells #[.int .u8 2, .int .i64 st, .int .i64 so, .int .i64 dm, .int .i64 ep] 26 (0, 0)) := by rw [hW1]; exact heap_alloc_new w _
        obtain ⟨b0, e0⟩ : ∃ b0, b0 = w.heap.size := ⟨_, rfl⟩
        rw [← e0] at x0
        have X0 := Lib.hid x0
        clear x0
        go_enter Tryz.func28, Tryz.ntmps28
        go_upto_region 1 with fail
        rw [← hW1]
        rw [show w.heap.size = b0 from e0.symm]
        clear hW1 e0
        obtain ⟨j0, j1, j2, j3, j4, _⟩ := jb_cells X0.out
        go_wp2_with fail
        clear j0 j1 j2 j3 j4
        refine (prog_2 st so dm ep _).mono ?_
        rintro e w2 ⟨rfl, hb2⟩
        have HB2 := Lib.hid (step_below HB.out HB.out.size hb2)
        obtain ⟨j0, j1, j2, j3, j4, _⟩ := jb_cells (keep X0.out hb2)
        clear hb2 X0 j0 j2 j3 j4
        go_wp2
        all_goals (go_ret; exact ⟨ret_b (by simp [donB, *]; try omega), HB2.out⟩)
  by_cases h3 : k = 3
  · subst h3
    by_cases g0 : st ≤ s
    · have hl := look_still_3 st so dm ep
      obtain ⟨W1, hW1⟩ : ∃ W1, W1 = w.alloc (.cells #[.int .u8 3, .int .i64 st, .int .i64 so, .int .i64 dm, .int .i64 ep] 26) := ⟨_, rfl⟩
      have HB : Hid (Below w.heap.size w W1) := Lib.hid (by rw [hW1]; exact (Below.refl _ w).alloc (Nat.le_refl _) _)
      have x0 : W1.heap[w.heap.size]? = some (.cells #[.int .u8 3, .int .i64 st, .int .i64 so, .int .i64 dm, .int .i64 ep] 26 (0, 0)) := by rw [hW1]; exact heap_alloc_new w _
      obtain ⟨b0, e0⟩ : ∃ b0, b0 = w.heap.size := ⟨_, rfl⟩
      rw [← e0] at x0
      have X0 := Lib.hid x0
      clear x0
      go_enter Tryz.func28, Tryz.ntmps28
      go_upto_region 1 with fail
      rw [← hW1]
      rw [show w.heap.size = b0 from e0.symm]
      clear hW1 e0
      obtain ⟨j0, j1, j2, j3, j4, _⟩ := jb_cells X0.out
      go_wp2_with fail
      clear j0 j1 j2 j3 j4
      refine (prog_3 st so dm ep _).mono ?_
      rintro e w2 ⟨rfl, hb2⟩
      have HB2 := Lib.hid (step_below HB.out HB.out.size hb2)
      obtain ⟨j0, j1, j2, j3, j4, _⟩ := jb_cells (keep X0.out hb2)
      clear hb2 X0 j0 j2 j3 j4
      go_wp2
      all_goals (go_ret; exact ⟨ret_b (by simp [donB, *]; try omega), HB2.out⟩)
    · by_cases g1 : 1 ≤ s
      · have hl := look_still_3 st so dm ep
        obtain ⟨W1, hW1⟩ : ∃ W1, W1 = w.alloc (.cells #[.int .u8 3, .int .i64 st, .int .i64 so, .int .i64 dm, .int .i64 ep] 26) := ⟨_, rfl⟩
        have HB : Hid (Below w.heap.size w W1) := Lib.hid (by rw [hW1]; exact (Below.refl _ w).alloc (Nat.le_refl _) _)
        have x0 : W1.heap[w.heap.size]? = some (.cells #[.int .u8 3, .int .i64 st, .int .i64 so, .int .i64 dm, .int .i64 ep] 26 (0, 0)) := by rw [hW1]; exact heap_alloc_new w _
        obtain ⟨b0, e0⟩ : ∃ b0, b0 = w.heap.size := ⟨_, rfl⟩
        rw [← e0] at x0
        have X0 := Lib.hid x0
        clear x0
        go_enter Tryz.func28, Tryz.ntmps28
        go_upto_region 1 with fail
        rw [← hW1]
        rw [show w.heap.size = b0 from e0.symm]
        clear hW1 e0
        obtain ⟨j0, j1, j2, j3, j4, _⟩ := jb_cells X0.out
        go_wp2_with fail
        clear j0 j1 j2 j3 j4
        refine (prog_3 st so dm ep _).mono ?_
        rintro e w2 ⟨rfl, hb2⟩
        have HB2 := Lib.hid (step_below HB.out HB.out.size hb2)
        obtain ⟨j0, j1, j2, j3, j4, _⟩ := jb_cells (keep X0.out hb2)
        clear hb2 X0 j0 j2 j3 j4
        go_wp2_with fail
        refine (still_least _).mono ?_
        rintro e w3 ⟨rfl, hb3⟩
        have HB3 := Lib.hid (step_below HB2.out HB2.out.size hb3)
        clear hb3 j1
        go_wp2
        all_goals (go_ret; exact ⟨ret_b (by simp [donB, *]; try omega), HB3.out⟩)
      · have hl := look_still_3 st so dm ep
        obtain ⟨W1, hW1⟩ : ∃ W1, W1 = w.alloc (.cells #[.int .u8 3, .int .i64 st, .int .i64 so, .int .i64 dm, .int .i64 ep] 26) := ⟨_, rfl⟩
        have HB : Hid (Below w.heap.size w W1) := Lib.hid (by rw [hW1]; exact (Below.refl _ w).alloc (Nat.le_refl _) _)
        have x0 : W1.heap[w.heap.size]? = some (.cells #[.int .u8 3, .int .i64 st, .int .i64 so, .int .i64 dm, .int .i64 ep] 26 (0, 0)) := by rw [hW1]; exact heap_alloc_new w _
        obtain ⟨b0, e0⟩ : ∃ b0, b0 = w.heap.size := ⟨_, rfl⟩
        rw [← e0] at x0
        have X0 := Lib.hid x0
        clear x0
        go_enter Tryz.func28, Tryz.ntmps28
        go_upto_region 1 with fail
        rw [← hW1]
        rw [show w.heap.size = b0 from e0.symm]
        clear hW1 e0
        obtain ⟨j0, j1, j2, j3, j4, _⟩ := jb_cells X0.out
        go_wp2_with fail
        clear j0 j1 j2 j3 j4
        refine (prog_3 st so dm ep _).mono ?_
        rintro e w2 ⟨rfl, hb2⟩
        have HB2 := Lib.hid (step_below HB.out HB.out.size hb2)
        obtain ⟨j0, j1, j2, j3, j4, _⟩ := jb_cells (keep X0.out hb2)
        clear hb2 X0 j0 j2 j3 j4
        go_wp2
        all_goals (go_ret; exact ⟨ret_b (by simp [donB, *]; try omega), HB2.out⟩)
  obtain ⟨W1, hW1⟩ : ∃ W1, W1 = w.alloc (.cells #[.int .u8 k, .int .i64 st, .int .i64 so, .int .i64 dm, .int .i64 ep] 26) := ⟨_, rfl⟩
  have HB : Hid (Below w.heap.size w W1) := Lib.hid (by rw [hW1]; exact (Below.refl _ w).alloc (Nat.le_refl _) _)
  have x0 : W1.heap[w.heap.size]? = some (.cells #[.int .u8 k, .int .i64 st, .int .i64 so, .int .i64 dm, .int .i64 ep] 26 (0, 0)) := by rw [hW1]; exact heap_alloc_new w _
  obtain ⟨b0, e0⟩ : ∃ b0, b0 = w.heap.size := ⟨_, rfl⟩
  rw [← e0] at x0
  have X0 := Lib.hid x0
  clear x0
  go_enter Tryz.func28, Tryz.ntmps28
  go_upto_region 1 with fail
  rw [← hW1]
  rw [show w.heap.size = b0 from e0.symm]
  clear hW1 e0
  obtain ⟨j0, j1, j2, j3, j4, _⟩ := jb_cells X0.out
  go_wp2_with fail
  clear j0 j1 j2 j3 j4
  refine (prog_no k st so dm ep h1 h2 h3 _).mono ?_
  rintro e w2 ⟨rfl, hb2⟩
  have HB2 := Lib.hid (step_below HB.out HB.out.size hb2)
  clear hb2
  go_wp2
  go_ret
  exact ⟨ret_b (by unfold donB; rw [if_neg h1, if_neg (by omega)]), HB2.out⟩
theorem asserts_1 (st so dm ep : Int) (w : World) : (Instr.typeAssert (.iface 110 (.agg #[.int .u8 1, .int .i64 st, .int .i64 so, .int .i64 dm, .int .i64 ep])) 72 141 true).run Tryz.prog w = .ok (.tuple #[.iface 110 (.agg #[.int .u8 1, .int .i64 st, .int .i64 so, .int .i64 dm, .int .i64 ep]), .bool true]) w := run_typeAssert_hasB Tryz.underlying141 (by kernel_rfl) _ _ w
theorem asserts_2 (st so dm ep : Int) (w : World) : (Instr.typeAssert (.iface 114 (.agg #[.int .u8 2, .int .i64 st, .int .i64 so, .int .i64 dm, .int .i64 ep])) 72 141 true).run Tryz.prog w = .ok (.tuple #[.nilIface, .bool false]) w := run_typeAssert_lacksB Tryz.underlying141 (by kernel_rfl) (by kernel_rfl) _ _ w
theorem asserts_3 (st so dm ep : Int) (w : World) : (Instr.typeAssert (.iface 115 (.agg #[.int .u8 3, .int .i64 st, .int .i64 so, .int .i64 dm, .int .i64 ep])) 72 141 true).run Tryz.prog w = .ok (.tuple #[.nilIface, .bool false]) w := run_typeAssert_lacksB Tryz.underlying141 (by kernel_rfl) (by kernel_rfl) _ _ w
set_option maxRecDepth 100000 in
set_option maxHeartbeats 1000000 in
theorem part_any (k st so dm ep a v : Int) (c : Bool) (A : Option Addr) (n cc : Nat) (ha0 : -9223372036854775808 ≤ a) (ha1 : a ≤ 9223372036854775807) (hv0 : -9223372036854775808 ≤ v) (hv1 : v ≤ 9223372036854775807) (w : World) : Calls Tryz.prog 82 #[.agg #[.int .u8 k, .int .i64 st, .int .i64 so, .int .i64 dm, .int .i64 ep], .int .i64 a, .int .i64 v, .bool c, .slice A n cc] w fun e w' => e = .returned (.agg #[.int .i64 (prtS k v n), .int .i64 (prtM k a v c)]) ∧ Below w.heap.size w w' := by
  by_cases h1 : k = 1
  · subst h1
    have hl := look_change_1 st so dm ep
    have hl2 := look_lost_1 st so dm ep
    have has := asserts_1 st so dm ep
    obtain ⟨W1, hW1⟩ : ∃ W1, W1 = (w.alloc (.cells #[.int .u8 1, .int .i64 st, .int .i64 so, .int .i64 dm, .int .i64 ep] 26)).alloc (.cells #[.int .i64 0, .int .i64 0] 120) := ⟨_, rfl⟩
    have hal := al2 w (.cells #[.int .u8 1, .int .i64 st, .int .i64 so, .int .i64 dm, .int .i64 ep] 26) (.cells #[.int .i64 0, .int .i64 0] 120)
    rw [← hW1] at hal
    obtain ⟨b0, e0⟩ : ∃ b0, b0 = w.heap.size := ⟨_, rfl⟩
    obtain ⟨b1, e1⟩ : ∃ b1, b1 = w.heap.size + 1 := ⟨_, rfl⟩
    obtain ⟨x0, x1, hb⟩ := hal
    rw [← e0] at x0; rw [← e1] at x1
    have X0 := Lib.hid x0; have X1 := Lib.hid x1; have HB := Lib.hid hb
    have HGE : Hid (w.heap.size ≤ b1) := Lib.hid (by omega)
    clear x0 x1 hb
    go_enter Tryz.func82, Tryz.ntmps82
    go_upto_region 1 with fail
    rw [← hW1]
    rw [show w.heap.size + 1 = b1 from e1.symm, show w.heap.size = b0 from e0.symm]
    clear hW1 e0 e1
    obtain ⟨j0, j1, j2, j3, j4, _⟩ := jb_cells X0.out
    go_wp2_with fail
    clear j0 j1 j2 j3 j4
    refine (prog_1 st so dm ep _).mono ?_
    rintro e w2 ⟨rfl, hb2⟩
    have Y1 := Lib.hid (keep X1.out hb2); have HB2 := Lib.hid (step_below HB.out HB.out.size hb2)
    clear hb2 X0 X1
    go_wp2_with fail
    refine (change_ranks 1 st so dm ep a v c _ ha0 ha1 hv0 hv1).mono ?_
    rintro e w3 ⟨rfl, hb3⟩
    have Y3 := Lib.hid (keep Y1.out hb3); have HB3 := Lib.hid (step_below HB2.out HB2.out.size hb3)
    clear hb3 Y1 HB2
    obtain ⟨q, hq⟩ : ∃ q, apt a v = q := ⟨_, rfl⟩
    rw [hq]
    have HQ := Lib.hid hq
    clear hq
    obtain ⟨W4, hW4⟩ : ∃ W4, W4 = w3.alloc (.cells #[.int .i64 0, .int .i64 q] 120) := ⟨_, rfl⟩
    have hb4 : Below w3.heap.size w3 W4 := by rw [hW4]; exact (Below.refl _ w3).alloc (Nat.le_refl _) _
    have Z4 : Hid (W4.heap[w3.heap.size]? = some (.cells #[.int .i64 0, .int .i64 q] 120 (0, 0))) := Lib.hid (by rw [hW4]; exact heap_alloc_new w3 _)
    have Y4 := Lib.hid (keep Y3.out hb4); have HB4 := Lib.hid (step_below HB3.out HB3.out.size hb4)
    obtain ⟨b4, e4⟩ : ∃ b4, b4 = w3.heap.size := ⟨_, rfl⟩
    rw [← e4] at Z4
    have HG4 : Hid (w.heap.size ≤ b4) := Lib.hid (by rw [e4]; exact HB3.out.size)
    have HNE : Hid (¬ b1 = b4) := Lib.hid (by have := lt_of_block Y3.out; omega)
    go_upto_region 5 with fail
    rw [← hW4]
    rw [show w3.heap.size = b4 from e4.symm]
    clear hW4 hb4 e4 Y3 HB3
    obtain ⟨z0, z1, zf⟩ := tot_cells Z4.out
    go_wp2_with fail
    refine (lost_ranks 1 st so dm ep v A n cc _).mono ?_
    rintro e w5 ⟨rfl, hb5⟩
    have Z5 := Lib.hid (keep Z4.out hb5); have Y5 := Lib.hid (keep Y4.out hb5); have HB5 := Lib.hid (step_below HB4.out HB4.out.size hb5)
    clear hb5 Z4 Y4 HB4 z0 z1 zf
    obtain ⟨t, ht⟩ : ∃ t, (if n = 0 then max v 0 else 0) = t := ⟨_, rfl⟩
    rw [ht]
    have HT := Lib.hid ht
    clear ht
    obtain ⟨z0, z1, zf⟩ := tot_cells Z5.out
    obtain ⟨W6, hW6⟩ : ∃ W6, W6 = w5.setCell ⟨b4, 0, none⟩ (.int .i64 t) := ⟨_, rfl⟩
    have Z6 : Hid (W6.heap[b4]? = some (.cells #[.int .i64 t, .int .i64 q] 120 (0, 0))) := Lib.hid (by rw [hW6]; exact heap_setCell_same w5 b4 0 _ _ _ Z5.out)
    have Y6 : Hid (W6.heap[b1]? = some (.cells #[.int .i64 0, .int .i64 0] 120 (0, 0))) := Lib.hid (by rw [hW6]; exact (heap_setCell_other w5 ⟨b4, 0, none⟩ b1 _ HNE.out).trans Y5.out)
    have HBZ : Hid (Below w.heap.size w W6) := Lib.hid (by rw [hW6]; exact HB5.out.setCell (p := ⟨b4, 0, none⟩) HG4.out _)
    go_upto_region 8 with fail
    rw [← hW6]
    clear hW6 z0 z1 zf
    obtain ⟨z0, z1, zf⟩ := tot_cells Z6.out
    obtain ⟨y0, y1, yf⟩ := tot_cells Y6.out
    go_wp2_with fail
    have hp := put_tot Y6.out (t) (q)
    obtain ⟨k0, k1, _⟩ := tot_cells hp
    have hB5 : Below w.heap.size w ((W6.setCell ⟨b1, 0, none⟩ (.int .i64 (t))).setCell ⟨b1, 1, none⟩ (.int .i64 (q))) := (HBZ.out.setCell (p := ⟨b1, 0, none⟩) HGE.out _).setCell (p := ⟨b1, 1, none⟩) HGE.out _
    refine bodyPost_ret (v := .agg #[.int .i64 (t), .int .i64 (q)]) (by simp [results, Tryz.results82, go_sem, k0, k1]) rfl ⟨?_, hB5⟩
    exact ret_ag (by rw [← HT.out]; unfold prtS; simp) (by rw [← HQ.out]; unfold prtM; simp)
  by_cases h2 : k = 2
  · subst h2
    have hl := look_change_2 st so dm ep
    have has := asserts_2 st so dm ep
    obtain ⟨W1, hW1⟩ : ∃ W1, W1 = (w.alloc (.cells #[.int .u8 2, .int .i64 st, .int .i64 so, .int .i64 dm, .int .i64 ep] 26)).alloc (.cells #[.int .i64 0, .int .i64 0] 120) := ⟨_, rfl⟩
    have hal := al2 w (.cells #[.int .u8 2, .int .i64 st, .int .i64 so, .int .i64 dm, .int .i64 ep] 26) (.cells #[.int .i64 0, .int .i64 0] 120)
    rw [← hW1] at hal
    obtain ⟨b0, e0⟩ : ∃ b0, b0 = w.heap.size := ⟨_, rfl⟩
    obtain ⟨b1, e1⟩ : ∃ b1, b1 = w.heap.size + 1 := ⟨_, rfl⟩
    obtain ⟨x0, x1, hb⟩ := hal
    rw [← e0] at x0; rw [← e1] at x1
    have X0 := Lib.hid x0; have X1 := Lib.hid x1; have HB := Lib.hid hb
    have HGE : Hid (w.heap.size ≤ b1) := Lib.hid (by omega)
    clear x0 x1 hb
    go_enter Tryz.func82, Tryz.ntmps82
    go_upto_region 1 with fail
    rw [← hW1]
    rw [show w.heap.size + 1 = b1 from e1.symm, show w.heap.size = b0 from e0.symm]
    clear hW1 e0 e1
    obtain ⟨j0, j1, j2, j3, j4, _⟩ := jb_cells X0.out
    go_wp2_with fail
    clear j0 j1 j2 j3 j4
    refine (prog_2 st so dm ep _).mono ?_
    rintro e w2 ⟨rfl, hb2⟩
    have Y1 := Lib.hid (keep X1.out hb2); have HB2 := Lib.hid (step_below HB.out HB.out.size hb2)
    clear hb2 X0 X1
    go_wp2_with fail
    refine (change_least a v c _).mono ?_
    rintro e w3 ⟨rfl, hb3⟩
    have Y3 := Lib.hid (keep Y1.out hb3); have HB3 := Lib.hid (step_below HB2.out HB2.out.size hb3)
    clear hb3 Y1 HB2
    obtain ⟨q, hq⟩ : ∃ q, (if c = true then (1 : Int) else 0) = q := ⟨_, rfl⟩
    rw [hq]
    have HQ := Lib.hid hq
    clear hq
    obtain ⟨W4, hW4⟩ : ∃ W4, W4 = w3.alloc (.cells #[.int .i64 0, .int .i64 q] 120) := ⟨_, rfl⟩
    have hb4 : Below w3.heap.size w3 W4 := by rw [hW4]; exact (Below.refl _ w3).alloc (Nat.le_refl _) _
    have Z4 : Hid (W4.heap[w3.heap.size]? = some (.cells #[.int .i64 0, .int .i64 q] 120 (0, 0))) := Lib.hid (by rw [hW4]; exact heap_alloc_new w3 _)
    have Y4 := Lib.hid (keep Y3.out hb4); have HB4 := Lib.hid (step_below HB3.out HB3.out.size hb4)
    obtain ⟨b4, e4⟩ : ∃ b4, b4 = w3.heap.size := ⟨_, rfl⟩
    rw [← e4] at Z4
    have HG4 : Hid (w.heap.size ≤ b4) := Lib.hid (by rw [e4]; exact HB3.out.size)
    have HNE : Hid (¬ b1 = b4) := Lib.hid (by have := lt_of_block Y3.out; omega)
    go_upto_region 5 with fail
    rw [← hW4]
    rw [show w3.heap.size = b4 from e4.symm]
    clear hW4 hb4 e4 Y3 HB3
    obtain ⟨z0, z1, zf⟩ := tot_cells Z4.out
    have HBZ := HB4
    obtain ⟨y0, y1, yf⟩ := tot_cells Y4.out
    go_wp2_with fail
    have hp := put_tot Y4.out (0) (q)
    obtain ⟨k0, k1, _⟩ := tot_cells hp
    have hB5 : Below w.heap.size w ((W4.setCell ⟨b1, 0, none⟩ (.int .i64 (0))).setCell ⟨b1, 1, none⟩ (.int .i64 (q))) := (HBZ.out.setCell (p := ⟨b1, 0, none⟩) HGE.out _).setCell (p := ⟨b1, 1, none⟩) HGE.out _
    refine bodyPost_ret (v := .agg #[.int .i64 (0), .int .i64 (q)]) (by simp [results, Tryz.results82, go_sem, k0, k1]) rfl ⟨?_, hB5⟩
    exact ret_ag (by unfold prtS; simp) (by rw [← HQ.out]; unfold prtM; simp)
  by_cases h3 : k = 3
  · subst h3
    have hl := look_change_3 st so dm ep
    have has := asserts_3 st so dm ep
    obtain ⟨W1, hW1⟩ : ∃ W1, W1 = (w.alloc (.cells #[.int .u8 3, .int .i64 st, .int .i64 so, .int .i64 dm, .int .i64 ep] 26)).alloc (.cells #[.int .i64 0, .int .i64 0] 120) := ⟨_, rfl⟩
    have hal := al2 w (.cells #[.int .u8 3, .int .i64 st, .int .i64 so, .int .i64 dm, .int .i64 ep] 26) (.cells #[.int .i64 0, .int .i64 0] 120)
    rw [← hW1] at hal
    obtain ⟨b0, e0⟩ : ∃ b0, b0 = w.heap.size := ⟨_, rfl⟩
    obtain ⟨b1, e1⟩ : ∃ b1, b1 = w.heap.size + 1 := ⟨_, rfl⟩
    obtain ⟨x0, x1, hb⟩ := hal
    rw [← e0] at x0; rw [← e1] at x1
    have X0 := Lib.hid x0; have X1 := Lib.hid x1; have HB := Lib.hid hb
    have HGE : Hid (w.heap.size ≤ b1) := Lib.hid (by omega)
    clear x0 x1 hb
    go_enter Tryz.func82, Tryz.ntmps82
    go_upto_region 1 with fail
    rw [← hW1]
    rw [show w.heap.size + 1 = b1 from e1.symm, show w.heap.size = b0 from e0.symm]
    clear hW1 e0 e1
    obtain ⟨j0, j1, j2, j3, j4, _⟩ := jb_cells X0.out
    go_wp2_with fail
    clear j0 j1 j2 j3 j4
    refine (prog_3 st so dm ep _).mono ?_
    rintro e w2 ⟨rfl, hb2⟩
    have Y1 := Lib.hid (keep X1.out hb2); have HB2 := Lib.hid (step_below HB.out HB.out.size hb2)
    clear hb2 X0 X1
    go_wp2_with fail
    refine (change_least a v c _).mono ?_
    rintro e w3 ⟨rfl, hb3⟩
    have Y3 := Lib.hid (keep Y1.out hb3); have HB3 := Lib.hid (step_below HB2.out HB2.out.size hb3)
    clear hb3 Y1 HB2
    obtain ⟨q, hq⟩ : ∃ q, (if c = true then (1 : Int) else 0) = q := ⟨_, rfl⟩
    rw [hq]
    have HQ := Lib.hid hq
    clear hq
    obtain ⟨W4, hW4⟩ : ∃ W4, W4 = w3.alloc (.cells #[.int .i64 0, .int .i64 q] 120) := ⟨_, rfl⟩
    have hb4 : Below w3.heap.size w3 W4 := by rw [hW4]; exact (Below.refl _ w3).alloc (Nat.le_refl _) _
    have Z4 : Hid (W4.heap[w3.heap.size]? = some (.cells #[.int .i64 0, .int .i64 q] 120 (0, 0))) := Lib.hid (by rw [hW4]; exact heap_alloc_new w3 _)
    have Y4 := Lib.hid (keep Y3.out hb4); have HB4 := Lib.hid (step_below HB3.out HB3.out.size hb4)
    obtain ⟨b4, e4⟩ : ∃ b4, b4 = w3.heap.size := ⟨_, rfl⟩
    rw [← e4] at Z4
    have HG4 : Hid (w.heap.size ≤ b4) := Lib.hid (by rw [e4]; exact HB3.out.size)
    have HNE : Hid (¬ b1 = b4) := Lib.hid (by have := lt_of_block Y3.out; omega)
    go_upto_region 5 with fail
    rw [← hW4]
    rw [show w3.heap.size = b4 from e4.symm]
    clear hW4 hb4 e4 Y3 HB3
    obtain ⟨z0, z1, zf⟩ := tot_cells Z4.out
    have HBZ := HB4
    obtain ⟨y0, y1, yf⟩ := tot_cells Y4.out
    go_wp2_with fail
    have hp := put_tot Y4.out (0) (q)
    obtain ⟨k0, k1, _⟩ := tot_cells hp
    have hB5 : Below w.heap.size w ((W4.setCell ⟨b1, 0, none⟩ (.int .i64 (0))).setCell ⟨b1, 1, none⟩ (.int .i64 (q))) := (HBZ.out.setCell (p := ⟨b1, 0, none⟩) HGE.out _).setCell (p := ⟨b1, 1, none⟩) HGE.out _
    refine bodyPost_ret (v := .agg #[.int .i64 (0), .int .i64 (q)]) (by simp [results, Tryz.results82, go_sem, k0, k1]) rfl ⟨?_, hB5⟩
    exact ret_ag (by unfold prtS; simp) (by rw [← HQ.out]; unfold prtM; simp)
  obtain ⟨W1, hW1⟩ : ∃ W1, W1 = (w.alloc (.cells #[.int .u8 k, .int .i64 st, .int .i64 so, .int .i64 dm, .int .i64 ep] 26)).alloc (.cells #[.int .i64 0, .int .i64 0] 120) := ⟨_, rfl⟩
  have hal := al2 w (.cells #[.int .u8 k, .int .i64 st, .int .i64 so, .int .i64 dm, .int .i64 ep] 26) (.cells #[.int .i64 0, .int .i64 0] 120)
  rw [← hW1] at hal
  obtain ⟨b0, e0⟩ : ∃ b0, b0 = w.heap.size := ⟨_, rfl⟩
  obtain ⟨b1, e1⟩ : ∃ b1, b1 = w.heap.size + 1 := ⟨_, rfl⟩
  obtain ⟨x0, x1, hb⟩ := hal
  rw [← e0] at x0; rw [← e1] at x1
  have X0 := Lib.hid x0; have X1 := Lib.hid x1; have HB := Lib.hid hb
  have HGE : Hid (w.heap.size ≤ b1) := Lib.hid (by omega)
  clear x0 x1 hb
  go_enter Tryz.func82, Tryz.ntmps82
  go_upto_region 1 with fail
  rw [← hW1]
  rw [show w.heap.size + 1 = b1 from e1.symm, show w.heap.size = b0 from e0.symm]
  clear hW1 e0 e1
  obtain ⟨j0, j1, j2, j3, j4, _⟩ := jb_cells X0.out
  go_wp2_with fail
  clear j0 j1 j2 j3 j4
  refine (prog_no k st so dm ep h1 h2 h3 _).mono ?_
  rintro e W4 ⟨rfl, hb2⟩
  have Y4 := Lib.hid (keep X1.out hb2); have HBZ := Lib.hid (step_below HB.out HB.out.size hb2)
  clear hb2 X0 X1
  obtain ⟨y0, y1, yf⟩ := tot_cells Y4.out
  go_wp2_with fail
  have hp := put_tot Y4.out (0) (0)
  obtain ⟨k0, k1, _⟩ := tot_cells hp
  have hB5 : Below w.heap.size w ((W4.setCell ⟨b1, 0, none⟩ (.int .i64 (0))).setCell ⟨b1, 1, none⟩ (.int .i64 (0))) := (HBZ.out.setCell (p := ⟨b1, 0, none⟩) HGE.out _).setCell (p := ⟨b1, 1, none⟩) HGE.out _
  refine bodyPost_ret (v := .agg #[.int .i64 (0), .int .i64 (0)]) (by simp [results, Tryz.results82, go_sem, k0, k1]) rfl ⟨?_, hB5⟩
  exact ret_ag (by unfold prtS; rw [if_neg h1]) (by unfold prtM; rw [if_neg h1, if_neg (by omega)])
end Go.Proofs.YtbbmgandkmlojaaGreat.Al

/-
  What is proved here: contracts of algos.Check, and of the document, its Start, Compute, Done, Check, Part, Join. Conditions: numbers fit an int.
-/
namespace Go.Proofs.YtbbmgandkmlojaaGreat.Al
open Go.RowKit Gr Wd Ws Fx Rk Lb

set_option maxRecDepth 100000 in
set_option maxHeartbeats 2000000 in
theorem checkj_any (k st so dm ep V : Int) (A : Option Addr) (c : Nat) (L : List Ed) (w : World) (hL : EAt w A L) (hm : L.length ≤ 9223372036854775807) :
    Calls Tryz.prog 24 #[.agg #[.int .i64 V, .slice A L.length c], .agg #[.int .u8 k, .int .i64 st, .int .i64 so, .int .i64 dm, .int .i64 ep]] w fun e w' => e = .returned (.int .i64 (chkJ k st so dm ep V L)) ∧ Below w.heap.size w w' := by
  by_cases hgz : chk V L = 0
  · by_cases h1 : k = 1
    · subst h1
      have hJ : jobOk 1 st so dm ep V = (decide (0 ≤ st) && decide (st ≤ 2000) && (decide (0 ≤ dm ∧ dm ≤ 4294967296) && decide (0 ≤ ep ∧ ep ≤ 4294967296) && decide (so = 0))) := by unfold jobOk; by_cases a1 : 0 ≤ dm <;> by_cases a2 : dm ≤ 4294967296 <;> by_cases a3 : 0 ≤ ep <;> by_cases a4 : ep ≤ 4294967296 <;> simp [a1, a2, a3, a4]
      obtain ⟨q, hq⟩ : ∃ q, (decide (0 ≤ dm ∧ dm ≤ 4294967296) && decide (0 ≤ ep ∧ ep ≤ 4294967296) && decide (so = 0)) = q := ⟨_, rfl⟩
      rw [hq] at hJ
      have HJ := Lib.hid hJ
      have c1 := fun W => may_ranks 1 st so dm ep V W
      rw [hq] at c1
      have C1 := Lib.hid c1
      clear hJ hq c1
      by_cases s0 : 0 ≤ st
      · by_cases s1 : st ≤ 2000
        · cases q
          · have hl := look_mayBe_1 st so dm ep
            obtain ⟨W1, hW1⟩ : ∃ W1, W1 = (w.alloc (.cells #[.int .i64 V, .slice A L.length c] 24)).alloc (.cells #[.int .u8 1, .int .i64 st, .int .i64 so, .int .i64 dm, .int .i64 ep] 26) := ⟨_, rfl⟩
            have hal := al2 w (.cells #[.int .i64 V, .slice A L.length c] 24) (.cells #[.int .u8 1, .int .i64 st, .int .i64 so, .int .i64 dm, .int .i64 ep] 26)
            rw [← hW1] at hal
            obtain ⟨b0, e0⟩ : ∃ b0, b0 = w.heap.size := ⟨_, rfl⟩
            obtain ⟨b1, e1⟩ : ∃ b1, b1 = w.heap.size + 1 := ⟨_, rfl⟩
            obtain ⟨x0, x1, hb⟩ := hal
            rw [← e0] at x0; rw [← e1] at x1
            have X0 := Lib.hid x0; have X1 := Lib.hid x1; have HB := Lib.hid hb
            have HCK := Lib.hid (check_any V A c L W1 (hL.below hb) hm)
            obtain ⟨g, hg⟩ : ∃ g, chk V L = g := ⟨_, rfl⟩
            rw [hg] at HCK hgz
            have HG := Lib.hid hg
            obtain ⟨n, hn⟩ : ∃ n, n = L.length := ⟨_, rfl⟩
            rw [← hn] at HCK X0 hW1 ⊢
            clear x0 x1 hb hg hn hL hm
            go_enter Tryz.func24, Tryz.ntmps24
            go_upto_region 1 with fail
            rw [← hW1]
            rw [show w.heap.size + 1 = b1 from e1.symm, show w.heap.size = b0 from e0.symm]
            clear hW1 e0 e1
            obtain ⟨k0, k1, _⟩ := Bx.cells X0.out
            go_wp2_with fail
            refine HCK.out.mono ?_
            rintro e w2 ⟨rfl, hb2⟩
            have Y0 := Lib.hid (keep X0.out hb2); have Y1 := Lib.hid (keep X1.out hb2); have HB2 := Lib.hid (step_below HB.out HB.out.size hb2)
            clear hb2 X0 X1 k0 k1 HCK
            have hg0 : g = 0 := hgz
            subst hg0
            obtain ⟨j0, j1, j2, j3, j4, _⟩ := jb_cells Y1.out
            go_wp2_with fail
            clear j0 j1 j2 j3 j4
            refine (prog_1 st so dm ep _).mono ?_
            rintro e w3 ⟨rfl, hb3⟩
            have Z0 := Lib.hid (keep Y0.out hb3); have Z1 := Lib.hid (keep Y1.out hb3); have HB3 := Lib.hid (step_below HB2.out HB2.out.size hb3)
            clear hb3 Y0 Y1
            obtain ⟨_, j1, _, _, _, _⟩ := jb_cells Z1.out
            obtain ⟨k0, k1, _⟩ := Bx.cells Z0.out
            go_wp2_with fail
            refine (C1.out _).mono ?_
            rintro e w4 ⟨rfl, hb4⟩
            have HB4 := Lib.hid (step_below HB3.out HB3.out.size hb4)
            clear hb4 j1 k0 k1
            go_wp2
            all_goals (go_ret; exact ⟨Fx.ret_int (by unfold chkJ; rw [HG.out, if_pos rfl, HJ.out]; simp [*]), HB4.out⟩)
          · have hl := look_mayBe_1 st so dm ep
            obtain ⟨W1, hW1⟩ : ∃ W1, W1 = (w.alloc (.cells #[.int .i64 V, .slice A L.length c] 24)).alloc (.cells #[.int .u8 1, .int .i64 st, .int .i64 so, .int .i64 dm, .int .i64 ep] 26) := ⟨_, rfl⟩
            have hal := al2 w (.cells #[.int .i64 V, .slice A L.length c] 24) (.cells #[.int .u8 1, .int .i64 st, .int .i64 so, .int .i64 dm, .int .i64 ep] 26)
            rw [← hW1] at hal
            obtain ⟨b0, e0⟩ : ∃ b0, b0 = w.heap.size := ⟨_, rfl⟩
            obtain ⟨b1, e1⟩ : ∃ b1, b1 = w.heap.size + 1 := ⟨_, rfl⟩
            obtain ⟨x0, x1, hb⟩ := hal
            rw [← e0] at x0; rw [← e1] at x1
            have X0 := Lib.hid x0; have X1 := Lib.hid x1; have HB := Lib.hid hb
            have HCK := Lib.hid (check_any V A c L W1 (hL.below hb) hm)
            obtain ⟨g, hg⟩ : ∃ g, chk V L = g := ⟨_, rfl⟩
            rw [hg] at HCK hgz
            have HG := Lib.hid hg
            obtain ⟨n, hn⟩ : ∃ n, n = L.length := ⟨_, rfl⟩
            rw [← hn] at HCK X0 hW1 ⊢
            clear x0 x1 hb hg hn hL hm
            go_enter Tryz.func24, Tryz.ntmps24
            go_upto_region 1 with fail
            rw [← hW1]
            rw [show w.heap.size + 1 = b1 from e1.symm, show w.heap.size = b0 from e0.symm]
            clear hW1 e0 e1
            obtain ⟨k0, k1, _⟩ := Bx.cells X0.out
            go_wp2_with fail
            refine HCK.out.mono ?_
            rintro e w2 ⟨rfl, hb2⟩
            have Y0 := Lib.hid (keep X0.out hb2); have Y1 := Lib.hid (keep X1.out hb2); have HB2 := Lib.hid (step_below HB.out HB.out.size hb2)
            clear hb2 X0 X1 k0 k1 HCK
            have hg0 : g = 0 := hgz
            subst hg0
            obtain ⟨j0, j1, j2, j3, j4, _⟩ := jb_cells Y1.out
            go_wp2_with fail
            clear j0 j1 j2 j3 j4
            refine (prog_1 st so dm ep _).mono ?_
            rintro e w3 ⟨rfl, hb3⟩
            have Z0 := Lib.hid (keep Y0.out hb3); have Z1 := Lib.hid (keep Y1.out hb3); have HB3 := Lib.hid (step_below HB2.out HB2.out.size hb3)
            clear hb3 Y0 Y1
            obtain ⟨_, j1, _, _, _, _⟩ := jb_cells Z1.out
            obtain ⟨k0, k1, _⟩ := Bx.cells Z0.out
            go_wp2_with fail
            refine (C1.out _).mono ?_
            rintro e w4 ⟨rfl, hb4⟩
            have HB4 := Lib.hid (step_below HB3.out HB3.out.size hb4)
            clear hb4 j1 k0 k1
            go_wp2
            all_goals (go_ret; exact ⟨Fx.ret_int (by unfold chkJ; rw [HG.out, if_pos rfl, HJ.out]; simp [*]), HB4.out⟩)
        · have hl := look_mayBe_1 st so dm ep
          obtain ⟨W1, hW1⟩ : ∃ W1, W1 = (w.alloc (.cells #[.int .i64 V, .slice A L.length c] 24)).alloc (.cells #[.int .u8 1, .int .i64 st, .int .i64 so, .int .i64 dm, .int .i64 ep] 26) := ⟨_, rfl⟩
          have hal := al2 w (.cells #[.int .i64 V, .slice A L.length c] 24) (.cells #[.int .u8 1, .int .i64 st, .int .i64 so, .int .i64 dm, .int .i64 ep] 26)
          rw [← hW1] at hal
          obtain ⟨b0, e0⟩ : ∃ b0, b0 = w.heap.size := ⟨_, rfl⟩
          obtain ⟨b1, e1⟩ : ∃ b1, b1 = w.heap.size + 1 := ⟨_, rfl⟩
          obtain ⟨x0, x1, hb⟩ := hal
          rw [← e0] at x0; rw [← e1] at x1
          have X0 := Lib.hid x0; have X1 := Lib.hid x1; have HB := Lib.hid hb
          have HCK := Lib.hid (check_any V A c L W1 (hL.below hb) hm)
          obtain ⟨g, hg⟩ : ∃ g, chk V L = g := ⟨_, rfl⟩
          rw [hg] at HCK hgz
          have HG := Lib.hid hg
          obtain ⟨n, hn⟩ : ∃ n, n = L.length := ⟨_, rfl⟩
          rw [← hn] at HCK X0 hW1 ⊢
          clear x0 x1 hb hg hn hL hm
          go_enter Tryz.func24, Tryz.ntmps24
          go_upto_region 1 with fail
          rw [← hW1]
          rw [show w.heap.size + 1 = b1 from e1.symm, show w.heap.size = b0 from e0.symm]
          clear hW1 e0 e1
          obtain ⟨k0, k1, _⟩ := Bx.cells X0.out
          go_wp2_with fail
          refine HCK.out.mono ?_
          rintro e w2 ⟨rfl, hb2⟩
          have Y0 := Lib.hid (keep X0.out hb2); have Y1 := Lib.hid (keep X1.out hb2); have HB2 := Lib.hid (step_below HB.out HB.out.size hb2)
          clear hb2 X0 X1 k0 k1 HCK
          have hg0 : g = 0 := hgz
          subst hg0
          obtain ⟨j0, j1, j2, j3, j4, _⟩ := jb_cells Y1.out
          go_wp2_with fail
          clear j0 j1 j2 j3 j4
          refine (prog_1 st so dm ep _).mono ?_
          rintro e w3 ⟨rfl, hb3⟩
          have Z0 := Lib.hid (keep Y0.out hb3); have Z1 := Lib.hid (keep Y1.out hb3); have HB3 := Lib.hid (step_below HB2.out HB2.out.size hb3)
          clear hb3 Y0 Y1
          obtain ⟨_, j1, _, _, _, _⟩ := jb_cells Z1.out
          obtain ⟨k0, k1, _⟩ := Bx.cells Z0.out
          go_wp2
          all_goals (go_ret; exact ⟨Fx.ret_int (by unfold chkJ; rw [HG.out, if_pos rfl, HJ.out]; simp [*]; try omega), HB3.out⟩)
      · have hl := look_mayBe_1 st so dm ep
        obtain ⟨W1, hW1⟩ : ∃ W1, W1 = (w.alloc (.cells #[.int .i64 V, .slice A L.length c] 24)).alloc (.cells #[.int .u8 1, .int .i64 st, .int .i64 so, .int .i64 dm, .int .i64 ep] 26) := ⟨_, rfl⟩
        have hal := al2 w (.cells #[.int .i64 V, .slice A L.length c] 24) (.cells #[.int .u8 1, .int .i64 st, .int .i64 so, .int .i64 dm, .int .i64 ep] 26)
        rw [← hW1] at hal
        obtain ⟨b0, e0⟩ : ∃ b0, b0 = w.heap.size := ⟨_, rfl⟩
        obtain ⟨b1, e1⟩ : ∃ b1, b1 = w.heap.size + 1 := ⟨_, rfl⟩
        obtain ⟨x0, x1, hb⟩ := hal
        rw [← e0] at x0; rw [← e1] at x1
        have X0 := Lib.hid x0; have X1 := Lib.hid x1; have HB := Lib.hid hb
        have HCK := Lib.hid (check_any V A c L W1 (hL.below hb) hm)
        obtain ⟨g, hg⟩ : ∃ g, chk V L = g := ⟨_, rfl⟩
        rw [hg] at HCK hgz
        have HG := Lib.hid hg
        obtain ⟨n, hn⟩ : ∃ n, n = L.length := ⟨_, rfl⟩
        rw [← hn] at HCK X0 hW1 ⊢
        clear x0 x1 hb hg hn hL hm
        go_enter Tryz.func24, Tryz.ntmps24
        go_upto_region 1 with fail
        rw [← hW1]
        rw [show w.heap.size + 1 = b1 from e1.symm, show w.heap.size = b0 from e0.symm]
        clear hW1 e0 e1
        obtain ⟨k0, k1, _⟩ := Bx.cells X0.out
        go_wp2_with fail
        refine HCK.out.mono ?_
        rintro e w2 ⟨rfl, hb2⟩
        have Y0 := Lib.hid (keep X0.out hb2); have Y1 := Lib.hid (keep X1.out hb2); have HB2 := Lib.hid (step_below HB.out HB.out.size hb2)
        clear hb2 X0 X1 k0 k1 HCK
        have hg0 : g = 0 := hgz
        subst hg0
        obtain ⟨j0, j1, j2, j3, j4, _⟩ := jb_cells Y1.out
        go_wp2_with fail
        clear j0 j1 j2 j3 j4
        refine (prog_1 st so dm ep _).mono ?_
        rintro e w3 ⟨rfl, hb3⟩
        have Z0 := Lib.hid (keep Y0.out hb3); have Z1 := Lib.hid (keep Y1.out hb3); have HB3 := Lib.hid (step_below HB2.out HB2.out.size hb3)
        clear hb3 Y0 Y1
        obtain ⟨_, j1, _, _, _, _⟩ := jb_cells Z1.out
        obtain ⟨k0, k1, _⟩ := Bx.cells Z0.out
        go_wp2
        all_goals (go_ret; exact ⟨Fx.ret_int (by unfold chkJ; rw [HG.out, if_pos rfl, HJ.out]; simp [*]; try omega), HB3.out⟩)
    by_cases h2 : k = 2
    · subst h2
      have hJ : jobOk 2 st so dm ep V = (decide (0 ≤ st) && decide (st ≤ 2000) && (decide (so = 0) && decide (dm = 0) && decide (ep = 0))) := by unfold jobOk; simp
      obtain ⟨q, hq⟩ : ∃ q, (decide (so = 0) && decide (dm = 0) && decide (ep = 0)) = q := ⟨_, rfl⟩
      rw [hq] at hJ
      have HJ := Lib.hid hJ
      have c1 := fun W => may_labels 2 st so dm ep V W
      rw [hq] at c1
      have C1 := Lib.hid c1
      clear hJ hq c1
      by_cases s0 : 0 ≤ st
      · by_cases s1 : st ≤ 2000
        · cases q
          · have hl := look_mayBe_2 st so dm ep
            obtain ⟨W1, hW1⟩ : ∃ W1, W1 = (w.alloc (.cells #[.int .i64 V, .slice A L.length c] 24)).alloc (.cells #[.int .u8 2, .int .i64 st, .int .i64 so, .int .i64 dm, .int .i64 ep] 26) := ⟨_, rfl⟩
            have hal := al2 w (.cells #[.int .i64 V, .slice A L.length c] 24) (.cells #[.int .u8 2, .int .i64 st, .int .i64 so, .int .i64 dm, .int .i64 ep] 26)
            rw [← hW1] at hal
            obtain ⟨b0, e0⟩ : ∃ b0, b0 = w.heap.size := ⟨_, rfl⟩
            obtain ⟨b1, e1⟩ : ∃ b1, b1 = w.heap.size + 1 := ⟨_, rfl⟩
            obtain ⟨x0, x1, hb⟩ := hal
            rw [← e0] at x0; rw [← e1] at x1
            have X0 := Lib.hid x0; have X1 := Lib.hid x1; have HB := Lib.hid hb
            have HCK := Lib.hid (check_any V A c L W1 (hL.below hb) hm)
            obtain ⟨g, hg⟩ : ∃ g, chk V L = g := ⟨_, rfl⟩
            rw [hg] at HCK hgz
            have HG := Lib.hid hg
            obtain ⟨n, hn⟩ : ∃ n, n = L.length := ⟨_, rfl⟩
            rw [← hn] at HCK X0 hW1 ⊢
            clear x0 x1 hb hg hn hL hm
            go_enter Tryz.func24, Tryz.ntmps24
            go_upto_region 1 with fail
            rw [← hW1]
            rw [show w.heap.size + 1 = b1 from e1.symm, show w.heap.size = b0 from e0.symm]
            clear hW1 e0 e1
            obtain ⟨k0, k1, _⟩ := Bx.cells X0.out
            go_wp2_with fail
            refine HCK.out.mono ?_
            rintro e w2 ⟨rfl, hb2⟩
            have Y0 := Lib.hid (keep X0.out hb2); have Y1 := Lib.hid (keep X1.out hb2); have HB2 := Lib.hid (step_below HB.out HB.out.size hb2)
            clear hb2 X0 X1 k0 k1 HCK
            have hg0 : g = 0 := hgz
            subst hg0
            obtain ⟨j0, j1, j2, j3, j4, _⟩ := jb_cells Y1.out
            go_wp2_with fail
            clear j0 j1 j2 j3 j4
            refine (prog_2 st so dm ep _).mono ?_
            rintro e w3 ⟨rfl, hb3⟩
            have Z0 := Lib.hid (keep Y0.out hb3); have Z1 := Lib.hid (keep Y1.out hb3); have HB3 := Lib.hid (step_below HB2.out HB2.out.size hb3)
            clear hb3 Y0 Y1
            obtain ⟨_, j1, _, _, _, _⟩ := jb_cells Z1.out
            obtain ⟨k0, k1, _⟩ := Bx.cells Z0.out
            go_wp2_with fail
            refine (C1.out _).mono ?_
            rintro e w4 ⟨rfl, hb4⟩
            have HB4 := Lib.hid (step_below HB3.out HB3.out.size hb4)
            clear hb4 j1 k0 k1
            go_wp2
            all_goals (go_ret; exact ⟨Fx.ret_int (by unfold chkJ; rw [HG.out, if_pos rfl, HJ.out]; simp [*]), HB4.out⟩)
          · have hl := look_mayBe_2 st so dm ep
            obtain ⟨W1, hW1⟩ : ∃ W1, W1 = (w.alloc (.cells #[.int .i64 V, .slice A L.length c] 24)).alloc (.cells #[.int .u8 2, .int .i64 st, .int .i64 so, .int .i64 dm, .int .i64 ep] 26) := ⟨_, rfl⟩
            have hal := al2 w (.cells #[.int .i64 V, .slice A L.length c] 24) (.cells #[.int .u8 2, .int .i64 st, .int .i64 so, .int .i64 dm, .int .i64 ep] 26)
            rw [← hW1] at hal
            obtain ⟨b0, e0⟩ : ∃ b0, b0 = w.heap.size := ⟨_, rfl⟩
            obtain ⟨b1, e1⟩ : ∃ b1, b1 = w.heap.size + 1 := ⟨_, rfl⟩
            obtain ⟨x0, x1, hb⟩ := hal
            rw [← e0] at x0; rw [← e1] at x1
            have X0 := Lib.hid x0; have X1 := Lib.hid x1; have HB := Lib.hid hb
            have HCK := Lib.hid (check_any V A c L W1 (hL.below hb) hm)
            obtain ⟨g, hg⟩ : ∃ g, chk V L = g := ⟨_, rfl⟩
            rw [hg] at HCK hgz
            have HG := Lib.hid hg
            obtain ⟨n, hn⟩ : ∃ n, n = L.length := ⟨_, rfl⟩
            rw [← hn] at HCK X0 hW1 ⊢
            clear x0 x1 hb hg hn hL hm
            go_enter Tryz.func24, Tryz.ntmps24
            go_upto_region 1 with fail
            rw [← hW1]
            rw [show w.heap.size + 1 = b1 from e1.symm, show w.heap.size = b0 from e0.symm]
            clear hW1 e0 e1
            obtain ⟨k0, k1, _⟩ := Bx.cells X0.out
            go_wp2_with fail
            refine HCK.out.mono ?_
            rintro e w2 ⟨rfl, hb2⟩
            have Y0 := Lib.hid (keep X0.out hb2); have Y1 := Lib.hid (keep X1.out hb2); have HB2 := Lib.hid (step_below HB.out HB.out.size hb2)
            clear hb2 X0 X1 k0 k1 HCK
            have hg0 : g = 0 := hgz
            subst hg0
            obtain ⟨j0, j1, j2, j3, j4, _⟩ := jb_cells Y1.out
            go_wp2_with fail
            clear j0 j1 j2 j3 j4
            refine (prog_2 st so dm ep _).mono ?_
            rintro e w3 ⟨rfl, hb3⟩
            have Z0 := Lib.hid (keep Y0.out hb3); have Z1 := Lib.hid (keep Y1.out hb3); have HB3 := Lib.hid (step_below HB2.out HB2.out.size hb3)
            clear hb3 Y0 Y1
            obtain ⟨_, j1, _, _, _, _⟩ := jb_cells Z1.out
            obtain ⟨k0, k1, _⟩ := Bx.cells Z0.out
            go_wp2_with fail
            refine (C1.out _).mono ?_
            rintro e w4 ⟨rfl, hb4⟩
            have HB4 := Lib.hid (step_below HB3.out HB3.out.size hb4)
            clear hb4 j1 k0 k1
            go_wp2
            all_goals (go_ret; exact ⟨Fx.ret_int (by unfold chkJ; rw [HG.out, if_pos rfl, HJ.out]; simp [*]), HB4.out⟩)
        · have hl := look_mayBe_2 st so dm ep
          obtain ⟨W1, hW1⟩ : ∃ W1, W1 = (w.alloc (.cells #[.int .i64 V, .slice A L.length c] 24)).alloc (.cells #[.int .u8 2, .int .i64 st, .int .i64 so, .int .i64 dm, .int .i64 ep] 26) := ⟨_, rfl⟩
          have hal := al2 w (.cells #[.int .i64 V, .slice A L.length c] 24) (.cells #[.int .u8 2, .int .i64 st, .int .i64 so, .int .i64 dm, .int .i64 ep] 26)
          rw [← hW1] at hal
          obtain ⟨b0, e0⟩ : ∃ b0, b0 = w.heap.size := ⟨_, rfl⟩
          obtain ⟨b1, e1⟩ : ∃ b1, b1 = w.heap.size + 1 := ⟨_, rfl⟩
          obtain ⟨x0, x1, hb⟩ := hal
          rw [← e0] at x0; rw [← e1] at x1
          have X0 := Lib.hid x0; have X1 := Lib.hid x1; have HB := Lib.hid hb
          have HCK := Lib.hid (check_any V A c L W1 (hL.below hb) hm)
          obtain ⟨g, hg⟩ : ∃ g, chk V L = g := ⟨_, rfl⟩
          rw [hg] at HCK hgz
          have HG := Lib.hid hg
          obtain ⟨n, hn⟩ : ∃ n, n = L.length := ⟨_, rfl⟩
          rw [← hn] at HCK X0 hW1 ⊢
          clear x0 x1 hb hg hn hL hm
          go_enter Tryz.func24, Tryz.ntmps24
          go_upto_region 1 with fail
          rw [← hW1]
          rw [show w.heap.size + 1 = b1 from e1.symm, show w.heap.size = b0 from e0.symm]
          clear hW1 e0 e1
          obtain ⟨k0, k1, _⟩ := Bx.cells X0.out
          go_wp2_with fail
          refine HCK.out.mono ?_
          rintro e w2 ⟨rfl, hb2⟩
          have Y0 := Lib.hid (keep X0.out hb2); have Y1 := Lib.hid (keep X1.out hb2); have HB2 := Lib.hid (step_below HB.out HB.out.size hb2)
          clear hb2 X0 X1 k0 k1 HCK
          have hg0 : g = 0 := hgz
          subst hg0
          obtain ⟨j0, j1, j2, j3, j4, _⟩ := jb_cells Y1.out
          go_wp2_with fail
          clear j0 j1 j2 j3 j4
          refine (prog_2 st so dm ep _).mono ?_
          rintro e w3 ⟨rfl, hb3⟩
          have Z0 := Lib.hid (keep Y0.out hb3); have Z1 := Lib.hid (keep Y1.out hb3); have HB3 := Lib.hid (step_below HB2.out HB2.out.size hb3)
          clear hb3 Y0 Y1
          obtain ⟨_, j1, _, _, _, _⟩ := jb_cells Z1.out
          obtain ⟨k0, k1, _⟩ := Bx.cells Z0.out
          go_wp2
          all_goals (go_ret; exact ⟨Fx.ret_int (by unfold chkJ; rw [HG.out, if_pos rfl, HJ.out]; simp [*]; try omega), HB3.out⟩)
      · have hl := look_mayBe_2 st so dm ep
        obtain ⟨W1, hW1⟩ : ∃ W1, W1 = (w.alloc (.cells #[.int .i64 V, .slice A L.length c] 24)).alloc (.cells #[.int .u8 2, .int .i64 st, .int .i64 so, .int .i64 dm, .int .i64 ep] 26) := ⟨_, rfl⟩
        have hal := al2 w (.cells #[.int .i64 V, .slice A L.length c] 24) (.cells #[.int .u8 2, .int .i64 st, .int .i64 so, .int .i64 dm, .int .i64 ep] 26)
        rw [← hW1] at hal
        obtain ⟨b0, e0⟩ : ∃ b0, b0 = w.heap.size := ⟨_, rfl⟩
        obtain ⟨b1, e1⟩ : ∃ b1, b1 = w.heap.size + 1 := ⟨_, rfl⟩
        obtain ⟨x0, x1, hb⟩ := hal
        rw [← e0] at x0; rw [← e1] at x1
        have X0 := Lib.hid x0; have X1 := Lib.hid x1; have HB := Lib.hid hb
        have HCK := Lib.hid (check_any V A c L W1 (hL.below hb) hm)
        obtain ⟨g, hg⟩ : ∃ g, chk V L = g := ⟨_, rfl⟩
        rw [hg] at HCK hgz
        have HG := Lib.hid hg
        obtain ⟨n, hn⟩ : ∃ n, n = L.length := ⟨_, rfl⟩
        rw [← hn] at HCK X0 hW1 ⊢
        clear x0 x1 hb hg hn hL hm
        go_enter Tryz.func24, Tryz.ntmps24
        go_upto_region 1 with fail
        rw [← hW1]
        rw [show w.heap.size + 1 = b1 from e1.symm, show w.heap.size = b0 from e0.symm]
        clear hW1 e0 e1
        obtain ⟨k0, k1, _⟩ := Bx.cells X0.out
        go_wp2_with fail
        refine HCK.out.mono ?_
        rintro e w2 ⟨rfl, hb2⟩
        have Y0 := Lib.hid (keep X0.out hb2); have Y1 := Lib.hid (keep X1.out hb2); have HB2 := Lib.hid (step_below HB.out HB.out.size hb2)
        clear hb2 X0 X1 k0 k1 HCK
        have hg0 : g = 0 := hgz
        subst hg0
        obtain ⟨j0, j1, j2, j3, j4, _⟩ := jb_cells Y1.out
        go_wp2_with fail
        clear j0 j1 j2 j3 j4
        refine (prog_2 st so dm ep _).mono ?_
        rintro e w3 ⟨rfl, hb3⟩
        have Z0 := Lib.hid (keep Y0.out hb3); have Z1 := Lib.hid (keep Y1.out hb3); have HB3 := Lib.hid (step_below HB2.out HB2.out.size hb3)
        clear hb3 Y0 Y1
        obtain ⟨_, j1, _, _, _, _⟩ := jb_cells Z1.out
        obtain ⟨k0, k1, _⟩ := Bx.cells Z0.out
        go_wp2
        all_goals (go_ret; exact ⟨Fx.ret_int (by unfold chkJ; rw [HG.out, if_pos rfl, HJ.out]; simp [*]; try omega), HB3.out⟩)
    by_cases h3 : k = 3
    · subst h3
      have hJ : jobOk 3 st so dm ep V = (decide (0 ≤ st) && decide (st ≤ 2000) && (decide (0 ≤ so) && decide (so < V) && decide (dm = 0) && decide (ep = 0))) := by unfold jobOk; simp
      obtain ⟨q, hq⟩ : ∃ q, (decide (0 ≤ so) && decide (so < V) && decide (dm = 0) && decide (ep = 0)) = q := ⟨_, rfl⟩
      rw [hq] at hJ
      have HJ := Lib.hid hJ
      have c1 := fun W => may_distances 3 st so dm ep V W
      rw [hq] at c1
      have C1 := Lib.hid c1
      clear hJ hq c1
      by_cases s0 : 0 ≤ st
      · by_cases s1 : st ≤ 2000
        · cases q
          · have hl := look_mayBe_3 st so dm ep
            obtain ⟨W1, hW1⟩ : ∃ W1, W1 = (w.alloc (.cells #[.int .i64 V, .slice A L.length c] 24)).alloc (.cells #[.int .u8 3, .int .i64 st, .int .i64 so, .int .i64 dm, .int .i64 ep] 26) := ⟨_, rfl⟩
            have hal := al2 w (.cells #[.int .i64 V, .slice A L.length c] 24) (.cells #[.int .u8 3, .int .i64 st, .int .i64 so, .int .i64 dm, .int .i64 ep] 26)
            rw [← hW1] at hal
            obtain ⟨b0, e0⟩ : ∃ b0, b0 = w.heap.size := ⟨_, rfl⟩
            obtain ⟨b1, e1⟩ : ∃ b1, b1 = w.heap.size + 1 := ⟨_, rfl⟩
            obtain ⟨x0, x1, hb⟩ := hal
            rw [← e0] at x0; rw [← e1] at x1
            have X0 := Lib.hid x0; have X1 := Lib.hid x1; have HB := Lib.hid hb
            have HCK := Lib.hid (check_any V A c L W1 (hL.below hb) hm)
            obtain ⟨g, hg⟩ : ∃ g, chk V L = g := ⟨_, rfl⟩
            rw [hg] at HCK hgz
            have HG := Lib.hid hg
            obtain ⟨n, hn⟩ : ∃ n, n = L.length := ⟨_, rfl⟩
            rw [← hn] at HCK X0 hW1 ⊢
            clear x0 x1 hb hg hn hL hm
            go_enter Tryz.func24, Tryz.ntmps24
            go_upto_region 1 with fail
            rw [← hW1]
            rw [show w.heap.size + 1 = b1 from e1.symm, show w.heap.size = b0 from e0.symm]
            clear hW1 e0 e1
            obtain ⟨k0, k1, _⟩ := Bx.cells X0.out
            go_wp2_with fail
            refine HCK.out.mono ?_
            rintro e w2 ⟨rfl, hb2⟩
            have Y0 := Lib.hid (keep X0.out hb2); have Y1 := Lib.hid (keep X1.out hb2); have HB2 := Lib.hid (step_below HB.out HB.out.size hb2)
            clear hb2 X0 X1 k0 k1 HCK
            have hg0 : g = 0 := hgz
            subst hg0
            obtain ⟨j0, j1, j2, j3, j4, _⟩ := jb_cells Y1.out
            go_wp2_with fail
            clear j0 j1 j2 j3 j4
            refine (prog_3 st so dm ep _).mono ?_
            rintro e w3 ⟨rfl, hb3⟩
            have Z0 := Lib.hid (keep Y0.out hb3); have Z1 := Lib.hid (keep Y1.out hb3); have HB3 := Lib.hid (step_below HB2.out HB2.out.size hb3)
            clear hb3 Y0 Y1
            obtain ⟨_, j1, _, _, _, _⟩ := jb_cells Z1.out
            obtain ⟨k0, k1, _⟩ := Bx.cells Z0.out
            go_wp2_with fail
            refine (C1.out _).mono ?_
            rintro e w4 ⟨rfl, hb4⟩
            have HB4 := Lib.hid (step_below HB3.out HB3.out.size hb4)
            clear hb4 j1 k0 k1
            go_wp2
            all_goals (go_ret; exact ⟨Fx.ret_int (by unfold chkJ; rw [HG.out, if_pos rfl, HJ.out]; simp [*]), HB4.out⟩)
          · have hl := look_mayBe_3 st so dm ep
            obtain ⟨W1, hW1⟩ : ∃ W1, W1 = (w.alloc (.cells #[.int .i64 V, .slice A L.length c] 24)).alloc (.cells #[.int .u8 3, .int .i64 st, .int .i64 so, .int .i64 dm, .int .i64 ep] 26) := ⟨_, rfl⟩
            have hal := al2 w (.cells #[.int .i64 V, .slice A L.length c] 24) (.cells #[.int .u8 3, .int .i64 st, .int .i64 so, .int .i64 dm, .int .i64 ep] 26)
            rw [← hW1] at hal
            obtain ⟨b0, e0⟩ : ∃ b0, b0 = w.heap.size := ⟨_, rfl⟩
            obtain ⟨b1, e1⟩ : ∃ b1, b1 = w.heap.size + 1 := ⟨_, rfl⟩
            obtain ⟨x0, x1, hb⟩ := hal
            rw [← e0] at x0; rw [← e1] at x1
            have X0 := Lib.hid x0; have X1 := Lib.hid x1; have HB := Lib.hid hb
            have HCK := Lib.hid (check_any V A c L W1 (hL.below hb) hm)
            obtain ⟨g, hg⟩ : ∃ g, chk V L = g := ⟨_, rfl⟩
            rw [hg] at HCK hgz
            have HG := Lib.hid hg
            obtain ⟨n, hn⟩ : ∃ n, n = L.length := ⟨_, rfl⟩
            rw [← hn] at HCK X0 hW1 ⊢
            clear x0 x1 hb hg hn hL hm
            go_enter Tryz.func24, Tryz.ntmps24
            go_upto_region 1 with fail
            rw [← hW1]
            rw [show w.heap.size + 1 = b1 from e1.symm, show w.heap.size = b0 from e0.symm]
            clear hW1 e0 e1
            obtain ⟨k0, k1, _⟩ := Bx.cells X0.out
            go_wp2_with fail
            refine HCK.out.mono ?_
            rintro e w2 ⟨rfl, hb2⟩
            have Y0 := Lib.hid (keep X0.out hb2); have Y1 := Lib.hid (keep X1.out hb2); have HB2 := Lib.hid (step_below HB.out HB.out.size hb2)
            clear hb2 X0 X1 k0 k1 HCK
            have hg0 : g = 0 := hgz
            subst hg0
            obtain ⟨j0, j1, j2, j3, j4, _⟩ := jb_cells Y1.out
            go_wp2_with fail
            clear j0 j1 j2 j3 j4
            refine (prog_3 st so dm ep _).mono ?_
            rintro e w3 ⟨rfl, hb3⟩
            have Z0 := Lib.hid (keep Y0.out hb3); have Z1 := Lib.hid (keep Y1.out hb3); have HB3 := Lib.hid (step_below HB2.out HB2.out.size hb3)
            clear hb3 Y0 Y1
            obtain ⟨_, j1, _, _, _, _⟩ := jb_cells Z1.out
            obtain ⟨k0, k1, _⟩ := Bx.cells Z0.out
            go_wp2_with fail
            refine (C1.out _).mono ?_
            rintro e w4 ⟨rfl, hb4⟩
            have HB4 := Lib.hid (step_below HB3.out HB3.out.size hb4)
            clear hb4 j1 k0 k1
            go_wp2
            all_goals (go_ret; exact ⟨Fx.ret_int (by unfold chkJ; rw [HG.out, if_pos rfl, HJ.out]; simp [*]), HB4.out⟩)
        · have hl := look_mayBe_3 st so dm ep
          obtain ⟨W1, hW1⟩ : ∃ W1, W1 = (w.alloc (.cells #[.int .i64 V, .slice A L.length c] 24)).alloc (.cells #[.int .u8 3, .int .i64 st, .int .i64 so, .int .i64 dm, .int .i64 ep] 26) := ⟨_, rfl⟩
          have hal := al2 w (.cells #[.int .i64 V, .slice A L.length c] 24) (.cells #[.int .u8 3, .int .i64 st, .int .i64 so, .int .i64 dm, .int .i64 ep] 26)
          rw [← hW1] at hal
          obtain ⟨b0, e0⟩ : ∃ b0, b0 = w.heap.size := ⟨_, rfl⟩
          obtain ⟨b1, e1⟩ : ∃ b1, b1 = w.heap.size + 1 := ⟨_, rfl⟩
          obtain ⟨x0, x1, hb⟩ := hal
          rw [← e0] at x0; rw [← e1] at x1
          have X0 := Lib.hid x0; have X1 := Lib.hid x1; have HB := Lib.hid hb
          have HCK := Lib.hid (check_any V A c L W1 (hL.below hb) hm)
          obtain ⟨g, hg⟩ : ∃ g, chk V L = g := ⟨_, rfl⟩
          rw [hg] at HCK hgz
          have HG := Lib.hid hg
          obtain ⟨n, hn⟩ : ∃ n, n = L.length := ⟨_, rfl⟩
          rw [← hn] at HCK X0 hW1 ⊢
          clear x0 x1 hb hg hn hL hm
          go_enter Tryz.func24, Tryz.ntmps24
          go_upto_region 1 with fail
          rw [← hW1]
          rw [show w.heap.size + 1 = b1 from e1.symm, show w.heap.size = b0 from e0.symm]
          clear hW1 e0 e1
          obtain ⟨k0, k1, _⟩ := Bx.cells X0.out
          go_wp2_with fail
          refine HCK.out.mono ?_
          rintro e w2 ⟨rfl, hb2⟩
          have Y0 := Lib.hid (keep X0.out hb2); have Y1 := Lib.hid (keep X1.out hb2); have HB2 := Lib.hid (step_below HB.out HB.out.size hb2)
          clear hb2 X0 X1 k0 k1 HCK
          have hg0 : g = 0 := hgz
          subst hg0
          obtain ⟨j0, j1, j2, j3, j4, _⟩ := jb_cells Y1.out
          go_wp2_with fail
          clear j0 j1 j2 j3 j4
          refine (prog_3 st so dm ep _).mono ?_
          rintro e w3 ⟨rfl, hb3⟩
          have Z0 := Lib.hid (keep Y0.out hb3); have Z1 := Lib.hid (keep Y1.out hb3); have HB3 := Lib.hid (step_below HB2.out HB2.out.size hb3)
          clear hb3 Y0 Y1
          obtain ⟨_, j1, _, _, _, _⟩ := jb_cells Z1.out
          obtain ⟨k0, k1, _⟩ := Bx.cells Z0.out
          go_wp2
          all_goals (go_ret; exact ⟨Fx.ret_int (by unfold chkJ; rw [HG.out, if_pos rfl, HJ.out]; simp [*]; try omega), HB3.out⟩)
      · have hl := look_mayBe_3 st so dm ep
        obtain ⟨W1, hW1⟩ : ∃ W1, W1 = (w.alloc (.cells #[.int .i64 V, .slice A L.length c] 24)).alloc (.cells #[.int .u8 3, .int .i64 st, .int .i64 so, .int .i64 dm, .int .i64 ep] 26) := ⟨_, rfl⟩
        have hal := al2 w (.cells #[.int .i64 V, .slice A L.length c] 24) (.cells #[.int .u8 3, .int .i64 st, .int .i64 so, .int .i64 dm, .int .i64 ep] 26)
        rw [← hW1] at hal
        obtain ⟨b0, e0⟩ : ∃ b0, b0 = w.heap.size := ⟨_, rfl⟩
        obtain ⟨b1, e1⟩ : ∃ b1, b1 = w.heap.size + 1 := ⟨_, rfl⟩
        obtain ⟨x0, x1, hb⟩ := hal
        rw [← e0] at x0; rw [← e1] at x1
        have X0 := Lib.hid x0; have X1 := Lib.hid x1; have HB := Lib.hid hb
        have HCK := Lib.hid (check_any V A c L W1 (hL.below hb) hm)
        obtain ⟨g, hg⟩ : ∃ g, chk V L = g := ⟨_, rfl⟩
        rw [hg] at HCK hgz
        have HG := Lib.hid hg
        obtain ⟨n, hn⟩ : ∃ n, n = L.length := ⟨_, rfl⟩
        rw [← hn] at HCK X0 hW1 ⊢
        clear x0 x1 hb hg hn hL hm
        go_enter Tryz.func24, Tryz.ntmps24
        go_upto_region 1 with fail
        rw [← hW1]
        rw [show w.heap.size + 1 = b1 from e1.symm, show w.heap.size = b0 from e0.symm]
        clear hW1 e0 e1
        obtain ⟨k0, k1, _⟩ := Bx.cells X0.out
        go_wp2_with fail
        refine HCK.out.mono ?_
        rintro e w2 ⟨rfl, hb2⟩
        have Y0 := Lib.hid (keep X0.out hb2); have Y1 := Lib.hid (keep X1.out hb2); have HB2 := Lib.hid (step_below HB.out HB.out.size hb2)
        clear hb2 X0 X1 k0 k1 HCK
        have hg0 : g = 0 := hgz
        subst hg0
        obtain ⟨j0, j1, j2, j3, j4, _⟩ := jb_cells Y1.out
        go_wp2_with fail
        clear j0 j1 j2 j3 j4
        refine (prog_3 st so dm ep _).mono ?_
        rintro e w3 ⟨rfl, hb3⟩
        have Z0 := Lib.hid (keep Y0.out hb3); have Z1 := Lib.hid (keep Y1.out hb3); have HB3 := Lib.hid (step_below HB2.out HB2.out.size hb3)
        clear hb3 Y0 Y1
        obtain ⟨_, j1, _, _, _, _⟩ := jb_cells Z1.out
        obtain ⟨k0, k1, _⟩ := Bx.cells Z0.out
        go_wp2
        all_goals (go_ret; exact ⟨Fx.ret_int (by unfold chkJ; rw [HG.out, if_pos rfl, HJ.out]; simp [*]; try omega), HB3.out⟩)
    obtain ⟨W1, hW1⟩ : ∃ W1, W1 = (w.alloc (.cells #[.int .i64 V, .slice A L.length c] 24)).alloc (.cells #[.int .u8 k, .int .i64 st, .int .i64 so, .int .i64 dm, .int .i64 ep] 26) := ⟨_, rfl⟩
    have hal := al2 w (.cells #[.int .i64 V, .slice A L.length c] 24) (.cells #[.int .u8 k, .int .i64 st, .int .i64 so, .int .i64 dm, .int .i64 ep] 26)
    rw [← hW1] at hal
    obtain ⟨b0, e0⟩ : ∃ b0, b0 = w.heap.size := ⟨_, rfl⟩
    obtain ⟨b1, e1⟩ : ∃ b1, b1 = w.heap.size + 1 := ⟨_, rfl⟩
    obtain ⟨x0, x1, hb⟩ := hal
    rw [← e0] at x0; rw [← e1] at x1
    have X0 := Lib.hid x0; have X1 := Lib.hid x1; have HB := Lib.hid hb
    have HCK := Lib.hid (check_any V A c L W1 (hL.below hb) hm)
    obtain ⟨g, hg⟩ : ∃ g, chk V L = g := ⟨_, rfl⟩
    rw [hg] at HCK hgz
    have HG := Lib.hid hg
    obtain ⟨n, hn⟩ : ∃ n, n = L.length := ⟨_, rfl⟩
    rw [← hn] at HCK X0 hW1 ⊢
    clear x0 x1 hb hg hn hL hm
    go_enter Tryz.func24, Tryz.ntmps24
    go_upto_region 1 with fail
    rw [← hW1]
    rw [show w.heap.size + 1 = b1 from e1.symm, show w.heap.size = b0 from e0.symm]
    clear hW1 e0 e1
    obtain ⟨k0, k1, _⟩ := Bx.cells X0.out
    go_wp2_with fail
    refine HCK.out.mono ?_
    rintro e w2 ⟨rfl, hb2⟩
    have Y0 := Lib.hid (keep X0.out hb2); have Y1 := Lib.hid (keep X1.out hb2); have HB2 := Lib.hid (step_below HB.out HB.out.size hb2)
    clear hb2 X0 X1 k0 k1 HCK
    have hg0 : g = 0 := hgz
    subst hg0
    obtain ⟨j0, j1, j2, j3, j4, _⟩ := jb_cells Y1.out
    go_wp2_with fail
    clear j0 j1 j2 j3 j4
    refine (prog_no k st so dm ep h1 h2 h3 _).mono ?_
    rintro e w3 ⟨rfl, hb3⟩
    have Z0 := Lib.hid (keep Y0.out hb3); have Z1 := Lib.hid (keep Y1.out hb3); have HB3 := Lib.hid (step_below HB2.out HB2.out.size hb3)
    clear hb3 Y0 Y1
    obtain ⟨_, j1, _, _, _, _⟩ := jb_cells Z1.out
    obtain ⟨k0, k1, _⟩ := Bx.cells Z0.out
    go_wp2
    all_goals (go_ret; exact ⟨Fx.ret_int (by unfold chkJ jobOk; rw [HG.out, if_pos rfl, if_neg h1, if_neg h2, if_neg h3]; simp), HB3.out⟩)
  · obtain ⟨W1, hW1⟩ : ∃ W1, W1 = (w.alloc (.cells #[.int .i64 V, .slice A L.length c] 24)).alloc (.cells #[.int .u8 k, .int .i64 st, .int .i64 so, .int .i64 dm, .int .i64 ep] 26) := ⟨_, rfl⟩
    have hal := al2 w (.cells #[.int .i64 V, .slice A L.length c] 24) (.cells #[.int .u8 k, .int .i64 st, .int .i64 so, .int .i64 dm, .int .i64 ep] 26)
    rw [← hW1] at hal
    obtain ⟨b0, e0⟩ : ∃ b0, b0 = w.heap.size := ⟨_, rfl⟩
    obtain ⟨b1, e1⟩ : ∃ b1, b1 = w.heap.size + 1 := ⟨_, rfl⟩
    obtain ⟨x0, x1, hb⟩ := hal
    rw [← e0] at x0; rw [← e1] at x1
    have X0 := Lib.hid x0; have X1 := Lib.hid x1; have HB := Lib.hid hb
    have HCK := Lib.hid (check_any V A c L W1 (hL.below hb) hm)
    obtain ⟨g, hg⟩ : ∃ g, chk V L = g := ⟨_, rfl⟩
    rw [hg] at HCK hgz
    have HG := Lib.hid hg
    obtain ⟨n, hn⟩ : ∃ n, n = L.length := ⟨_, rfl⟩
    rw [← hn] at HCK X0 hW1 ⊢
    clear x0 x1 hb hg hn hL hm
    go_enter Tryz.func24, Tryz.ntmps24
    go_upto_region 1 with fail
    rw [← hW1]
    rw [show w.heap.size + 1 = b1 from e1.symm, show w.heap.size = b0 from e0.symm]
    clear hW1 e0 e1
    obtain ⟨k0, k1, _⟩ := Bx.cells X0.out
    go_wp2_with fail
    refine HCK.out.mono ?_
    rintro e w2 ⟨rfl, hb2⟩
    have Y0 := Lib.hid (keep X0.out hb2); have Y1 := Lib.hid (keep X1.out hb2); have HB2 := Lib.hid (step_below HB.out HB.out.size hb2)
    clear hb2 X0 X1 k0 k1 HCK
    have hg0 : ¬ g = 0 := hgz
    go_wp2
    go_ret
    exact ⟨Fx.ret_int (by unfold chkJ; rw [HG.out, if_neg hgz]), HB2.out⟩
end Go.Proofs.YtbbmgandkmlojaaGreat.Al

