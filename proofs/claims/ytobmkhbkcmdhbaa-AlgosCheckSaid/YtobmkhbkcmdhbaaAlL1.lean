/-
  What is proved here: the laws AlgosCompute and AlgosOrder walked: they return true, and no block that was there has changed. Conditions: numbers of 64 bits.
-/
import Derived.Test.YtobmkhbkcmdhbaaAlWk
import Derived.Test.YtobmkhbkcmdhbaaAlR1
import Derived.Test.YtobmkhbkcmdhbaaAlQ2
import Derived.Test.YtobmkhbkcmdhbaaAlQ3
namespace Go.Proofs.Ytobmkhbkcmdhbaa.Al
open Go.RowKit Go.Sort Gr Wd Ws Fx Rk Lb

def Lb2 (w : World) (b d : Nat) (k st so dm ep : Int) (h : Bool) (m : Int) (W : World) : Prop := Below w.heap.size w W ∧ W.heap[b]? = some (.cells #[.int .u8 k, .int .i64 st, .int .i64 so, .int .i64 dm, .int .i64 ep] 26 (0, 0)) ∧ W.heap[d]? = some (.cells #[.bool h, .int .i64 m] 36 (0, 0))
theorem Lb2.step {w W W' : World} {b d : Nat} {k st so dm ep : Int} {h : Bool} {m : Int} (g : Lb2 w b d k st so dm ep h m W) (hb : Below W.heap.size W W') : Lb2 w b d k st so dm ep h m W' := ⟨step_below g.1 g.1.size hb, keep g.2.1 hb, keep g.2.2 hb⟩
def Lb1 (w : World) (b : Nat) (k st so dm ep : Int) (W : World) : Prop := Below w.heap.size w W ∧ W.heap[b]? = some (.cells #[.int .u8 k, .int .i64 st, .int .i64 so, .int .i64 dm, .int .i64 ep] 26 (0, 0))
theorem Lb1.step {w W W' : World} {b : Nat} {k st so dm ep : Int} (g : Lb1 w b k st so dm ep W) (hb : Below W.heap.size W W') : Lb1 w b k st so dm ep W' := ⟨step_below g.1 g.1.size hb, keep g.2 hb⟩
def Lb3 (w : World) (b t0 t1 t2 : Nat) (k st so dm ep x y z : Int) (W : World) : Prop := Lb1 w b k st so dm ep W ∧ W.heap[t0]? = some (.cells #[.int .i64 x, .int .i64 y] 47 (0, 0)) ∧ W.heap[t1]? = some (.cells #[.int .i64 y, .int .i64 z] 47 (0, 0)) ∧ W.heap[t2]? = some (.cells #[.int .i64 z, .int .i64 x] 47 (0, 0))
theorem Lb3.step {w W W' : World} {b t0 t1 t2 : Nat} {k st so dm ep x y z : Int} (g : Lb3 w b t0 t1 t2 k st so dm ep x y z W) (hb : Below W.heap.size W W') : Lb3 w b t0 t1 t2 k st so dm ep x y z W' := ⟨g.1.step hb, keep g.2.1 hb, keep g.2.2.1 hb, keep g.2.2.2 hb⟩
theorem rcomb_q (k st so dm ep a b : Int) (w : World) : Calls Try.prog 28 #[.agg #[.int .u8 k, .int .i64 st, .int .i64 so, .int .i64 dm, .int .i64 ep], .int .i64 a, .int .i64 b] w fun e w' => e = .returned (.int .i64 (comb k a b)) ∧ Below w.heap.size w w' :=
  (rcomb_x k st so dm ep a b w).mono fun _ _ g => ⟨g.1, g.2 ▸ (Below.refl _ w).alloc (Nat.le_refl _) _⟩

set_option maxRecDepth 100000 in
set_option maxHeartbeats 2000000 in
theorem law_compute (k st so dm ep V x m s : Int) (h : Bool) (hV0 : -9223372036854775808 ≤ V) (hV1 : V ≤ 9223372036854775807) (hm0 : -9223372036854775808 ≤ m) (hm1 : m ≤ 9223372036854775807) (hs0 : -9223372036854775808 ≤ s) (hs1 : s ≤ 9223372036854775807) (hdm0 : -9223372036854775808 ≤ dm) (hdm1 : dm ≤ 9223372036854775807) (w : World) : Calls Try.prog 4 #[.agg #[.int .u8 k, .int .i64 st, .int .i64 so, .int .i64 dm, .int .i64 ep], .int .i64 V, .int .i64 x, .agg #[.bool h, .int .i64 m], .int .i64 s] w fun e w' => e = .returned (.bool true) ∧ Below w.heap.size w w' := by
  have mixed := mixedO
  have cA := fun W => compute_any k st so dm ep V x m s h hV0 hV1 hdm0 hdm1 hm0 hm1 hs0 hs1 W
  have cB := fun W => rcompute_any k st so dm ep V x m s h hV0 hV1 hdm0 hdm1 hm0 hm1 hs0 hs1 W
  obtain ⟨M, hM⟩ : ∃ M, cmpM k V dm x h m s = M := ⟨_, rfl⟩
  obtain ⟨B, hB⟩ : ∃ B, cmpB k V dm x h m s = B := ⟨_, rfl⟩
  rw [hM, hB] at cA cB
  have CA := Lib.hid cA; have CB := Lib.hid cB
  clear cA cB hM hB hV0 hV1 hdm0 hdm1 hm0 hm1 hs0 hs1
  obtain ⟨W1, hW1⟩ : ∃ W1, W1 = (w.alloc (.cells #[.int .u8 k, .int .i64 st, .int .i64 so, .int .i64 dm, .int .i64 ep] 26)).alloc (.cells #[.bool h, .int .i64 m] 36) := ⟨_, rfl⟩
  have hal := al2 w (.cells #[.int .u8 k, .int .i64 st, .int .i64 so, .int .i64 dm, .int .i64 ep] 26) (.cells #[.bool h, .int .i64 m] 36)
  rw [← hW1] at hal
  obtain ⟨b0, e0⟩ : ∃ b0, b0 = w.heap.size := ⟨_, rfl⟩
  obtain ⟨b1, e1⟩ : ∃ b1, b1 = w.heap.size + 1 := ⟨_, rfl⟩
  obtain ⟨x0, x1, hb⟩ := hal
  rw [← e0] at x0; rw [← e1] at x1
  have HH : Hid (Lb2 w b0 b1 k st so dm ep h m W1) := Lib.hid ⟨hb, x0, x1⟩
  clear x0 x1 hb
  go_enter Try.func4, Try.ntmps4
  go_wp2_with fail
  rw [← hW1]
  rw [show w.heap.size + 1 = b1 from e1.symm, show w.heap.size = b0 from e0.symm]
  clear hW1 e0 e1
  refine (CA.out _).mono ?_
  rintro e w2 ⟨rfl, hb2⟩
  have HH2 := Lib.hid (HH.out.step hb2)
  clear hb2 HH
  obtain ⟨j0, j1, j2, j3, j4, _⟩ := jb_cells HH2.out.2.1
  have m0 : w2.cell? ⟨b1, 0, none⟩ = some (.bool h) := by rw [Lib.cell_of_heap HH2.out.2.2]; rfl
  have m1 : w2.cell? ⟨b1, 1, none⟩ = some (.int .i64 m) := by rw [Lib.cell_of_heap HH2.out.2.2]; rfl
  go_wp2_with fail
  refine (CB.out _).mono ?_
  rintro e w3 ⟨rfl, hb3⟩
  have HH3 := Lib.hid (HH2.out.step hb3)
  clear hb3 HH2 m0 m1 j0 j1 j2 j3 j4
  go_wp2_with fail
  have C5 := Lib.hid (regr fun W (_ : Below w3.heap.size w3 W) => works_any W)
  first
  | skip
    refine wp_region_quiet_below mixed (by kernel_rfl) ?_
    repeat (go_big_quiet_step ((with_reducible exact C5.out _ _)))
    refine wpQuiet_nil ?_
    intro _ hw'
    obtain ⟨⟨dq, osq⟩, hw''⟩ := hw'
    subst hw''
    have HB2 := Lib.hid (HH3.out.step (below_regrown w3 dq osq))
    go_wp2
    go_ret
    exact ⟨rfl, HB2.out.1⟩
  | refine (works_any _).mono ?_
    rintro e w4 ⟨rfl, hb4⟩
    have HH4 := Lib.hid (HH3.out.step hb4)
    go_wp2
    go_ret
    exact ⟨rfl, HH4.out.1⟩

theorem jonS_comm (k a b : Int) : jonS k a b = jonS k b a := by unfold jonS; rw [addI_comm]
theorem jonM_comm (k a b : Int) : jonM k a b = jonM k b a := by unfold jonM; rw [addI_comm, Int.max_comm]
theorem jonS_assoc (k a b c : Int) : jonS k (jonS k a b) c = jonS k a (jonS k b c) := by unfold jonS; split <;> simp_all [addI_assoc]
theorem jonM_assoc (k a b c : Int) : jonM k (jonM k a b) c = jonM k a (jonM k b c) := by
  unfold jonM
  split
  · omega
  · split
    · rw [addI_assoc]
    · rfl
set_option maxRecDepth 100000 in
set_option maxHeartbeats 2000000 in
theorem law_order (k st so dm ep a b c : Int) (w : World) : Calls Try.prog 7 #[.agg #[.int .u8 k, .int .i64 st, .int .i64 so, .int .i64 dm, .int .i64 ep], .int .i64 a, .int .i64 b, .int .i64 c] w fun e w' => e = .returned (.bool true) ∧ Below w.heap.size w w' := by
  have mixed := mixedO
  have HC := Lib.hid (fun (a b : Int) W => comb_any k st so dm ep a b W)
  obtain ⟨W1, hW1⟩ : ∃ W1, W1 = w.alloc (.cells #[.int .u8 k, .int .i64 st, .int .i64 so, .int .i64 dm, .int .i64 ep] 26) := ⟨_, rfl⟩
  have hb : Below w.heap.size w W1 := by rw [hW1]; exact (Below.refl _ w).alloc (Nat.le_refl _) _
  have x0 : W1.heap[w.heap.size]? = some (.cells #[.int .u8 k, .int .i64 st, .int .i64 so, .int .i64 dm, .int .i64 ep] 26 (0, 0)) := by rw [hW1]; exact heap_alloc_new w _
  obtain ⟨b0, e0⟩ : ∃ b0, b0 = w.heap.size := ⟨_, rfl⟩
  rw [← e0] at x0
  have HH : Hid (Lb1 w b0 k st so dm ep W1) := Lib.hid ⟨hb, x0⟩
  clear x0 hb
  by_cases ha : 0 ≤ a
  · by_cases hbb : 0 ≤ b
    · by_cases hc : 0 ≤ c
      · skip
        have hcA := comb_any k st so dm ep a b
        obtain ⟨X, hX⟩ : ∃ X, comb k a b = X := ⟨_, rfl⟩
        obtain ⟨Y, hY⟩ : ∃ Y, comb k b c = Y := ⟨_, rfl⟩
        obtain ⟨Z, hZ⟩ : ∃ Z, comb k X c = Z := ⟨_, rfl⟩
        have hZ2 : comb k a Y = Z := by rw [← hZ, ← hY, ← hX, comb_assoc]
        have hX2 : comb k b a = X := by rw [← hX, comb_comm]
        have HX := Lib.hid hX; have HX2 := Lib.hid hX2; have HY := Lib.hid hY; have HZ := Lib.hid hZ; have HZ2 := Lib.hid hZ2
        rw [hX] at hcA
        have HCA := Lib.hid hcA
        clear hcA hX hY hZ hZ2 hX2
        go_enter Try.func7, Try.ntmps7
        go_wp2_with fail
        rw [← hW1, show w.heap.size = b0 from e0.symm]
        clear hW1 e0
        refine (HCA.out _).mono ?_
        rintro e w2 ⟨rfl, hb2⟩
        have HH2 := Lib.hid (HH.out.step hb2)
        clear hb2 HH
        obtain ⟨j0, j1, j2, j3, j4, _⟩ := jb_cells HH2.out.2
        go_wp2_with fail
        have f0 := cell_regrown j0; have f1 := cell_regrown j1; have f2 := cell_regrown j2; have f3 := cell_regrown j3; have f4 := cell_regrown j4
        have c1 := regr fun W (_ : Below w2.heap.size w2 W) => rcomb_q k st so dm ep a b W
        have c2 := regr fun W (_ : Below w2.heap.size w2 W) => comb_any k st so dm ep b a W
        have c3 := regr fun W (_ : Below w2.heap.size w2 W) => comb_any k st so dm ep X c W
        have c4 := regr fun W (_ : Below w2.heap.size w2 W) => comb_any k st so dm ep b c W
        have c5 := regr fun W (_ : Below w2.heap.size w2 W) => comb_any k st so dm ep a Y W
        rw [HX.out] at c1; rw [HX2.out] at c2; rw [HZ.out] at c3; rw [HY.out] at c4; rw [HZ2.out] at c5
        have C1 := Lib.hid c1; have C2 := Lib.hid c2; have C3 := Lib.hid c3; have C4 := Lib.hid c4; have C5 := Lib.hid c5
        clear c1 c2 c3 c4 c5 j0 j1 j2 j3 j4
        refine wp_region_quiet_below mixed (by kernel_rfl) ?_
        repeat (go_big_quiet_step ((with_reducible first | exact C1.out _ _ | exact C2.out _ _ | exact C3.out _ _ | exact C4.out _ _ | exact C5.out _ _)))
        refine wpQuiet_nil ?_
        intro _ hw'
        obtain ⟨⟨dq, osq⟩, hw''⟩ := hw'
        subst hw''
        obtain ⟨W3, hW3⟩ : ∃ W3, W3 = Sort.grow (redrawn w2 dq) osq := ⟨_, rfl⟩
        have HH3 := Lib.hid (HH2.out.step (by rw [hW3]; exact below_regrown w2 dq osq) : Lb1 w b0 k st so dm ep W3)
        rw [← hW3]
        clear hW3 C1 C2 C3 C4 C5 f0 f1 f2 f3 f4 HH2
        have hal := al3 W3 (.cells #[.int .i64 a, .int .i64 b] 47) (.cells #[.int .i64 b, .int .i64 c] 47) (.cells #[.int .i64 c, .int .i64 a] 47)
        obtain ⟨W4, hW4⟩ : ∃ W4, W4 = ((W3.alloc (.cells #[.int .i64 a, .int .i64 b] 47)).alloc (.cells #[.int .i64 b, .int .i64 c] 47)).alloc (.cells #[.int .i64 c, .int .i64 a] 47) := ⟨_, rfl⟩
        rw [← hW4] at hal
        obtain ⟨t0, g0⟩ : ∃ t0, t0 = W3.heap.size := ⟨_, rfl⟩
        obtain ⟨t1, g1⟩ : ∃ t1, t1 = W3.heap.size + 1 := ⟨_, rfl⟩
        obtain ⟨t2, g2⟩ : ∃ t2, t2 = W3.heap.size + 1 + 1 := ⟨_, rfl⟩
        obtain ⟨x0, x1, x2, hb4⟩ := hal
        rw [← g0] at x0; rw [← g1] at x1; rw [show W3.heap.size + 2 = t2 from g2.symm] at x2
        have HH4 : Hid (Lb3 w b0 t0 t1 t2 k st so dm ep a b c W4) := Lib.hid ⟨HH3.out.step hb4, x0, x1, x2⟩
        clear HH3 hb4 x0 x1 x2
        obtain ⟨j0, j1, j2, j3, j4, _⟩ := jb_cells HH4.out.1.2
        obtain ⟨p0, p1, _⟩ := tot_cells HH4.out.2.1
        obtain ⟨p2, p3, _⟩ := tot_cells HH4.out.2.2.1
        obtain ⟨p4, p5, _⟩ := tot_cells HH4.out.2.2.2
        have hcJ := join_any k st so dm ep a b b c
        obtain ⟨S1, hS1⟩ : ∃ S1, jonS k a b = S1 := ⟨_, rfl⟩
        obtain ⟨M1, hM1⟩ : ∃ M1, jonM k b c = M1 := ⟨_, rfl⟩
        obtain ⟨S2, hS2⟩ : ∃ S2, jonS k S1 c = S2 := ⟨_, rfl⟩
        obtain ⟨M2, hM2⟩ : ∃ M2, jonM k M1 a = M2 := ⟨_, rfl⟩
        obtain ⟨S3, hS3⟩ : ∃ S3, jonS k b c = S3 := ⟨_, rfl⟩
        obtain ⟨M3, hM3⟩ : ∃ M3, jonM k c a = M3 := ⟨_, rfl⟩
        have hS4 : jonS k b a = S1 := by rw [← hS1, jonS_comm]
        have hM4 : jonM k c b = M1 := by rw [← hM1, jonM_comm]
        have hS5 : jonS k a S3 = S2 := by rw [← hS2, ← hS3, ← hS1, jonS_assoc]
        have hM5 : jonM k b M3 = M2 := by rw [← hM2, ← hM3, ← hM1, jonM_assoc]
        rw [hS1, hM1] at hcJ
        have HCJ := Lib.hid hcJ
        have HS2 := Lib.hid hS2; have HM2 := Lib.hid hM2; have HS3 := Lib.hid hS3; have HM3 := Lib.hid hM3; have HS4 := Lib.hid hS4; have HM4 := Lib.hid hM4; have HS5 := Lib.hid hS5; have HM5 := Lib.hid hM5
        clear hcJ hS1 hM1 hS2 hM2 hS3 hM3 hS4 hM4 hS5 hM5
        have HW4 := Lib.hid hW4
        rw [hW4] at j0 j1 j2 j3 j4 p0 p1 p2 p3 p4 p5
        rw [g0] at p0 p1
        rw [g1] at p2 p3
        rw [g2] at p4 p5
        go_wp2_with fail
        rw [show W3.heap.size + 1 + 1 = t2 from g2.symm, show W3.heap.size + 1 = t1 from g1.symm, show W3.heap.size = t0 from g0.symm]
        rw [← hW4]
        clear j0 j1 j2 j3 j4 p0 p1 p2 p3 p4 p5 hW4 g0 g1 g2 HW4
        refine (HCJ.out _).mono ?_
        rintro e w5 ⟨rfl, hb5⟩
        obtain ⟨W6, hW6⟩ : ∃ W6, W6 = w5.alloc (.cells #[.int .i64 S1, .int .i64 M1] 47) := ⟨_, rfl⟩
        have hb6 : Below w5.heap.size w5 W6 := by rw [hW6]; exact (Below.refl _ w5).alloc (Nat.le_refl _) _
        have x6 : W6.heap[w5.heap.size]? = some (.cells #[.int .i64 S1, .int .i64 M1] 47 (0, 0)) := by rw [hW6]; exact heap_alloc_new w5 _
        obtain ⟨t3, g3⟩ : ∃ t3, t3 = w5.heap.size := ⟨_, rfl⟩
        rw [← g3] at x6
        have HH5 := Lib.hid ((HH4.out.step hb5).step hb6)
        clear hb5 HH4 hb6
        go_wp2_with fail
        rw [← hW6, show w5.heap.size = t3 from g3.symm]
        clear hW6 g3
        obtain ⟨y0, y1, _⟩ := tot_cells x6
        have q6 := cell_regrown y0; have q7 := cell_regrown y1
        clear y0 y1 x6
        obtain ⟨j0, j1, j2, j3, j4, _⟩ := jb_cells HH5.out.1.2
        obtain ⟨p0, p1, _⟩ := tot_cells HH5.out.2.1
        obtain ⟨p2, p3, _⟩ := tot_cells HH5.out.2.2.1
        obtain ⟨p4, p5, _⟩ := tot_cells HH5.out.2.2.2
        have f0 := cell_regrown j0; have f1 := cell_regrown j1; have f2 := cell_regrown j2; have f3 := cell_regrown j3; have f4 := cell_regrown j4
        have q0 := cell_regrown p0; have q1 := cell_regrown p1; have q2 := cell_regrown p2; have q3 := cell_regrown p3; have q4 := cell_regrown p4; have q5 := cell_regrown p5
        have c1 := regr fun W (_ : Below W6.heap.size W6 W) => join_any k st so dm ep b c a b W
        have c2 := regr fun W (_ : Below W6.heap.size W6 W) => join_any k st so dm ep S1 M1 c a W
        have c3 := regr fun W (_ : Below W6.heap.size W6 W) => join_any k st so dm ep b c c a W
        have c4 := regr fun W (_ : Below W6.heap.size W6 W) => join_any k st so dm ep a b S3 M3 W
        rw [HS4.out, HM4.out] at c1; rw [HS2.out, HM2.out] at c2; rw [HS3.out, HM3.out] at c3; rw [HS5.out, HM5.out] at c4
        have C1 := Lib.hid c1; have C2 := Lib.hid c2; have C3 := Lib.hid c3; have C4 := Lib.hid c4
        have C5 := Lib.hid (regr fun W (_ : Below W6.heap.size W6 W) => works_any W)
        have E1 := fun W => eq_t S1 M1 S1 M1 true (Lib.hid (by simp)) W
        have E2 := fun W => eq_t S2 M2 S2 M2 true (Lib.hid (by simp)) W
        clear c1 c2 c3 c4 j0 j1 j2 j3 j4 p0 p1 p2 p3 p4 p5
        refine wp_region_quiet_below mixed (by kernel_rfl) ?_
        repeat (go_big_quiet_step ((with_reducible first | exact C1.out _ _ | exact C2.out _ _ | exact C3.out _ _ | exact C4.out _ _ | exact C5.out _ _)))
        refine wpQuiet_nil ?_
        intro _ hw'
        obtain ⟨⟨dq, osq⟩, hw''⟩ := hw'
        subst hw''
        have HB2 := Lib.hid (HH5.out.step (below_regrown W6 dq osq))
        go_wp2
        go_ret
        exact ⟨rfl, HB2.out.1.1⟩
      · skip
        go_enter Try.func7, Try.ntmps7
        go_wp2_with fail
        rw [← hW1, show w.heap.size = b0 from e0.symm]
        clear hW1 e0
        obtain ⟨j0, j1, j2, j3, j4, _⟩ := jb_cells HH.out.2
        have f0 := cell_regrown j0; have f1 := cell_regrown j1; have f2 := cell_regrown j2; have f3 := cell_regrown j3; have f4 := cell_regrown j4
        have c1 := regr fun W (_ : Below W1.heap.size W1 W) => comb_any k st so dm ep a b W
        have c2 := regr fun W (_ : Below W1.heap.size W1 W) => rcomb_q k st so dm ep a b W
        obtain ⟨X, hX⟩ : ∃ X, comb k a b = X := ⟨_, rfl⟩
        rw [hX] at c1 c2
        have C1 := Lib.hid c1; have C2 := Lib.hid c2; have C5 := Lib.hid (regr fun W (_ : Below W1.heap.size W1 W) => works_any W)
        clear c1 c2 hX j0 j1 j2 j3 j4
        refine wp_region_quiet_below mixed (by kernel_rfl) ?_
        repeat (go_big_quiet_step ((with_reducible first | exact C1.out _ _ | exact C2.out _ _ | exact C5.out _ _)))
        refine wpQuiet_nil ?_
        intro _ hw'
        obtain ⟨⟨dq, osq⟩, hw''⟩ := hw'
        subst hw''
        have HB2 := Lib.hid (HH.out.step (below_regrown W1 dq osq))
        go_wp2
        go_ret
        exact ⟨rfl, HB2.out.1⟩
    · skip
      go_enter Try.func7, Try.ntmps7
      go_wp2_with fail
      rw [← hW1, show w.heap.size = b0 from e0.symm]
      clear hW1 e0
      obtain ⟨j0, j1, j2, j3, j4, _⟩ := jb_cells HH.out.2
      have f0 := cell_regrown j0; have f1 := cell_regrown j1; have f2 := cell_regrown j2; have f3 := cell_regrown j3; have f4 := cell_regrown j4
      have c1 := regr fun W (_ : Below W1.heap.size W1 W) => comb_any k st so dm ep a b W
      have c2 := regr fun W (_ : Below W1.heap.size W1 W) => rcomb_q k st so dm ep a b W
      obtain ⟨X, hX⟩ : ∃ X, comb k a b = X := ⟨_, rfl⟩
      rw [hX] at c1 c2
      have C1 := Lib.hid c1; have C2 := Lib.hid c2; have C5 := Lib.hid (regr fun W (_ : Below W1.heap.size W1 W) => works_any W)
      clear c1 c2 hX j0 j1 j2 j3 j4
      refine wp_region_quiet_below mixed (by kernel_rfl) ?_
      repeat (go_big_quiet_step ((with_reducible first | exact C1.out _ _ | exact C2.out _ _ | exact C5.out _ _)))
      refine wpQuiet_nil ?_
      intro _ hw'
      obtain ⟨⟨dq, osq⟩, hw''⟩ := hw'
      subst hw''
      have HB2 := Lib.hid (HH.out.step (below_regrown W1 dq osq))
      go_wp2
      go_ret
      exact ⟨rfl, HB2.out.1⟩
  · skip
    go_enter Try.func7, Try.ntmps7
    go_wp2_with fail
    rw [← hW1, show w.heap.size = b0 from e0.symm]
    clear hW1 e0
    obtain ⟨j0, j1, j2, j3, j4, _⟩ := jb_cells HH.out.2
    have f0 := cell_regrown j0; have f1 := cell_regrown j1; have f2 := cell_regrown j2; have f3 := cell_regrown j3; have f4 := cell_regrown j4
    have c1 := regr fun W (_ : Below W1.heap.size W1 W) => comb_any k st so dm ep a b W
    have c2 := regr fun W (_ : Below W1.heap.size W1 W) => rcomb_q k st so dm ep a b W
    obtain ⟨X, hX⟩ : ∃ X, comb k a b = X := ⟨_, rfl⟩
    rw [hX] at c1 c2
    have C1 := Lib.hid c1; have C2 := Lib.hid c2; have C5 := Lib.hid (regr fun W (_ : Below W1.heap.size W1 W) => works_any W)
    clear c1 c2 hX j0 j1 j2 j3 j4
    refine wp_region_quiet_below mixed (by kernel_rfl) ?_
    repeat (go_big_quiet_step ((with_reducible first | exact C1.out _ _ | exact C2.out _ _ | exact C5.out _ _)))
    refine wpQuiet_nil ?_
    intro _ hw'
    obtain ⟨⟨dq, osq⟩, hw''⟩ := hw'
    subst hw''
    have HB2 := Lib.hid (HH.out.step (below_regrown W1 dq osq))
    go_wp2
    go_ret
    exact ⟨rfl, HB2.out.1⟩

end Go.Proofs.Ytobmkhbkcmdhbaa.Al
