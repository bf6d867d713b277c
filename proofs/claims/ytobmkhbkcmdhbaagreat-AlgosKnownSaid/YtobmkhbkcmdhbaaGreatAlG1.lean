/-
  What is proved here: the texts AlL1 AlL2 AlL3 AlL4 AlSplit AlK1 of this seat, laid together (each says itself what it proves; no condition beyond theirs).
-/
import Derived.Test.YtobmkhbkcmdhbaaGreatAlG3
import Derived.Test.YtobmkhbkcmdhbaaGreatAlR1
import Derived.Test.YtobmkhbkcmdhbaaGreatAlG2
import Derived.Test.YtobmkhbkcmdhbaaGreatAlP4
import Derived.Test.YtobmkhbkcmdhbaaGreatAlP5
import Derived.Test.YtobmkhbkcmdhbaaGreatAlQ4
import Derived.Test.YtobmkhbkcmdhbaaGreatAlSd3
import Derived.Test.YtobmkhbkcmdhbaaGreatAlSm
import Derived.Test.YtobmkhbkcmdhbaaGreatPaTail
import Derived.OrdersHeld
import Derived.BigQuiet
/-
  What is proved here: the laws AlgosCompute and AlgosOrder walked: they return true, and no block that was there has changed. Conditions: numbers of 64 bits.
-/
namespace Go.Proofs.YtobmkhbkcmdhbaaGreat.Al
open Go.RowKit Go.Sort Gr Wd Ws Fx Rk Lb

def Lb2 (w : World) (b d : Nat) (k st so dm ep : Int) (h : Bool) (m : Int) (W : World) : Prop := Below w.heap.size w W ∧ W.heap[b]? = some (.cells #[.int .u8 k, .int .i64 st, .int .i64 so, .int .i64 dm, .int .i64 ep] 28 (0, 0)) ∧ W.heap[d]? = some (.cells #[.bool h, .int .i64 m] 31 (0, 0))
theorem Lb2.step {w W W' : World} {b d : Nat} {k st so dm ep : Int} {h : Bool} {m : Int} (g : Lb2 w b d k st so dm ep h m W) (hb : Below W.heap.size W W') : Lb2 w b d k st so dm ep h m W' := ⟨step_below g.1 g.1.size hb, keep g.2.1 hb, keep g.2.2 hb⟩
def Lb1 (w : World) (b : Nat) (k st so dm ep : Int) (W : World) : Prop := Below w.heap.size w W ∧ W.heap[b]? = some (.cells #[.int .u8 k, .int .i64 st, .int .i64 so, .int .i64 dm, .int .i64 ep] 28 (0, 0))
theorem Lb1.step {w W W' : World} {b : Nat} {k st so dm ep : Int} (g : Lb1 w b k st so dm ep W) (hb : Below W.heap.size W W') : Lb1 w b k st so dm ep W' := ⟨step_below g.1 g.1.size hb, keep g.2 hb⟩
def Lb3 (w : World) (b t0 t1 t2 : Nat) (k st so dm ep x y z : Int) (W : World) : Prop := Lb1 w b k st so dm ep W ∧ W.heap[t0]? = some (.cells #[.int .i64 x, .int .i64 y] 36 (0, 0)) ∧ W.heap[t1]? = some (.cells #[.int .i64 y, .int .i64 z] 36 (0, 0)) ∧ W.heap[t2]? = some (.cells #[.int .i64 z, .int .i64 x] 36 (0, 0))
theorem Lb3.step {w W W' : World} {b t0 t1 t2 : Nat} {k st so dm ep x y z : Int} (g : Lb3 w b t0 t1 t2 k st so dm ep x y z W) (hb : Below W.heap.size W W') : Lb3 w b t0 t1 t2 k st so dm ep x y z W' := ⟨g.1.step hb, keep g.2.1 hb, keep g.2.2.1 hb, keep g.2.2.2 hb⟩
theorem rcomb_q (k st so dm ep a b : Int) (w : World) : Calls Tryz.prog 21 #[.agg #[.int .u8 k, .int .i64 st, .int .i64 so, .int .i64 dm, .int .i64 ep], .int .i64 a, .int .i64 b] w fun e w' => e = .returned (.int .i64 (comb k a b)) ∧ Below w.heap.size w w' :=
  (rcomb_x k st so dm ep a b w).mono fun _ _ g => ⟨g.1, g.2 ▸ (Below.refl _ w).alloc (Nat.le_refl _) _⟩

set_option maxRecDepth 100000 in
set_option maxHeartbeats 2000000 in
theorem law_compute (k st so dm ep V x m s : Int) (h : Bool) (hV0 : -9223372036854775808 ≤ V) (hV1 : V ≤ 9223372036854775807) (hm0 : -9223372036854775808 ≤ m) (hm1 : m ≤ 9223372036854775807) (hs0 : -9223372036854775808 ≤ s) (hs1 : s ≤ 9223372036854775807) (hdm0 : -9223372036854775808 ≤ dm) (hdm1 : dm ≤ 9223372036854775807) (w : World) : Calls Tryz.prog 6 #[.agg #[.int .u8 k, .int .i64 st, .int .i64 so, .int .i64 dm, .int .i64 ep], .int .i64 V, .int .i64 x, .agg #[.bool h, .int .i64 m], .int .i64 s] w fun e w' => e = .returned (.bool true) ∧ Below w.heap.size w w' := by
  have mixed := mixedO
  have cA := fun W => compute_any k st so dm ep V x m s h hV0 hV1 hdm0 hdm1 hm0 hm1 hs0 hs1 W
  have cB := fun W => rcompute_any k st so dm ep V x m s h hV0 hV1 hdm0 hdm1 hm0 hm1 hs0 hs1 W
  obtain ⟨M, hM⟩ : ∃ M, cmpM k V dm x h m s = M := ⟨_, rfl⟩
  obtain ⟨B, hB⟩ : ∃ B, cmpB k V dm x h m s = B := ⟨_, rfl⟩
  rw [hM, hB] at cA cB
  have CA := Lib.hid cA; have CB := Lib.hid cB
  clear cA cB hM hB hV0 hV1 hdm0 hdm1 hm0 hm1 hs0 hs1
  obtain ⟨W1, hW1⟩ : ∃ W1, W1 = (w.alloc (.cells #[.int .u8 k, .int .i64 st, .int .i64 so, .int .i64 dm, .int .i64 ep] 28)).alloc (.cells #[.bool h, .int .i64 m] 31) := ⟨_, rfl⟩
  have hal := al2 w (.cells #[.int .u8 k, .int .i64 st, .int .i64 so, .int .i64 dm, .int .i64 ep] 28) (.cells #[.bool h, .int .i64 m] 31)
  rw [← hW1] at hal
  obtain ⟨b0, e0⟩ : ∃ b0, b0 = w.heap.size := ⟨_, rfl⟩
  obtain ⟨b1, e1⟩ : ∃ b1, b1 = w.heap.size + 1 := ⟨_, rfl⟩
  obtain ⟨x0, x1, hb⟩ := hal
  rw [← e0] at x0; rw [← e1] at x1
  have HH : Hid (Lb2 w b0 b1 k st so dm ep h m W1) := Lib.hid ⟨hb, x0, x1⟩
  clear x0 x1 hb
  go_enter Tryz.func6, Tryz.ntmps6
  go_wp2_with fail
  rw [← hW1]
  rw [show w.heap.size + 1 = b1 from e1.symm, show w.heap.size = b0 from e0.symm]
  clear hW1 e0 e1
  refine (CA.out _).mono ?_
  rintro e w2 ⟨rfl, hb2⟩
  have HH2 := Lib.hid (HH.out.step hb2)
  clear hb2 HH
  obtain ⟨j0, j1, j2, j3, j4, _⟩ := jb_cells HH2.out.2.1
  have m0 : w2.cell? ⟨b1, 0, none⟩ = some (.bool h) := by rw [Lib.cell_of_heap HH2.out.2.2]; rfl
  have m1 : w2.cell? ⟨b1, 1, none⟩ = some (.int .i64 m) := by rw [Lib.cell_of_heap HH2.out.2.2]; rfl
  go_wp2_with fail
  refine (CB.out _).mono ?_
  rintro e w3 ⟨rfl, hb3⟩
  have HH3 := Lib.hid (HH2.out.step hb3)
  clear hb3 HH2 m0 m1 j0 j1 j2 j3 j4
  go_wp2_with fail
  have C5 := Lib.hid (regr fun W (_ : Below w3.heap.size w3 W) => works_any W)
  first
  | skip
    refine wp_region_quiet_below mixed (by kernel_rfl) ?_
    repeat (go_big_quiet_step ((with_reducible exact C5.out _ _)))
    refine wpQuiet_nil ?_
    intro _ hw'
    obtain ⟨⟨dq, osq⟩, hw''⟩ := hw'
    subst hw''
    have HB2 := Lib.hid (HH3.out.step (below_regrown w3 dq osq))
    go_wp2
    go_ret
    exact ⟨rfl, HB2.out.1⟩
  | refine (works_any _).mono ?_
    rintro e w4 ⟨rfl, hb4⟩
    have HH4 := Lib.hid (HH3.out.step hb4)
    go_wp2
    go_ret
    exact ⟨rfl, HH4.out.1⟩

theorem jonS_comm (k a b : Int) : jonS k a b = jonS k b a := by unfold jonS; rw [addI_comm]
theorem jonM_comm (k a b : Int) : jonM k a b = jonM k b a := by unfold jonM; rw [addI_comm, Int.max_comm]
theorem jonS_assoc (k a b c : Int) : jonS k (jonS k a b) c = jonS k a (jonS k b c) := by unfold jonS; split <;> simp_all [addI_assoc]
theorem jonM_assoc (k a b c : Int) : jonM k (jonM k a b) c = jonM k a (jonM k b c) := by
  unfold jonM
  split
  · omega
  · split
    · rw [addI_assoc]
    · rfl
set_option maxRecDepth 100000 in
set_option maxHeartbeats 2000000 in
theorem law_order (k st so dm ep a b c : Int) (w : World) : Calls Tryz.prog 7 #[.agg #[.int .u8 k, .int .i64 st, .int .i64 so, .int .i64 dm, .int .i64 ep], .int .i64 a, .int .i64 b, .int .i64 c] w fun e w' => e = .returned (.bool true) ∧ Below w.heap.size w w' := by
  have mixed := mixedO
  have HC := Lib.hid (fun (a b : Int) W => comb_any k st so dm ep a b W)
  obtain ⟨W1, hW1⟩ : ∃ W1, W1 = w.alloc (.cells #[.int .u8 k, .int .i64 st, .int .i64 so, .int .i64 dm, .int .i64 ep] 28) := ⟨_, rfl⟩
  have hb : Below w.heap.size w W1 := by rw [hW1]; exact (Below.refl _ w).alloc (Nat.le_refl _) _
  have x0 : W1.heap[w.heap.size]? = some (.cells #[.int .u8 k, .int .i64 st, .int .i64 so, .int .i64 dm, .int .i64 ep] 28 (0, 0)) := by rw [hW1]; exact heap_alloc_new w _
  obtain ⟨b0, e0⟩ : ∃ b0, b0 = w.heap.size := ⟨_, rfl⟩
  rw [← e0] at x0
  have HH : Hid (Lb1 w b0 k st so dm ep W1) := Lib.hid ⟨hb, x0⟩
  clear x0 hb
  by_cases ha : 0 ≤ a
  · by_cases hbb : 0 ≤ b
    · by_cases hc : 0 ≤ c
      · skip
        have hcA := comb_any k st so dm ep a b
        obtain ⟨X, hX⟩ : ∃ X, comb k a b = X := ⟨_, rfl⟩
        obtain ⟨Y, hY⟩ : ∃ Y, comb k b c = Y := ⟨_, rfl⟩
        obtain ⟨Z, hZ⟩ : ∃ Z, comb k X c = Z := ⟨_, rfl⟩
        have hZ2 : comb k a Y = Z := by rw [← hZ, ← hY, ← hX, comb_assoc]
        have hX2 : comb k b a = X := by rw [← hX, comb_comm]
        have HX := Lib.hid hX; have HX2 := Lib.hid hX2; have HY := Lib.hid hY; have HZ := Lib.hid hZ; have HZ2 := Lib.hid hZ2
        rw [hX] at hcA
        have HCA := Lib.hid hcA
        clear hcA hX hY hZ hZ2 hX2
        go_enter Tryz.func7, Tryz.ntmps7
        go_wp2_with fail
        rw [← hW1, show w.heap.size = b0 from e0.symm]
        clear hW1 e0
        refine (HCA.out _).mono ?_
        rintro e w2 ⟨rfl, hb2⟩
        have HH2 := Lib.hid (HH.out.step hb2)
        clear hb2 HH
        obtain ⟨j0, j1, j2, j3, j4, _⟩ := jb_cells HH2.out.2
        go_wp2_with fail
        have f0 := cell_regrown j0; have f1 := cell_regrown j1; have f2 := cell_regrown j2; have f3 := cell_regrown j3; have f4 := cell_regrown j4
        have c1 := regr fun W (_ : Below w2.heap.size w2 W) => rcomb_q k st so dm ep a b W
        have c2 := regr fun W (_ : Below w2.heap.size w2 W) => comb_any k st so dm ep b a W
        have c3 := regr fun W (_ : Below w2.heap.size w2 W) => comb_any k st so dm ep X c W
        have c4 := regr fun W (_ : Below w2.heap.size w2 W) => comb_any k st so dm ep b c W
        have c5 := regr fun W (_ : Below w2.heap.size w2 W) => comb_any k st so dm ep a Y W
        rw [HX.out] at c1; rw [HX2.out] at c2; rw [HZ.out] at c3; rw [HY.out] at c4; rw [HZ2.out] at c5
        have C1 := Lib.hid c1; have C2 := Lib.hid c2; have C3 := Lib.hid c3; have C4 := Lib.hid c4; have C5 := Lib.hid c5
        clear c1 c2 c3 c4 c5 j0 j1 j2 j3 j4
        refine wp_region_quiet_below mixed (by kernel_rfl) ?_
        repeat (go_big_quiet_step ((with_reducible first | exact C1.out _ _ | exact C2.out _ _ | exact C3.out _ _ | exact C4.out _ _ | exact C5.out _ _)))
        refine wpQuiet_nil ?_
        intro _ hw'
        obtain ⟨⟨dq, osq⟩, hw''⟩ := hw'
        subst hw''
        obtain ⟨W3, hW3⟩ : ∃ W3, W3 = Sort.grow (redrawn w2 dq) osq := ⟨_, rfl⟩
        have HH3 := Lib.hid (HH2.out.step (by rw [hW3]; exact below_regrown w2 dq osq) : Lb1 w b0 k st so dm ep W3)
        rw [← hW3]
        clear hW3 C1 C2 C3 C4 C5 f0 f1 f2 f3 f4 HH2
        have hal := al3 W3 (.cells #[.int .i64 a, .int .i64 b] 36) (.cells #[.int .i64 b, .int .i64 c] 36) (.cells #[.int .i64 c, .int .i64 a] 36)
        obtain ⟨W4, hW4⟩ : ∃ W4, W4 = ((W3.alloc (.cells #[.int .i64 a, .int .i64 b] 36)).alloc (.cells #[.int .i64 b, .int .i64 c] 36)).alloc (.cells #[.int .i64 c, .int .i64 a] 36) := ⟨_, rfl⟩
        rw [← hW4] at hal
        obtain ⟨t0, g0⟩ : ∃ t0, t0 = W3.heap.size := ⟨_, rfl⟩
        obtain ⟨t1, g1⟩ : ∃ t1, t1 = W3.heap.size + 1 := ⟨_, rfl⟩
        obtain ⟨t2, g2⟩ : ∃ t2, t2 = W3.heap.size + 1 + 1 := ⟨_, rfl⟩
        obtain ⟨x0, x1, x2, hb4⟩ := hal
        rw [← g0] at x0; rw [← g1] at x1; rw [show W3.heap.size + 2 = t2 from g2.symm] at x2
        have HH4 : Hid (Lb3 w b0 t0 t1 t2 k st so dm ep a b c W4) := Lib.hid ⟨HH3.out.step hb4, x0, x1, x2⟩
        clear HH3 hb4 x0 x1 x2
        obtain ⟨j0, j1, j2, j3, j4, _⟩ := jb_cells HH4.out.1.2
        obtain ⟨p0, p1, _⟩ := tot_cells HH4.out.2.1
        obtain ⟨p2, p3, _⟩ := tot_cells HH4.out.2.2.1
        obtain ⟨p4, p5, _⟩ := tot_cells HH4.out.2.2.2
        have hcJ := join_any k st so dm ep a b b c
        obtain ⟨S1, hS1⟩ : ∃ S1, jonS k a b = S1 := ⟨_, rfl⟩
        obtain ⟨M1, hM1⟩ : ∃ M1, jonM k b c = M1 := ⟨_, rfl⟩
        obtain ⟨S2, hS2⟩ : ∃ S2, jonS k S1 c = S2 := ⟨_, rfl⟩
        obtain ⟨M2, hM2⟩ : ∃ M2, jonM k M1 a = M2 := ⟨_, rfl⟩
        obtain ⟨S3, hS3⟩ : ∃ S3, jonS k b c = S3 := ⟨_, rfl⟩
        obtain ⟨M3, hM3⟩ : ∃ M3, jonM k c a = M3 := ⟨_, rfl⟩
        have hS4 : jonS k b a = S1 := by rw [← hS1, jonS_comm]
        have hM4 : jonM k c b = M1 := by rw [← hM1, jonM_comm]
        have hS5 : jonS k a S3 = S2 := by rw [← hS2, ← hS3, ← hS1, jonS_assoc]
        have hM5 : jonM k b M3 = M2 := by rw [← hM2, ← hM3, ← hM1, jonM_assoc]
        rw [hS1, hM1] at hcJ
        have HCJ := Lib.hid hcJ
        have HS2 := Lib.hid hS2; have HM2 := Lib.hid hM2; have HS3 := Lib.hid hS3; have HM3 := Lib.hid hM3; have HS4 := Lib.hid hS4; have HM4 := Lib.hid hM4; have HS5 := Lib.hid hS5; have HM5 := Lib.hid hM5
        clear hcJ hS1 hM1 hS2 hM2 hS3 hM3 hS4 hM4 hS5 hM5
        have HW4 := Lib.hid hW4
        rw [hW4] at j0 j1 j2 j3 j4 p0 p1 p2 p3 p4 p5
        rw [g0] at p0 p1
        rw [g1] at p2 p3
        rw [g2] at p4 p5
        go_wp2_with fail
        rw [show W3.heap.size + 1 + 1 = t2 from g2.symm, show W3.heap.size + 1 = t1 from g1.symm, show W3.heap.size = t0 from g0.symm]
        rw [← hW4]
        clear j0 j1 j2 j3 j4 p0 p1 p2 p3 p4 p5 hW4 g0 g1 g2 HW4
        refine (HCJ.out _).mono ?_
        rintro e w5 ⟨rfl, hb5⟩
        obtain ⟨W6, hW6⟩ : ∃ W6, W6 = w5.alloc (.cells #[.int .i64 S1, .int .i64 M1] 36) := ⟨_, rfl⟩
        have hb6 : Below w5.heap.size w5 W6 := by rw [hW6]; exact (Below.refl _ w5).alloc (Nat.le_refl _) _
        have x6 : W6.heap[w5.heap.size]? = some (.cells #[.int .i64 S1, .int .i64 M1] 36 (0, 0)) := by rw [hW6]; exact heap_alloc_new w5 _
        obtain ⟨t3, g3⟩ : ∃ t3, t3 = w5.heap.size := ⟨_, rfl⟩
        rw [← g3] at x6
        have HH5 := Lib.hid ((HH4.out.step hb5).step hb6)
        clear hb5 HH4 hb6
        go_wp2_with fail
        rw [← hW6, show w5.heap.size = t3 from g3.symm]
        clear hW6 g3
        obtain ⟨y0, y1, _⟩ := tot_cells x6
        have q6 := cell_regrown y0; have q7 := cell_regrown y1
        clear y0 y1 x6
        obtain ⟨j0, j1, j2, j3, j4, _⟩ := jb_cells HH5.out.1.2
        obtain ⟨p0, p1, _⟩ := tot_cells HH5.out.2.1
        obtain ⟨p2, p3, _⟩ := tot_cells HH5.out.2.2.1
        obtain ⟨p4, p5, _⟩ := tot_cells HH5.out.2.2.2
        have f0 := cell_regrown j0; have f1 := cell_regrown j1; have f2 := cell_regrown j2; have f3 := cell_regrown j3; have f4 := cell_regrown j4
        have q0 := cell_regrown p0; have q1 := cell_regrown p1; have q2 := cell_regrown p2; have q3 := cell_regrown p3; have q4 := cell_regrown p4; have q5 := cell_regrown p5
        have c1 := regr fun W (_ : Below W6.heap.size W6 W) => join_any k st so dm ep b c a b W
        have c2 := regr fun W (_ : Below W6.heap.size W6 W) => join_any k st so dm ep S1 M1 c a W
        have c3 := regr fun W (_ : Below W6.heap.size W6 W) => join_any k st so dm ep b c c a W
        have c4 := regr fun W (_ : Below W6.heap.size W6 W) => join_any k st so dm ep a b S3 M3 W
        rw [HS4.out, HM4.out] at c1; rw [HS2.out, HM2.out] at c2; rw [HS3.out, HM3.out] at c3; rw [HS5.out, HM5.out] at c4
        have C1 := Lib.hid c1; have C2 := Lib.hid c2; have C3 := Lib.hid c3; have C4 := Lib.hid c4
        have C5 := Lib.hid (regr fun W (_ : Below W6.heap.size W6 W) => works_any W)
        have E1 := fun W => eq_t S1 M1 S1 M1 true (Lib.hid (by simp)) W
        have E2 := fun W => eq_t S2 M2 S2 M2 true (Lib.hid (by simp)) W
        clear c1 c2 c3 c4 j0 j1 j2 j3 j4 p0 p1 p2 p3 p4 p5
        refine wp_region_quiet_below mixed (by kernel_rfl) ?_
        repeat (go_big_quiet_step ((with_reducible first | exact C1.out _ _ | exact C2.out _ _ | exact C3.out _ _ | exact C4.out _ _ | exact C5.out _ _)))
        refine wpQuiet_nil ?_
        intro _ hw'
        obtain ⟨⟨dq, osq⟩, hw''⟩ := hw'
        subst hw''
        have HB2 := Lib.hid (HH5.out.step (below_regrown W6 dq osq))
        go_wp2
        go_ret
        exact ⟨rfl, HB2.out.1.1⟩
      · skip
        go_enter Tryz.func7, Tryz.ntmps7
        go_wp2_with fail
        rw [← hW1, show w.heap.size = b0 from e0.symm]
        clear hW1 e0
        obtain ⟨j0, j1, j2, j3, j4, _⟩ := jb_cells HH.out.2
        have f0 := cell_regrown j0; have f1 := cell_regrown j1; have f2 := cell_regrown j2; have f3 := cell_regrown j3; have f4 := cell_regrown j4
        have c1 := regr fun W (_ : Below W1.heap.size W1 W) => comb_any k st so dm ep a b W
        have c2 := regr fun W (_ : Below W1.heap.size W1 W) => rcomb_q k st so dm ep a b W
        obtain ⟨X, hX⟩ : ∃ X, comb k a b = X := ⟨_, rfl⟩
        rw [hX] at c1 c2
        have C1 := Lib.hid c1; have C2 := Lib.hid c2; have C5 := Lib.hid (regr fun W (_ : Below W1.heap.size W1 W) => works_any W)
        clear c1 c2 hX j0 j1 j2 j3 j4
        refine wp_region_quiet_below mixed (by kernel_rfl) ?_
        repeat (go_big_quiet_step ((with_reducible first | exact C1.out _ _ | exact C2.out _ _ | exact C5.out _ _)))
        refine wpQuiet_nil ?_
        intro _ hw'
        obtain ⟨⟨dq, osq⟩, hw''⟩ := hw'
        subst hw''
        have HB2 := Lib.hid (HH.out.step (below_regrown W1 dq osq))
        go_wp2
        go_ret
        exact ⟨rfl, HB2.out.1⟩
    · skip
      go_enter Tryz.func7, Tryz.ntmps7
      go_wp2_with fail
      rw [← hW1, show w.heap.size = b0 from e0.symm]
      clear hW1 e0
      obtain ⟨j0, j1, j2, j3, j4, _⟩ := jb_cells HH.out.2
      have f0 := cell_regrown j0; have f1 := cell_regrown j1; have f2 := cell_regrown j2; have f3 := cell_regrown j3; have f4 := cell_regrown j4
      have c1 := regr fun W (_ : Below W1.heap.size W1 W) => comb_any k st so dm ep a b W
      have c2 := regr fun W (_ : Below W1.heap.size W1 W) => rcomb_q k st so dm ep a b W
      obtain ⟨X, hX⟩ : ∃ X, comb k a b = X := ⟨_, rfl⟩
      rw [hX] at c1 c2
      have C1 := Lib.hid c1; have C2 := Lib.hid c2; have C5 := Lib.hid (regr fun W (_ : Below W1.heap.size W1 W) => works_any W)
      clear c1 c2 hX j0 j1 j2 j3 j4
      refine wp_region_quiet_below mixed (by kernel_rfl) ?_
      repeat (go_big_quiet_step ((with_reducible first | exact C1.out _ _ | exact C2.out _ _ | exact C5.out _ _)))
      refine wpQuiet_nil ?_
      intro _ hw'
      obtain ⟨⟨dq, osq⟩, hw''⟩ := hw'
      subst hw''
      have HB2 := Lib.hid (HH.out.step (below_regrown W1 dq osq))
      go_wp2
      go_ret
      exact ⟨rfl, HB2.out.1⟩
  · skip
    go_enter Tryz.func7, Tryz.ntmps7
    go_wp2_with fail
    rw [← hW1, show w.heap.size = b0 from e0.symm]
    clear hW1 e0
    obtain ⟨j0, j1, j2, j3, j4, _⟩ := jb_cells HH.out.2
    have f0 := cell_regrown j0; have f1 := cell_regrown j1; have f2 := cell_regrown j2; have f3 := cell_regrown j3; have f4 := cell_regrown j4
    have c1 := regr fun W (_ : Below W1.heap.size W1 W) => comb_any k st so dm ep a b W
    have c2 := regr fun W (_ : Below W1.heap.size W1 W) => rcomb_q k st so dm ep a b W
    obtain ⟨X, hX⟩ : ∃ X, comb k a b = X := ⟨_, rfl⟩
    rw [hX] at c1 c2
    have C1 := Lib.hid c1; have C2 := Lib.hid c2; have C5 := Lib.hid (regr fun W (_ : Below W1.heap.size W1 W) => works_any W)
    clear c1 c2 hX j0 j1 j2 j3 j4
    refine wp_region_quiet_below mixed (by kernel_rfl) ?_
    repeat (go_big_quiet_step ((with_reducible first | exact C1.out _ _ | exact C2.out _ _ | exact C5.out _ _)))
    refine wpQuiet_nil ?_
    intro _ hw'
    obtain ⟨⟨dq, osq⟩, hw''⟩ := hw'
    subst hw''
    have HB2 := Lib.hid (HH.out.step (below_regrown W1 dq osq))
    go_wp2
    go_ret
    exact ⟨rfl, HB2.out.1⟩

end Go.Proofs.YtobmkhbkcmdhbaaGreat.Al

/-
  What is proved here: the law AlgosPart walked: it returns true, and no block that was there has changed. Conditions: numbers of 64 bits.
-/
namespace Go.Proofs.YtobmkhbkcmdhbaaGreat.Al
open Go.RowKit Go.Sort Gr Wd Ws Fx Rk Lb

def Lb4 (w : World) (b t1 t2 : Nat) (k st so dm ep s0 m0 s1 m1 : Int) (W : World) : Prop := Lb1 w b k st so dm ep W ∧ W.heap[t1]? = some (.cells #[.int .i64 s0, .int .i64 m0] 36 (0, 0)) ∧ W.heap[t2]? = some (.cells #[.int .i64 s1, .int .i64 m1] 36 (0, 0))
theorem Lb4.step {w W W' : World} {b t1 t2 : Nat} {k st so dm ep s0 m0 s1 m1 : Int} (g : Lb4 w b t1 t2 k st so dm ep s0 m0 s1 m1 W) (hb : Below W.heap.size W W') : Lb4 w b t1 t2 k st so dm ep s0 m0 s1 m1 W' := ⟨g.1.step hb, keep g.2.1 hb, keep g.2.2 hb⟩

set_option maxRecDepth 100000 in
set_option maxHeartbeats 2000000 in
theorem law_part (k st so dm ep x v s0 m0 s1 m1 : Int) (ch : Bool) (A : Option Addr) (n c : Nat) (hx0 : -9223372036854775808 ≤ x) (hx1 : x ≤ 9223372036854775807) (hv0 : -9223372036854775808 ≤ v) (hv1 : v ≤ 9223372036854775807) (w : World) :
    Calls Tryz.prog 8 #[.agg #[.int .u8 k, .int .i64 st, .int .i64 so, .int .i64 dm, .int .i64 ep], .int .i64 x, .int .i64 v, .bool ch, .slice A n c, .agg #[.int .i64 s0, .int .i64 m0], .agg #[.int .i64 s1, .int .i64 m1]] w fun e w' => e = .returned (.bool true) ∧ Below w.heap.size w w' := by
  have mixed := mixedO
  have hal := al3 w (.cells #[.int .u8 k, .int .i64 st, .int .i64 so, .int .i64 dm, .int .i64 ep] 28) (.cells #[.int .i64 s0, .int .i64 m0] 36) (.cells #[.int .i64 s1, .int .i64 m1] 36)
  obtain ⟨W4, hW4⟩ : ∃ W4, W4 = ((w.alloc (.cells #[.int .u8 k, .int .i64 st, .int .i64 so, .int .i64 dm, .int .i64 ep] 28)).alloc (.cells #[.int .i64 s0, .int .i64 m0] 36)).alloc (.cells #[.int .i64 s1, .int .i64 m1] 36) := ⟨_, rfl⟩
  rw [← hW4] at hal
  obtain ⟨t0, g0⟩ : ∃ t0, t0 = w.heap.size := ⟨_, rfl⟩
  obtain ⟨t1, g1⟩ : ∃ t1, t1 = w.heap.size + 1 := ⟨_, rfl⟩
  obtain ⟨t2, g2⟩ : ∃ t2, t2 = w.heap.size + 1 + 1 := ⟨_, rfl⟩
  obtain ⟨x0, x1, x2, hb4⟩ := hal
  rw [← g0] at x0; rw [← g1] at x1; rw [show w.heap.size + 2 = t2 from g2.symm] at x2
  have HH4 : Hid (Lb4 w t0 t1 t2 k st so dm ep s0 m0 s1 m1 W4) := Lib.hid ⟨⟨hb4, x0⟩, x1, x2⟩
  clear hb4 x0 x1 x2
  have k1 := part_any k st so dm ep x v ch A n c hx0 hx1 hv0 hv1
  have k2 := rpart_any k st so dm ep x v ch A n c hx0 hx1 hv0 hv1
  have k3 := join_any k st so dm ep s0 m0 s1 m1
  have k4 := rjoin_any k st so dm ep s0 m0 s1 m1
  obtain ⟨PS, hPS⟩ : ∃ PS, prtS k v n = PS := ⟨_, rfl⟩
  obtain ⟨PM, hPM⟩ : ∃ PM, prtM k x v ch = PM := ⟨_, rfl⟩
  obtain ⟨JS, hJS⟩ : ∃ JS, jonS k s0 s1 = JS := ⟨_, rfl⟩
  obtain ⟨JM, hJM⟩ : ∃ JM, jonM k m0 m1 = JM := ⟨_, rfl⟩
  rw [hPS, hPM] at k1 k2
  rw [hJS, hJM] at k3 k4
  have C1 := Lib.hid (regr fun W (_ : Below W4.heap.size W4 W) => k1 W)
  have C2 := Lib.hid (regr fun W (_ : Below W4.heap.size W4 W) => k2 W)
  have C3 := Lib.hid (regr fun W (_ : Below W4.heap.size W4 W) => k3 W)
  have C4 := Lib.hid (regr fun W (_ : Below W4.heap.size W4 W) => k4 W)
  have C5 := Lib.hid (regr fun W (_ : Below W4.heap.size W4 W) => works_any W)
  have C6 := Lib.hid (regr fun W (_ : Below W4.heap.size W4 W) => plain_any PS PM W)
  have C7 := Lib.hid (regr fun W (_ : Below W4.heap.size W4 W) => plain_any JS JM W)
  have C8 := Lib.hid (regr fun W (_ : Below W4.heap.size W4 W) => plain_any s0 m0 W)
  have C9 := Lib.hid (regr fun W (_ : Below W4.heap.size W4 W) => plain_any s1 m1 W)
  clear k1 k2 k3 k4 hPS hPM hJS hJM
  by_cases hn : 100 < n
  · go_enter Tryz.func8, Tryz.ntmps8
    go_wp2_with fail
    rw [← hW4]
    refine (works_any _).mono ?_
    rintro e w5 ⟨rfl, hb5⟩
    have HH5 := Lib.hid (HH4.out.step hb5)
    go_wp2
    go_ret
    exact ⟨rfl, HH5.out.1.1⟩
  · go_enter Tryz.func8, Tryz.ntmps8
    go_wp2_with fail
    rw [show w.heap.size + 1 + 1 = t2 from g2.symm, show w.heap.size + 1 = t1 from g1.symm, show w.heap.size = t0 from g0.symm]
    rw [← hW4]
    clear hW4 g0 g1 g2
    obtain ⟨j0, j1, j2, j3, j4, _⟩ := jb_cells HH4.out.1.2
    obtain ⟨p0, p1, _⟩ := tot_cells HH4.out.2.1
    obtain ⟨p2, p3, _⟩ := tot_cells HH4.out.2.2
    have f0 := cell_regrown j0; have f1 := cell_regrown j1; have f2 := cell_regrown j2; have f3 := cell_regrown j3; have f4 := cell_regrown j4
    have q0 := cell_regrown p0; have q1 := cell_regrown p1; have q2 := cell_regrown p2; have q3 := cell_regrown p3
    have E1 := fun W => eq_r PS PM PS PM true (Lib.hid (by simp)) W
    have E2 := fun W => eq_r JS JM JS JM true (Lib.hid (by simp)) W
    clear j0 j1 j2 j3 j4 p0 p1 p2 p3
    refine wp_region_quiet_below mixed (by kernel_rfl) ?_
    repeat (go_big_quiet_step ((with_reducible first | exact C1.out _ _ | exact C2.out _ _ | exact C3.out _ _ | exact C4.out _ _ | exact C5.out _ _ | exact C6.out _ _ | exact C7.out _ _ | exact C8.out _ _ | exact C9.out _ _)))
    refine wpQuiet_nil ?_
    intro _ hw'
    obtain ⟨⟨dq, osq⟩, hw''⟩ := hw'
    subst hw''
    have HB2 := Lib.hid (HH4.out.step (below_regrown W4 dq osq))
    go_wp2
    go_ret
    exact ⟨rfl, HB2.out.1.1⟩

end Go.Proofs.YtobmkhbkcmdhbaaGreat.Al

/-
  What is proved here: the law AlgosCheck walked: it returns true, and no block that was there has changed. Conditions: numbers of 64 bits.
-/
namespace Go.Proofs.YtobmkhbkcmdhbaaGreat.Al
open Go.RowKit Go.Sort Gr Wd Ws Fx Rk Lb

theorem light_of (V : Int) (A : Option Addr) (n c : Nat) (top : Int) (b : Bool) (t : Nat) (ht : top = (t : Int)) (hb : decide (n ≤ t) = b) (w : World) :
    Calls Tryz.prog 11 #[.agg #[.int .i64 V, .slice A n c], .int .i64 top] w fun e w' => e = .returned (.bool b) ∧ Below w.heap.size w w' := by
  subst ht
  have := light_any V A n c t w
  rw [hb] at this
  exact this.mono fun e w' k => ⟨k.1, k.2.below⟩
def Lg (w : World) (b d : Nat) (k st so dm ep V : Int) (A : Option Addr) (n c : Nat) (L : List Ed) (W : World) : Prop := Lb1 w b k st so dm ep W ∧ W.heap[d]? = some (.cells #[.int .i64 V, .slice A n c] 24 (0, 0)) ∧ EAt W A L
theorem Lg.step {w W W' : World} {b d n c : Nat} {k st so dm ep V : Int} {A : Option Addr} {L : List Ed} (g : Lg w b d k st so dm ep V A n c L W) (hb : Below W.heap.size W W') : Lg w b d k st so dm ep V A n c L W' := ⟨g.1.step hb, keep g.2.1 hb, g.2.2.below hb⟩
theorem g_cells {W : World} {d : Nat} {V : Int} {s : Value} {T : TypeId} (h : W.heap[d]? = some (.cells #[.int .i64 V, s] T (0, 0))) : W.cell? ⟨d, 0, none⟩ = some (.int .i64 V) ∧ W.cell? ⟨d, 1, none⟩ = some s :=
  ⟨by rw [Lib.cell_of_heap h]; rfl, by rw [Lib.cell_of_heap h]; rfl⟩

set_option maxRecDepth 100000 in
set_option maxHeartbeats 2000000 in
theorem law_check (k st so dm ep V v s m : Int) (A : Option Addr) (c : Nat) (L : List Ed) (w : World) (hL : EAt w A L) (hm : L.length ≤ 9223372036854775807) (hV0 : -9223372036854775808 ≤ V) (hV1 : V ≤ 9223372036854775807) (hv0 : -9223372036854775808 ≤ v) (hv1 : v ≤ 9223372036854775807) :
    Calls Tryz.prog 5 #[.agg #[.int .i64 V, .slice A L.length c], .agg #[.int .u8 k, .int .i64 st, .int .i64 so, .int .i64 dm, .int .i64 ep], .int .i64 v, .int .i64 s, .int .i64 m] w fun e w' => e = .returned (.bool true) ∧ Below w.heap.size w w' := by
  have mixed := mixedO
  have hal := al2 w (.cells #[.int .i64 V, .slice A L.length c] 24) (.cells #[.int .u8 k, .int .i64 st, .int .i64 so, .int .i64 dm, .int .i64 ep] 28)
  obtain ⟨W1, hW1⟩ : ∃ W1, W1 = (w.alloc (.cells #[.int .i64 V, .slice A L.length c] 24)).alloc (.cells #[.int .u8 k, .int .i64 st, .int .i64 so, .int .i64 dm, .int .i64 ep] 28) := ⟨_, rfl⟩
  rw [← hW1] at hal
  obtain ⟨t0, g0⟩ : ∃ t0, t0 = w.heap.size := ⟨_, rfl⟩
  obtain ⟨t1, g1⟩ : ∃ t1, t1 = w.heap.size + 1 := ⟨_, rfl⟩
  obtain ⟨x0, x1, hb⟩ := hal
  rw [← g0] at x0; rw [← g1] at x1
  obtain ⟨n, hn⟩ : ∃ n, n = L.length := ⟨_, rfl⟩
  have HC := Lib.hid (fun W (h : EAt W A L) => checkj_any k st so dm ep V A c L W h hm)
  have HD := Lib.hid (fun W (h : EAt W A L) => rcheckj_any k st so dm ep V A c L W h hm)
  obtain ⟨R, hR⟩ : ∃ R, chkJ k st so dm ep V L = R := ⟨_, rfl⟩
  rw [hR] at HC HD
  rw [← hn] at x0 hW1 hm HC HD ⊢
  have HH : Hid (Lg w t1 t0 k st so dm ep V A n c L W1) := Lib.hid ⟨⟨hb, x1⟩, x0, hL.below hb⟩
  have k1 := start_any k st so dm ep V v hV0 hV1 hv0 hv1
  have k2 := rstart_any k st so dm ep V v hV0 hV1 hv0 hv1
  have k3 := done_any k st so dm ep s m
  have k4 := rdone_any k st so dm ep s m
  obtain ⟨SM, hSM⟩ : ∃ SM, sttM k V v so = SM := ⟨_, rfl⟩
  obtain ⟨SB, hSB⟩ : ∃ SB, sttB k v so = SB := ⟨_, rfl⟩
  obtain ⟨DB, hDB⟩ : ∃ DB, donB k st ep s m = DB := ⟨_, rfl⟩
  rw [hSM, hSB] at k1 k2
  rw [hDB] at k3 k4
  have K1 := Lib.hid k1; have K2 := Lib.hid k2; have K3 := Lib.hid k3; have K4 := Lib.hid k4
  clear k1 k2 k3 k4 hSM hSB hDB hR x0 x1 hL hb hV0 hV1 hv0 hv1 hm hn
  by_cases hl : 200 < n
  · go_enter Tryz.func5, Tryz.ntmps5
    go_upto_region 1 with fail
    rw [show w.heap.size + 1 = t1 from g1.symm, show w.heap.size = t0 from g0.symm]
    rw [← hW1]
    clear hW1 g0 g1
    obtain ⟨j0, j1, j2, j3, j4, _⟩ := jb_cells HH.out.1.2
    obtain ⟨p0, p1⟩ := g_cells HH.out.2.1
    go_wp2_with fail
    refine (light_of V A n c 200 false 200 rfl (by simp; omega) _).mono ?_
    rintro e w2 ⟨rfl, h2⟩
    have HH2 := Lib.hid (HH.out.step h2)
    clear j0 j1 j2 j3 j4 p0 p1 HH h2
    go_wp2_with fail
    refine (works_any _).mono ?_
    rintro e w3 ⟨rfl, h3⟩
    have HH3 := Lib.hid (HH2.out.step h3)
    go_wp2
    go_ret
    exact ⟨rfl, HH3.out.1.1⟩
  · go_enter Tryz.func5, Tryz.ntmps5
    go_upto_region 1 with fail
    rw [show w.heap.size + 1 = t1 from g1.symm, show w.heap.size = t0 from g0.symm]
    rw [← hW1]
    clear hW1 g0 g1
    obtain ⟨j0, j1, j2, j3, j4, _⟩ := jb_cells HH.out.1.2
    obtain ⟨p0, p1⟩ := g_cells HH.out.2.1
    go_wp2_with fail
    refine (light_of V A n c 200 true 200 rfl (by simp; omega) _).mono ?_
    rintro e w2 ⟨rfl, h2⟩
    have HH2 := Lib.hid (HH.out.step h2)
    clear j0 j1 j2 j3 j4 p0 p1 HH h2
    obtain ⟨j0, j1, j2, j3, j4, _⟩ := jb_cells HH2.out.1.2
    obtain ⟨p0, p1⟩ := g_cells HH2.out.2.1
    go_wp2_with fail
    refine (K1.out _).mono ?_
    rintro e w3 ⟨rfl, h3⟩
    have HH3 := Lib.hid (HH2.out.step h3)
    clear j0 j1 j2 j3 j4 p0 p1 HH2 h3
    obtain ⟨j0, j1, j2, j3, j4, _⟩ := jb_cells HH3.out.1.2
    obtain ⟨p0, p1⟩ := g_cells HH3.out.2.1
    go_wp2_with fail
    refine (K2.out _).mono ?_
    rintro e w4 ⟨rfl, h4⟩
    have HH4 := Lib.hid (HH3.out.step h4)
    clear j0 j1 j2 j3 j4 p0 p1 HH3 h4
    obtain ⟨j0, j1, j2, j3, j4, _⟩ := jb_cells HH4.out.1.2
    obtain ⟨p0, p1⟩ := g_cells HH4.out.2.1
    go_wp2_with fail
    have f0 := cell_regrown j0; have f1 := cell_regrown j1; have f2 := cell_regrown j2; have f3 := cell_regrown j3; have f4 := cell_regrown j4
    have q0 := cell_regrown p0; have q1 := cell_regrown p1
    have C1 := Lib.hid (regr fun W (h : Below w4.heap.size w4 W) => HC.out W (HH4.out.2.2.below h))
    have C2 := Lib.hid (regr fun W (h : Below w4.heap.size w4 W) => HD.out W (HH4.out.2.2.below h))
    have C3 := Lib.hid (regr fun W (_ : Below w4.heap.size w4 W) => K3.out W)
    have C4 := Lib.hid (regr fun W (_ : Below w4.heap.size w4 W) => K4.out W)
    have C5 := Lib.hid (regr fun W (_ : Below w4.heap.size w4 W) => works_any W)
    clear j0 j1 j2 j3 j4 p0 p1
    refine wp_region_quiet_below mixed (by kernel_rfl) ?_
    repeat (go_big_quiet_step ((with_reducible first | exact C1.out _ _ | exact C2.out _ _ | exact C3.out _ _ | exact C4.out _ _ | exact C5.out _ _)))
    refine wpQuiet_nil ?_
    intro _ hw'
    obtain ⟨⟨dq, osq⟩, hw''⟩ := hw'
    subst hw''
    have HB2 := Lib.hid (HH4.out.step (below_regrown w4 dq osq))
    go_wp2
    go_ret
    exact ⟨rfl, HB2.out.1.1⟩

end Go.Proofs.YtobmkhbkcmdhbaaGreat.Al

/-
  What is proved here: the law AlgosSend walked: it returns true, and no block that was there has changed. Conditions: numbers of 64 bits.
-/
namespace Go.Proofs.YtobmkhbkcmdhbaaGreat.Al
open Go.RowKit Go.Sort Gr Wd Ws Fx Rk Lb

def Ls1 (w : World) (b : Nat) (k st so dm ep : Int) (W : World) : Prop := Below w.heap.size w W ∧ W.heap[b]? = some (.cells #[.int .u8 k, .int .i64 st, .int .i64 so, .int .i64 dm, .int .i64 ep] 28 (0, 0))
theorem Ls1.step {w W W' : World} {b : Nat} {k st so dm ep : Int} (g : Ls1 w b k st so dm ep W) (hb : Below W.heap.size W W') : Ls1 w b k st so dm ep W' := ⟨step_below g.1 g.1.size hb, keep g.2 hb⟩
theorem up_next {S : List Ms} (h : UpM S) {p : Nat} {a b : Ms} (ha : S[p]? = some a) (hb : S[p + 1]? = some b) : a.1 < b.1 := by
  obtain ⟨h1, rfl⟩ := List.getElem?_eq_some_iff.1 ha
  obtain ⟨h2, rfl⟩ := List.getElem?_eq_some_iff.1 hb
  exact List.pairwise_iff_getElem.1 h p (p + 1) h1 h2 (by omega)

set_option maxRecDepth 100000 in
set_option maxHeartbeats 2000000 in
theorem law_send (k st so dm ep v x : Int) (ch : Bool) (A C : Option Addr) (c d : Nat) (L M : List Ed) (w : World) (hL : EAt w A L) (hM : EAt w C M) (hl0 : L.length ≤ 9223372036854775807) (hm0 : M.length ≤ 9223372036854775807) (hx0 : -9223372036854775808 ≤ x) (hx1 : x ≤ 9223372036854775807) :
    Calls Tryz.prog 9 #[.agg #[.int .u8 k, .int .i64 st, .int .i64 so, .int .i64 dm, .int .i64 ep], .int .i64 v, .int .i64 x, .bool ch, .slice A L.length c, .slice C M.length d] w fun e w' => e = .returned (.bool true) ∧ Below w.heap.size w w' := by
  have mixed := mixedO
  obtain ⟨W1, hW1⟩ : ∃ W1, W1 = w.alloc (.cells #[.int .u8 k, .int .i64 st, .int .i64 so, .int .i64 dm, .int .i64 ep] 28) := ⟨_, rfl⟩
  have hb : Below w.heap.size w W1 := by rw [hW1]; exact (Below.refl _ w).alloc (Nat.le_refl _) _
  have x0 : W1.heap[w.heap.size]? = some (.cells #[.int .u8 k, .int .i64 st, .int .i64 so, .int .i64 dm, .int .i64 ep] 28 (0, 0)) := by rw [hW1]; exact heap_alloc_new w _
  obtain ⟨b0, e0⟩ : ∃ b0, b0 = w.heap.size := ⟨_, rfl⟩
  rw [← e0] at x0
  have HH : Hid (Ls1 w b0 k st so dm ep W1) := Lib.hid ⟨hb, x0⟩
  have HL := Lib.hid (hL.below hb)
  have HM := Lib.hid (hM.below hb)
  obtain ⟨n, hn⟩ : ∃ n, n = L.length := ⟨_, rfl⟩
  obtain ⟨m, hm⟩ : ∃ m, m = M.length := ⟨_, rfl⟩
  rw [← hn, ← hm]
  rw [← hn] at hl0; rw [← hm] at hm0
  have HNL := Lib.hid hn; have HNM := Lib.hid hm
  clear x0 hb hn hm hL hM
  rcases (show 100 < n ∨ (n ≤ 100 ∧ 100 < m) ∨ (n ≤ 100 ∧ m ≤ 100) by omega) with g1 | ⟨g1, g2⟩ | ⟨g1, g2⟩
  · go_enter Tryz.func9, Tryz.ntmps9
    go_wp2_with fail
    rw [← hW1]
    refine (works_any _).mono ?_
    rintro e w5 ⟨rfl, hb5⟩
    have HH5 := Lib.hid (HH.out.step hb5)
    go_wp2
    go_ret
    exact ⟨rfl, HH5.out.1⟩
  · go_enter Tryz.func9, Tryz.ntmps9
    go_wp2_with fail
    rw [← hW1]
    refine (works_any _).mono ?_
    rintro e w5 ⟨rfl, hb5⟩
    have HH5 := Lib.hid (HH.out.step hb5)
    go_wp2
    go_ret
    exact ⟨rfl, HH5.out.1⟩
  · go_enter Tryz.func9, Tryz.ntmps9
    go_wp2_with (at_builtin; refine app_copy rfl (.tmp 26) (.tmp 27) rfl w.heap.size L rfl A c (congrArg (fun z => Value.slice A z c) HNL.out) (by rw [← hW1]; exact HL.out) (by rw [← HNL.out]; omega) (by simp) ?_)
    intro v2 w2 ho2 hg2
    rw [← hW1] at hg2
    rw [show w.heap.size = b0 from e0.symm]
    have hb2 : Below W1.heap.size W1 w2 := Below.grown (Below.refl _ W1) hg2 (Nat.le_refl _) nofun
    have HH2 := Lib.hid (HH.out.step hb2)
    have HL2 := Lib.hid (HL.out.below hb2)
    have HM2 := Lib.hid (HM.out.below hb2)
    obtain ⟨A3, c3, rfl, hA3, _⟩ := ho2.form
    have HA := Lib.hid hA3
    rw [← HNL.out]
    clear hW1 e0 ho2 hg2 hb2 hA3 HH HL HM
    go_wp2_with (at_builtin; refine app_copy rfl (.tmp 29) (.tmp 30) rfl w2.heap.size M rfl C d (congrArg (fun z => Value.slice C z d) HNM.out) HM2.out (by rw [← HNM.out]; omega) (by simp) ?_)
    intro v3 w3 ho3 hg3
    have hb3 : Below w2.heap.size w2 w3 := Below.grown (Below.refl _ w2) hg3 (Nat.le_refl _) nofun
    have HH3 := Lib.hid (HH2.out.step hb3)
    have HL3 := Lib.hid (HL2.out.below hb3)
    have HM3 := Lib.hid (HM2.out.below hb3)
    have HA3 := Lib.hid (HA.out.below hb3)
    obtain ⟨C3, d3, rfl, hC3, _⟩ := ho3.form
    have HC3 := Lib.hid hC3
    rw [← HNM.out]
    clear ho3 hg3 hb3 hC3 HH2 HL2 HM2 HA
    have HS := Lib.hid (send_any k st so dm ep v x ch A3 C3 c3 d3 L M w3 HA3.out HC3.out (by rw [← HNL.out]; omega) (by rw [← HNM.out]; omega) hx0 hx1)
    rw [← HNL.out, ← HNM.out] at HS
    obtain ⟨j0, j1, j2, j3, j4, _⟩ := jb_cells HH3.out.2
    go_wp2_with fail
    refine HS.out.mono ?_
    rintro e w4 ⟨r, rfl, hO, hb4⟩
    obtain ⟨S, hS⟩ : ∃ S, S = sendM k v x ch L M := ⟨_, rfl⟩
    rw [← hS] at hO
    obtain ⟨A4, c4, rfl, hat, hq1, hq2, _⟩ := hO.out.room
    have HH4 := Lib.hid (HH3.out.step hb4.out)
    have HL4 := Lib.hid (HL3.out.below hb4.out)
    have HM4 := Lib.hid (HM3.out.below hb4.out)
    have HA4 := Lib.hid (HA3.out.below hb4.out)
    have HC4 := Lib.hid (HC3.out.below hb4.out)
    have HAT := Lib.hid hat
    have HSS := Lib.hid hS
    clear hS hat hO hb4 HH3 HL3 HM3 HA3 HC3 HS j0 j1 j2 j3 j4
    obtain ⟨q, hq⟩ : ∃ q, q = S.length := ⟨_, rfl⟩
    rw [← hq]
    have HQ : Hid (q ≤ 9223372036854775807) := Lib.hid (by rw [hq]; unfold maxLen at hq2; omega)
    have HNQ := Lib.hid hq
    clear hq hq1 hq2
    have HR := Lib.hid (rsend_any k st so dm ep v x ch A C c d L M w4 HL4.out HM4.out (by rw [← HNL.out]; omega) (by rw [← HNM.out]; omega) hx0 hx1)
    rw [← HNL.out, ← HNM.out] at HR
    obtain ⟨j0, j1, j2, j3, j4, _⟩ := jb_cells HH4.out.2
    go_wp2_with fail
    refine HR.out.mono ?_
    rintro e w5 ⟨r, rfl, hO, hb5⟩
    rw [← HSS.out] at hO
    obtain ⟨A5, c5, rfl, hat5, _⟩ := hO.out.room
    rw [← HNQ.out]
    have HH5 := Lib.hid (HH4.out.step hb5.out)
    have HL5 := Lib.hid (HL4.out.below hb5.out)
    have HM5 := Lib.hid (HM4.out.below hb5.out)
    have HA5 := Lib.hid (HA4.out.below hb5.out)
    have HC5 := Lib.hid (HC4.out.below hb5.out)
    have HAT5 := Lib.hid (HAT.out.below hb5.out)
    have HSM := Lib.hid (samem_any A4 A5 c4 c5 S S w5 HAT5.out hat5 (by rw [← HNQ.out]; exact HQ.out) (by rw [← HNQ.out]; exact HQ.out))
    rw [← HNQ.out, show decide (S = S) = true by simp] at HSM
    clear hat5 hO hb5 HR HH4 HL4 HM4 HA4 HC4 HAT j0 j1 j2 j3 j4
    go_wp2_with fail
    refine HSM.out.mono ?_
    rintro e w6 ⟨rfl, hb6⟩
    have HH6 := Lib.hid (HH5.out.step hb6)
    have HL6 := Lib.hid (HL5.out.below hb6)
    have HM6 := Lib.hid (HM5.out.below hb6)
    have HA6 := Lib.hid (HA5.out.below hb6)
    have HC6 := Lib.hid (HC5.out.below hb6)
    have HAT6 := Lib.hid (HAT5.out.below hb6)
    have HE := Lib.hid (rsame_edges A3 A c3 c L L w6 HA6.out HL6.out (by rw [← HNL.out]; omega) (by rw [← HNL.out]; omega))
    rw [← HNL.out, show decide (L = L) = true by simp] at HE
    clear hb6 HSM HH5 HL5 HM5 HA5 HC5 HAT5
    go_wp2_with fail
    refine HE.out.mono ?_
    rintro e w7 ⟨rfl, hb7⟩
    have HH7 := Lib.hid (HH6.out.step hb7)
    have HM7 := Lib.hid (HM6.out.below hb7)
    have HC7 := Lib.hid (HC6.out.below hb7)
    have HAT7 := Lib.hid (HAT6.out.below hb7)
    have HE2 := Lib.hid (rsame_edges C3 C d3 d M M w7 HC7.out HM7.out (by rw [← HNM.out]; omega) (by rw [← HNM.out]; omega))
    rw [← HNM.out, show decide (M = M) = true by simp] at HE2
    clear hb7 HE HH6 HL6 HM6 HA6 HC6 HAT6
    go_wp2_with fail
    refine HE2.out.mono ?_
    rintro e w8 ⟨rfl, hb8⟩
    have HH8 := Lib.hid (HH7.out.step hb8)
    have HAT8 := Lib.hid (HAT7.out.below hb8)
    have HUP : Hid (UpM S) := Lib.hid (by rw [HSS.out]; exact up_send k v x ch L M)
    clear hb8 HE2 HH7 HM7 HC7 HAT7
    go_wp2_with fail
    go_loopg [16] q (fun gk i wr => ∃ p : Nat, p + gk = q ∧ i = .int .i64 ((p + 1 : Nat) : Int) ∧ Hid (Below w8.heap.size w8 wr))
    case atStart => exact ⟨0, by omega, rfl, Lib.hid (Below.refl _ _)⟩
    case round =>
      obtain ⟨p, hp, rfl, HBr⟩ := hrel
      have HATr := Lib.hid (HAT8.out.below HBr.out)
      by_cases hlt : p + 1 < q
      · obtain ⟨⟨u1, y1⟩, hu1⟩ := at_lt S p (by rw [← HNQ.out]; omega)
        obtain ⟨⟨u2, y2⟩, hu2⟩ := at_lt S (p + 1) (by rw [← HNQ.out]; omega)
        obtain ⟨bk, o, hA4, d0, _⟩ := HATr.out p _ hu1
        obtain ⟨bk2, o2, hA42, d1, _⟩ := HATr.out (p + 1) _ hu2
        subst hA4
        obtain ⟨rfl, rfl⟩ : bk = bk2 ∧ o = o2 := by simpa using hA42
        have hab : u1 < u2 := up_next HUP.out hu1 hu2
        have hw1 : IntKind.i64.wrap (p : Int) = (p : Int) := by rw [IntKind.wrap_i64]; have := HQ.out; omega
        have hpq : p < q := by omega
        have hw2 : IntKind.i64.wrap ((p : Int) + 1 + 1) = (p : Int) + 1 + 1 := by rw [IntKind.wrap_i64]; have := HQ.out; omega
        have hnot : ¬ u2 ≤ u1 := by omega
        clear hA42 hu1 hu2
        go_wp2_with fail
        go_quiet (fail)
        go_wp2
        go_roundg (gk - 1)
        case measure => omega
        case rel => exact ⟨p + 1, by have := HQ.out; omega, by first | (simp; done) | (simp [hw2]; done) | (congr 1; omega) | go_num, Lib.hid (Fx.below_drewN HBr.out _)⟩
      · go_wp2_with fail
        refine (works_any _).mono ?_
        rintro e w9 ⟨rfl, hb9⟩
        have HH9 := Lib.hid ((HH8.out.step HBr.out).step hb9)
        go_wp2
        go_ret
        exact ⟨rfl, HH9.out.1⟩

end Go.Proofs.YtobmkhbkcmdhbaaGreat.Al

/-
  What is proved here: a region that draws its order, cut at a guard: where all that stands behind place n waits for the operation ahead of it, and that one for all ahead of it, the operations ahead are walked once, in the text's order, and the rest goes on from there in whatever order. No condition on a program.
-/
namespace Go.Proofs.YtobmkhbkcmdhbaaGreat.Tl
open Go.RowKit Go.Sort

def gateB (md : Region.Mode) (ops : Array Oper) (n : Nat) : Bool :=
  decide (0 < n) && ((List.range (n - 1)).all fun i => (List.range n).any fun j => decide (i < j) && Region.waitsFor md ops j i) && ((List.range ops.size).all fun t => decide (t < n) || Region.waitsFor md ops t (n - 1))
def doneL (n g : Nat) : Array Bool := (List.replicate n true ++ List.replicate g false).toArray
def lexHeadE (md : Region.Mode) (ops : Array Oper) (E : Array Bool) : Nat → Nat → Array Bool → Bool
  | 0, _, listed => decide (listed = E)
  | f + 1, k, listed => (Region.ready md ops listed).contains k && Region.free md ops listed k && lexHeadE md ops E f (k + 1) (listed.setIfInBounds k true)
def splitB (md : Region.Mode) (ops : Array Oper) (n g : Nat) : Bool :=
  Region.noSelect ops && decide (n + g = ops.size) && gateB md ops n && ((Region.ready md ops (doneL n g)).all fun j => decide (n ≤ j)) && lexHeadE md ops (doneL n g) n 0 (Array.replicate ops.size false)

section
variable {P : Program} {ops : Array Oper} {md : Region.Mode} {C : World → Prop}
theorem gate_waits {n : Nat} (hg : gateB md ops n = true) : ∀ listed, HeadInv md ops n listed → ∀ i, i < n → listed.getD i true = false → ∀ t, n ≤ t → t ∉ Region.ready md ops listed := by
  unfold gateB at hg
  simp only [Bool.and_eq_true, decide_eq_true_eq] at hg
  obtain ⟨⟨h0, h1⟩, h2⟩ := hg
  intro listed inv
  have key : ∀ (d i : Nat), n - i = d → i < n → listed.getD i true = false → listed.getD (n - 1) false = false := by
    intro d
    induction d using Nat.strongRecOn with
    | _ d ih =>
      intro i hd hi hun
      by_cases hin : i = n - 1
      · subst hin; exact getD_both hun
      · have h3 := List.all_eq_true.1 h1 i (List.mem_range.2 (by omega))
        obtain ⟨j, hj, hj2⟩ := List.any_eq_true.1 h3
        simp only [Bool.and_eq_true, decide_eq_true_eq] at hj2
        obtain ⟨oj, hoj, e, he, hb, hon⟩ := Region.waitsFor_spec hj2.2
        have hjn := List.mem_range.1 hj
        cases hl : listed.getD j false with
        | true =>
          have h4 := inv.closed j oj hoj hl e he hb
          rw [hon, getD_both hun] at h4
          cases h4
        | false =>
          have hjs : j < listed.size := by rw [inv.size]; exact (Array.getElem?_eq_some_iff.1 hoj).1
          exact ih (n - j) (by omega) j rfl hjn (getD_in hjs hl)
  intro i hi hun t ht hr
  obtain ⟨_, ot, hot, hall⟩ := mem_ready.1 hr
  have htlt : t < ops.size := (Array.getElem?_eq_some_iff.1 hot).1
  have h3 := List.all_eq_true.1 h2 t (List.mem_range.2 htlt)
  simp only [Bool.or_eq_true, decide_eq_true_eq] at h3
  rcases h3 with h3 | h3
  · omega
  · obtain ⟨o', ho', e, he, hb, hon⟩ := Region.waitsFor_spec h3
    have : o' = ot := Option.some.inj (ho'.symm.trans hot)
    subst this
    have h4 := hall e he hb
    rw [hon, key _ i rfl hi hun] at h4
    cases h4
theorem gate_first {n i : Nat} {oi : Oper} {v : Value} {L : Array Bool → Act → Prop} (hi : ops[i]? = some oi) (hsel : ∀ (j : Nat) (o : Oper) cs b, ops[j]? = some o → o.op ≠ .select cs b)
    (hT : ∀ listed, HeadInv md ops n listed → ∀ i, i < n → listed.getD i true = false → ∀ t, n ≤ t → t ∉ Region.ready md ops listed) (hin : i < n)
    (hdone : ∀ listed a, L listed a → ∀ j ∈ Region.ready md ops listed, n ≤ j) :
    ∀ (f : Nat) (listed : Array Bool) (a : Act), HeadInv md ops n listed →
      (∀ j oj, ops[j]? = some oj → j ≠ i → listed.getD j true = false → (∀ e ∈ oj.after, Region.binds md e = true → e.on ≠ i) → oi.apart ops oj = true) →
      i ∈ Region.ready md ops listed → YieldsIn P ops C oi v a →
      headQ P md ops C n L f (listed.setIfInBounds i true) (a.put oi.dst v) → headQ P md ops C n L (f + 1) listed a := by
  intro f
  induction f with
  | zero =>
    intro listed a inv _ hr hy H
    have hun := (mem_ready.1 hr).1
    refine ⟨fun h => (by rw [h] at hr; cases hr), fun j hj => ?_⟩
    have hjn : j < n := by
      rcases Nat.lt_or_ge j n with h | h
      · exact h
      · exact absurd hj (hT _ inv i hin hun j h)
    refine ⟨hjn, ?_⟩
    by_cases hji : j = i
    · subst hji; exact hy.qOp hi H
    · have := hdone _ _ H j (ready_mono hj hji)
      omega
  | succ f ih =>
    intro listed a inv hfree hr hy H
    have hun := (mem_ready.1 hr).1
    refine ⟨fun h => (by rw [h] at hr; cases hr), fun j hj => ?_⟩
    have hjn : j < n := by
      rcases Nat.lt_or_ge j n with h | h
      · exact h
      · exact absurd hj (hT _ inv i hin hun j h)
    refine ⟨hjn, ?_⟩
    by_cases hji : j = i
    · subst hji; exact hy.qOp hi H
    · have h1 := (H.2 j (ready_mono hj hji)).2
      obtain ⟨hjun, oj, hoj, hall⟩ := mem_ready.1 hj
      have hnot : ∀ e ∈ oj.after, Region.binds md e = true → e.on ≠ i := fun e he hb heq => by
        have h1 := hall e he hb
        rw [heq, getD_both hun] at h1
        cases h1
      have h2 := qOp_put hoj (hfree j oj hoj hji hjun hnot) (fun cs b => hsel i oi cs b hi) (fun cs b => hsel j oj cs b hoj) hy h1
      have hfree' : ∀ k ok, ops[k]? = some ok → k ≠ i → (listed.setIfInBounds j true).getD k true = false →
          (∀ e ∈ ok.after, Region.binds md e = true → e.on ≠ i) → oi.apart ops ok = true := fun k ok hk hki hun hno => by
        refine hfree k ok hk hki ?_ hno
        by_cases hjk : j = k
        · subst hjk; exact hjun
        · rw [getD_set_ne true hjk] at hun; exact hun
      refine qOp_mono (fun a' h3 => ih (listed.setIfInBounds j true) a' (inv.set hj hjn) hfree' (ready_mono hr (Ne.symm hji)) h3.1 ?_) h2
      rw [Array.setIfInBounds_comm _ _ hji]
      exact h3.2
theorem gate_lex {n : Nat} {E : Array Bool} {Lq : Act → Prop} (hsel : Region.noSelect ops = true) (hT : ∀ listed, HeadInv md ops n listed → ∀ i, i < n → listed.getD i true = false → ∀ t, n ≤ t → t ∉ Region.ready md ops listed)
    (hE : ∀ j ∈ Region.ready md ops E, n ≤ j) :
    ∀ (l : List Oper) (k : Nat) (listed : Array Bool) (a : Act), (∀ j, j < l.length → l[j]? = ops[k + j]?) → k + l.length = n → HeadInv md ops n listed →
    lexHeadE md ops E l.length k listed = true → wpQuiet P ops C Lq l a →
    headQ P md ops C n (fun listed' a' => listed' = E ∧ Lq a') l.length listed a
  | [], k, listed, a, _, _, _, hB, h => ⟨by simpa [lexHeadE] using hB, h⟩
  | o :: l, k, listed, a, hl, hk, inv, hB, h => by
    have h0 : ops[k]? = some o := by simpa using (hl 0 (by simp)).symm
    simp only [List.length_cons, lexHeadE, Bool.and_eq_true] at hB
    obtain ⟨⟨hr, hf⟩, hB'⟩ := hB
    have hkn : k < n := by simp only [List.length_cons] at hk; omega
    have hr' : k ∈ Region.ready md ops listed := by simpa using hr
    have hst : qOp P ops C k (wpQuiet P ops C Lq l) a := by unfold qOp; simp only [h0]; exact h
    obtain ⟨v, hy, hK⟩ := yieldsIn_of_qOp h0 hst
    exact gate_first h0 (Region.noSelect_spec hsel) hT hkn (fun listed' a' hL j hj => hE j (by rw [hL.1] at hj; exact hj)) l.length listed a inv (Region.free_spec h0 hf) hr' hy
      (gate_lex hsel hT hE l (k + 1) _ _ (fun j hj => by have := hl (j + 1) (by simp; omega); simpa [Nat.add_assoc, Nat.add_comm 1 j] using this) (by simp only [List.length_cons] at hk; omega) (inv.set hr' hkn) hB' hK)

theorem region_split {id : Nat} {Q : Exit → Act → World → Prop} {a : Act} {w : World} {l : List Oper} (n g : Nat) (hm : P.follows .mixedOrders = true) (hB : splitB .any l.toArray n g = true) (hC : C { w with drawn := w.drawn + 1 })
    (h : wpQuiet P l.toArray C (fun a' => ∀ w', C w' → wpAny P .any l.toArray Q g (doneL n g) a' w') (l.take n) a) : (Code.region id l.toArray true).wp P Q a w := by
  simp only [splitB, Bool.and_eq_true, decide_eq_true_eq] at hB
  obtain ⟨⟨⟨⟨hsel, hn⟩, hg⟩, hE⟩, hlex⟩ := hB
  have hn' : n + g = l.length := by simpa using hn
  have htl : (l.take n).length = n := by simp; omega
  have inv0 : HeadInv .any l.toArray n (Array.replicate l.toArray.size false) :=
    ⟨by simp, fun j oj _ hl => (by rw [getD_replicate_false] at hl; cases hl), fun t _ ht => getD_in (by simpa using ht) (getD_replicate_false _ _)⟩
  have H := gate_lex (md := .any) hsel (gate_waits hg) (fun j hj => by simpa using List.all_eq_true.1 hE j hj) (l.take n) 0 _ a (fun j hj => by
    have hj' : j < n := by rw [htl] at hj; exact hj
    simp [hj']) (by simpa using htl) inv0 (by rw [htl]; exact hlex) h
  refine wp_region_any hm ?_
  have := any_of_head (Q' := Q) (g := g) (fun listed a' w' hw' hL => by rw [hL.1]; exact hL.2 w' hw') _ _ _ _ hC H
  rw [htl, show n + g = l.toArray.size by simp; omega] at this
  exact this
theorem region_split_below {id : Nat} {Q : Exit → Act → World → Prop} {a : Act} {w : World} {l : List Oper} (n g : Nat) (hm : P.follows .mixedOrders = true) (hB : splitB .any l.toArray n g = true)
    (h : wpQuiet P l.toArray (fun w' => ∃ p : Regrown, w' = grow (redrawn w p.d) p.os) (fun a' => ∀ w', (∃ p : Regrown, w' = grow (redrawn w p.d) p.os) → wpAny P .any l.toArray Q g (doneL n g) a' w') (l.take n) a) : (Code.region id l.toArray true).wp P Q a w :=
  region_split (C := fun w' => ∃ p : Regrown, w' = grow (redrawn w p.d) p.os) n g hm hB ⟨⟨w.drawn + 1, #[]⟩, by rw [grow_empty]; rfl⟩ h
end

/- One step of what is left, where S holds in each world: an operation that yields in every world of S is taken first; else it is the one that comes up. -/
section
variable {P : Program} {md : Region.Mode} {ops : Array Oper} {Q : Exit → Act → World → Prop} {S : World → Prop} {a : Act} {w w' : World} {i fuel : Nat} {o : Oper} {v : Value} {listed : Array Bool}
theorem h_take {l' : Array Bool} {a' : Act} (i : Nat) (v : Value) (hi : ops[i]? = some o) (hs : Region.noSelect ops = true) (hf : Region.free md ops listed i = true) (hr : (Region.ready md ops listed).contains i = true)
    (hQ : ∀ c a w, Q (.panic c) (Act.put a o.dst v) w → Q (.panic c) a w) (hw : Region.wanted o (yielded ops a.tmps) = true) (he : ∀ w, S w → (execOp a.eval o).run P w = .ok (.value v) w) (hl : listed.setIfInBounds i true = l') (ha : a.put o.dst v = a') (hS : S w)
    (h : wpAnyH P md ops Q S fuel l' a' w) : wpAnyH P md ops Q S (fuel + 1) listed a w := by
  subst hl; subst ha; exact wpAnyH_take hi hs hf hr hQ (Or.inl ⟨hw, he⟩) hS h
theorem h_one {l' : Array Bool} (i : Nat) (hr : Region.ready md ops listed = [i]) (hl : listed.setIfInBounds i true = l') (h : wpOp P ops Q i (fun a' w' => S w' ∧ wpAnyH P md ops Q S fuel l' a' w') a w) : wpAnyH P md ops Q S (fuel + 1) listed a w := by
  subst hl; exact wpAnyH_all hr (by simp) (by intro k hk; simp at hk; subst hk; exact h)
theorem h_val {l' : Array Bool} {a' : Act} (i : Nat) (v : Value) (w' : World) (hr : Region.ready md ops listed = [i]) (ho : ops[i]? = some o) (hw : Region.wanted o (yielded ops a.tmps) = true) (he : (execOp a.eval o).run P w = .ok (.value v) w') (hl : listed.setIfInBounds i true = l') (ha : a.put o.dst v = a') (hS : S w')
    (h : wpAnyH P md ops Q S fuel l' a' w') : wpAnyH P md ops Q S (fuel + 1) listed a w := by
  subst ha
  refine h_one i hr hl (wpOp_step ho fun K' hK => ?_)
  rw [if_pos hw]
  show o.upon P a K' Q _
  rw [he]
  exact hK _ _ ⟨hS, h⟩
theorem h_call {R : World → Prop} {l' : Array Bool} {a' : Act} (i : Nat) (v : Value) (f : FuncId) (args : Array Value) (hr : Region.ready md ops listed = [i]) (ho : ops[i]? = some o) (hw : Region.wanted o (yielded ops a.tmps) = true) (he : (execOp a.eval o).run P w = .ok (.enter f args) w)
    (hc : Calls P f args w fun e w'' => e = .returned v ∧ R w'') (hl : listed.setIfInBounds i true = l') (ha : a.put o.dst v = a') (h : ∀ w'', R w'' → S w'' ∧ wpAnyH P md ops Q S fuel l' a' w'') : wpAnyH P md ops Q S (fuel + 1) listed a w := by
  subst ha
  refine h_one i hr hl (wpOp_step ho fun K' hK => ?_)
  rw [if_pos hw]
  show o.upon P a K' Q _
  rw [he, Oper.upon_enter]
  refine hc.mono ?_
  rintro e w2 ⟨rfl, hr2⟩
  exact hK _ _ (h w2 hr2)
end

end Go.Proofs.YtobmkhbkcmdhbaaGreat.Tl

/-
  What is proved here: what the walk of AlgosKnown needs: the mill at its own block, the ten numbers in theirs, and the six laws at the arguments at which that law calls them. Conditions: the rows and boxes lie as they are said.
-/
namespace Go.Proofs.YtobmkhbkcmdhbaaGreat.Al
open Go.RowKit Gr Wd Ws Fx Rk Lb

set_option maxRecDepth 100000 in
set_option maxHeartbeats 1000000 in
theorem kno_mill (w : World) : Calls Tryz.prog 4 #[] w fun e w' => (∃ g, e = .returned (.agg #[.int .i64 6, .slice (some ⟨g, 0, none⟩) 5 5]) ∧ Hid (EAt w' (some ⟨g, 0, none⟩) millL)) ∧ Hid (Below w.heap.size w w') := by
  have mixed := mixedP
  go_enter Tryz.func4, Tryz.ntmps4
  go_wp2
  obtain ⟨W1, hW1⟩ : ∃ W1, W1 = w.alloc (.cells #[.int .i64 6, .slice (some ⟨w.heap.size + 1, 0, none⟩) 5 5] 24) := ⟨_, rfl⟩
  have s1 : W1.heap.size = w.heap.size + 1 := by rw [hW1]; simp
  have y0 : W1.heap[w.heap.size]? = some (.cells #[.int .i64 6, .slice (some ⟨w.heap.size + 1, 0, none⟩) 5 5] 24 (0, 0)) := by rw [hW1]; exact heap_alloc_new w _
  have b1 : Below w.heap.size w W1 := by rw [hW1]; exact (Below.refl _ w).alloc (Nat.le_refl _) _
  rw [← hW1]
  clear hW1
  obtain ⟨C, hC⟩ : ∃ C : Array Value, C = #[.int .i64 0, .int .i64 1, .int .i64 4, .int .i64 0, .int .i64 2, .int .i64 1, .int .i64 1, .int .i64 3, .int .i64 5, .int .i64 2, .int .i64 1, .int .i64 2, .int .i64 4, .int .i64 4, .int .i64 7] := ⟨_, rfl⟩
  rw [← hC]
  obtain ⟨W2, hW2⟩ : ∃ W2, W2 = W1.alloc (.cells C 39) := ⟨_, rfl⟩
  have b2 : Below W1.heap.size W1 W2 := by rw [hW2]; exact (Below.refl _ W1).alloc (Nat.le_refl _) _
  have y1 := (b2.block _ (lt_of_block y0)).trans y0
  have y2 : W2.heap[w.heap.size + 1]? = some (.cells C 39 (0, 0)) := by rw [hW2, ← s1]; exact heap_alloc_new W1 _
  rw [← hW2]
  have k0 : W2.cell? ⟨w.heap.size, 0, none⟩ = some (.int .i64 6) := by rw [Lib.cell_of_heap y1]; rfl
  have k1 : W2.cell? ⟨w.heap.size, 1, none⟩ = some (.slice (some ⟨w.heap.size + 1, 0, none⟩) 5 5) := by rw [Lib.cell_of_heap y1]; rfl
  refine bodyPost_ret (v := .agg #[.int .i64 6, .slice (some ⟨w.heap.size + 1, 0, none⟩) 5 5]) (by simp [results, Tryz.results4, go_sem, k0, k1]) rfl ⟨⟨_, rfl, Lib.hid ?_⟩, Lib.hid (b1.trans (b2.mono (by omega)))⟩
  intro k e hk
  rcases k with _ | _ | _ | _ | _ | k
  all_goals (first | (simp [millL] at hk; done) | (simp only [millL, List.getElem?_cons_zero, List.getElem?_cons_succ, Option.some.injEq] at hk; subst hk; exact ⟨_, _, rfl, by rw [Lib.cell_of_heap y2, hC]; rfl, by rw [Lib.cell_of_heap y2, hC]; rfl, by rw [Lib.cell_of_heap y2, hC]; rfl⟩))
theorem kno_take {w : World} {A : Option Addr} {L : List Ed} (h : EAt w A L) (k : Nat) : EAt w A (L.take k) := fun i e hi => h i e (by
  rw [List.getElem?_take] at hi; split at hi
  · exact hi
  · cases hi)
theorem kno_drop {w : World} {g o : Nat} {L : List Ed} (h : EAt w (some ⟨g, o, none⟩) L) (k : Nat) : EAt w (some ⟨g, o + k * 3, none⟩) (L.drop k) := fun i e hi => by
  rw [List.getElem?_drop] at hi
  obtain ⟨bk, o', e1, c0, c1, c2⟩ := h (k + i) e hi
  cases e1
  refine ⟨g, o + k * 3, rfl, ?_, ?_, ?_⟩
  · rw [show o + k * 3 + i * 3 = o + (k + i) * 3 by omega]; exact c0
  · rw [show o + k * 3 + i * 3 + 1 = o + (k + i) * 3 + 1 by omega]; exact c1
  · rw [show o + k * 3 + i * 3 + 2 = o + (k + i) * 3 + 2 by omega]; exact c2

def tenL : List Int := [0, 1, 5, 4294967296, 4294967297, 4611686018427387904, 4611686018427387905, -1, -9223372036854775808, 9223372036854775807]
theorem ten_in : ∀ k : Fin 10, -9223372036854775808 ≤ tenL[k]'(by show (k : Nat) < 10; exact k.2) ∧ tenL[k]'(by show (k : Nat) < 10; exact k.2) ≤ 9223372036854775807 := by decide +kernel
theorem ten_at (k : Nat) (h : k < 10) : ∃ x : Int, tenL[k]? = some x ∧ -9223372036854775808 ≤ x ∧ x ≤ 9223372036854775807 := by
  have h2 : k < tenL.length := h
  exact ⟨tenL[k], List.getElem?_eq_getElem h2, (ten_in ⟨k, h⟩).1, (ten_in ⟨k, h⟩).2⟩
def Tn (w : World) (b : Nat) : Prop := w.heap[b]? = some (.cells (ints tenL).toArray 2 (0, 0))
theorem Tn.cell {w : World} {b : Nat} (h : Tn w b) (k : Nat) (x : Int) (hx : tenL[k]? = some x) : w.cell? ⟨b, k, none⟩ = some (.int .i64 x) := by
  rw [cell_of_row w b k _ 2 (0, 0) h, List.getElem?_toArray, ints_at, hx]; rfl
theorem Tn.below {w w' : World} {b : Nat} (h : Tn w b) (hb : Below w.heap.size w w') : Tn w' b := keep h hb

/- What stays all the while: the mill's box, its edges, the ten numbers. -/
structure KSt (w W : World) (bm g nb : Nat) : Prop where
  below : Below w.heap.size w W
  mb : W.heap[bm]? = some (.cells #[.int .i64 6, .slice (some ⟨g, 0, none⟩) 5 5] 24 (0, 0))
  row : EAt W (some ⟨g, 0, none⟩) millL
  nb : Tn W nb
theorem KSt.step {w W W' : World} {bm g nb : Nat} (h : KSt w W bm g nb) (hb : Below W.heap.size W W') : KSt w W' bm g nb :=
  ⟨step_below h.below h.below.size hb, keep h.mb hb, h.row.below hb, h.nb.below hb⟩
theorem mb_cells {W : World} {b g : Nat} (h : W.heap[b]? = some (.cells #[.int .i64 6, .slice (some ⟨g, 0, none⟩) 5 5] 24 (0, 0))) : W.cell? ⟨b, 0, none⟩ = some (.int .i64 6) ∧ W.cell? ⟨b, 1, none⟩ = some (.slice (some ⟨g, 0, none⟩) 5 5) :=
  ⟨by rw [Lib.cell_of_heap h]; rfl, by rw [Lib.cell_of_heap h]; rfl⟩
/- A job in its box. -/
def Jb (W : World) (b : Nat) (k st so dm ep : Int) : Prop := W.heap[b]? = some (.cells #[.int .u8 k, .int .i64 st, .int .i64 so, .int .i64 dm, .int .i64 ep] 28 (0, 0))
theorem Jb.below {W W' : World} {b : Nat} {k st so dm ep : Int} (h : Jb W b k st so dm ep) (hb : Below W.heap.size W W') : Jb W' b k st so dm ep := keep h hb
structure KSj (w W : World) (bm g nb bj : Nat) (k : Int) : Prop where
  st : KSt w W bm g nb
  jb : Jb W bj k 5 0 0 0
theorem KSj.step {w W W' : World} {bm g nb bj : Nat} {k : Int} (h : KSj w W bm g nb bj k) (hb : Below W.heap.size W W') : KSj w W' bm g nb bj k := ⟨h.st.step hb, h.jb.below hb⟩

/- The job that is changed in one thing, behind the switch: told since world wr, in which the box was not. -/
def SwK (wr : World) (k : Int) (W : World) : Prop := ∃ st so dm ep : Int, (-9223372036854775808 ≤ so ∧ so ≤ 9223372036854775807) ∧ Jb W wr.heap.size k st so dm ep ∧ Below wr.heap.size wr W
theorem sw_new {wr : World} (k st so dm ep : Int) (h0 : -9223372036854775808 ≤ so) (h1 : so ≤ 9223372036854775807) : SwK wr k (wr.alloc (.cells #[.int .u8 k, .int .i64 st, .int .i64 so, .int .i64 dm, .int .i64 ep] 28)) :=
  ⟨st, so, dm, ep, ⟨h0, h1⟩, heap_alloc_new wr _, (Below.refl _ wr).alloc (Nat.le_refl _) _⟩

/- The laws where that law calls them, in every world that has grown. -/
abbrev Rg1 (f : FuncId) (args : Array Value) (w : World) : Prop := ∀ (d : Nat) (os : Array Obj), Calls Tryz.prog f args (Sort.grow (redrawn w d) os) fun e w'' => e = .returned (.bool true) ∧ ∃ p : Regrown, w'' = Sort.grow (redrawn w p.d) p.os
theorem kc_check (k st so dm ep v s m : Int) {g : Nat} {w : World} (h : EAt w (some ⟨g, 0, none⟩) millL) (h0 : -9223372036854775808 ≤ v) (h1 : v ≤ 9223372036854775807) :
    Rg1 5 #[.agg #[.int .i64 6, .slice (some ⟨g, 0, none⟩) 5 5], .agg #[.int .u8 k, .int .i64 st, .int .i64 so, .int .i64 dm, .int .i64 ep], .int .i64 v, .int .i64 s, .int .i64 m] w :=
  regr fun W hb => law_check k st so dm ep 6 v s m (some ⟨g, 0, none⟩) 5 millL W (h.below hb) (by decide) (by decide) (by decide) h0 h1
theorem kc_none (k st so dm ep v s m : Int) (w : World) (h0 : -9223372036854775808 ≤ v) (h1 : v ≤ 9223372036854775807) :
    Rg1 5 #[.agg #[.int .i64 0, .slice none 0 0], .agg #[.int .u8 k, .int .i64 st, .int .i64 so, .int .i64 dm, .int .i64 ep], .int .i64 v, .int .i64 s, .int .i64 m] w :=
  regr fun W _ => law_check k st so dm ep 0 v s m none 0 [] W (EAt.nil _ _) (by decide) (by decide) (by decide) h0 h1
theorem kc_compute (k x m s : Int) (h : Bool) (w : World) (hm0 : -9223372036854775808 ≤ m) (hm1 : m ≤ 9223372036854775807) (hs0 : -9223372036854775808 ≤ s) (hs1 : s ≤ 9223372036854775807) :
    Rg1 6 #[.agg #[.int .u8 k, .int .i64 0, .int .i64 0, .int .i64 2147483648, .int .i64 0], .int .i64 4, .int .i64 x, .agg #[.bool h, .int .i64 m], .int .i64 s] w :=
  regr fun W _ => law_compute k 0 0 2147483648 0 4 x m s h (by decide) (by decide) hm0 hm1 hs0 hs1 (by decide) (by decide) W
theorem kc_order (k a b c : Int) (w : World) : Rg1 7 #[.agg #[.int .u8 k, .int .i64 5, .int .i64 0, .int .i64 0, .int .i64 0], .int .i64 a, .int .i64 b, .int .i64 c] w :=
  regr fun W _ => law_order k 5 0 0 0 a b c W
theorem kc_part (k x y : Int) (ch : Bool) (g n : Nat) (w : World) (hx0 : -9223372036854775808 ≤ x) (hx1 : x ≤ 9223372036854775807) (hy0 : -9223372036854775808 ≤ y) (hy1 : y ≤ 9223372036854775807) :
    Rg1 8 #[.agg #[.int .u8 k, .int .i64 5, .int .i64 0, .int .i64 0, .int .i64 0], .int .i64 x, .int .i64 y, .bool ch, .slice (some ⟨g, 0, none⟩) n 5, .agg #[.int .i64 x, .int .i64 y], .agg #[.int .i64 y, .int .i64 x]] w :=
  regr fun W _ => law_part k 5 0 0 0 x y x y y x ch (some ⟨g, 0, none⟩) n 5 hx0 hx1 hy0 hy1 W
theorem kc_send (k v x : Int) {g : Nat} {w : World} (h : EAt w (some ⟨g, 0, none⟩) millL) (h0 : -9223372036854775808 ≤ x) (h1 : x ≤ 9223372036854775807) :
    Rg1 9 #[.agg #[.int .u8 k, .int .i64 5, .int .i64 0, .int .i64 0, .int .i64 0], .int .i64 v, .int .i64 x, .bool true, .slice (some ⟨g, 0, none⟩) 5 5, .slice (some ⟨g, 3, none⟩) 4 4] w :=
  regr fun W hb => law_send k 5 0 0 0 v x true (some ⟨g, 0, none⟩) (some ⟨g, 3, none⟩) 5 4 millL (millL.drop 1) W (h.below hb) (kno_drop (h.below hb) 1) (by decide) (by decide) h0 h1
theorem kc_send2 (k v x : Int) {g : Nat} {w : World} (h : EAt w (some ⟨g, 0, none⟩) millL) (h0 : -9223372036854775808 ≤ x) (h1 : x ≤ 9223372036854775807) :
    Rg1 9 #[.agg #[.int .u8 k, .int .i64 5, .int .i64 0, .int .i64 0, .int .i64 0], .int .i64 v, .int .i64 x, .bool false, .slice (some ⟨g, 6, none⟩) 3 3, .slice none 0 0] w :=
  regr fun W hb => law_send k 5 0 0 0 v x false (some ⟨g, 6, none⟩) none 3 0 (millL.drop 2) [] W (kno_drop (h.below hb) 2) (EAt.nil _ _) (by decide) (by decide) h0 h1
def trioL : List Ed := [(0, 3, 9), (0, 1, 1), (0, 3, 2)]
theorem trio_at (w : World) : EAt (w.alloc (.cells #[.int .i64 0, .int .i64 3, .int .i64 9, .int .i64 0, .int .i64 1, .int .i64 1, .int .i64 0, .int .i64 3, .int .i64 2] 39)) (some ⟨w.heap.size, 0, none⟩) trioL := by
  have y2 := heap_alloc_new w (.cells #[.int .i64 0, .int .i64 3, .int .i64 9, .int .i64 0, .int .i64 1, .int .i64 1, .int .i64 0, .int .i64 3, .int .i64 2] 39)
  intro k e hk
  rcases k with _ | _ | _ | k
  all_goals (first | (simp [trioL] at hk; done) | (simp only [trioL, List.getElem?_cons_zero, List.getElem?_cons_succ, Option.some.injEq] at hk; subst hk; exact ⟨_, _, rfl, by rw [Lib.cell_of_heap y2]; rfl, by rw [Lib.cell_of_heap y2]; rfl, by rw [Lib.cell_of_heap y2]; rfl⟩))
theorem kc_send3 (k v x : Int) (w : World) (h0 : -9223372036854775808 ≤ x) (h1 : x ≤ 9223372036854775807) :
    Calls Tryz.prog 9 #[.agg #[.int .u8 k, .int .i64 5, .int .i64 0, .int .i64 0, .int .i64 0], .int .i64 v, .int .i64 x, .bool true, .slice (some ⟨w.heap.size, 0, none⟩) 3 3, .slice none 0 0] (w.alloc (.cells #[.int .i64 0, .int .i64 3, .int .i64 9, .int .i64 0, .int .i64 1, .int .i64 1, .int .i64 0, .int .i64 3, .int .i64 2] 39))
      fun e w' => e = .returned (.bool true) ∧ Below w.heap.size w w' := by
  have hb : Below w.heap.size w (w.alloc (.cells #[.int .i64 0, .int .i64 3, .int .i64 9, .int .i64 0, .int .i64 1, .int .i64 1, .int .i64 0, .int .i64 3, .int .i64 2] 39)) := (Below.refl _ w).alloc (Nat.le_refl _) _
  exact (law_send k 5 0 0 0 v x true (some ⟨w.heap.size, 0, none⟩) none 3 0 trioL [] _ (trio_at w) (EAt.nil _ _) (by decide) (by decide) h0 h1).mono fun _ _ q => ⟨q.1, step_below hb hb.size q.2⟩

end Go.Proofs.YtobmkhbkcmdhbaaGreat.Al

