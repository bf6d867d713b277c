/-
  What is proved here: the law AlgosPart walked: it returns true, and no block that was there has changed. Conditions: numbers of 64 bits.
-/
import Derived.Test.YtobmkhbkcmdhbaaAlL1
import Derived.Test.YtobmkhbkcmdhbaaAlP4
namespace Go.Proofs.Ytobmkhbkcmdhbaa.Al
open Go.RowKit Go.Sort Gr Wd Ws Fx Rk Lb

def Lb4 (w : World) (b t1 t2 : Nat) (k st so dm ep s0 m0 s1 m1 : Int) (W : World) : Prop := Lb1 w b k st so dm ep W ∧ W.heap[t1]? = some (.cells #[.int .i64 s0, .int .i64 m0] 47 (0, 0)) ∧ W.heap[t2]? = some (.cells #[.int .i64 s1, .int .i64 m1] 47 (0, 0))
theorem Lb4.step {w W W' : World} {b t1 t2 : Nat} {k st so dm ep s0 m0 s1 m1 : Int} (g : Lb4 w b t1 t2 k st so dm ep s0 m0 s1 m1 W) (hb : Below W.heap.size W W') : Lb4 w b t1 t2 k st so dm ep s0 m0 s1 m1 W' := ⟨g.1.step hb, keep g.2.1 hb, keep g.2.2 hb⟩

set_option maxRecDepth 100000 in
set_option maxHeartbeats 2000000 in
theorem law_part (k st so dm ep x v s0 m0 s1 m1 : Int) (ch : Bool) (A : Option Addr) (n c : Nat) (hx0 : -9223372036854775808 ≤ x) (hx1 : x ≤ 9223372036854775807) (hv0 : -9223372036854775808 ≤ v) (hv1 : v ≤ 9223372036854775807) (w : World) :
    Calls Try.prog 6 #[.agg #[.int .u8 k, .int .i64 st, .int .i64 so, .int .i64 dm, .int .i64 ep], .int .i64 x, .int .i64 v, .bool ch, .slice A n c, .agg #[.int .i64 s0, .int .i64 m0], .agg #[.int .i64 s1, .int .i64 m1]] w fun e w' => e = .returned (.bool true) ∧ Below w.heap.size w w' := by
  have mixed := mixedO
  have hal := al3 w (.cells #[.int .u8 k, .int .i64 st, .int .i64 so, .int .i64 dm, .int .i64 ep] 26) (.cells #[.int .i64 s0, .int .i64 m0] 47) (.cells #[.int .i64 s1, .int .i64 m1] 47)
  obtain ⟨W4, hW4⟩ : ∃ W4, W4 = ((w.alloc (.cells #[.int .u8 k, .int .i64 st, .int .i64 so, .int .i64 dm, .int .i64 ep] 26)).alloc (.cells #[.int .i64 s0, .int .i64 m0] 47)).alloc (.cells #[.int .i64 s1, .int .i64 m1] 47) := ⟨_, rfl⟩
  rw [← hW4] at hal
  obtain ⟨t0, g0⟩ : ∃ t0, t0 = w.heap.size := ⟨_, rfl⟩
  obtain ⟨t1, g1⟩ : ∃ t1, t1 = w.heap.size + 1 := ⟨_, rfl⟩
  obtain ⟨t2, g2⟩ : ∃ t2, t2 = w.heap.size + 1 + 1 := ⟨_, rfl⟩
  obtain ⟨x0, x1, x2, hb4⟩ := hal
  rw [← g0] at x0; rw [← g1] at x1; rw [show w.heap.size + 2 = t2 from g2.symm] at x2
  have HH4 : Hid (Lb4 w t0 t1 t2 k st so dm ep s0 m0 s1 m1 W4) := Lib.hid ⟨⟨hb4, x0⟩, x1, x2⟩
  clear hb4 x0 x1 x2
  have k1 := part_any k st so dm ep x v ch A n c hx0 hx1 hv0 hv1
  have k2 := rpart_any k st so dm ep x v ch A n c hx0 hx1 hv0 hv1
  have k3 := join_any k st so dm ep s0 m0 s1 m1
  have k4 := rjoin_any k st so dm ep s0 m0 s1 m1
  obtain ⟨PS, hPS⟩ : ∃ PS, prtS k v n = PS := ⟨_, rfl⟩
  obtain ⟨PM, hPM⟩ : ∃ PM, prtM k x v ch = PM := ⟨_, rfl⟩
  obtain ⟨JS, hJS⟩ : ∃ JS, jonS k s0 s1 = JS := ⟨_, rfl⟩
  obtain ⟨JM, hJM⟩ : ∃ JM, jonM k m0 m1 = JM := ⟨_, rfl⟩
  rw [hPS, hPM] at k1 k2
  rw [hJS, hJM] at k3 k4
  have C1 := Lib.hid (regr fun W (_ : Below W4.heap.size W4 W) => k1 W)
  have C2 := Lib.hid (regr fun W (_ : Below W4.heap.size W4 W) => k2 W)
  have C3 := Lib.hid (regr fun W (_ : Below W4.heap.size W4 W) => k3 W)
  have C4 := Lib.hid (regr fun W (_ : Below W4.heap.size W4 W) => k4 W)
  have C5 := Lib.hid (regr fun W (_ : Below W4.heap.size W4 W) => works_any W)
  have C6 := Lib.hid (regr fun W (_ : Below W4.heap.size W4 W) => plain_any PS PM W)
  have C7 := Lib.hid (regr fun W (_ : Below W4.heap.size W4 W) => plain_any JS JM W)
  have C8 := Lib.hid (regr fun W (_ : Below W4.heap.size W4 W) => plain_any s0 m0 W)
  have C9 := Lib.hid (regr fun W (_ : Below W4.heap.size W4 W) => plain_any s1 m1 W)
  clear k1 k2 k3 k4 hPS hPM hJS hJM
  by_cases hn : 100 < n
  · go_enter Try.func6, Try.ntmps6
    go_wp2_with fail
    rw [← hW4]
    refine (works_any _).mono ?_
    rintro e w5 ⟨rfl, hb5⟩
    have HH5 := Lib.hid (HH4.out.step hb5)
    go_wp2
    go_ret
    exact ⟨rfl, HH5.out.1.1⟩
  · go_enter Try.func6, Try.ntmps6
    go_wp2_with fail
    rw [show w.heap.size + 1 + 1 = t2 from g2.symm, show w.heap.size + 1 = t1 from g1.symm, show w.heap.size = t0 from g0.symm]
    rw [← hW4]
    clear hW4 g0 g1 g2
    obtain ⟨j0, j1, j2, j3, j4, _⟩ := jb_cells HH4.out.1.2
    obtain ⟨p0, p1, _⟩ := tot_cells HH4.out.2.1
    obtain ⟨p2, p3, _⟩ := tot_cells HH4.out.2.2
    have f0 := cell_regrown j0; have f1 := cell_regrown j1; have f2 := cell_regrown j2; have f3 := cell_regrown j3; have f4 := cell_regrown j4
    have q0 := cell_regrown p0; have q1 := cell_regrown p1; have q2 := cell_regrown p2; have q3 := cell_regrown p3
    have E1 := fun W => eq_r PS PM PS PM true (Lib.hid (by simp)) W
    have E2 := fun W => eq_r JS JM JS JM true (Lib.hid (by simp)) W
    clear j0 j1 j2 j3 j4 p0 p1 p2 p3
    refine wp_region_quiet_below mixed (by kernel_rfl) ?_
    repeat (go_big_quiet_step ((with_reducible first | exact C1.out _ _ | exact C2.out _ _ | exact C3.out _ _ | exact C4.out _ _ | exact C5.out _ _ | exact C6.out _ _ | exact C7.out _ _ | exact C8.out _ _ | exact C9.out _ _)))
    refine wpQuiet_nil ?_
    intro _ hw'
    obtain ⟨⟨dq, osq⟩, hw''⟩ := hw'
    subst hw''
    have HB2 := Lib.hid (HH4.out.step (below_regrown W4 dq osq))
    go_wp2
    go_ret
    exact ⟨rfl, HB2.out.1.1⟩

end Go.Proofs.Ytobmkhbkcmdhbaa.Al
