/-
  What is proved here: contracts of algos.Compute, Part, Join of the document. Conditions: numbers fit an int.
-/
import Derived.Test.YtobmkhbkcmdhbaaAlQ1
import Derived.Stop.Asserts
namespace Go.Proofs.Ytobmkhbkcmdhbaa.Al
open Go.RowKit Gr Wd Ws Fx Rk Lb

theorem rtaker_q (V d m s g : Int) (hg : Hid (takeI V d m s = g)) (hV0 : -9223372036854775808 ≤ V) (hV1 : V ≤ 9223372036854775807) (hd0 : -9223372036854775808 ≤ d) (hd1 : d ≤ 9223372036854775807) (hm0 : -9223372036854775808 ≤ m) (hm1 : m ≤ 9223372036854775807) (hs0 : -9223372036854775808 ≤ s) (hs1 : s ≤ 9223372036854775807) (w : World) : Calls Try.prog 35 #[.int .i64 V, .int .i64 d, .int .i64 m, .int .i64 s] w fun e w' => e = .returned (.int .i64 g) ∧ Below w.heap.size w w' :=
  (Rk.rtake_any V d m s g w hg hV0 hV1 hd0 hd1 hm0 hm1 hs0 hs1).mono fun _ _ k => ⟨k.1, k.2.out⟩
set_option maxRecDepth 100000 in
set_option maxHeartbeats 1000000 in
theorem rcompute_any (k st so dm ep V x m s : Int) (h : Bool) (hV0 : -9223372036854775808 ≤ V) (hV1 : V ≤ 9223372036854775807) (hdm0 : -9223372036854775808 ≤ dm) (hdm1 : dm ≤ 9223372036854775807) (_hm0 : -9223372036854775808 ≤ m) (hm1 : m ≤ 9223372036854775807) (hs0 : -9223372036854775808 ≤ s) (hs1 : s ≤ 9223372036854775807) (w : World) : Calls Try.prog 17 #[.agg #[.int .u8 k, .int .i64 st, .int .i64 so, .int .i64 dm, .int .i64 ep], .int .i64 V, .int .i64 x, .agg #[.bool h, .int .i64 m], .int .i64 s] w fun e w' => e = .returned (.tuple #[.int .i64 (cmpM k V dm x h m s), .bool (cmpB k V dm x h m s)]) ∧ Below w.heap.size w w' := by
  by_cases h1 : k = 1
  · subst h1
    cases h with
    | false =>
      obtain ⟨r, hr⟩ : ∃ r, takeI V dm (gotI false m) s = r := ⟨_, rfl⟩
      have HR := Lib.hid hr
      have HC := Lib.hid (fun W => rtaker_q V dm 0 s r (Lib.hid (by rw [← hr]; rfl)) hV0 hV1 hdm0 hdm1 (by decide) (by decide) hs0 hs1 W)
      clear hr
      obtain ⟨W1, hW1⟩ : ∃ W1, W1 = (w.alloc (.cells #[.int .u8 1, .int .i64 st, .int .i64 so, .int .i64 dm, .int .i64 ep] 26)).alloc (.cells #[.bool false, .int .i64 m] 36) := ⟨_, rfl⟩
      have hal := al2 w (.cells #[.int .u8 1, .int .i64 st, .int .i64 so, .int .i64 dm, .int .i64 ep] 26) (.cells #[.bool false, .int .i64 m] 36)
      rw [← hW1] at hal
      obtain ⟨b0, e0⟩ : ∃ b0, b0 = w.heap.size := ⟨_, rfl⟩
      obtain ⟨b1, e1⟩ : ∃ b1, b1 = w.heap.size + 1 := ⟨_, rfl⟩
      obtain ⟨x0, x1, hb⟩ := hal
      rw [← e0] at x0; rw [← e1] at x1
      have X0 := Lib.hid x0; have X1 := Lib.hid x1; have HB := Lib.hid hb
      clear x0 x1 hb
      go_enter Try.func17, Try.ntmps17
      go_upto_region 1 with fail
      rw [← hW1]
      rw [show w.heap.size + 1 = b1 from e1.symm, show w.heap.size = b0 from e0.symm]
      clear hW1 e0 e1
      obtain ⟨j0, j1, j2, j3, j4, _⟩ := jb_cells X0.out
      have m0 : W1.cell? ⟨b1, 0, none⟩ = some (.bool false) := by rw [Lib.cell_of_heap X1.out]; rfl
      have m1 : W1.cell? ⟨b1, 1, none⟩ = some (.int .i64 m) := by rw [Lib.cell_of_heap X1.out]; rfl
      go_wp2_with fail
      refine (HC.out _).mono ?_
      rintro e w3 ⟨rfl, hb3⟩
      have HB3 := Lib.hid (step_below HB.out HB.out.size hb3)
      clear hb3 m0 m1 j0 j1 j2 j3 j4
      go_wp2
      go_ret2
      exact ⟨ret_tb (by rw [← HR.out]; unfold cmpM; simp) (by unfold cmpB; rw [if_pos rfl, HR.out]; by_cases g : r = x <;> simp [g, bne]), HB3.out⟩
    | true =>
      obtain ⟨r, hr⟩ : ∃ r, takeI V dm (gotI true m) s = r := ⟨_, rfl⟩
      have HR := Lib.hid hr
      have HC := Lib.hid (fun W => rtaker_q V dm (max m 0) s r (Lib.hid (by rw [← hr]; rfl)) hV0 hV1 hdm0 hdm1 (by omega) (by omega) hs0 hs1 W)
      clear hr
      obtain ⟨W1, hW1⟩ : ∃ W1, W1 = (w.alloc (.cells #[.int .u8 1, .int .i64 st, .int .i64 so, .int .i64 dm, .int .i64 ep] 26)).alloc (.cells #[.bool true, .int .i64 m] 36) := ⟨_, rfl⟩
      have hal := al2 w (.cells #[.int .u8 1, .int .i64 st, .int .i64 so, .int .i64 dm, .int .i64 ep] 26) (.cells #[.bool true, .int .i64 m] 36)
      rw [← hW1] at hal
      obtain ⟨b0, e0⟩ : ∃ b0, b0 = w.heap.size := ⟨_, rfl⟩
      obtain ⟨b1, e1⟩ : ∃ b1, b1 = w.heap.size + 1 := ⟨_, rfl⟩
      obtain ⟨x0, x1, hb⟩ := hal
      rw [← e0] at x0; rw [← e1] at x1
      have X0 := Lib.hid x0; have X1 := Lib.hid x1; have HB := Lib.hid hb
      clear x0 x1 hb
      go_enter Try.func17, Try.ntmps17
      go_upto_region 1 with fail
      rw [← hW1]
      rw [show w.heap.size + 1 = b1 from e1.symm, show w.heap.size = b0 from e0.symm]
      clear hW1 e0 e1
      obtain ⟨j0, j1, j2, j3, j4, _⟩ := jb_cells X0.out
      have m0 : W1.cell? ⟨b1, 0, none⟩ = some (.bool true) := by rw [Lib.cell_of_heap X1.out]; rfl
      have m1 : W1.cell? ⟨b1, 1, none⟩ = some (.int .i64 m) := by rw [Lib.cell_of_heap X1.out]; rfl
      go_wp2_with fail
      refine (HC.out _).mono ?_
      rintro e w3 ⟨rfl, hb3⟩
      have HB3 := Lib.hid (step_below HB.out HB.out.size hb3)
      clear hb3 m0 m1 j0 j1 j2 j3 j4
      go_wp2
      go_ret2
      exact ⟨ret_tb (by rw [← HR.out]; unfold cmpM; simp) (by unfold cmpB; rw [if_pos rfl, HR.out]; by_cases g : r = x <;> simp [g, bne]), HB3.out⟩
  have g1 : (k == 1) = false := by simp [h1]
  by_cases h2 : k = 2
  · subst h2
    obtain ⟨W1, hW1⟩ : ∃ W1, W1 = (w.alloc (.cells #[.int .u8 2, .int .i64 st, .int .i64 so, .int .i64 dm, .int .i64 ep] 26)).alloc (.cells #[.bool h, .int .i64 m] 36) := ⟨_, rfl⟩
    have hal := al2 w (.cells #[.int .u8 2, .int .i64 st, .int .i64 so, .int .i64 dm, .int .i64 ep] 26) (.cells #[.bool h, .int .i64 m] 36)
    rw [← hW1] at hal
    obtain ⟨b0, e0⟩ : ∃ b0, b0 = w.heap.size := ⟨_, rfl⟩
    obtain ⟨b1, e1⟩ : ∃ b1, b1 = w.heap.size + 1 := ⟨_, rfl⟩
    obtain ⟨x0, x1, hb⟩ := hal
    rw [← e0] at x0; rw [← e1] at x1
    have X0 := Lib.hid x0; have X1 := Lib.hid x1; have HB := Lib.hid hb
    clear x0 x1 hb
    go_enter Try.func17, Try.ntmps17
    go_upto_region 1 with fail
    rw [← hW1]
    rw [show w.heap.size + 1 = b1 from e1.symm, show w.heap.size = b0 from e0.symm]
    clear hW1 e0 e1
    obtain ⟨j0, j1, j2, j3, j4, _⟩ := jb_cells X0.out
    have m0 : W1.cell? ⟨b1, 0, none⟩ = some (.bool h) := by rw [Lib.cell_of_heap X1.out]; rfl
    have m1 : W1.cell? ⟨b1, 1, none⟩ = some (.int .i64 m) := by rw [Lib.cell_of_heap X1.out]; rfl
    go_wp2_with fail
    refine (Lb.rtake_any x m h _).mono ?_
    rintro e w3 ⟨rfl, hb3⟩
    have HB3 := Lib.hid (step_below HB.out HB.out.size hb3)
    clear hb3 m0 m1 j0 j1 j2 j3 j4
    go_wp2
    go_ret2
    exact ⟨ret_tb (by unfold cmpM; simp) (by unfold cmpB; simp), HB3.out⟩
  have g2 : (k == 2) = false := by simp [h2]
  by_cases h3 : k = 3
  · subst h3
    obtain ⟨W1, hW1⟩ : ∃ W1, W1 = (w.alloc (.cells #[.int .u8 3, .int .i64 st, .int .i64 so, .int .i64 dm, .int .i64 ep] 26)).alloc (.cells #[.bool h, .int .i64 m] 36) := ⟨_, rfl⟩
    have hal := al2 w (.cells #[.int .u8 3, .int .i64 st, .int .i64 so, .int .i64 dm, .int .i64 ep] 26) (.cells #[.bool h, .int .i64 m] 36)
    rw [← hW1] at hal
    obtain ⟨b0, e0⟩ : ∃ b0, b0 = w.heap.size := ⟨_, rfl⟩
    obtain ⟨b1, e1⟩ : ∃ b1, b1 = w.heap.size + 1 := ⟨_, rfl⟩
    obtain ⟨x0, x1, hb⟩ := hal
    rw [← e0] at x0; rw [← e1] at x1
    have X0 := Lib.hid x0; have X1 := Lib.hid x1; have HB := Lib.hid hb
    clear x0 x1 hb
    go_enter Try.func17, Try.ntmps17
    go_upto_region 1 with fail
    rw [← hW1]
    rw [show w.heap.size + 1 = b1 from e1.symm, show w.heap.size = b0 from e0.symm]
    clear hW1 e0 e1
    obtain ⟨j0, j1, j2, j3, j4, _⟩ := jb_cells X0.out
    have m0 : W1.cell? ⟨b1, 0, none⟩ = some (.bool h) := by rw [Lib.cell_of_heap X1.out]; rfl
    have m1 : W1.cell? ⟨b1, 1, none⟩ = some (.int .i64 m) := by rw [Lib.cell_of_heap X1.out]; rfl
    go_wp2_with fail
    refine (Pa.rtake_any x m h _).mono ?_
    rintro e w3 ⟨rfl, hb3⟩
    have HB3 := Lib.hid (step_below HB.out HB.out.size hb3)
    clear hb3 m0 m1 j0 j1 j2 j3 j4
    go_wp2
    go_ret2
    exact ⟨ret_tb (by unfold cmpM; simp) (by unfold cmpB; simp), HB3.out⟩
  have g3 : (k == 3) = false := by simp [h3]
  obtain ⟨W1, hW1⟩ : ∃ W1, W1 = (w.alloc (.cells #[.int .u8 k, .int .i64 st, .int .i64 so, .int .i64 dm, .int .i64 ep] 26)).alloc (.cells #[.bool h, .int .i64 m] 36) := ⟨_, rfl⟩
  have hal := al2 w (.cells #[.int .u8 k, .int .i64 st, .int .i64 so, .int .i64 dm, .int .i64 ep] 26) (.cells #[.bool h, .int .i64 m] 36)
  rw [← hW1] at hal
  obtain ⟨b0, e0⟩ : ∃ b0, b0 = w.heap.size := ⟨_, rfl⟩
  obtain ⟨b1, e1⟩ : ∃ b1, b1 = w.heap.size + 1 := ⟨_, rfl⟩
  obtain ⟨x0, x1, hb⟩ := hal
  rw [← e0] at x0; rw [← e1] at x1
  have X0 := Lib.hid x0; have X1 := Lib.hid x1; have HB := Lib.hid hb
  clear x0 x1 hb
  go_enter Try.func17, Try.ntmps17
  go_upto_region 1 with fail
  rw [← hW1]
  rw [show w.heap.size + 1 = b1 from e1.symm, show w.heap.size = b0 from e0.symm]
  clear hW1 e0 e1
  obtain ⟨j0, j1, j2, j3, j4, _⟩ := jb_cells X0.out
  go_wp2
  go_ret2
  exact ⟨ret_tb (by unfold cmpM; rw [if_neg h1, if_neg h2, if_neg h3]) (by unfold cmpB; rw [if_neg h1, if_neg h2, if_neg h3]), HB.out⟩
theorem rapart_q (a b : Int) (w : World) (ha0 : -9223372036854775808 ≤ a) (ha1 : a ≤ 9223372036854775807) (hb0 : -9223372036854775808 ≤ b) (hb1 : b ≤ 9223372036854775807) : Calls Try.prog 43 #[.int .i64 a, .int .i64 b] w fun e w' => e = .returned (.int .i64 (apt a b)) ∧ w = w' := Fx.rapart_any a b w ha0 ha1 hb0 hb1
set_option maxRecDepth 100000 in
set_option maxHeartbeats 1000000 in
theorem rpart_any (k st so dm ep a v : Int) (c : Bool) (A : Option Addr) (n cc : Nat) (ha0 : -9223372036854775808 ≤ a) (ha1 : a ≤ 9223372036854775807) (hv0 : -9223372036854775808 ≤ v) (hv1 : v ≤ 9223372036854775807) (w : World) : Calls Try.prog 24 #[.agg #[.int .u8 k, .int .i64 st, .int .i64 so, .int .i64 dm, .int .i64 ep], .int .i64 a, .int .i64 v, .bool c, .slice A n cc] w fun e w' => e = .returned (.agg #[.int .i64 (prtS k v n), .int .i64 (prtM k a v c)]) ∧ Below w.heap.size w w' := by
  by_cases h1 : k = 1
  · subst h1
    by_cases hn : 0 < n
    · obtain ⟨W1, hW1⟩ : ∃ W1, W1 = (w.alloc (.cells #[.int .u8 1, .int .i64 st, .int .i64 so, .int .i64 dm, .int .i64 ep] 26)).alloc (.cells #[.int .i64 0, .int .i64 0] 48) := ⟨_, rfl⟩
      have hal := al2 w (.cells #[.int .u8 1, .int .i64 st, .int .i64 so, .int .i64 dm, .int .i64 ep] 26) (.cells #[.int .i64 0, .int .i64 0] 48)
      rw [← hW1] at hal
      obtain ⟨b0, e0⟩ : ∃ b0, b0 = w.heap.size := ⟨_, rfl⟩
      obtain ⟨b1, e1⟩ : ∃ b1, b1 = w.heap.size + 1 := ⟨_, rfl⟩
      obtain ⟨x0, x1, hb⟩ := hal
      rw [← e0] at x0; rw [← e1] at x1
      have X0 := Lib.hid x0; have X1 := Lib.hid x1; have HB := Lib.hid hb
      have HGE : Hid (w.heap.size ≤ b1) := Lib.hid (by omega)
      clear x0 x1 hb
      go_enter Try.func24, Try.ntmps24
      go_upto_region 1 with fail
      rw [← hW1]
      rw [show w.heap.size + 1 = b1 from e1.symm, show w.heap.size = b0 from e0.symm]
      clear hW1 e0 e1
      obtain ⟨j0, j1, j2, j3, j4, _⟩ := jb_cells X0.out
      go_wp2_with fail
      refine (rapart_q a v _ ha0 ha1 hv0 hv1).mono ?_
      rintro e w3 ⟨rfl, rfl⟩
      obtain ⟨q, hq⟩ : ∃ q, apt a v = q := ⟨_, rfl⟩
      rw [hq]
      have HQ := Lib.hid hq
      obtain ⟨W4, hW4⟩ : ∃ W4, W4 = W1.alloc (.cells #[.int .i64 0, .int .i64 q] 48) := ⟨_, rfl⟩
      have hb4 : Below W1.heap.size W1 W4 := by rw [hW4]; exact (Below.refl _ W1).alloc (Nat.le_refl _) _
      have Z4 : Hid (W4.heap[W1.heap.size]? = some (.cells #[.int .i64 0, .int .i64 q] 48 (0, 0))) := Lib.hid (by rw [hW4]; exact heap_alloc_new W1 _)
      have Y4 := Lib.hid (keep X1.out hb4); have HB4 := Lib.hid (step_below HB.out HB.out.size hb4)
      obtain ⟨b4, e4⟩ : ∃ b4, b4 = W1.heap.size := ⟨_, rfl⟩
      rw [← e4] at Z4
      have HG4 : Hid (w.heap.size ≤ b4) := Lib.hid (by rw [e4]; exact HB.out.size)
      have HNE : Hid (¬ b1 = b4) := Lib.hid (by have := lt_of_block X1.out; omega)
      go_upto_region 4 with fail
      rw [← hW4]
      rw [show W1.heap.size = b4 from e4.symm]
      clear hW4 hb4 e4 hq j0 j1 j2 j3 j4
      obtain ⟨z0, z1, zf⟩ := tot_cells Z4.out
      obtain ⟨y0, y1, yf⟩ := tot_cells Y4.out
      go_wp2_with fail
      have hp := put_tot Y4.out (0) (q)
      obtain ⟨k0, k1, _⟩ := tot_cells hp
      have hB5 : Below w.heap.size w ((W4.setCell ⟨b1, 0, none⟩ (.int .i64 (0))).setCell ⟨b1, 1, none⟩ (.int .i64 (q))) := (HB4.out.setCell (p := ⟨b1, 0, none⟩) HGE.out _).setCell (p := ⟨b1, 1, none⟩) HGE.out _
      refine bodyPost_ret (v := .agg #[.int .i64 (0), .int .i64 (q)]) (by simp [results, Try.results24, go_sem, k0, k1]) rfl ⟨?_, hB5⟩
      exact ret_ag (by unfold prtS; rw [if_pos rfl, if_neg (by omega)]) (by rw [← HQ.out]; unfold prtM; simp)
    · have hn0 : n = 0 := by omega
      subst hn0
      obtain ⟨W1, hW1⟩ : ∃ W1, W1 = (w.alloc (.cells #[.int .u8 1, .int .i64 st, .int .i64 so, .int .i64 dm, .int .i64 ep] 26)).alloc (.cells #[.int .i64 0, .int .i64 0] 48) := ⟨_, rfl⟩
      have hal := al2 w (.cells #[.int .u8 1, .int .i64 st, .int .i64 so, .int .i64 dm, .int .i64 ep] 26) (.cells #[.int .i64 0, .int .i64 0] 48)
      rw [← hW1] at hal
      obtain ⟨b0, e0⟩ : ∃ b0, b0 = w.heap.size := ⟨_, rfl⟩
      obtain ⟨b1, e1⟩ : ∃ b1, b1 = w.heap.size + 1 := ⟨_, rfl⟩
      obtain ⟨x0, x1, hb⟩ := hal
      rw [← e0] at x0; rw [← e1] at x1
      have X0 := Lib.hid x0; have X1 := Lib.hid x1; have HB := Lib.hid hb
      have HGE : Hid (w.heap.size ≤ b1) := Lib.hid (by omega)
      clear x0 x1 hb
      go_enter Try.func24, Try.ntmps24
      go_upto_region 1 with fail
      rw [← hW1]
      rw [show w.heap.size + 1 = b1 from e1.symm, show w.heap.size = b0 from e0.symm]
      clear hW1 e0 e1
      obtain ⟨j0, j1, j2, j3, j4, _⟩ := jb_cells X0.out
      go_wp2_with fail
      refine (rapart_q a v _ ha0 ha1 hv0 hv1).mono ?_
      rintro e w3 ⟨rfl, rfl⟩
      obtain ⟨q, hq⟩ : ∃ q, apt a v = q := ⟨_, rfl⟩
      rw [hq]
      have HQ := Lib.hid hq
      obtain ⟨W4, hW4⟩ : ∃ W4, W4 = W1.alloc (.cells #[.int .i64 0, .int .i64 q] 48) := ⟨_, rfl⟩
      have hb4 : Below W1.heap.size W1 W4 := by rw [hW4]; exact (Below.refl _ W1).alloc (Nat.le_refl _) _
      have Z4 : Hid (W4.heap[W1.heap.size]? = some (.cells #[.int .i64 0, .int .i64 q] 48 (0, 0))) := Lib.hid (by rw [hW4]; exact heap_alloc_new W1 _)
      have Y4 := Lib.hid (keep X1.out hb4); have HB4 := Lib.hid (step_below HB.out HB.out.size hb4)
      obtain ⟨b4, e4⟩ : ∃ b4, b4 = W1.heap.size := ⟨_, rfl⟩
      rw [← e4] at Z4
      have HG4 : Hid (w.heap.size ≤ b4) := Lib.hid (by rw [e4]; exact HB.out.size)
      have HNE : Hid (¬ b1 = b4) := Lib.hid (by have := lt_of_block X1.out; omega)
      go_upto_region 4 with fail
      rw [← hW4]
      rw [show W1.heap.size = b4 from e4.symm]
      clear hW4 hb4 e4 hq j0 j1 j2 j3 j4
      obtain ⟨z0, z1, zf⟩ := tot_cells Z4.out
      obtain ⟨W6, hW6⟩ : ∃ W6, W6 = W4.setCell ⟨b4, 0, none⟩ (.int .i64 (max v 0)) := ⟨_, rfl⟩
      have Z6 : Hid (W6.heap[b4]? = some (.cells #[.int .i64 (max v 0), .int .i64 q] 48 (0, 0))) := Lib.hid (by rw [hW6]; exact heap_setCell_same W4 b4 0 _ _ _ Z4.out)
      have Y6 : Hid (W6.heap[b1]? = some (.cells #[.int .i64 0, .int .i64 0] 48 (0, 0))) := Lib.hid (by rw [hW6]; exact (heap_setCell_other W4 ⟨b4, 0, none⟩ b1 _ HNE.out).trans Y4.out)
      have HBZ : Hid (Below w.heap.size w W6) := Lib.hid (by rw [hW6]; exact HB4.out.setCell (p := ⟨b4, 0, none⟩) HG4.out _)
      go_upto_region 6 with fail
      rw [← hW6]
      clear hW6 z0 z1 zf
      obtain ⟨z0, z1, zf⟩ := tot_cells Z6.out
      obtain ⟨y0, y1, yf⟩ := tot_cells Y6.out
      go_wp2_with fail
      have hp := put_tot Y6.out (max v 0) (q)
      obtain ⟨k0, k1, _⟩ := tot_cells hp
      have hB5 : Below w.heap.size w ((W6.setCell ⟨b1, 0, none⟩ (.int .i64 (max v 0))).setCell ⟨b1, 1, none⟩ (.int .i64 (q))) := (HBZ.out.setCell (p := ⟨b1, 0, none⟩) HGE.out _).setCell (p := ⟨b1, 1, none⟩) HGE.out _
      refine bodyPost_ret (v := .agg #[.int .i64 (max v 0), .int .i64 (q)]) (by simp [results, Try.results24, go_sem, k0, k1]) rfl ⟨?_, hB5⟩
      exact ret_ag (by unfold prtS; simp) (by rw [← HQ.out]; unfold prtM; simp)
  have g1 : (k == 1) = false := by simp [h1]
  by_cases h2 : k = 2
  · subst h2
    cases c with
    | false =>
      obtain ⟨W1, hW1⟩ : ∃ W1, W1 = (w.alloc (.cells #[.int .u8 2, .int .i64 st, .int .i64 so, .int .i64 dm, .int .i64 ep] 26)).alloc (.cells #[.int .i64 0, .int .i64 0] 48) := ⟨_, rfl⟩
      have hal := al2 w (.cells #[.int .u8 2, .int .i64 st, .int .i64 so, .int .i64 dm, .int .i64 ep] 26) (.cells #[.int .i64 0, .int .i64 0] 48)
      rw [← hW1] at hal
      obtain ⟨b0, e0⟩ : ∃ b0, b0 = w.heap.size := ⟨_, rfl⟩
      obtain ⟨b1, e1⟩ : ∃ b1, b1 = w.heap.size + 1 := ⟨_, rfl⟩
      obtain ⟨x0, x1, hb⟩ := hal
      rw [← e0] at x0; rw [← e1] at x1
      have X0 := Lib.hid x0; have X1 := Lib.hid x1; have HB := Lib.hid hb
      have HGE : Hid (w.heap.size ≤ b1) := Lib.hid (by omega)
      clear x0 x1 hb
      go_enter Try.func24, Try.ntmps24
      go_upto_region 1 with fail
      rw [← hW1]
      rw [show w.heap.size + 1 = b1 from e1.symm, show w.heap.size = b0 from e0.symm]
      clear hW1 e0 e1
      obtain ⟨j0, j1, j2, j3, j4, _⟩ := jb_cells X0.out
      obtain ⟨y0, y1, yf⟩ := tot_cells X1.out
      go_wp2_with fail
      have hp := put_tot X1.out (0) (0)
      obtain ⟨k0, k1, _⟩ := tot_cells hp
      have hB5 : Below w.heap.size w ((W1.setCell ⟨b1, 0, none⟩ (.int .i64 (0))).setCell ⟨b1, 1, none⟩ (.int .i64 (0))) := (HB.out.setCell (p := ⟨b1, 0, none⟩) HGE.out _).setCell (p := ⟨b1, 1, none⟩) HGE.out _
      refine bodyPost_ret (v := .agg #[.int .i64 (0), .int .i64 (0)]) (by simp [results, Try.results24, go_sem, k0, k1]) rfl ⟨?_, hB5⟩
      exact ret_ag (by unfold prtS; simp) (by unfold prtM; simp)
    | true =>
      obtain ⟨W1, hW1⟩ : ∃ W1, W1 = (w.alloc (.cells #[.int .u8 2, .int .i64 st, .int .i64 so, .int .i64 dm, .int .i64 ep] 26)).alloc (.cells #[.int .i64 0, .int .i64 0] 48) := ⟨_, rfl⟩
      have hal := al2 w (.cells #[.int .u8 2, .int .i64 st, .int .i64 so, .int .i64 dm, .int .i64 ep] 26) (.cells #[.int .i64 0, .int .i64 0] 48)
      rw [← hW1] at hal
      obtain ⟨b0, e0⟩ : ∃ b0, b0 = w.heap.size := ⟨_, rfl⟩
      obtain ⟨b1, e1⟩ : ∃ b1, b1 = w.heap.size + 1 := ⟨_, rfl⟩
      obtain ⟨x0, x1, hb⟩ := hal
      rw [← e0] at x0; rw [← e1] at x1
      have X0 := Lib.hid x0; have X1 := Lib.hid x1; have HB := Lib.hid hb
      have HGE : Hid (w.heap.size ≤ b1) := Lib.hid (by omega)
      clear x0 x1 hb
      go_enter Try.func24, Try.ntmps24
      go_upto_region 1 with fail
      rw [← hW1]
      rw [show w.heap.size + 1 = b1 from e1.symm, show w.heap.size = b0 from e0.symm]
      clear hW1 e0 e1
      obtain ⟨j0, j1, j2, j3, j4, _⟩ := jb_cells X0.out
      obtain ⟨y0, y1, yf⟩ := tot_cells X1.out
      go_wp2_with fail
      have hp := put_tot X1.out (0) (1)
      obtain ⟨k0, k1, _⟩ := tot_cells hp
      have hB5 : Below w.heap.size w ((W1.setCell ⟨b1, 0, none⟩ (.int .i64 (0))).setCell ⟨b1, 1, none⟩ (.int .i64 (1))) := (HB.out.setCell (p := ⟨b1, 0, none⟩) HGE.out _).setCell (p := ⟨b1, 1, none⟩) HGE.out _
      refine bodyPost_ret (v := .agg #[.int .i64 (0), .int .i64 (1)]) (by simp [results, Try.results24, go_sem, k0, k1]) rfl ⟨?_, hB5⟩
      exact ret_ag (by unfold prtS; simp) (by unfold prtM; simp)
  have g2 : (k == 2) = false := by simp [h2]
  by_cases h3 : k = 3
  · subst h3
    cases c with
    | false =>
      obtain ⟨W1, hW1⟩ : ∃ W1, W1 = (w.alloc (.cells #[.int .u8 3, .int .i64 st, .int .i64 so, .int .i64 dm, .int .i64 ep] 26)).alloc (.cells #[.int .i64 0, .int .i64 0] 48) := ⟨_, rfl⟩
      have hal := al2 w (.cells #[.int .u8 3, .int .i64 st, .int .i64 so, .int .i64 dm, .int .i64 ep] 26) (.cells #[.int .i64 0, .int .i64 0] 48)
      rw [← hW1] at hal
      obtain ⟨b0, e0⟩ : ∃ b0, b0 = w.heap.size := ⟨_, rfl⟩
      obtain ⟨b1, e1⟩ : ∃ b1, b1 = w.heap.size + 1 := ⟨_, rfl⟩
      obtain ⟨x0, x1, hb⟩ := hal
      rw [← e0] at x0; rw [← e1] at x1
      have X0 := Lib.hid x0; have X1 := Lib.hid x1; have HB := Lib.hid hb
      have HGE : Hid (w.heap.size ≤ b1) := Lib.hid (by omega)
      clear x0 x1 hb
      go_enter Try.func24, Try.ntmps24
      go_upto_region 1 with fail
      rw [← hW1]
      rw [show w.heap.size + 1 = b1 from e1.symm, show w.heap.size = b0 from e0.symm]
      clear hW1 e0 e1
      obtain ⟨j0, j1, j2, j3, j4, _⟩ := jb_cells X0.out
      obtain ⟨y0, y1, yf⟩ := tot_cells X1.out
      go_wp2_with fail
      have hp := put_tot X1.out (0) (0)
      obtain ⟨k0, k1, _⟩ := tot_cells hp
      have hB5 : Below w.heap.size w ((W1.setCell ⟨b1, 0, none⟩ (.int .i64 (0))).setCell ⟨b1, 1, none⟩ (.int .i64 (0))) := (HB.out.setCell (p := ⟨b1, 0, none⟩) HGE.out _).setCell (p := ⟨b1, 1, none⟩) HGE.out _
      refine bodyPost_ret (v := .agg #[.int .i64 (0), .int .i64 (0)]) (by simp [results, Try.results24, go_sem, k0, k1]) rfl ⟨?_, hB5⟩
      exact ret_ag (by unfold prtS; simp) (by unfold prtM; simp)
    | true =>
      obtain ⟨W1, hW1⟩ : ∃ W1, W1 = (w.alloc (.cells #[.int .u8 3, .int .i64 st, .int .i64 so, .int .i64 dm, .int .i64 ep] 26)).alloc (.cells #[.int .i64 0, .int .i64 0] 48) := ⟨_, rfl⟩
      have hal := al2 w (.cells #[.int .u8 3, .int .i64 st, .int .i64 so, .int .i64 dm, .int .i64 ep] 26) (.cells #[.int .i64 0, .int .i64 0] 48)
      rw [← hW1] at hal
      obtain ⟨b0, e0⟩ : ∃ b0, b0 = w.heap.size := ⟨_, rfl⟩
      obtain ⟨b1, e1⟩ : ∃ b1, b1 = w.heap.size + 1 := ⟨_, rfl⟩
      obtain ⟨x0, x1, hb⟩ := hal
      rw [← e0] at x0; rw [← e1] at x1
      have X0 := Lib.hid x0; have X1 := Lib.hid x1; have HB := Lib.hid hb
      have HGE : Hid (w.heap.size ≤ b1) := Lib.hid (by omega)
      clear x0 x1 hb
      go_enter Try.func24, Try.ntmps24
      go_upto_region 1 with fail
      rw [← hW1]
      rw [show w.heap.size + 1 = b1 from e1.symm, show w.heap.size = b0 from e0.symm]
      clear hW1 e0 e1
      obtain ⟨j0, j1, j2, j3, j4, _⟩ := jb_cells X0.out
      obtain ⟨y0, y1, yf⟩ := tot_cells X1.out
      go_wp2_with fail
      have hp := put_tot X1.out (0) (1)
      obtain ⟨k0, k1, _⟩ := tot_cells hp
      have hB5 : Below w.heap.size w ((W1.setCell ⟨b1, 0, none⟩ (.int .i64 (0))).setCell ⟨b1, 1, none⟩ (.int .i64 (1))) := (HB.out.setCell (p := ⟨b1, 0, none⟩) HGE.out _).setCell (p := ⟨b1, 1, none⟩) HGE.out _
      refine bodyPost_ret (v := .agg #[.int .i64 (0), .int .i64 (1)]) (by simp [results, Try.results24, go_sem, k0, k1]) rfl ⟨?_, hB5⟩
      exact ret_ag (by unfold prtS; simp) (by unfold prtM; simp)
  have g3 : (k == 3) = false := by simp [h3]
  obtain ⟨W1, hW1⟩ : ∃ W1, W1 = (w.alloc (.cells #[.int .u8 k, .int .i64 st, .int .i64 so, .int .i64 dm, .int .i64 ep] 26)).alloc (.cells #[.int .i64 0, .int .i64 0] 48) := ⟨_, rfl⟩
  have hal := al2 w (.cells #[.int .u8 k, .int .i64 st, .int .i64 so, .int .i64 dm, .int .i64 ep] 26) (.cells #[.int .i64 0, .int .i64 0] 48)
  rw [← hW1] at hal
  obtain ⟨b0, e0⟩ : ∃ b0, b0 = w.heap.size := ⟨_, rfl⟩
  obtain ⟨b1, e1⟩ : ∃ b1, b1 = w.heap.size + 1 := ⟨_, rfl⟩
  obtain ⟨x0, x1, hb⟩ := hal
  rw [← e0] at x0; rw [← e1] at x1
  have X0 := Lib.hid x0; have X1 := Lib.hid x1; have HB := Lib.hid hb
  have HGE : Hid (w.heap.size ≤ b1) := Lib.hid (by omega)
  clear x0 x1 hb
  go_enter Try.func24, Try.ntmps24
  go_upto_region 1 with fail
  rw [← hW1]
  rw [show w.heap.size + 1 = b1 from e1.symm, show w.heap.size = b0 from e0.symm]
  clear hW1 e0 e1
  obtain ⟨j0, j1, j2, j3, j4, _⟩ := jb_cells X0.out
  obtain ⟨y0, y1, yf⟩ := tot_cells X1.out
  go_wp2_with fail
  have hp := put_tot X1.out (0) (0)
  obtain ⟨k0, k1, _⟩ := tot_cells hp
  have hB5 : Below w.heap.size w ((W1.setCell ⟨b1, 0, none⟩ (.int .i64 (0))).setCell ⟨b1, 1, none⟩ (.int .i64 (0))) := (HB.out.setCell (p := ⟨b1, 0, none⟩) HGE.out _).setCell (p := ⟨b1, 1, none⟩) HGE.out _
  refine bodyPost_ret (v := .agg #[.int .i64 (0), .int .i64 (0)]) (by simp [results, Try.results24, go_sem, k0, k1]) rfl ⟨?_, hB5⟩
  exact ret_ag (by unfold prtS; rw [if_neg h1]) (by unfold prtM; rw [if_neg h1, if_neg (by omega)])
end Go.Proofs.Ytobmkhbkcmdhbaa.Al
