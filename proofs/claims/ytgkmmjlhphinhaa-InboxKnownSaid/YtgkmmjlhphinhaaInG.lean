/-
  What is proved here: contracts of inbox.with and of inbox.together: what came to whom. Conditions: vertices fit an int, fewer than 10^9 messages.
-/
import Derived.Test.YtgkmmjlhphinhaaInMap
import Derived.Test.YtgkmmjlhphinhaaPaTail
namespace Go.Proofs.Ytgkmmjlhphinhaa.In
open Go.RowKit Go.Maps Gr Wd Ws Fx Rk Lb Al

theorem mixedI : Try.prog.follows .mixedOrders = true := by kernel_rfl
theorem ml_cells {W : World} {b : Nat} {p : Bool} {x : Int} (h : W.heap[b]? = some (.cells #[.bool p, .int .i64 x] 43 (0, 0))) : W.cell? ⟨b, 0, none⟩ = some (.bool p) ∧ W.cell? ⟨b, 1, none⟩ = some (.int .i64 x) ∧ (∀ j, W.frozen? ⟨b, j, none⟩ = false) ∧ b < W.heap.size :=
  ⟨by rw [Lib.cell_of_heap h]; rfl, by rw [Lib.cell_of_heap h]; rfl, fun j => Lib.frozen_of_heap h j, lt_of_block h⟩
theorem put_ml {W : World} {b : Nat} {p : Bool} {x : Int} (h : W.heap[b]? = some (.cells #[.bool p, .int .i64 x] 43 (0, 0))) (q : Bool) (y : Int) :
    ((W.setCell ⟨b, 0, none⟩ (.bool q)).setCell ⟨b, 1, none⟩ (.int .i64 y)).heap[b]? = some (.cells #[.bool q, .int .i64 y] 43 (0, 0)) := by
  have h1 := heap_setCell_same W b 0 _ 43 (.bool q) h
  have h2 := heap_setCell_same _ b 1 _ 43 (.int .i64 y) h1
  exact h2

set_option maxRecDepth 100000 in
theorem with_any (k st so dm ep : Int) (h : Bool) (x v : Int) (w : World) : Calls Try.prog 28 #[.agg #[.int .u8 k, .int .i64 st, .int .i64 so, .int .i64 dm, .int .i64 ep], .agg #[.bool h, .int .i64 x], .int .i64 v] w fun e w' => e = .returned (.agg #[.bool true, .int .i64 (nxt k (h, x) v)]) ∧ Below w.heap.size w w' := by
  obtain ⟨r, hr⟩ : ∃ r, nxt k (h, x) v = r := ⟨_, rfl⟩
  rw [hr]
  have HR := Lib.hid hr; clear hr
  obtain ⟨W1, hW1⟩ : ∃ W1, W1 = ((w.alloc (.cells #[.int .u8 k, .int .i64 st, .int .i64 so, .int .i64 dm, .int .i64 ep] 23)).alloc (.cells #[.bool h, .int .i64 x] 43)).alloc (.cells #[.bool false, .int .i64 0] 43) := ⟨_, rfl⟩
  have hal := al3 w (.cells #[.int .u8 k, .int .i64 st, .int .i64 so, .int .i64 dm, .int .i64 ep] 23) (.cells #[.bool h, .int .i64 x] 43) (.cells #[.bool false, .int .i64 0] 43)
  rw [← hW1] at hal
  obtain ⟨b0, e0⟩ : ∃ b0, b0 = w.heap.size := ⟨_, rfl⟩
  obtain ⟨b1, e1⟩ : ∃ b1, b1 = w.heap.size + 1 := ⟨_, rfl⟩
  obtain ⟨b2, e2⟩ : ∃ b2, b2 = w.heap.size + 2 := ⟨_, rfl⟩
  obtain ⟨x0, x1, x2, hb⟩ := hal
  rw [← e0] at x0; rw [← e1] at x1; rw [← e2] at x2
  have X0 := Lib.hid x0; have X1 := Lib.hid x1; have X2 := Lib.hid x2; have HB := Lib.hid hb
  have HGE : Hid (w.heap.size ≤ b2) := Lib.hid (by omega)
  clear x0 x1 x2 hb
  cases h
  · have e3 : v = r := HR.out
    subst e3
    clear HR
    go_enter Try.func28, Try.ntmps28
    go_upto_region 1 with fail
    rw [← hW1]
    rw [show w.heap.size + 2 = b2 from e2.symm, show w.heap.size + 1 = b1 from e1.symm, show w.heap.size = b0 from e0.symm]
    clear hW1 e0 e1 e2
    obtain ⟨m0, m1, _⟩ := ml_cells X1.out
    obtain ⟨u0, u1, uf, _⟩ := ml_cells X2.out
    go_wp2_with fail
    have hp := put_ml X2.out true v
    obtain ⟨k0, k1, _⟩ := ml_cells hp
    have hB5 : Below w.heap.size w ((W1.setCell ⟨b2, 0, none⟩ (.bool true)).setCell ⟨b2, 1, none⟩ (.int .i64 v)) := (HB.out.setCell (p := ⟨b2, 0, none⟩) HGE.out _).setCell (p := ⟨b2, 1, none⟩) HGE.out _
    exact bodyPost_ret (v := .agg #[.bool true, .int .i64 v]) (by simp [results, Try.results28, go_sem, k0, k1]) rfl ⟨rfl, hB5⟩
  · have e3 : comb k x v = r := HR.out
    have HC := Lib.hid (fun W => comb_any k st so dm ep x v W)
    rw [e3] at HC
    clear HR e3
    go_enter Try.func28, Try.ntmps28
    go_upto_region 1 with fail
    rw [← hW1]
    rw [show w.heap.size + 2 = b2 from e2.symm, show w.heap.size + 1 = b1 from e1.symm, show w.heap.size = b0 from e0.symm]
    clear hW1 e0 e1 e2
    obtain ⟨m0, m1, _⟩ := ml_cells X1.out
    obtain ⟨j0, j1, j2, j3, j4, _⟩ := jb_cells X0.out
    go_wp2_with fail
    refine (HC.out _).mono ?_
    rintro e w2 ⟨rfl, hb2⟩
    clear m0 m1 j0 j1 j2 j3 j4
    have Y2 := Lib.hid (keep X2.out hb2)
    have HB2 := Lib.hid (step_below HB.out HB.out.size hb2)
    clear hb2
    obtain ⟨u0, u1, uf, _⟩ := ml_cells Y2.out
    go_wp2_with fail
    have hp := put_ml Y2.out true r
    obtain ⟨k0, k1, _⟩ := ml_cells hp
    have hB5 : Below w.heap.size w ((w2.setCell ⟨b2, 0, none⟩ (.bool true)).setCell ⟨b2, 1, none⟩ (.int .i64 r)) := (HB2.out.setCell (p := ⟨b2, 0, none⟩) HGE.out _).setCell (p := ⟨b2, 1, none⟩) HGE.out _
    exact bodyPost_ret (v := .agg #[.bool true, .int .i64 r]) (by simp [results, Try.results28, go_sem, k0, k1]) rfl ⟨rfl, hB5⟩

end Go.Proofs.Ytgkmmjlhphinhaa.In
