/-
  What is proved here: the laws PathsGive and PathsTake walked: they return true, and no block that was there has changed. No condition.
-/
import Derived.Test.YtiaihloncpkjbaaPaW5
namespace Go.Proofs.Ytiaihloncpkjbaa.Pa
open Go.RowKit Gr Wd Ws Fx Lb

theorem same_below {P : Program} {f : FuncId} {args : Array Value} {w : World} {v : Value} (h : Calls P f args w fun e w' => e = .returned v ∧ w = w') : Calls P f args w fun e w' => e = .returned v ∧ Below w.heap.size w w' :=
  h.mono fun _ _ k => ⟨k.1, k.2 ▸ Below.refl _ _⟩
theorem works_q (w : World) : Calls Try.prog 12 #[] w fun e w' => e = .returned (.bool true) ∧ Below w.heap.size w w' := (works_any w).mono fun _ _ k => ⟨k.1, k.2.out⟩

set_option maxRecDepth 100000 in
set_option maxHeartbeats 2000000 in
theorem law_give (v s x a b c : Int) (w : World) : Calls Try.prog 3 #[.int .i64 v, .int .i64 s, .int .i64 x, .agg #[.int .i64 a, .int .i64 b, .int .i64 c]] w fun e w' => e = .returned (.bool true) ∧ Below w.heap.size w w' := by
  have mixed := mixedP
  obtain ⟨W1, hW1⟩ : ∃ W1, W1 = w.alloc (.cells #[.int .i64 a, .int .i64 b, .int .i64 c] 23) := ⟨_, rfl⟩
  have HB : Hid (Below w.heap.size w W1) := Lib.hid (by rw [hW1]; exact (Below.refl _ w).alloc (Nat.le_refl _) _)
  have HE : Hid (W1.heap[w.heap.size]? = some (.cells #[.int .i64 a, .int .i64 b, .int .i64 c] 23 (0, 0))) := Lib.hid (by rw [hW1]; exact eb_alloc w a b c)
  obtain ⟨S, hS⟩ : ∃ S, stt v s = S := ⟨_, rfl⟩
  obtain ⟨G, hG⟩ : ∃ G, addI x c = G := ⟨_, rfl⟩
  have c1 := regr fun W (_ : Below W1.heap.size W1 W) => same_below (start_any v s W)
  have c2 := regr fun W (_ : Below W1.heap.size W1 W) => same_below (rstart_any v s W)
  have c3 := regr fun W (_ : Below W1.heap.size W1 W) => give_any x a b c W
  have c4 := regr fun W (_ : Below W1.heap.size W1 W) => rgive_any x a b c W
  have c5 := regr fun W (_ : Below W1.heap.size W1 W) => works_q W
  rw [hS] at c1 c2
  rw [hG] at c3 c4
  have C1 := Lib.hid c1; have C2 := Lib.hid c2; have C3 := Lib.hid c3; have C4 := Lib.hid c4; have C5 := Lib.hid c5
  clear c1 c2 c3 c4 c5 hS hG
  go_enter Try.func3, Try.ntmps3
  go_upto_region 1 with fail
  rw [← hW1]
  clear hW1
  obtain ⟨g, hg⟩ : ∃ g, g = w.heap.size := ⟨_, rfl⟩
  rw [← hg] at HE ⊢
  obtain ⟨p0, p1, p2, _⟩ := eb_cells HE.out
  have z0 := cell_regrown p0; have z1 := cell_regrown p1; have z2 := cell_regrown p2
  clear p0 p1 p2 hg
  go_wp2_with fail
  refine wp_region_quiet_below mixed (by kernel_rfl) ?_
  repeat (go_big_quiet_step ((with_reducible first | exact C1.out _ _ | exact C2.out _ _ | exact C3.out _ _ | exact C4.out _ _ | exact C5.out _ _)))
  refine wpQuiet_nil ?_
  intro _ hw'
  obtain ⟨⟨dq, osq⟩, hw''⟩ := hw'
  subst hw''
  have HB2 := Lib.hid (step_below HB.out HB.out.size (below_regrown W1 dq osq))
  go_wp2
  go_ret
  exact ⟨rfl, HB2.out⟩

theorem tkm_le (v x : Int) (h : Bool) : tkm v h x ≤ v := by unfold tkm; split <;> omega
theorem tkm_twice (v x : Int) (h : Bool) : tkm (tkm v h x) h x = tkm v h x ∧ tkb (tkm v h x) h x = false := by
  unfold tkm tkb
  cases h with
  | false => simp
  | true => simp; omega
def Mb (w : World) (b : Nat) (h : Bool) (x : Int) : Prop := w.heap[b]? = some (.cells #[.bool h, .int .i64 x] 29 (0, 0))
theorem Mb.cells {w : World} {b : Nat} {h : Bool} {x : Int} (m : Mb w b h x) : w.cell? ⟨b, 0, none⟩ = some (.bool h) ∧ w.cell? ⟨b, 1, none⟩ = some (.int .i64 x) :=
  ⟨by rw [Lib.cell_of_heap m]; rfl, by rw [Lib.cell_of_heap m]; rfl⟩
theorem Mb.below {w w' : World} {b : Nat} {h : Bool} {x : Int} (m : Mb w b h x) (hb : Below w.heap.size w w') : Mb w' b h x := (hb.block _ (lt_of_block m)).trans m

set_option maxRecDepth 100000 in
set_option maxHeartbeats 2000000 in
theorem law_take (v x : Int) (h : Bool) (w : World) : Calls Try.prog 4 #[.int .i64 v, .agg #[.bool h, .int .i64 x]] w fun e w' => e = .returned (.bool true) ∧ Below w.heap.size w w' := by
  obtain ⟨W1, hW1⟩ : ∃ W1, W1 = w.alloc (.cells #[.bool h, .int .i64 x] 29) := ⟨_, rfl⟩
  have HB : Hid (Below w.heap.size w W1) := Lib.hid (by rw [hW1]; exact (Below.refl _ w).alloc (Nat.le_refl _) _)
  have HE : Hid (Mb W1 w.heap.size h x) := Lib.hid (by rw [hW1]; exact heap_alloc_new w _)
  have hle := tkm_le v x h
  obtain ⟨h1, h2⟩ := tkm_twice v x h
  have cA := fun W => take_any v x h W
  have cB := fun W => rtake_any v x h W
  obtain ⟨y, hy⟩ : ∃ y, tkm v h x = y := ⟨_, rfl⟩
  obtain ⟨q, hq⟩ : ∃ q, tkb v h x = q := ⟨_, rfl⟩
  rw [hy] at hle h1 h2 cA cB
  rw [hq] at cA cB
  have cC := fun W => take_any y x h W
  rw [h1, h2] at cC
  have CA := Lib.hid cA; have CB := Lib.hid cB; have CC := Lib.hid cC
  clear cA cB cC hy hq h1 h2
  go_enter Try.func4, Try.ntmps4
  go_upto_region 1 with fail
  rw [← hW1]
  clear hW1
  obtain ⟨g, hg⟩ : ∃ g, g = w.heap.size := ⟨_, rfl⟩
  rw [← hg] at HE ⊢
  clear hg
  obtain ⟨p0, p1⟩ := HE.out.cells
  go_wp2_with fail
  refine (CA.out _).mono ?_
  rintro e w2 ⟨rfl, h2⟩
  have HB2 := Lib.hid (step_below HB.out HB.out.size h2); have HE2 := Lib.hid (HE.out.below h2)
  clear h2 p0 p1 HB HE
  obtain ⟨p0, p1⟩ := HE2.out.cells
  go_wp2_with fail
  refine (CB.out _).mono ?_
  rintro e w3 ⟨rfl, h3⟩
  have HB3 := Lib.hid (step_below HB2.out HB2.out.size h3); have HE3 := Lib.hid (HE2.out.below h3)
  clear h3 p0 p1 HB2 HE2
  obtain ⟨p0, p1⟩ := HE3.out.cells
  go_wp2_with fail
  refine (CC.out _).mono ?_
  rintro e w4 ⟨rfl, h4⟩
  have HB4 := Lib.hid (step_below HB3.out HB3.out.size h4)
  clear h4 p0 p1 HB3 HE3
  go_wp2_with fail
  refine (works_any _).mono ?_
  rintro e w5 ⟨rfl, h5⟩
  have HB5 := Lib.hid (step_below HB4.out HB4.out.size h5.out)
  clear h5
  go_wp2
  go_ret
  exact ⟨rfl, HB5.out⟩

end Go.Proofs.Ytiaihloncpkjbaa.Pa
