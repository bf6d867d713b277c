/-
  What is proved here: contracts of algos.programOf, and of the three programs' methods but send. Conditions: numbers fit an int where fixed asks it.
-/
import Derived.Test.YtkbmmlombigkmaaGreatQbAlM
import Derived.Test.YtkbmmlombigkmaaGreatQbAlPa
import Derived.Test.YtkbmmlombigkmaaGreatQbMnMkx
import Derived.Test.YtkbmmlombigkmaaGreatQbRkW1x
import Derived.Test.YtkbmmlombigkmaaGreatQbFxShelf
import Derived.IntWalk
namespace Go.Proofs.YtkbmmlombigkmaaGreat.Al
open Go.RowKit Gr Wd Ws Fx
theorem prog_no (k st so dm ep : Int) (h1 : ¬ k = 1) (h2 : ¬ k = 2) (h3 : ¬ k = 3) (w : World) : Calls Tryz.prog 34 #[.agg #[.int .u8 k, .int .i64 st, .int .i64 so, .int .i64 dm, .int .i64 ep]] w fun e w' => e = .returned (.tuple #[.nilIface, .bool false]) ∧ Below w.heap.size w w' := by
  have HB := Lib.hid ((Below.refl _ w).alloc (Nat.le_refl _) (.cells #[.int .u8 k, .int .i64 st, .int .i64 so, .int .i64 dm, .int .i64 ep] 40))
  have b1 : (k == 1) = false := by simp [h1]
  have b2 : (k == 2) = false := by simp [h2]
  have b3 : (k == 3) = false := by simp [h3]
  go_enter Tryz.func34, Tryz.ntmps34
  go_wp2
  go_ret2
  exact ⟨rfl, HB.out⟩
theorem prog_1 (st so dm ep : Int) (w : World) : Calls Tryz.prog 34 #[.agg #[.int .u8 1, .int .i64 st, .int .i64 so, .int .i64 dm, .int .i64 ep]] w fun e w' => e = .returned (.tuple #[.iface 96 (.agg #[.int .u8 1, .int .i64 st, .int .i64 so, .int .i64 dm, .int .i64 ep]), .bool true]) ∧ Below w.heap.size w w' := by
  have HB := Lib.hid ((Below.refl _ w).alloc (Nat.le_refl _) (.cells #[.int .u8 1, .int .i64 st, .int .i64 so, .int .i64 dm, .int .i64 ep] 40))
  go_enter Tryz.func34, Tryz.ntmps34
  go_wp2
  go_ret2
  exact ⟨rfl, HB.out⟩
theorem prog_2 (st so dm ep : Int) (w : World) : Calls Tryz.prog 34 #[.agg #[.int .u8 2, .int .i64 st, .int .i64 so, .int .i64 dm, .int .i64 ep]] w fun e w' => e = .returned (.tuple #[.iface 100 (.agg #[.int .u8 2, .int .i64 st, .int .i64 so, .int .i64 dm, .int .i64 ep]), .bool true]) ∧ Below w.heap.size w w' := by
  have HB := Lib.hid ((Below.refl _ w).alloc (Nat.le_refl _) (.cells #[.int .u8 2, .int .i64 st, .int .i64 so, .int .i64 dm, .int .i64 ep] 40))
  go_enter Tryz.func34, Tryz.ntmps34
  go_wp2
  go_ret2
  exact ⟨rfl, HB.out⟩
theorem prog_3 (st so dm ep : Int) (w : World) : Calls Tryz.prog 34 #[.agg #[.int .u8 3, .int .i64 st, .int .i64 so, .int .i64 dm, .int .i64 ep]] w fun e w' => e = .returned (.tuple #[.iface 101 (.agg #[.int .u8 3, .int .i64 st, .int .i64 so, .int .i64 dm, .int .i64 ep]), .bool true]) ∧ Below w.heap.size w w' := by
  have HB := Lib.hid ((Below.refl _ w).alloc (Nat.le_refl _) (.cells #[.int .u8 3, .int .i64 st, .int .i64 so, .int .i64 dm, .int .i64 ep] 40))
  go_enter Tryz.func34, Tryz.ntmps34
  go_wp2
  go_ret2
  exact ⟨rfl, HB.out⟩
theorem look_mayBe_1 (st so dm ep : Int) (w : World) : (method 329 96 (.agg #[.int .u8 1, .int .i64 st, .int .i64 so, .int .i64 dm, .int .i64 ep]) "treadwheel/algos.mayBe").run Tryz.prog w = .ok (151, .agg #[.int .u8 1, .int .i64 st, .int .i64 so, .int .i64 dm, .int .i64 ep]) w := by kernel_rfl
theorem look_start_1 (st so dm ep : Int) (w : World) : (method 329 96 (.agg #[.int .u8 1, .int .i64 st, .int .i64 so, .int .i64 dm, .int .i64 ep]) "treadwheel/algos.start").run Tryz.prog w = .ok (153, .agg #[.int .u8 1, .int .i64 st, .int .i64 so, .int .i64 dm, .int .i64 ep]) w := by kernel_rfl
theorem look_mayBe_2 (st so dm ep : Int) (w : World) : (method 329 100 (.agg #[.int .u8 2, .int .i64 st, .int .i64 so, .int .i64 dm, .int .i64 ep]) "treadwheel/algos.mayBe").run Tryz.prog w = .ok (173, .agg #[.int .u8 2, .int .i64 st, .int .i64 so, .int .i64 dm, .int .i64 ep]) w := by kernel_rfl
theorem look_start_2 (st so dm ep : Int) (w : World) : (method 329 100 (.agg #[.int .u8 2, .int .i64 st, .int .i64 so, .int .i64 dm, .int .i64 ep]) "treadwheel/algos.start").run Tryz.prog w = .ok (175, .agg #[.int .u8 2, .int .i64 st, .int .i64 so, .int .i64 dm, .int .i64 ep]) w := by kernel_rfl
theorem look_mayBe_3 (st so dm ep : Int) (w : World) : (method 329 101 (.agg #[.int .u8 3, .int .i64 st, .int .i64 so, .int .i64 dm, .int .i64 ep]) "treadwheel/algos.mayBe").run Tryz.prog w = .ok (200, .agg #[.int .u8 3, .int .i64 st, .int .i64 so, .int .i64 dm, .int .i64 ep]) w := by kernel_rfl
theorem look_start_3 (st so dm ep : Int) (w : World) : (method 329 101 (.agg #[.int .u8 3, .int .i64 st, .int .i64 so, .int .i64 dm, .int .i64 ep]) "treadwheel/algos.start").run Tryz.prog w = .ok (202, .agg #[.int .u8 3, .int .i64 st, .int .i64 so, .int .i64 dm, .int .i64 ep]) w := by kernel_rfl
theorem isFraction_any (a : Int) (w : World) : Calls Tryz.prog 158 #[.int .i64 a] w fun e w' => e = .returned (.bool (decide (0 ≤ a ∧ a ≤ 4294967296))) ∧ w = w' := by
  obtain ⟨r, hr⟩ : ∃ r, decide (0 ≤ a ∧ a ≤ 4294967296) = r := ⟨_, rfl⟩
  rw [hr]
  have HR := Lib.hid hr; clear hr
  by_cases h : 0 ≤ a
  · by_cases h2 : a ≤ 4294967296
    · have e0 : r = true := by rw [← HR.out]; exact decide_eq_true ⟨h, h2⟩
      subst e0
      go_enter Tryz.func158, Tryz.ntmps158
      go_wp2
      go_ret
      exact ⟨rfl, rfl⟩
    · have e0 : r = false := by rw [← HR.out]; exact decide_eq_false (fun g => h2 g.2)
      subst e0
      go_enter Tryz.func158, Tryz.ntmps158
      go_wp2
      go_ret
      exact ⟨rfl, rfl⟩
  · have e0 : r = false := by rw [← HR.out]; exact decide_eq_false (fun g => h g.1)
    subst e0
    go_enter Tryz.func158, Tryz.ntmps158
    go_wp2
    go_ret
    exact ⟨rfl, rfl⟩
def gotI (has : Bool) (x : Int) : Int := if has = true then max x 0 else 0
end Go.Proofs.YtkbmmlombigkmaaGreat.Al
