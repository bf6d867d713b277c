/-
  What is proved here: contracts of algos.programOf, and of the three programs' methods but send. Conditions: numbers fit an int where fixed asks it.
-/
import Derived.Test.YtdcaekmgfcpbmaaGreatQdAlM
import Derived.Test.YtdcaekmgfcpbmaaGreatQdMnT2x
import Derived.Test.YtdcaekmgfcpbmaaGreatQdRkW2x
namespace Go.Proofs.YtdcaekmgfcpbmaaGreat.Al
open Go.RowKit Gr Wd Ws Fx
theorem prog_no (k st so dm ep:Int) (h1:¬ k = 1) (h2:¬ k = 2) (h3:¬ k = 3) (w:World):Calls Tryz.prog 34 #[.agg #[.int .u8 k,.int .i64 st,.int .i64 so,.int .i64 dm,.int .i64 ep]] w fun e w' => e = .returned (.tuple #[.nilIface,.bool false])/\Below w.heap.size w w':=by
 have HB:=jH ((Below.refl _ w).alloc (Nat.le_refl _) (.cells #[.int .u8 k,.int .i64 st,.int .i64 so,.int .i64 dm,.int .i64 ep] 40))
 have b1:(k == 1) = false:=by simp [h1]
 have b2:(k == 2) = false:=by simp [h2]
 have b3:(k == 3) = false:=by simp [h3]
 go_enter Tryz.func34,Tryz.ntmps34
 go_wp2
 go_ret2
 exact ⟨rfl,HB.out⟩
theorem prog_1 (st so dm ep:Int) (w:World):Calls Tryz.prog 34 #[.agg #[.int .u8 1,.int .i64 st,.int .i64 so,.int .i64 dm,.int .i64 ep]] w fun e w' => e = .returned (.tuple #[.iface 96 (.agg #[.int .u8 1,.int .i64 st,.int .i64 so,.int .i64 dm,.int .i64 ep]),.bool true])/\Below w.heap.size w w':=by
 have HB:=jH ((Below.refl _ w).alloc (Nat.le_refl _) (.cells #[.int .u8 1,.int .i64 st,.int .i64 so,.int .i64 dm,.int .i64 ep] 40))
 go_enter Tryz.func34,Tryz.ntmps34
 go_wp2
 go_ret2
 exact ⟨rfl,HB.out⟩
theorem prog_2 (st so dm ep:Int) (w:World):Calls Tryz.prog 34 #[.agg #[.int .u8 2,.int .i64 st,.int .i64 so,.int .i64 dm,.int .i64 ep]] w fun e w' => e = .returned (.tuple #[.iface 100 (.agg #[.int .u8 2,.int .i64 st,.int .i64 so,.int .i64 dm,.int .i64 ep]),.bool true])/\Below w.heap.size w w':=by
 have HB:=jH ((Below.refl _ w).alloc (Nat.le_refl _) (.cells #[.int .u8 2,.int .i64 st,.int .i64 so,.int .i64 dm,.int .i64 ep] 40))
 go_enter Tryz.func34,Tryz.ntmps34
 go_wp2
 go_ret2
 exact ⟨rfl,HB.out⟩
theorem prog_3 (st so dm ep:Int) (w:World):Calls Tryz.prog 34 #[.agg #[.int .u8 3,.int .i64 st,.int .i64 so,.int .i64 dm,.int .i64 ep]] w fun e w' => e = .returned (.tuple #[.iface 101 (.agg #[.int .u8 3,.int .i64 st,.int .i64 so,.int .i64 dm,.int .i64 ep]),.bool true])/\Below w.heap.size w w':=by
 have HB:=jH ((Below.refl _ w).alloc (Nat.le_refl _) (.cells #[.int .u8 3,.int .i64 st,.int .i64 so,.int .i64 dm,.int .i64 ep] 40))
 go_enter Tryz.func34,Tryz.ntmps34
 go_wp2
 go_ret2
 exact ⟨rfl,HB.out⟩
theorem look_combine_1 (st so dm ep:Int) (w:World):(method 329 96 (.agg #[.int .u8 1,.int .i64 st,.int .i64 so,.int .i64 dm,.int .i64 ep]) "treadwheel/algos.combine").run Tryz.prog w = .ok (147,.agg #[.int .u8 1,.int .i64 st,.int .i64 so,.int .i64 dm,.int .i64 ep]) w:=by kernel_rfl
theorem look_compute_1 (st so dm ep:Int) (w:World):(method 329 96 (.agg #[.int .u8 1,.int .i64 st,.int .i64 so,.int .i64 dm,.int .i64 ep]) "treadwheel/algos.compute").run Tryz.prog w = .ok (148,.agg #[.int .u8 1,.int .i64 st,.int .i64 so,.int .i64 dm,.int .i64 ep]) w:=by kernel_rfl
theorem look_change_1 (st so dm ep:Int) (w:World):(method 329 96 (.agg #[.int .u8 1,.int .i64 st,.int .i64 so,.int .i64 dm,.int .i64 ep]) "treadwheel/algos.change").run Tryz.prog w = .ok (146,.agg #[.int .u8 1,.int .i64 st,.int .i64 so,.int .i64 dm,.int .i64 ep]) w:=by kernel_rfl
theorem look_joinChanges_1 (st so dm ep:Int) (w:World):(method 329 96 (.agg #[.int .u8 1,.int .i64 st,.int .i64 so,.int .i64 dm,.int .i64 ep]) "treadwheel/algos.joinChanges").run Tryz.prog w = .ok (149,.agg #[.int .u8 1,.int .i64 st,.int .i64 so,.int .i64 dm,.int .i64 ep]) w:=by kernel_rfl
theorem look_mayBe_1 (st so dm ep:Int) (w:World):(method 329 96 (.agg #[.int .u8 1,.int .i64 st,.int .i64 so,.int .i64 dm,.int .i64 ep]) "treadwheel/algos.mayBe").run Tryz.prog w = .ok (151,.agg #[.int .u8 1,.int .i64 st,.int .i64 so,.int .i64 dm,.int .i64 ep]) w:=by kernel_rfl
theorem look_send_1 (st so dm ep:Int) (w:World):(method 329 96 (.agg #[.int .u8 1,.int .i64 st,.int .i64 so,.int .i64 dm,.int .i64 ep]) "treadwheel/algos.send").run Tryz.prog w = .ok (152,.agg #[.int .u8 1,.int .i64 st,.int .i64 so,.int .i64 dm,.int .i64 ep]) w:=by kernel_rfl
theorem look_start_1 (st so dm ep:Int) (w:World):(method 329 96 (.agg #[.int .u8 1,.int .i64 st,.int .i64 so,.int .i64 dm,.int .i64 ep]) "treadwheel/algos.start").run Tryz.prog w = .ok (153,.agg #[.int .u8 1,.int .i64 st,.int .i64 so,.int .i64 dm,.int .i64 ep]) w:=by kernel_rfl
theorem look_still_1 (st so dm ep:Int) (w:World):(method 329 96 (.agg #[.int .u8 1,.int .i64 st,.int .i64 so,.int .i64 dm,.int .i64 ep]) "treadwheel/algos.still").run Tryz.prog w = .ok (154,.agg #[.int .u8 1,.int .i64 st,.int .i64 so,.int .i64 dm,.int .i64 ep]) w:=by kernel_rfl
theorem look_lost_1 (st so dm ep:Int) (w:World):(method 329 96 (.agg #[.int .u8 1,.int .i64 st,.int .i64 so,.int .i64 dm,.int .i64 ep]) "treadwheel/algos.lost").run Tryz.prog w = .ok (150,.agg #[.int .u8 1,.int .i64 st,.int .i64 so,.int .i64 dm,.int .i64 ep]) w:=by kernel_rfl
theorem look_combine_2 (st so dm ep:Int) (w:World):(method 329 100 (.agg #[.int .u8 2,.int .i64 st,.int .i64 so,.int .i64 dm,.int .i64 ep]) "treadwheel/algos.combine").run Tryz.prog w = .ok (169,.agg #[]) w:=by kernel_rfl
theorem look_compute_2 (st so dm ep:Int) (w:World):(method 329 100 (.agg #[.int .u8 2,.int .i64 st,.int .i64 so,.int .i64 dm,.int .i64 ep]) "treadwheel/algos.compute").run Tryz.prog w = .ok (172,.agg #[.int .u8 2,.int .i64 st,.int .i64 so,.int .i64 dm,.int .i64 ep]) w:=by kernel_rfl
theorem look_change_2 (st so dm ep:Int) (w:World):(method 329 100 (.agg #[.int .u8 2,.int .i64 st,.int .i64 so,.int .i64 dm,.int .i64 ep]) "treadwheel/algos.change").run Tryz.prog w = .ok (168,.agg #[]) w:=by kernel_rfl
theorem look_joinChanges_2 (st so dm ep:Int) (w:World):(method 329 100 (.agg #[.int .u8 2,.int .i64 st,.int .i64 so,.int .i64 dm,.int .i64 ep]) "treadwheel/algos.joinChanges").run Tryz.prog w = .ok (170,.agg #[]) w:=by kernel_rfl
theorem look_mayBe_2 (st so dm ep:Int) (w:World):(method 329 100 (.agg #[.int .u8 2,.int .i64 st,.int .i64 so,.int .i64 dm,.int .i64 ep]) "treadwheel/algos.mayBe").run Tryz.prog w = .ok (173,.agg #[.int .u8 2,.int .i64 st,.int .i64 so,.int .i64 dm,.int .i64 ep]) w:=by kernel_rfl
theorem look_send_2 (st so dm ep:Int) (w:World):(method 329 100 (.agg #[.int .u8 2,.int .i64 st,.int .i64 so,.int .i64 dm,.int .i64 ep]) "treadwheel/algos.send").run Tryz.prog w = .ok (174,.agg #[.int .u8 2,.int .i64 st,.int .i64 so,.int .i64 dm,.int .i64 ep]) w:=by kernel_rfl
theorem look_start_2 (st so dm ep:Int) (w:World):(method 329 100 (.agg #[.int .u8 2,.int .i64 st,.int .i64 so,.int .i64 dm,.int .i64 ep]) "treadwheel/algos.start").run Tryz.prog w = .ok (175,.agg #[.int .u8 2,.int .i64 st,.int .i64 so,.int .i64 dm,.int .i64 ep]) w:=by kernel_rfl
theorem look_still_2 (st so dm ep:Int) (w:World):(method 329 100 (.agg #[.int .u8 2,.int .i64 st,.int .i64 so,.int .i64 dm,.int .i64 ep]) "treadwheel/algos.still").run Tryz.prog w = .ok (171,.agg #[]) w:=by kernel_rfl
theorem look_combine_3 (st so dm ep:Int) (w:World):(method 329 101 (.agg #[.int .u8 3,.int .i64 st,.int .i64 so,.int .i64 dm,.int .i64 ep]) "treadwheel/algos.combine").run Tryz.prog w = .ok (169,.agg #[]) w:=by kernel_rfl
theorem look_compute_3 (st so dm ep:Int) (w:World):(method 329 101 (.agg #[.int .u8 3,.int .i64 st,.int .i64 so,.int .i64 dm,.int .i64 ep]) "treadwheel/algos.compute").run Tryz.prog w = .ok (199,.agg #[.int .u8 3,.int .i64 st,.int .i64 so,.int .i64 dm,.int .i64 ep]) w:=by kernel_rfl
theorem look_change_3 (st so dm ep:Int) (w:World):(method 329 101 (.agg #[.int .u8 3,.int .i64 st,.int .i64 so,.int .i64 dm,.int .i64 ep]) "treadwheel/algos.change").run Tryz.prog w = .ok (168,.agg #[]) w:=by kernel_rfl
theorem look_joinChanges_3 (st so dm ep:Int) (w:World):(method 329 101 (.agg #[.int .u8 3,.int .i64 st,.int .i64 so,.int .i64 dm,.int .i64 ep]) "treadwheel/algos.joinChanges").run Tryz.prog w = .ok (170,.agg #[]) w:=by kernel_rfl
theorem look_mayBe_3 (st so dm ep:Int) (w:World):(method 329 101 (.agg #[.int .u8 3,.int .i64 st,.int .i64 so,.int .i64 dm,.int .i64 ep]) "treadwheel/algos.mayBe").run Tryz.prog w = .ok (200,.agg #[.int .u8 3,.int .i64 st,.int .i64 so,.int .i64 dm,.int .i64 ep]) w:=by kernel_rfl
theorem look_send_3 (st so dm ep:Int) (w:World):(method 329 101 (.agg #[.int .u8 3,.int .i64 st,.int .i64 so,.int .i64 dm,.int .i64 ep]) "treadwheel/algos.send").run Tryz.prog w = .ok (201,.agg #[.int .u8 3,.int .i64 st,.int .i64 so,.int .i64 dm,.int .i64 ep]) w:=by kernel_rfl
theorem look_start_3 (st so dm ep:Int) (w:World):(method 329 101 (.agg #[.int .u8 3,.int .i64 st,.int .i64 so,.int .i64 dm,.int .i64 ep]) "treadwheel/algos.start").run Tryz.prog w = .ok (202,.agg #[.int .u8 3,.int .i64 st,.int .i64 so,.int .i64 dm,.int .i64 ep]) w:=by kernel_rfl
theorem look_still_3 (st so dm ep:Int) (w:World):(method 329 101 (.agg #[.int .u8 3,.int .i64 st,.int .i64 so,.int .i64 dm,.int .i64 ep]) "treadwheel/algos.still").run Tryz.prog w = .ok (171,.agg #[]) w:=by kernel_rfl
theorem comb_ranks (k st so dm ep a b:Int) (w:World):Calls Tryz.prog 147 #[.agg #[.int .u8 k,.int .i64 st,.int .i64 so,.int .i64 dm,.int .i64 ep],.int .i64 a,.int .i64 b] w fun e w' => e = .returned (.int .i64 (addI a b))/\Below w.heap.size w w':=by
 have HB:=jH ((Below.refl _ w).alloc (Nat.le_refl _) (.cells #[.int .u8 k,.int .i64 st,.int .i64 so,.int .i64 dm,.int .i64 ep] 96))
 go_enter Tryz.func147,Tryz.ntmps147
 go_wp2_with fail
 refine (Pa.add_of a b _).mono ?_
 rintro e w' ⟨rfl,rfl⟩
 go_wp2
 go_ret
 exact ⟨rfl,HB.out⟩
theorem comb_least (a b:Int) (w:World):Calls Tryz.prog 169 #[.agg #[],.int .i64 a,.int .i64 b] w fun e w' => e = .returned (.int .i64 (min a b))/\Below w.heap.size w w':=by
 have HB:=jH ((Below.refl _ w).alloc (Nat.le_refl _) (.cells #[] 98))
 by_cases h:a < b
 ·go_enter Tryz.func169,Tryz.ntmps169
  go_wp2
  all_goals (try (exfalso; omega))
  all_goals (go_ret; exact ⟨Fx.ret_int (by omega),HB.out⟩)
 ·go_enter Tryz.func169,Tryz.ntmps169
  go_wp2
  all_goals (try (exfalso; omega))
  all_goals (go_ret; exact ⟨Fx.ret_int (by omega),HB.out⟩)
theorem change_ranks (k st so dm ep a b:Int) (c:Bool) (w:World) (h0:-9223372036854775808 <= a) (h1:a <= 9223372036854775807) (h2:-9223372036854775808 <= b) (h3:b <= 9223372036854775807):Calls Tryz.prog 146 #[.agg #[.int .u8 k,.int .i64 st,.int .i64 so,.int .i64 dm,.int .i64 ep],.int .i64 a,.int .i64 b,.bool c] w fun e w' => e = .returned (.int .i64 (apt a b))/\Below w.heap.size w w':=by
 have HB:=jH ((Below.refl _ w).alloc (Nat.le_refl _) (.cells #[.int .u8 k,.int .i64 st,.int .i64 so,.int .i64 dm,.int .i64 ep] 96))
 go_enter Tryz.func146,Tryz.ntmps146
 go_wp2_with fail
 refine (Fx.apart_any a b _ h0 h1 h2 h3).mono ?_
 rintro e w' ⟨rfl,rfl⟩
 go_wp2
 go_ret
 exact ⟨rfl,HB.out⟩
theorem change_least (a b:Int) (c:Bool) (w:World):Calls Tryz.prog 168 #[.agg #[],.int .i64 a,.int .i64 b,.bool c] w fun e w' => e = .returned (.int .i64 (if c = true then 1 else 0))/\Below w.heap.size w w':=by
 have HB:=jH ((Below.refl _ w).alloc (Nat.le_refl _) (.cells #[] 98))
 cases c
 ·go_enter Tryz.func168,Tryz.ntmps168
  go_wp2
  go_ret
  exact ⟨rfl,HB.out⟩
 ·go_enter Tryz.func168,Tryz.ntmps168
  go_wp2
  go_ret
  exact ⟨rfl,HB.out⟩
theorem joinc_ranks (k st so dm ep a b:Int) (w:World):Calls Tryz.prog 149 #[.agg #[.int .u8 k,.int .i64 st,.int .i64 so,.int .i64 dm,.int .i64 ep],.int .i64 a,.int .i64 b] w fun e w' => e = .returned (.int .i64 (max a b))/\Below w.heap.size w w':=by
 have HB:=jH ((Below.refl _ w).alloc (Nat.le_refl _) (.cells #[.int .u8 k,.int .i64 st,.int .i64 so,.int .i64 dm,.int .i64 ep] 96))
 by_cases h:a < b
 ·go_enter Tryz.func149,Tryz.ntmps149
  go_wp2
  all_goals (try (exfalso; omega))
  all_goals (go_ret; exact ⟨Fx.ret_int (by omega),HB.out⟩)
 ·go_enter Tryz.func149,Tryz.ntmps149
  go_wp2
  all_goals (try (exfalso; omega))
  all_goals (go_ret; exact ⟨Fx.ret_int (by omega),HB.out⟩)
theorem joinc_least (a b:Int) (w:World):Calls Tryz.prog 170 #[.agg #[],.int .i64 a,.int .i64 b] w fun e w' => e = .returned (.int .i64 (addI a b))/\Below w.heap.size w w':=by
 have HB:=jH ((Below.refl _ w).alloc (Nat.le_refl _) (.cells #[] 98))
 go_enter Tryz.func170,Tryz.ntmps170
 go_wp2_with fail
 refine (Pa.add_of a b _).mono ?_
 rintro e w' ⟨rfl,rfl⟩
 go_wp2
 go_ret
 exact ⟨rfl,HB.out⟩
theorem still_ranks (k st so dm ep:Int) (w:World):Calls Tryz.prog 154 #[.agg #[.int .u8 k,.int .i64 st,.int .i64 so,.int .i64 dm,.int .i64 ep]] w fun e w' => e = .returned (.int .i64 ep)/\Below w.heap.size w w':=by
 have HB:=jH ((Below.refl _ w).alloc (Nat.le_refl _) (.cells #[.int .u8 k,.int .i64 st,.int .i64 so,.int .i64 dm,.int .i64 ep] 96))
 go_enter Tryz.func154,Tryz.ntmps154
 go_wp2
 go_ret
 exact ⟨rfl,HB.out⟩
theorem still_least (w:World):Calls Tryz.prog 171 #[.agg #[]] w fun e w' => e = .returned (.int .i64 0)/\Below w.heap.size w w':=by
 have HB:=jH ((Below.refl _ w).alloc (Nat.le_refl _) (.cells #[] 98))
 go_enter Tryz.func171,Tryz.ntmps171
 go_wp2
 go_ret
 exact ⟨rfl,HB.out⟩
theorem lost_ranks (k st so dm ep v:Int) (A:Option Addr) (n c:Nat) (w:World):Calls Tryz.prog 150 #[.agg #[.int .u8 k,.int .i64 st,.int .i64 so,.int .i64 dm,.int .i64 ep],.int .i64 v,.slice A n c] w fun e w' => e = .returned (.int .i64 (if n = 0 then max v 0 else 0))/\Below w.heap.size w w':=by
 have HB:=jH ((Below.refl _ w).alloc (Nat.le_refl _) (.cells #[.int .u8 k,.int .i64 st,.int .i64 so,.int .i64 dm,.int .i64 ep] 96))
 obtain ⟨r,hr⟩:∃ r,(if n = 0 then max v 0 else 0) = r:=⟨_,rfl⟩
 rw [hr]
 have HR:=jH hr; clear hr
 by_cases h:0 < n
 ·have e0:r = 0:=by rw [<- HR.out,if_neg (by omega)]
  subst e0
  go_enter Tryz.func150,Tryz.ntmps150
  go_wp2
  go_ret
  exact ⟨rfl,HB.out⟩
 ·have e0:r = max v 0:=by rw [<- HR.out,if_pos (by omega)]
  clear HR
  by_cases hv:v < 0
  ·go_enter Tryz.func150,Tryz.ntmps150
   go_wp2
   all_goals (try (exfalso; omega))
   all_goals (go_ret; exact ⟨Fx.ret_int (by omega),HB.out⟩)
  ·go_enter Tryz.func150,Tryz.ntmps150
   go_wp2
   all_goals (try (exfalso; omega))
   all_goals (go_ret; exact ⟨Fx.ret_int (by omega),HB.out⟩)
theorem isFraction_any (a:Int) (w:World):Calls Tryz.prog 158 #[.int .i64 a] w fun e w' => e = .returned (.bool (decide (0 <= a/\a <= 4294967296)))/\w = w':=by
 obtain ⟨r,hr⟩:∃ r,decide (0 <= a/\a <= 4294967296) = r:=⟨_,rfl⟩
 rw [hr]
 have HR:=jH hr; clear hr
 by_cases h:0 <= a
 ·by_cases h2:a <= 4294967296
  ·have e0:r = true:=by rw [<- HR.out]; exact decide_eq_true ⟨h,h2⟩
   subst e0
   go_enter Tryz.func158,Tryz.ntmps158
   go_wp2
   go_ret
   exact ⟨rfl,rfl⟩
  ·have e0:r = false:=by rw [<- HR.out]; exact decide_eq_false (fun g => h2 g.2)
   subst e0
   go_enter Tryz.func158,Tryz.ntmps158
   go_wp2
   go_ret
   exact ⟨rfl,rfl⟩
 ·have e0:r = false:=by rw [<- HR.out]; exact decide_eq_false (fun g => h g.1)
  subst e0
  go_enter Tryz.func158,Tryz.ntmps158
  go_wp2
  go_ret
  exact ⟨rfl,rfl⟩
def gotI (has:Bool) (x:Int):Int:=if has = true then max x 0 else 0
theorem sentTo_any (has:Bool) (x:Int) (w:World):Calls Tryz.prog 157 #[.agg #[.bool has,.int .i64 x]] w fun e w' => e = .returned (.int .i64 (gotI has x))/\Below w.heap.size w w':=by
 have HB:=jH ((Below.refl _ w).alloc (Nat.le_refl _) (.cells #[.bool has,.int .i64 x] 114))
 obtain ⟨r,hr⟩:∃ r,gotI has x = r:=⟨_,rfl⟩
 rw [hr]
 have HR:=jH hr; clear hr
 cases has
 ·have e0:r = 0:=HR.out.symm
  subst e0
  go_enter Tryz.func157,Tryz.ntmps157
  go_wp2
  go_ret
  exact ⟨rfl,HB.out⟩
 ·have e0:r = max x 0:=HR.out.symm
  clear HR
  by_cases hv:x < 0
  ·go_enter Tryz.func157,Tryz.ntmps157
   go_wp2
   all_goals (try (exfalso; omega))
   all_goals (go_ret; exact ⟨Fx.ret_int (by omega),HB.out⟩)
  ·go_enter Tryz.func157,Tryz.ntmps157
   go_wp2
   all_goals (try (exfalso; omega))
   all_goals (go_ret; exact ⟨Fx.ret_int (by omega),HB.out⟩)
end Go.Proofs.YtdcaekmgfcpbmaaGreat.Al
