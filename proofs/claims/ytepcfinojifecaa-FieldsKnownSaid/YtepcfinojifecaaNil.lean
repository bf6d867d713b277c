/-
  What is proved here: what a nil writer and a nil reader do: nothing is put, nothing is told. No condition.
-/
import Derived.Test.YtepcfinojifecaaW7
namespace Go.Proofs.Ytepcfinojifecaa
open Go.RowKit

set_option maxHeartbeats 400000 in
theorem hang_nil (v : Value) (w : World) : Calls Try.prog 41 #[.pointer none, v] w fun e w' => e = .returned (.tuple #[]) ∧ w = w' := by
  go_enter Try.func41, Try.ntmps41
  go_wp2
  exact bodyPost_ret (results_none rfl _ _ _) rfl ⟨rfl, rfl⟩
set_option maxHeartbeats 1000000 in
theorem put64_nil (n : Nat) (w : World) (hn : n < 18446744073709551616) :
    Calls Try.prog 37 #[.pointer none, .int .u64 (n : Int)] w fun e w' => e = .returned (.tuple #[]) ∧ Below w.heap.size w w' := by
  have hmk : ∀ W : World, (Instr.makeSlice 31 (.int .i64 8) (.int .i64 8)).run Try.prog W = .ok (.slice (some ⟨W.heap.size, 0, none⟩) 8 8) (W.alloc (.cells (madeCells #[.int .u8 0] 8) 5)) :=
    fun W => run_make_row' (P := Try.prog) 31 5 (.int .u8 0) 1 Try.underlying31 info5 rfl .i64 .i64 8 (by omega) (by omega) W
  have hz := Row.made w 8
  have HZ := Lib.hid hz; clear hz
  go_enter Try.func37, Try.ntmps37
  go_wp2_with fail
  refine (width64 _).mono ?_
  rintro e w' ⟨rfl, rfl⟩
  go_wp2
  clear hmk
  go_loopg [5, 6] 8 (fun g r i wr => PutRel w (Fld.dg 8 n) 8 g r i wr)
  case atStart => exact ⟨n, [], _, rfl, rfl, by omega, by omega, by simp, HZ.out, by simp, (Below.refl _ _).alloc (Nat.le_refl _) _⟩
  case round =>
    obtain ⟨m, low, I, rfl, rfl, hI, hm2, hl, hr, hd, hb⟩ := hrel
    rcases Nat.eq_zero_or_pos gk with hz | hz
    · subst hz
      obtain rfl : I = -1 := by omega
      clear hI hl hr hd
      have HB := Lib.hid hb; clear hb
      go_wp2_with fail
      refine (hang_nil _ _).mono ?_
      rintro e w' ⟨rfl, rfl⟩
      go_wp2
      go_end0
      exact ⟨rfl, HB.out⟩
    · obtain ⟨k, rfl⟩ : ∃ k, gk = k + 1 := ⟨gk - 1, by omega⟩
      obtain rfl : I = (k : Int) := by omega
      obtain ⟨u, hc, hf⟩ := put_cell hr
      have hk : k < 8 := by omega
      have HR := Lib.hid hr; clear hr
      have HD := Lib.hid hd; clear hd
      have HL := Lib.hid hl; clear hl
      have HB := Lib.hid hb; clear hb
      go_wp2
      go_roundg k
      case measure => omega
      case rel => exact put_step hm2 HL.out HR.out HD.out HB.out _ (by omega)
set_option maxHeartbeats 400000 in
theorem wr64_nil (q : Int) (n : Nat) (w : World) (hq : q = (n : Int)) (hn : n < 18446744073709551616) :
    Calls Try.prog 25 #[.pointer none, .int .u64 q] w fun e w' => e = .returned (.tuple #[]) ∧ Below w.heap.size w w' := by
  subst hq
  go_enter Try.func25, Try.ntmps25
  go_wp2_with fail
  refine (put64_nil n w hn).mono ?_
  rintro e w' ⟨rfl, hb⟩
  have HB := Lib.hid hb; clear hb
  go_wp2
  go_end0
  exact ⟨rfl, HB.out⟩
set_option maxHeartbeats 400000 in
theorem wrRaw_nil (A : Option Addr) (c n : Nat) (x : List Nat) (w : World) (hx : x.length = n) (h0 : 0 < n) (h1 : n ≤ 3000) (ha : At w A x) :
    Calls Try.prog 29 #[.pointer none, .slice A n c] w fun e w' => e = .returned (.tuple #[]) ∧ Below w.heap.size w w' := by
  subst hx
  have HA := Lib.hid ha; clear ha
  go_enter Try.func29, Try.ntmps29
  go_wp2_with fail
  refine (copied_at A c x w (by omega) HA.out).mono ?_
  rintro e w1 ⟨rfl, _, hb⟩
  have HB := Lib.hid hb; clear hb
  go_wp2_with fail
  refine (hang_nil _ _).mono ?_
  rintro e w' ⟨rfl, rfl⟩
  go_wp2
  go_end0
  exact ⟨rfl, HB.out⟩
set_option maxHeartbeats 1000000 in
theorem read8_nil (w : World) : Calls Try.prog 32 #[.pointer none] w fun e w' => e = .returned (.int .u8 0) ∧ w = w' := by
  go_enter Try.func32, Try.ntmps32
  go_wp2_with fail
  refine (width8 _).mono ?_
  rintro e w' ⟨rfl, rfl⟩
  go_wp2_with fail
  refine (take_nil _ _).mono ?_
  rintro e w' ⟨rfl, rfl⟩
  go_wp2
  go_loopg [3, 10] 0 (fun _ n i wr => n = .int .u64 0 ∧ i = .int .i64 0 ∧ w = wr)
  case atStart => exact ⟨rfl, rfl, rfl⟩
  case round =>
    obtain ⟨rfl, rfl, rfl⟩ := hrel
    go_wp2
    go_ret
    exact ⟨rfl, rfl⟩
set_option maxHeartbeats 400000 in
theorem rd8_nil (w : World) : Calls Try.prog 15 #[.pointer none] w fun e w' => e = .returned (.int .u8 0) ∧ w = w' := by
  go_enter Try.func15, Try.ntmps15
  go_wp2_with fail
  refine (read8_nil _).mono ?_
  rintro e w' ⟨rfl, rfl⟩
  go_wp2
  go_ret
  exact ⟨rfl, rfl⟩
set_option maxHeartbeats 1000000 in
theorem read64_nil (w : World) : Calls Try.prog 35 #[.pointer none] w fun e w' => e = .returned (.int .u64 0) ∧ w = w' := by
  go_enter Try.func35, Try.ntmps35
  go_wp2_with fail
  refine (width64 _).mono ?_
  rintro e w' ⟨rfl, rfl⟩
  go_wp2_with fail
  refine (take_nil _ _).mono ?_
  rintro e w' ⟨rfl, rfl⟩
  go_wp2
  go_loopg [3, 10] 0 (fun _ n i wr => n = .int .u64 0 ∧ i = .int .i64 0 ∧ w = wr)
  case atStart => exact ⟨rfl, rfl, rfl⟩
  case round =>
    obtain ⟨rfl, rfl, rfl⟩ := hrel
    go_wp2
    go_ret
    exact ⟨rfl, rfl⟩
set_option maxHeartbeats 400000 in
theorem rd64_nil (w : World) : Calls Try.prog 18 #[.pointer none] w fun e w' => e = .returned (.int .u64 0) ∧ w = w' := by
  go_enter Try.func18, Try.ntmps18
  go_wp2_with fail
  refine (read64_nil _).mono ?_
  rintro e w' ⟨rfl, rfl⟩
  go_wp2
  go_ret
  exact ⟨rfl, rfl⟩
set_option maxHeartbeats 400000 in
theorem rdRaw_nil (q : Int) (w : World) : Calls Try.prog 19 #[.pointer none, .int .i64 q] w fun e w' => e = .returned (.slice (some ⟨w.heap.size, 0, none⟩) 0 0) ∧ Below w.heap.size w w' := by
  go_enter Try.func19, Try.ntmps19
  go_wp2_with fail
  refine (take_nil _ _).mono ?_
  rintro e w' ⟨rfl, rfl⟩
  go_wp2_with fail
  refine (copied_at none 0 [] w (by simp) At.nil_).mono ?_
  rintro e w1 ⟨rfl, _, hb⟩
  have HB := Lib.hid hb; clear hb
  go_wp2
  go_ret
  exact ⟨rfl, HB.out⟩

end Go.Proofs.Ytepcfinojifecaa
