/-
  What is proved here: contracts of fields.copied, fields.width, fields.hang, fields.putNumber and of a Writer's methods: what is put stands behind all that was put. Conditions: what is put fits an int.
-/
import Derived.Test.YtfbfckdabbaocaaQbFMem
import Derived.Lib.BitFns
import Derived.Lib.Walk
namespace Go.Proofs.Ytfbfckdabbaocaa.Fd
open Go.RowKit
theorem splice_full (n : Nat) (l : List Nat) (h : l.length = n) : splice (vals (List.replicate n 0)) 0 (vals l) = vals l := by
  unfold splice
  rw [List.take_zero, List.nil_append, Nat.zero_add, vals_length, h, List.drop_eq_nil_of_le (by rw [vals_length]; simp), List.append_nil]
set_option maxHeartbeats 400000 in
theorem copied_at (A : Option Addr) (c : Nat) (l : List Nat) (w : World) (hn : l.length ≤ 140737488355328) (hl : At w A l) :
    Calls Try.prog 64 #[.slice A l.length c] w fun e w' => e = .returned (.slice (some ⟨w.heap.size, 0, none⟩) l.length l.length) ∧ Row w' w.heap.size l ∧ Below w.heap.size w w' := by
  have HL := Lib.hid hl; clear hl
  have hmk := fun W => run_make_row' (P := Try.prog) 30 5 (.int .u8 0) 1 Try.underlying30 info5 rfl .i64 .i64 l.length (by omega) (by omega) W
  go_enter Try.func64, Try.ntmps64
  go_wp2_with (refine wpList_copy_splice rfl (.tmp 7) (.tmp 8) 30 30 rfl 5 Try.underlying30 size5 _ _ _ _ _ _ rfl rfl w.heap.size 0 (vals (List.replicate l.length 0)) 5 ?c1 (vals l) ?c2 ?c3 ?c4 (vals_one _) w.heap.size w ?c5 (Nat.le_refl _) ?_)
  case c1 => exact Row.made w l.length
  case c2 => rw [vals_length]; exact (Nat.min_self _).symm
  case c3 =>
    intro hp
    rcases A with _ | ad
    · rw [HL.out.none_] at hp; simp [vals] at hp
    · refine ⟨ad, rfl, fun j u hu => ?_⟩
      have := HL.out.vals j u hu
      exact ((Below.refl _ w).alloc (Nat.le_refl _) _).cell (block_lt_of_cell this) |>.trans this
  case c4 => simp [vals_length]
  case c5 => exact (Below.refl _ w).alloc (Nat.le_refl _) _
  intro w2 HG2 hB2
  have HB := Lib.hid hB2; clear hB2
  go_wp2
  go_ret
  refine ⟨rfl, ?_, HB.out⟩
  have := HG2.out; rw [splice_full _ l rfl] at this; exact this
set_option maxRecDepth 100000 in
set_option maxHeartbeats 1000000 in
theorem len_8 (x : Int) (w : World) (h0 : 0 ≤ x) (h1 : x < 256) (h : Hid (x = 255)) :
    Calls Try.prog 81 #[.int .u64 x] w fun e w' => e = .returned (.int .i64 8) ∧ w = w' := by
  have hi : ∀ w : World, (Instr.index 9 (.string Lib.len8tab) (.int .u8 (x))).run Try.prog w = .ok (.int .u8 8) w := by rw [h.out]; exact fun _ => by kernel_rfl
  go_enter Try.func81, Try.ntmps81
  go_wp2
  go_ret
  exact ⟨rfl, rfl⟩
set_option maxRecDepth 100000 in
set_option maxHeartbeats 1000000 in
theorem len_16 (x : Int) (w : World) (h0 : 256 ≤ x) (h1 : x < 65536) (h : Hid (x = 65535)) :
    Calls Try.prog 81 #[.int .u64 x] w fun e w' => e = .returned (.int .i64 16) ∧ w = w' := by
  have hi : ∀ w : World, (Instr.index 9 (.string Lib.len8tab) (.int .u8 (x / 256))).run Try.prog w = .ok (.int .u8 8) w := by rw [h.out]; exact fun _ => by kernel_rfl
  go_enter Try.func81, Try.ntmps81
  go_wp2
  go_ret
  exact ⟨rfl, rfl⟩
set_option maxRecDepth 100000 in
set_option maxHeartbeats 1000000 in
theorem len_32 (x : Int) (w : World) (h0 : 16777216 ≤ x) (h1 : x < 4294967296) (h : Hid (x = 4294967295)) :
    Calls Try.prog 81 #[.int .u64 x] w fun e w' => e = .returned (.int .i64 32) ∧ w = w' := by
  have hi : ∀ w : World, (Instr.index 9 (.string Lib.len8tab) (.int .u8 (x / 65536 / 256))).run Try.prog w = .ok (.int .u8 8) w := by rw [h.out]; exact fun _ => by kernel_rfl
  go_enter Try.func81, Try.ntmps81
  go_wp2
  go_ret
  exact ⟨rfl, rfl⟩
set_option maxRecDepth 100000 in
set_option maxHeartbeats 1000000 in
theorem len_64 (x : Int) (w : World) (h0 : 72057594037927936 ≤ x) (h1 : x < 18446744073709551616) (h : Hid (x = 18446744073709551615)) :
    Calls Try.prog 81 #[.int .u64 x] w fun e w' => e = .returned (.int .i64 64) ∧ w = w' := by
  have hi : ∀ w : World, (Instr.index 9 (.string Lib.len8tab) (.int .u8 (x / 4294967296 / 65536 / 256))).run Try.prog w = .ok (.int .u8 8) w := by rw [h.out]; exact fun _ => by kernel_rfl
  go_enter Try.func81, Try.ntmps81
  go_wp2
  go_ret
  exact ⟨rfl, rfl⟩
set_option maxHeartbeats 1000000 in
theorem width8 (w : World) : Calls Try.prog 78 #[] w fun e w' => e = .returned (.int .i64 1) ∧ w = w' := by
  go_enter Try.func78, Try.ntmps78
  go_wp2_with fail
  refine (len_8 _ _ (by decide) (by decide) rfl).mono ?_
  rintro e w' ⟨rfl, rfl⟩
  go_wp2
  go_ret
  exact ⟨rfl, rfl⟩
set_option maxHeartbeats 1000000 in
theorem width16 (w : World) : Calls Try.prog 76 #[] w fun e w' => e = .returned (.int .i64 2) ∧ w = w' := by
  go_enter Try.func76, Try.ntmps76
  go_wp2_with fail
  refine (len_16 _ _ (by decide) (by decide) rfl).mono ?_
  rintro e w' ⟨rfl, rfl⟩
  go_wp2
  go_ret
  exact ⟨rfl, rfl⟩
set_option maxHeartbeats 1000000 in
theorem width32 (w : World) : Calls Try.prog 74 #[] w fun e w' => e = .returned (.int .i64 4) ∧ w = w' := by
  go_enter Try.func74, Try.ntmps74
  go_wp2_with fail
  refine (len_32 _ _ (by decide) (by decide) rfl).mono ?_
  rintro e w' ⟨rfl, rfl⟩
  go_wp2
  go_ret
  exact ⟨rfl, rfl⟩
set_option maxHeartbeats 1000000 in
theorem width64 (w : World) : Calls Try.prog 77 #[] w fun e w' => e = .returned (.int .i64 8) ∧ w = w' := by
  go_enter Try.func77, Try.ntmps77
  go_wp2_with fail
  refine (len_64 _ _ (by decide) (by decide) rfl).mono ?_
  rintro e w' ⟨rfl, rfl⟩
  go_wp2
  go_ret
  exact ⟨rfl, rfl⟩
theorem three_cell (w : World) (b : Nat) (x y z : Value) (t : TypeId) (h : w.heap[b]? = some (.cells #[x, y, z] t (0, 0))) :
    w.cell? ⟨b, 0, none⟩ = some x ∧ w.cell? ⟨b, 1, none⟩ = some y ∧ w.cell? ⟨b, 2, none⟩ = some z :=
  ⟨cell_of_row w b 0 _ t (0, 0) h, cell_of_row w b 1 _ t (0, 0) h, cell_of_row w b 2 _ t (0, 0) h⟩
set_option maxHeartbeats 1000000 in
theorem hang_any (lo b g : Nat) (l x : List Nat) (w : World) (h : Wr w lo b l) (hr : Row w g x) (hg : lo ≤ g) (hx : ∀ y ∈ x, y < 256) (hlo : lo ≤ w.heap.size) (hn : l.length + x.length ≤ 9223372036854775807) :
    Calls Try.prog 75 #[.pointer (some ⟨b, 0, none⟩), .slice (some ⟨g, 0, none⟩) x.length x.length] w fun e w' => e = .returned (.tuple #[]) ∧ Wr w' lo b (l ++ x) ∧ w.grownBy w' (some b) := by
  have hlt := h.lt
  obtain ⟨h0, p, ps, h1, h2, h3⟩ := h
  have hc := cell_of_one h1
  have hf := free_of_one h1
  have H1 := Lib.hid h1; clear h1
  have HR := Lib.hid hr; clear hr
  have HX := Lib.hid hx; clear hx
  have hfin : ∀ (n : Int), n = (((l ++ x).length : Nat) : Int) →
      Wr ((w.setCell ⟨b, 0, none⟩ (.pointer (some ⟨w.heap.size, 0, none⟩))).alloc (.cells #[p, .slice (some ⟨g, 0, none⟩) x.length x.length, .int .i64 n] 105)) lo b (l ++ x) ∧
      w.grownBy ((w.setCell ⟨b, 0, none⟩ (.pointer (some ⟨w.heap.size, 0, none⟩))).alloc (.cells #[p, .slice (some ⟨g, 0, none⟩) x.length x.length, .int .i64 n] 105)) (some b) := by
    rintro n rfl
    have hgr := only_set (only_refl w (some b)) 0 (.pointer (some ⟨w.heap.size, 0, none⟩))
    have hgr2 := only_alloc hgr (.cells #[p, .slice (some ⟨g, 0, none⟩) x.length x.length, .int .i64 (((l ++ x).length : Nat) : Int)] 105 (0, 0))
    have hsz : (w.setCell ⟨b, 0, none⟩ (.pointer (some ⟨w.heap.size, 0, none⟩))).heap.size = w.heap.size := by simp [World.setCell]
    refine ⟨⟨h0, _, x :: ps, (Below.heap_alloc _ _ _ (by rw [hsz]; exact hlt)).trans (one_setCell H1.out), ?_, by rw [spell, h3]⟩, hgr2⟩
    refine ⟨w.heap.size, g, p, rfl, hlo, hg, ?_, ?_, HX.out, ?_⟩
    · have := heap_alloc_new (w.setCell ⟨b, 0, none⟩ (.pointer (some ⟨w.heap.size, 0, none⟩))) (.cells #[p, .slice (some ⟨g, 0, none⟩) x.length x.length, .int .i64 (((l ++ x).length : Nat) : Int)] 105 (0, 0))
      rw [hsz] at this
      rw [spell, h3]; exact this
    · exact HR.out.kept (hgr2.block g HR.out.lt (fun e => by injection e with e; omega))
    · exact h2.kept fun k hk hkl => hgr2.block k hkl (fun e => by injection e with e; omega)
  have HF := Lib.hid hfin; clear hfin
  cases ps with
  | nil =>
    obtain rfl : p = .pointer none := h2
    obtain rfl : l = [] := h3.symm
    clear h3
    go_enter Try.func75, Try.ntmps75
    go_wp2
    go_end0
    exact ⟨rfl, HF.out _ (by simp)⟩
  | cons y ys =>
    obtain ⟨pb, pg, ahead, rfl, k1, k2, k3, k4, k5, k6⟩ := h2
    rw [h3] at k3
    obtain ⟨c0, c1, c2⟩ := three_cell _ _ _ _ _ _ k3
    clear k1 k2 k3 k4 k5 k6 h3 c0 c1
    go_enter Try.func75, Try.ntmps75
    go_wp2
    go_end0
    exact ⟨rfl, HF.out _ (by rw [List.length_append]; omega)⟩
end Go.Proofs.Ytfbfckdabbaocaa.Fd
