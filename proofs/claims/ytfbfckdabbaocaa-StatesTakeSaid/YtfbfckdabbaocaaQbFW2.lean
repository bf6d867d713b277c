/-
  What is proved here: contracts of fields.putNumber, of a Writer's Byte, Short, Word, Long and Raw: what is put stands behind all that was put. Conditions: what is put fits an int.
-/
import Derived.Test.YtfbfckdabbaocaaQbFW1
namespace Go.Proofs.Ytfbfckdabbaocaa.Fd
open Go.RowKit
def PutRel (w : World) (all : List Nat) (wd g : Nat) (rest i : Value) (wr : World) : Prop :=
  ∃ (n : Nat) (low : List Nat) (I : Int), rest = .int .u64 (n : Int) ∧ i = .int .i64 I ∧ I + 1 = (g : Int) ∧ n < 18446744073709551616 ∧ low.length + g = wd ∧ Row wr w.heap.size (Fld.fill g low) ∧ Fld.dg g n ++ low = all ∧ Below w.heap.size w wr
theorem put_step {w wr : World} {all low : List Nat} {wd k n : Nat} (hn : n < 18446744073709551616) (hl : low.length + (k + 1) = wd) (hr : Row wr w.heap.size (Fld.fill (k + 1) low)) (hd : Fld.dg (k + 1) n ++ low = all) (hb : Below w.heap.size w wr) (I : Int) (hI : I + 1 = (k : Int)) :
    PutRel w all wd k (.int .u64 ((n : Int) / 256)) (.int .i64 I) (wr.setCell ⟨w.heap.size, k, none⟩ (.int .u8 ((n : Int) % 256))) := by
  refine ⟨n / 256, n % 256 :: low, I, by rw [Int.natCast_ediv]; rfl, rfl, hI, by omega, by simp; omega, ?_, Fld.fill_step k n low all hd, hb.setCell (p := ⟨w.heap.size, k, none⟩) (Nat.le_refl _) _⟩
  have := hr.set k (n % 256)
  rw [Fld.fill_set, Int.natCast_emod] at this
  exact this
theorem put_cell {wr : World} {T k : Nat} {low : List Nat} (hr : Row wr T (Fld.fill (k + 1) low)) : ∃ u, wr.cell? ⟨T, k, none⟩ = some (.int .u8 u) ∧ wr.frozen? ⟨T, k, none⟩ = false := by
  have hlt : k < (Fld.fill (k + 1) low).length := by rw [Fld.fill_length]; omega
  exact ⟨_, hr.cell k _ (List.getElem?_eq_getElem hlt), hr.free k⟩
theorem put_end {w wr : World} {all low : List Nat} {wd n : Nat} (hl : low.length + 0 = wd) (hr : Row wr w.heap.size (Fld.fill 0 low)) (hd : Fld.dg 0 n ++ low = all) : Row wr w.heap.size all ∧ all.length = wd := by
  have e : low = all := by simpa [Fld.dg] using hd
  subst e
  refine ⟨?_, by omega⟩
  have : Fld.fill 0 low = low := by simp [Fld.fill]
  rw [this] at hr; exact hr
set_option maxHeartbeats 1000000 in
theorem put8 (lo b n : Nat) (l : List Nat) (w : World) (h : Wr w lo b l) (hn : n < 256) (hlo : lo ≤ w.heap.size) (hm : l.length + 1 ≤ 9223372036854775807) :
    Calls Try.prog 61 #[.pointer (some ⟨b, 0, none⟩), .int .u8 (n : Int)] w fun e w' => e = .returned (.tuple #[]) ∧ Wr w' lo b (l ++ Fld.dg 1 n) ∧ w.grownBy w' (some b) := by
  have hblt := h.lt
  have HW := Lib.hid h; clear h
  have hmk : ∀ W : World, (Instr.makeSlice 30 (.int .i64 1) (.int .i64 1)).run Try.prog W = .ok (.slice (some ⟨W.heap.size, 0, none⟩) 1 1) (W.alloc (.cells (madeCells #[.int .u8 0] 1) 5)) :=
    fun W => run_make_row' (P := Try.prog) 30 5 (.int .u8 0) 1 Try.underlying30 info5 rfl .i64 .i64 1 (by omega) (by omega) W
  have hz := Row.made w 1
  have HZ := Lib.hid hz; clear hz
  go_enter Try.func61, Try.ntmps61
  go_wp2_with fail
  refine (width8 _).mono ?_
  rintro e w' ⟨rfl, rfl⟩
  go_wp2
  clear hmk
  go_loopg [5, 6] 1 (fun g r i wr => PutRel w (Fld.dg 1 n) 1 g r i wr)
  case atStart => exact ⟨n, [], _, rfl, rfl, by omega, by omega, by simp, HZ.out, by simp, (Below.refl _ _).alloc (Nat.le_refl _) _⟩
  case round =>
    obtain ⟨m, low, I, rfl, rfl, hI, hm2, hl, hr, hd, hb⟩ := hrel
    rcases Nat.eq_zero_or_pos gk with hz | hz
    · subst hz
      obtain rfl : I = -1 := by omega
      obtain ⟨r1, r2⟩ := put_end hl hr hd
      clear hI hl hr hd
      have R1 := Lib.hid r1; clear r1
      have HB := Lib.hid hb; clear hb
      have HD := Lib.hid r2; clear r2
      have hsz : lo ≤ wr.heap.size := Nat.le_trans hlo HB.out.size
      go_wp2_with fail
      have hh := hang_any lo b w.heap.size l (Fld.dg 1 n) wr (HW.out.below HB.out) R1.out hlo (Fld.dg_lt _ _) hsz (by rw [HD.out]; exact hm)
      rw [HD.out] at hh
      refine hh.mono ?_
      rintro e w' ⟨rfl, hw, hg⟩
      have HW2 := Lib.hid hw; clear hw
      have HG2 := Lib.hid hg; clear hg hh
      go_wp2
      go_end0
      exact ⟨rfl, HW2.out, only_trans (only_of_below HB.out _) HG2.out⟩
    · obtain ⟨k, rfl⟩ : ∃ k, gk = k + 1 := ⟨gk - 1, by omega⟩
      obtain rfl : I = (k : Int) := by omega
      obtain ⟨u, hc, hf⟩ := put_cell hr
      have hk : k < 1 := by omega
      have HR := Lib.hid hr; clear hr
      have HD := Lib.hid hd; clear hd
      have HL := Lib.hid hl; clear hl
      have HB := Lib.hid hb; clear hb
      go_wp2
      go_roundg k
      case measure => omega
      case rel => exact put_step hm2 HL.out HR.out HD.out HB.out _ (by omega)
set_option maxHeartbeats 1000000 in
theorem put16 (lo b n : Nat) (l : List Nat) (w : World) (h : Wr w lo b l) (hn : n < 65536) (hlo : lo ≤ w.heap.size) (hm : l.length + 2 ≤ 9223372036854775807) :
    Calls Try.prog 59 #[.pointer (some ⟨b, 0, none⟩), .int .u16 (n : Int)] w fun e w' => e = .returned (.tuple #[]) ∧ Wr w' lo b (l ++ Fld.dg 2 n) ∧ w.grownBy w' (some b) := by
  have hblt := h.lt
  have HW := Lib.hid h; clear h
  have hmk : ∀ W : World, (Instr.makeSlice 30 (.int .i64 2) (.int .i64 2)).run Try.prog W = .ok (.slice (some ⟨W.heap.size, 0, none⟩) 2 2) (W.alloc (.cells (madeCells #[.int .u8 0] 2) 5)) :=
    fun W => run_make_row' (P := Try.prog) 30 5 (.int .u8 0) 1 Try.underlying30 info5 rfl .i64 .i64 2 (by omega) (by omega) W
  have hz := Row.made w 2
  have HZ := Lib.hid hz; clear hz
  go_enter Try.func59, Try.ntmps59
  go_wp2_with fail
  refine (width16 _).mono ?_
  rintro e w' ⟨rfl, rfl⟩
  go_wp2
  clear hmk
  go_loopg [5, 6] 2 (fun g r i wr => PutRel w (Fld.dg 2 n) 2 g r i wr)
  case atStart => exact ⟨n, [], _, rfl, rfl, by omega, by omega, by simp, HZ.out, by simp, (Below.refl _ _).alloc (Nat.le_refl _) _⟩
  case round =>
    obtain ⟨m, low, I, rfl, rfl, hI, hm2, hl, hr, hd, hb⟩ := hrel
    rcases Nat.eq_zero_or_pos gk with hz | hz
    · subst hz
      obtain rfl : I = -1 := by omega
      obtain ⟨r1, r2⟩ := put_end hl hr hd
      clear hI hl hr hd
      have R1 := Lib.hid r1; clear r1
      have HB := Lib.hid hb; clear hb
      have HD := Lib.hid r2; clear r2
      have hsz : lo ≤ wr.heap.size := Nat.le_trans hlo HB.out.size
      go_wp2_with fail
      have hh := hang_any lo b w.heap.size l (Fld.dg 2 n) wr (HW.out.below HB.out) R1.out hlo (Fld.dg_lt _ _) hsz (by rw [HD.out]; exact hm)
      rw [HD.out] at hh
      refine hh.mono ?_
      rintro e w' ⟨rfl, hw, hg⟩
      have HW2 := Lib.hid hw; clear hw
      have HG2 := Lib.hid hg; clear hg hh
      go_wp2
      go_end0
      exact ⟨rfl, HW2.out, only_trans (only_of_below HB.out _) HG2.out⟩
    · obtain ⟨k, rfl⟩ : ∃ k, gk = k + 1 := ⟨gk - 1, by omega⟩
      obtain rfl : I = (k : Int) := by omega
      obtain ⟨u, hc, hf⟩ := put_cell hr
      have hk : k < 2 := by omega
      have HR := Lib.hid hr; clear hr
      have HD := Lib.hid hd; clear hd
      have HL := Lib.hid hl; clear hl
      have HB := Lib.hid hb; clear hb
      go_wp2
      go_roundg k
      case measure => omega
      case rel => exact put_step hm2 HL.out HR.out HD.out HB.out _ (by omega)
set_option maxHeartbeats 1000000 in
theorem put32 (lo b n : Nat) (l : List Nat) (w : World) (h : Wr w lo b l) (hn : n < 4294967296) (hlo : lo ≤ w.heap.size) (hm : l.length + 4 ≤ 9223372036854775807) :
    Calls Try.prog 58 #[.pointer (some ⟨b, 0, none⟩), .int .u32 (n : Int)] w fun e w' => e = .returned (.tuple #[]) ∧ Wr w' lo b (l ++ Fld.dg 4 n) ∧ w.grownBy w' (some b) := by
  have hblt := h.lt
  have HW := Lib.hid h; clear h
  have hmk : ∀ W : World, (Instr.makeSlice 30 (.int .i64 4) (.int .i64 4)).run Try.prog W = .ok (.slice (some ⟨W.heap.size, 0, none⟩) 4 4) (W.alloc (.cells (madeCells #[.int .u8 0] 4) 5)) :=
    fun W => run_make_row' (P := Try.prog) 30 5 (.int .u8 0) 1 Try.underlying30 info5 rfl .i64 .i64 4 (by omega) (by omega) W
  have hz := Row.made w 4
  have HZ := Lib.hid hz; clear hz
  go_enter Try.func58, Try.ntmps58
  go_wp2_with fail
  refine (width32 _).mono ?_
  rintro e w' ⟨rfl, rfl⟩
  go_wp2
  clear hmk
  go_loopg [5, 6] 4 (fun g r i wr => PutRel w (Fld.dg 4 n) 4 g r i wr)
  case atStart => exact ⟨n, [], _, rfl, rfl, by omega, by omega, by simp, HZ.out, by simp, (Below.refl _ _).alloc (Nat.le_refl _) _⟩
  case round =>
    obtain ⟨m, low, I, rfl, rfl, hI, hm2, hl, hr, hd, hb⟩ := hrel
    rcases Nat.eq_zero_or_pos gk with hz | hz
    · subst hz
      obtain rfl : I = -1 := by omega
      obtain ⟨r1, r2⟩ := put_end hl hr hd
      clear hI hl hr hd
      have R1 := Lib.hid r1; clear r1
      have HB := Lib.hid hb; clear hb
      have HD := Lib.hid r2; clear r2
      have hsz : lo ≤ wr.heap.size := Nat.le_trans hlo HB.out.size
      go_wp2_with fail
      have hh := hang_any lo b w.heap.size l (Fld.dg 4 n) wr (HW.out.below HB.out) R1.out hlo (Fld.dg_lt _ _) hsz (by rw [HD.out]; exact hm)
      rw [HD.out] at hh
      refine hh.mono ?_
      rintro e w' ⟨rfl, hw, hg⟩
      have HW2 := Lib.hid hw; clear hw
      have HG2 := Lib.hid hg; clear hg hh
      go_wp2
      go_end0
      exact ⟨rfl, HW2.out, only_trans (only_of_below HB.out _) HG2.out⟩
    · obtain ⟨k, rfl⟩ : ∃ k, gk = k + 1 := ⟨gk - 1, by omega⟩
      obtain rfl : I = (k : Int) := by omega
      obtain ⟨u, hc, hf⟩ := put_cell hr
      have hk : k < 4 := by omega
      have HR := Lib.hid hr; clear hr
      have HD := Lib.hid hd; clear hd
      have HL := Lib.hid hl; clear hl
      have HB := Lib.hid hb; clear hb
      go_wp2
      go_roundg k
      case measure => omega
      case rel => exact put_step hm2 HL.out HR.out HD.out HB.out _ (by omega)
set_option maxHeartbeats 1000000 in
theorem put64 (lo b n : Nat) (l : List Nat) (w : World) (h : Wr w lo b l) (hn : n < 18446744073709551616) (hlo : lo ≤ w.heap.size) (hm : l.length + 8 ≤ 9223372036854775807) :
    Calls Try.prog 60 #[.pointer (some ⟨b, 0, none⟩), .int .u64 (n : Int)] w fun e w' => e = .returned (.tuple #[]) ∧ Wr w' lo b (l ++ Fld.dg 8 n) ∧ w.grownBy w' (some b) := by
  have hblt := h.lt
  have HW := Lib.hid h; clear h
  have hmk : ∀ W : World, (Instr.makeSlice 30 (.int .i64 8) (.int .i64 8)).run Try.prog W = .ok (.slice (some ⟨W.heap.size, 0, none⟩) 8 8) (W.alloc (.cells (madeCells #[.int .u8 0] 8) 5)) :=
    fun W => run_make_row' (P := Try.prog) 30 5 (.int .u8 0) 1 Try.underlying30 info5 rfl .i64 .i64 8 (by omega) (by omega) W
  have hz := Row.made w 8
  have HZ := Lib.hid hz; clear hz
  go_enter Try.func60, Try.ntmps60
  go_wp2_with fail
  refine (width64 _).mono ?_
  rintro e w' ⟨rfl, rfl⟩
  go_wp2
  clear hmk
  go_loopg [5, 6] 8 (fun g r i wr => PutRel w (Fld.dg 8 n) 8 g r i wr)
  case atStart => exact ⟨n, [], _, rfl, rfl, by omega, by omega, by simp, HZ.out, by simp, (Below.refl _ _).alloc (Nat.le_refl _) _⟩
  case round =>
    obtain ⟨m, low, I, rfl, rfl, hI, hm2, hl, hr, hd, hb⟩ := hrel
    rcases Nat.eq_zero_or_pos gk with hz | hz
    · subst hz
      obtain rfl : I = -1 := by omega
      obtain ⟨r1, r2⟩ := put_end hl hr hd
      clear hI hl hr hd
      have R1 := Lib.hid r1; clear r1
      have HB := Lib.hid hb; clear hb
      have HD := Lib.hid r2; clear r2
      have hsz : lo ≤ wr.heap.size := Nat.le_trans hlo HB.out.size
      go_wp2_with fail
      have hh := hang_any lo b w.heap.size l (Fld.dg 8 n) wr (HW.out.below HB.out) R1.out hlo (Fld.dg_lt _ _) hsz (by rw [HD.out]; exact hm)
      rw [HD.out] at hh
      refine hh.mono ?_
      rintro e w' ⟨rfl, hw, hg⟩
      have HW2 := Lib.hid hw; clear hw
      have HG2 := Lib.hid hg; clear hg hh
      go_wp2
      go_end0
      exact ⟨rfl, HW2.out, only_trans (only_of_below HB.out _) HG2.out⟩
    · obtain ⟨k, rfl⟩ : ∃ k, gk = k + 1 := ⟨gk - 1, by omega⟩
      obtain rfl : I = (k : Int) := by omega
      obtain ⟨u, hc, hf⟩ := put_cell hr
      have hk : k < 8 := by omega
      have HR := Lib.hid hr; clear hr
      have HD := Lib.hid hd; clear hd
      have HL := Lib.hid hl; clear hl
      have HB := Lib.hid hb; clear hb
      go_wp2
      go_roundg k
      case measure => omega
      case rel => exact put_step hm2 HL.out HR.out HD.out HB.out _ (by omega)
end Go.Proofs.Ytfbfckdabbaocaa.Fd
