/-
  What is proved here: words for rows of numbers in memory: of int64 that a call has made, and of uint32 and uint8 that can be read. No condition.
-/
import Derived.Test.YtjmbfngpaifheaaRkW3
import Derived.Laws.CopyOwn
import Derived.Deep.OwnRows
namespace Go.Proofs.Ytjmbfngpaifheaa.Rk
open Go.RowKit Fx

def qs (l : List Int) : List Value := l.map fun x => Value.int .i64 x
theorem qs_at (l : List Int) (k : Nat) : (qs l)[k]? = (l[k]?).map fun x => Value.int .i64 x := by simp [qs]
theorem qs_set (l : List Int) (k : Nat) (x : Int) : (qs l).set k (.int .i64 x) = qs (l.set k x) := by
  unfold qs; rw [List.map_set]
theorem qs_made (n : Nat) : madeCells #[Value.int .i64 0] n = (qs (List.replicate n 0)).toArray := by
  unfold madeCells qs
  apply Array.ext
  · simp
  · intro i h1 h2; simp [Nat.mod_one]
/- A block that is just these numbers. -/
def Mr (w : World) (g : Nat) (l : List Int) : Prop := w.heap[g]? = some (.cells (qs l).toArray 2 (0, 0))
theorem Mr.lt {w : World} {g : Nat} {l : List Int} (h : Mr w g l) : g < w.heap.size := lt_of_block h
theorem Mr.cell {w : World} {g : Nat} {l : List Int} (h : Mr w g l) (k : Nat) (x : Int) (hx : l[k]? = some x) : w.cell? ⟨g, k, none⟩ = some (.int .i64 x) := by
  rw [cell_of_row w g k _ 2 (0, 0) h, List.getElem?_toArray, qs_at, hx]; rfl
theorem Mr.free {w : World} {g : Nat} {l : List Int} (h : Mr w g l) (k : Nat) : w.frozen? ⟨g, k, none⟩ = false := frozen_of_row w g k _ 2 h
theorem Mr.set {w : World} {g : Nat} {l : List Int} (h : Mr w g l) (k : Nat) (x : Int) : Mr (w.setCell ⟨g, k, none⟩ (.int .i64 x)) g (l.set k x) := by
  have := heap_setCell_same w g k _ 2 (.int .i64 x) h
  unfold Mr
  rw [this, List.setIfInBounds_toArray, qs_set]
theorem Mr.made (w : World) (n : Nat) : Mr (w.alloc (.cells (madeCells #[.int .i64 0] n) 2)) w.heap.size (List.replicate n 0) := by
  unfold Mr; rw [heap_alloc_new, qs_made]
theorem Mr.below {w w' : World} {g : Nat} {l : List Int} (h : Mr w g l) (hb : Below w.heap.size w w') : Mr w' g l := (hb.block g h.lt).trans h

/- Slices that can be read. -/
def A32 (w : World) (A : Option Addr) (l : List Int) : Prop := ∀ (k : Nat) (x : Int), l[k]? = some x → 0 ≤ x ∧ x ≤ 4294967295 ∧ ∃ bk o, A = some ⟨bk, o, none⟩ ∧ w.cell? ⟨bk, o + k, none⟩ = some (.int .u32 x)
def A8 (w : World) (A : Option Addr) (l : List Int) : Prop := ∀ (k : Nat) (x : Int), l[k]? = some x → 0 ≤ x ∧ x ≤ 255 ∧ ∃ bk o, A = some ⟨bk, o, none⟩ ∧ w.cell? ⟨bk, o + k, none⟩ = some (.int .u8 x)
theorem A32.below {w w' : World} {A : Option Addr} {l : List Int} (h : A32 w A l) (hb : Below w.heap.size w w') : A32 w' A l := by
  intro k x hx
  obtain ⟨h0, h1, bk, o, hA, c⟩ := h k x hx
  exact ⟨h0, h1, bk, o, hA, (hb.cell (block_lt_of_cell c)).trans c⟩
theorem A8.below {w w' : World} {A : Option Addr} {l : List Int} (h : A8 w A l) (hb : Below w.heap.size w w') : A8 w' A l := by
  intro k x hx
  obtain ⟨h0, h1, bk, o, hA, c⟩ := h k x hx
  exact ⟨h0, h1, bk, o, hA, (hb.cell (block_lt_of_cell c)).trans c⟩
theorem infoQ : (Try.prog.info? 2).map (fun i => (i.zero, i.size, i.bytes)) = some (some (.int .i64 0), 1, 8) := by kernel_rfl
theorem getI {l : List Int} {k : Nat} (h : k < l.length) : ∃ x, l[k]? = some x := ⟨_, List.getElem?_eq_getElem h⟩
theorem make_q (n : Nat) (hn : n ≤ 1000000) (W : World) : (Instr.makeSlice 31 (.int .i64 (n : Int)) (.int .i64 (n : Int))).run Try.prog W = .ok (.slice (some ⟨W.heap.size, 0, none⟩) n n) (W.alloc (.cells (madeCells #[.int .i64 0] n) 2)) :=
  run_make_row' (P := Try.prog) 31 2 (.int .i64 0) 8 Try.underlying31 infoQ rfl .i64 .i64 n (by omega) (by omega) W

end Go.Proofs.Ytjmbfngpaifheaa.Rk
