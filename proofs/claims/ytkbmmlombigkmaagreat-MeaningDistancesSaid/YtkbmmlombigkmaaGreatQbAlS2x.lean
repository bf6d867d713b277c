/-
  What is proved here: words for a row of messages while it is sorted; the contract of the library's swapRangeCmpFunc over it. Conditions: the row is one that the call has made. What is proved here: the contract of the library's rotateCmpFunc over a row of messages. Conditions: the row is one that the call has made.
-/
import Derived.Test.YtkbmmlombigkmaaGreatQbPtG2
import Derived.Test.YtkbmmlombigkmaaGreatQbAlSort
import Derived.Shelf.SlSortFuncK.RowK2
namespace Go.Proofs.YtkbmmlombigkmaaGreat.Al
open Go.RowKit Go.Sort Gr Wd Ws
def mc (m : Ms) : List Value := [.int .i64 m.1, .int .i64 m.2]
theorem mc_len (m : Ms) : (mc m).length = 2 := rfl
structure SWm (w0 w : World) (g N : Nat) (d : Array Ms) : Prop where
  holds : HoldsK mc 2 w g 0 d
  grown : w0.grownBy w (some g)
  row : ∃ cur, w.heap[g]? = some (.cells cur 155 (0, 0)) ∧ cur.size = N
  lt : g < w0.heap.size
theorem SWm.size {w0 w : World} {g N : Nat} {d : Array Ms} (h : SWm w0 w g N d) : w0.heap.size ≤ w.heap.size := h.grown.size
theorem grown_below {w w' : World} (h : Below w.heap.size w w') (r : Option Nat) : w.grownBy w' r := ⟨h.os, h.tape, h.output, h.size, fun i hi _ => h.block i hi⟩
theorem holdsK_heap {w w' : World} {g : Nat} {d : Array Ms} (h : HoldsK mc 2 w g 0 d) (e : w'.heap[g]? = w.heap[g]?) : HoldsK mc 2 w' g 0 d := by
  intro j hj
  obtain ⟨h1, h2⟩ := h j hj
  exact ⟨by unfold World.cell? at h1 ⊢; rw [e]; exact h1, by unfold World.frozen? at h2 ⊢; rw [e]; exact h2⟩
theorem SWm.below {w0 w w' : World} {g N : Nat} {d : Array Ms} (h : SWm w0 w g N d) (hb : Below w.heap.size w w') : SWm w0 w' g N d := by
  have e := hb.block g (Nat.lt_of_lt_of_le h.lt h.size)
  obtain ⟨cur, h1, h2⟩ := h.row
  exact ⟨holdsK_heap h.holds e, h.grown.trans (grown_below hb _), ⟨cur, e.trans h1, h2⟩, h.lt⟩
theorem grown_set (w : World) (a : Addr) (u : Value) : w.grownBy (w.setCell a u) (some a.block) :=
  ⟨rfl, rfl, rfl, by simp, fun i _ hi => heap_setCell_other w a i u (fun e => hi (by rw [e]))⟩
theorem grown_sets (g : Nat) : ∀ (vs : List Value) (o : Nat) (w : World), w.grownBy (w.setCells g o vs) (some g)
  | [], _, _ => ⟨rfl, rfl, rfl, Nat.le_refl _, fun _ _ _ => rfl⟩
  | v :: vs, o, w => (grown_set w ⟨g, o, none⟩ v).trans (grown_sets g vs (o + 1) _)
theorem row_sets (g N : Nat) : ∀ (vs : List Value) (o : Nat) (w : World), (∃ cur, w.heap[g]? = some (.cells cur 155 (0, 0)) ∧ cur.size = N) → ∃ cur, (w.setCells g o vs).heap[g]? = some (.cells cur 155 (0, 0)) ∧ cur.size = N
  | [], _, _, h => h
  | v :: vs, o, w, ⟨cur, h1, h2⟩ => row_sets g N vs (o + 1) _ ⟨_, heap_setCell_same w g o cur _ v h1, by simpa using h2⟩
theorem SWm.swap {w0 w : World} {g N : Nat} {d : Array Ms} (h : SWm w0 w g N d) (i j : Nat) (hi : i < d.size) (hj : j < d.size) :
    SWm w0 ((w.setCells g (0 + i * 2) (mc d[j]!)).setCells g (0 + j * 2) (mc d[i]!)) g N (swp d i j) := by
  have e := putRowK_swp mc 2 mc_len w g 0 d i j hi hj
  rw [putRowK_self mc 2 w g 0 d h.holds] at e
  refine ⟨?_, h.grown.trans ((grown_sets g _ _ _).trans (grown_sets g _ _ _)), row_sets g N _ _ _ (row_sets g N _ _ _ h.row), h.lt⟩
  rw [e]
  exact holdsK_putRowK mc 2 w g 0 d (swp d i j) h.holds (by rw [size_swp])
theorem SWm.cells {w0 w : World} {g N : Nat} {d : Array Ms} (h : SWm w0 w g N d) (i : Nat) (hi : i < d.size) :
    w.cell? ⟨g, i * 2, none⟩ = some (.int .i64 d[i]!.1) ∧ w.cell? ⟨g, i * 2 + 1, none⟩ = some (.int .i64 d[i]!.2) := by
  have h0 := (h.holds.cell hi (c := 0) (by omega)).1
  have h1 := (h.holds.cell hi (c := 1) (by omega)).1
  rw [Nat.zero_add] at h0 h1
  exact ⟨h0, h1⟩
theorem SWm.free {w0 w : World} {g N : Nat} {d : Array Ms} (h : SWm w0 w g N d) (j : Nat) : w.frozen? ⟨g, j, none⟩ = false := by
  obtain ⟨cur, h1, _⟩ := h.row
  exact Lib.frozen_of_heap h1 j
theorem SWm.start {w0 w : World} {g N : Nat} {d : Array Ms} (h : SWm w0 w g N d) : SWm w w g N d := ⟨h.holds, ⟨rfl, rfl, rfl, Nat.le_refl _, fun _ _ _ => rfl⟩, h.row, Nat.lt_of_lt_of_le h.lt h.size⟩
theorem SWm.on {w0 w w' : World} {g N : Nat} {d d' : Array Ms} (h : SWm w0 w g N d) (k : SWm w w' g N d') : SWm w0 w' g N d' := ⟨k.holds, h.grown.trans k.grown, k.row, h.lt⟩
theorem SWm.drewN {w0 w : World} {g N : Nat} {d : Array Ms} (h : SWm w0 w g N d) (n : Nat) : SWm w0 (w.drewN n) g N d := h.below (below_drewN (Below.refl _ w) n)
theorem SWm.drew {w0 w : World} {g N : Nat} {d : Array Ms} (h : SWm w0 w g N d) : SWm w0 w.drew g N d := h.drewN 1
end Go.Proofs.YtkbmmlombigkmaaGreat.Al
namespace Go.Proofs.YtkbmmlombigkmaaGreat.Al
open Go.RowKit Go.Sort Gr Wd Ws
def RoRel (w : World) (g N sz a m b : Nat) (d : Array Ms) (gk : Nat) (vi vj : Value) (wr : World) : Prop :=
  ∃ (i j : Nat) (e : Array Ms), vi = .int .i64 (i : Int) ∧ vj = .int .i64 (j : Int) ∧ 0 < i ∧ 0 < j ∧ i ≤ m ∧ m + j ≤ sz ∧ i + j = gk ∧ e.size = sz ∧ SWm w wr g N e ∧ ∀ f, Rot (m - i) m (m + j) e f → Rot a m b d f
end Go.Proofs.YtkbmmlombigkmaaGreat.Al
