/-
  What is proved here: what the library's sort and compact do to a row of numbers that the call has made. Condition: fewer than 10^9 numbers.
-/
import Derived.Test.YtbbmgandkmlojaaGreatAlMem
import Derived.Test.YtbbmgandkmlojaaGreatLbShelf
import Derived.Sort.OwnSortedInts
import Derived.Lib.RowBridge
namespace Go.Proofs.YtbbmgandkmlojaaGreat.Lb
open Go.RowKit Go.Sort Gr Wd Ws

/- What the library's sort and compact do to a row that the call has made. -/
theorem below_own {w w' : World} {B : Nat} {g : Nat} (hg : B ≤ g) (h : w.grownBy w' (some g)) (hB : B ≤ w.heap.size) : Below B w w' :=
  ⟨h.os, h.tape, h.output, h.size, fun k hk => h.block k (by omega) (fun e => by injection e with e; omega)⟩
set_option maxRecDepth 100000 in
theorem sort_own (w : World) (B : Nat) (v : Value) (l : List Int) (h : IOwn w B v l) (hB : B ≤ w.heap.size) (hn : l.length < 1000000000) :
    Calls Tryz.prog 165 #[v] w fun e w' => e = .returned (.tuple #[]) ∧ Hid (IOwn w' B v (srt l)) ∧ Hid (Below B w w') := by
  obtain ⟨h0, ⟨rfl, hz⟩ | ⟨g, cap, cur, rfl, h2, h3, h4, h5, h6, h7⟩⟩ := h
  · obtain rfl : l = [] := List.eq_nil_of_length_eq_zero hz
    refine (Any.slices_Sort_int_none Tryz.lays189 none 0 w).mono fun e w' ⟨he, hw⟩ => ⟨he, ?_, ?_⟩
    · subst hw; rw [show srt [] = [] by simp [srt]]; exact Lib.hid (IOwn.none_ _ _)
    · subst hw; exact Lib.hid (Below.refl _ _)
  · have h7' : cur.toList.take l.length = l.map (Value.int .i64) := by rw [Nat.mul_one] at h7; exact h7
    refine (Any.slices_Sort_int Tryz.lays189 g 0 cap l w (holds_of_blockI h3 h7') (lt_of_block h3) (by omega)).mono fun e w' ⟨he, n, os, hw⟩ => ⟨he, ?_, ?_⟩
    · subst hw
      refine Lib.hid ?_
      unfold IOwn
      rw [srt_len]
      exact ownsRow_sortedI (srt_len l) h2 h3 h4 h5 h6
    · subst hw
      exact Lib.hid (below_own h2 (grownBy_sortedI _) hB)
set_option maxRecDepth 100000 in
theorem compact_own (w : World) (B : Nat) (v : Value) (l : List Int) (h : IOwn w B v l) (hB : B ≤ w.heap.size) (hn : l.length < 1000000000) :
    Calls Tryz.prog 166 #[v] w fun e w' => ∃ r, e = .returned r ∧ Hid (IOwn w' B r (Lib.compact l)) ∧ Hid (Below B w w') := by
  obtain ⟨h0, ⟨rfl, hz⟩ | ⟨g, cap, cur, rfl, h2, h3, h4, h5, h6, h7⟩⟩ := h
  · obtain rfl : l = [] := List.eq_nil_of_length_eq_zero hz
    refine (Any.slices_Compact_int_empty Tryz.lays2n20 none 0 w).mono fun e w' ⟨he, hw⟩ => ⟨_, he, ?_, ?_⟩
    · subst hw; exact Lib.hid (IOwn.none_ _ _)
    · subst hw; exact Lib.hid (Below.refl _ _)
  · have h7' : cur.toList.take l.length = l.map (Value.int .i64) := by rw [Nat.mul_one] at h7; exact h7
    have hcl := Lib.compact_length_le l
    refine (Any.slices_Compact_int Tryz.lays2n20 g 0 cap l w (holds_of_blockI h3 h7') (by omega) h4).mono fun e w' ⟨he, q, hw⟩ => ⟨_, he, ?_, ?_⟩
    · obtain ⟨ts, hts⟩ : ∃ ts, ts = Lib.compact l ++ List.replicate (l.length - (Lib.compact l).length) 0 := ⟨_, rfl⟩
      have htl : ts.length = l.length := by rw [hts]; simp; omega
      have hpre : ts.take (Lib.compact l).length = Lib.compact l := by rw [hts, List.take_left]
      rw [← hts] at hw
      subst hw
      refine Lib.hid ⟨by simp [ints], .inr ⟨g, cap, putCells (Value.int .i64) 0 ts.toArray cur, rfl, h2, ?_, by omega, h5, ?_, ?_⟩⟩
      · have := heap_sortedI (w := w) (n := q) (os := #[]) ts.toArray h3
        rw [Sort.grow_empty] at this
        exact this
      · simp [putCells, h6]
      · have := take_putCellsI cur ts (by omega)
        rw [Nat.mul_one]
        have e1 : (putCells (Value.int .i64) 0 ts.toArray cur).toList.take (Lib.compact l).length = ((putCells (Value.int .i64) 0 ts.toArray cur).toList.take ts.length).take (Lib.compact l).length := by
          rw [List.take_take, Nat.min_eq_left (by omega)]
        rw [e1, this, ← List.map_take, hpre]; rfl
    · subst hw
      have := grownBy_sortedI (w := w) (g := g) (n := q) (os := #[]) (Lib.compact l ++ List.replicate (l.length - (Lib.compact l).length) 0).toArray
      rw [Sort.grow_empty] at this
      exact Lib.hid (below_own h2 this hB)

end Go.Proofs.YtbbmgandkmlojaaGreat.Lb
