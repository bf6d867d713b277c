/-
  What is proved here: graph.order itself. Conditions: the row is one that the call has made.
-/
import Derived.Test.YtmcmpjcijbeilaaGreatDoorGrSort4
namespace Go.Proofs.YtmcmpjcijbeilaaGreatDoor.Gr
open Go.RowKit Wd Ws Go.Sort

theorem slice_nil (w : World) (c Bs : Nat) :
    Calls Tryz.prog 50 #[.iface 22 (.slice none 0 c), .func (.func 51) #[] #[.pointer (some ⟨Bs, 0, none⟩)]] w fun e w' => e = .returned (.tuple #[]) ∧ Hid (Below w.heap.size w w') := by
  have hK : Tryz.prog.funcs.findIdx? (·.name == "internal/reflectlite" ++ ".Swapper$" ++ toString (Lib.swapperK 0 ieE 25)) = some 84 := by kernel_rfl
  refine (Any.sort_Slice_tiny Tryz.laysGg6 22 42 svT ieE (by kernel_rfl) (by kernel_rfl) (by kernel_rfl) ieE_is 25 (fun _ => by kernel_rfl) none 0 c (by omega) _ hK _ _ _ w).mono ?_
  rintro e w' ⟨rfl, os, rfl⟩
  exact ⟨rfl, Lib.hid (below_grow w os)⟩

set_option maxRecDepth 100000 in
set_option maxHeartbeats 600000 in
theorem order_any (M : Nat) (hM : M < 4611686018427387904) (hP : Hid (PdqOK M)) : OrderOK M := by
  intro B v L w h hL hB
  obtain ⟨w1, hw1⟩ : ∃ w1, w1 = w.alloc (.cells #[v] 22) := ⟨_, rfl⟩
  have hb1 : Below w.heap.size w w1 := by rw [hw1]; exact (Below.refl _ w).alloc (Nat.le_refl _) _
  have hx : w1.heap[w.heap.size]? = some (.cells #[v] 22 (0, 0)) := by rw [hw1]; exact heap_alloc_new w _
  have H1 := Lib.hid (h.out.below hb1)
  obtain ⟨A, c, hv, _, hA, hc0⟩ := h.out.form
  have mixed := mixedO
  rcases hA with rfl | ⟨g, rfl, hBg, hg, _⟩
  · have hL0 : L = [] := by
      rcases L with _ | ⟨x, L⟩
      · rfl
      · obtain ⟨h0, h1 | ⟨g, cap, cur, h1, _⟩⟩ := h.out
        · exact absurd h1.2 (by simp)
        · rw [hv] at h1; cases h1
    subst hL0
    obtain rfl := hc0 rfl
    subst hv
    obtain ⟨k0, hks⟩ : w1.cell? ⟨w.heap.size, 0, none⟩ = some (.slice none 0 0) ∧ w.heap.size < w1.heap.size := ⟨by rw [Lib.cell_of_heap hx]; rfl, lt_of_block hx⟩
    have HC := Lib.hid (slice_nil w1 0 w.heap.size)
    have HW := Lib.hid hw1
    have HB := Lib.hid hb1
    clear hw1 hb1 hx
    go_enter Tryz.func32, Tryz.ntmps32
    go_wp2_with fail
    rw [show ([] : List Ed).length = 0 from rfl] at HW
    rw [← HW.out]
    refine HC.out.mono ?_
    rintro e w2 ⟨rfl, HB2⟩
    go_wp2
    go_end0
    have hbb : Below w.heap.size w w2 := HB.out.trans (HB2.out.mono HB.out.size)
    exact ⟨rfl, [], List.Perm.refl _, List.Pairwise.nil, Lib.hid (h.out.below hbb), Lib.hid (grown_below hbb _)⟩
  · subst hv
    obtain ⟨k0, hks⟩ : w1.cell? ⟨w.heap.size, 0, none⟩ = some (.slice (some ⟨g, 0, none⟩) L.length c) ∧ w.heap.size < w1.heap.size := ⟨by rw [Lib.cell_of_heap hx]; rfl, lt_of_block hx⟩
    have HC := Lib.hid (slice_any M hP w1 B g L.length c w.heap.size L H1 (Lib.hid ⟨hx, by omega⟩) hL hM)
    have HW := Lib.hid hw1
    have HB := Lib.hid hb1
    clear hw1 hb1 hx
    go_enter Tryz.func32, Tryz.ntmps32
    go_wp2_with fail
    rw [← HW.out]
    refine HC.out.mono ?_
    rintro e w2 ⟨rfl, L', HK⟩
    go_wp2
    go_end0
    obtain ⟨q1, q2, q3, q4⟩ := HK.out
    exact ⟨rfl, L', q1, q2, Lib.hid q3, Lib.hid ((grown_below HB.out _).trans q4)⟩
theorem order_twelve : OrderOK 12 := order_any 12 (by decide) (Lib.hid pdq_twelve)

end Go.Proofs.YtmcmpjcijbeilaaGreatDoor.Gr
