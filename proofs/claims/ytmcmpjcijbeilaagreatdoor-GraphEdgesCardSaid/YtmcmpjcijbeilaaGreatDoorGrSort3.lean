/-
  What is proved here: what graph.order does, from what the library's pdqsort_func does over its closure; and the latter at no more than twelve edges. Conditions: the row is one that the call has made.
-/
import Derived.Test.YtmcmpjcijbeilaaGreatDoorGrSort2
import Derived.Test.YtmcmpjcijbeilaaGreatDoorGrShelf
import Derived.Test.YtmcmpjcijbeilaaGreatDoorGrW15
import Derived.Shelf.GgSortFunc.Tiny
import Derived.Sort.LotA
namespace Go.Proofs.YtmcmpjcijbeilaaGreatDoor.Gr
open Go.RowKit Wd Ws Go.Sort

/- From a row that the call owns to one that is being sorted, and back. -/
theorem flat_ecs (L : List Ed) : (flatK ec 3 L.toArray).toList = ecs L := by
  apply List.ext_getElem?
  intro t
  rcases Nat.lt_or_ge t (L.length * 3) with ht | ht
  · have h3 : t / 3 < L.length := by omega
    obtain ⟨a0, a1, a2⟩ := ecs_at L (t / 3) L[t / 3] (List.getElem?_eq_getElem h3)
    have e1 : (flatK ec 3 L.toArray).toList[t]? = some (flatK ec 3 L.toArray)[t]! := by
      rw [Array.getElem?_toList, getElem!_pos _ t (by simpa using ht), Array.getElem?_eq_getElem]
    have e2 : (L.toArray)[t / 3]! = L[t / 3] := by rw [getElem!_pos _ _ (by simpa using h3)]; simp
    rw [e1, get_flatK ec 3 L.toArray t (by simpa using ht), e2]
    have h4 : t % 3 = 0 ∨ t % 3 = 1 ∨ t % 3 = 2 := by omega
    rcases h4 with h4 | h4 | h4
    · rw [h4]; rw [show t / 3 * 3 = t by omega] at a0; rw [a0]; rfl
    · rw [h4]; rw [show t / 3 * 3 + 1 = t by omega] at a1; rw [a1]; rfl
    · rw [h4]; rw [show t / 3 * 3 + 2 = t by omega] at a2; rw [a2]; rfl
  · rw [List.getElem?_eq_none (by simpa using ht), List.getElem?_eq_none (by rw [ecs_len]; exact ht)]
theorem swd_of {w : World} {B g n c : Nat} {L : List Ed} (h : EOwn w B (.slice (some ⟨g, 0, none⟩) n c) L) : n = L.length ∧ B ≤ g ∧ SWd w w g (c * 3) L.toArray ∧ n ≤ c ∧ c ≤ maxLen := by
  obtain ⟨h0, h1 | ⟨g', cap, cur, h1, h2, h3, h4, h5, h6, h7⟩⟩ := h
  · cases h1.1
  · cases h1
    refine ⟨rfl, h2, ⟨fun j hj => ?_, ⟨rfl, rfl, rfl, Nat.le_refl _, fun _ _ _ => rfl⟩, ⟨cur, h3, h6⟩, lt_of_block h3⟩, h4, h5⟩
    have hj' : j < L.length * 3 := by simpa using hj
    refine ⟨?_, Lib.frozen_of_heap h3 _⟩
    rw [Nat.zero_add, cell_of_row w g j _ 42 (0, 0) h3]
    have e1 : cur[j]? = (cur.toList.take (L.length * 3))[j]? := by
      rw [List.getElem?_take, if_pos hj', Array.getElem?_toList]
    rw [e1, h7, ← flat_ecs, Array.getElem?_toList, getElem!_pos _ j hj, Array.getElem?_eq_getElem hj]; rfl
theorem own_of {w0 w : World} {B g n c : Nat} {d : Array Ed} (h : SWd w0 w g (c * 3) d) (hB : B ≤ g) (hd : d.size = n) (hn : n ≤ c) (hc : c ≤ maxLen) : EOwn w B (.slice (some ⟨g, 0, none⟩) n c) d.toList := by
  obtain ⟨cur, h1, h2⟩ := h.row
  refine ⟨by rw [ecs_len], Or.inr ⟨g, c, cur, by rw [Array.length_toList, hd], hB, h1, by rw [Array.length_toList, hd]; exact hn, hc, h2, ?_⟩⟩
  rw [← flat_ecs, Array.toArray_toList]
  apply List.ext_getElem?
  intro j
  rw [List.getElem?_take]
  split
  · rename_i hj
    have hj' : j < (flatK ec 3 d).size := by simpa using hj
    have := (h.holds j hj').1
    rw [Nat.zero_add, cell_of_row w g j _ 42 (0, 0) h1] at this
    rw [Array.getElem?_toList, this, Array.getElem?_toList, getElem!_pos _ j hj', Array.getElem?_eq_getElem hj']; rfl
  · rename_i hj
    rw [List.getElem?_eq_none (by simpa using hj)]

theorem swo_ahd : SWO ahd := ⟨ahd_irr, fun x y z h k => ahd_trans h k, fun x y z h k => by rw [ahd_not] at *; omega⟩
theorem pairs_of {n : Nat} {d : Array Ed} (h : SortedIn ahd 0 n d) (hd : d.size = n) : d.toList.Pairwise fun a b => ahd b a = false := by
  rw [List.pairwise_iff_getElem]
  intro i j hi hj hij
  have hi' : i < d.size := by simpa using hi
  have hj' : j < d.size := by simpa using hj
  have := h i j (Nat.zero_le _) hij (by omega)
  rw [getElem!_pos d i hi', getElem!_pos d j hj'] at this
  simpa using this

/- What the library's pdqsort_func does to at most M edges. -/
def PdqOK (M : Nat) : Prop := ∀ (w : World) (g N Bs n c : Nat) (d : Array Ed) (lim : Nat) (th : Value), Hid (th = typeHandle Tryz.prog 42) → Hid (SWd w w g N d) → Hid (Bes w g Bs n c) → Hid (d.size = n) → n ≤ M → n < 4611686018427387904 → lim < 4611686018427387904 →
  Calls Tryz.prog 71 #[.agg #[.func (.func 51) #[] #[.pointer (some ⟨Bs, 0, none⟩)], .func (.func 92) #[] #[.slice (some ⟨g, 0, none⟩) n c, th]], .int .i64 0, .int .i64 (n : Int), .int .i64 (lim : Int)] w fun e w' => e = .returned (.tuple #[]) ∧ ∃ d', Hid (PermIn 0 n d d' ∧ SortedIn ahd 0 n d') ∧ Hid (SWd w w' g N d')

set_option maxRecDepth 100000 in
set_option maxHeartbeats 600000 in
theorem pdq_twelve : PdqOK 12 := by
  intro w g N Bs n c d lim th hth h hB hd hn hn' hlim
  obtain ⟨w1, hw1⟩ : ∃ w1, w1 = w.alloc (.cells #[.func (.func 51) #[] #[.pointer (some ⟨Bs, 0, none⟩)], .func (.func 92) #[] #[.slice (some ⟨g, 0, none⟩) n c, th]] 105) := ⟨_, rfl⟩
  have hb1 : Below w.heap.size w w1 := by rw [hw1]; exact (Below.refl _ w).alloc (Nat.le_refl _) _
  have HS1 := Lib.hid (h.out.below hb1)
  have HS := Lib.hid (h.out.below hb1).start
  have HBe := Lib.hid (hB.out.on HS1.out)
  have HF : Hid (Fx w1 w.heap.size Bs g n c th) := Lib.hid ⟨by rw [hw1]; exact heap_alloc_new w _, by have := h.out.lt; omega⟩
  obtain ⟨k0, k1, hks⟩ := HF.out.on HS.out
  have HW := Lib.hid hw1
  clear hw1 hb1
  have HC := Lib.hid (insertionSort_any w1 g N Bs n c 0 n d th hth HS HBe hd (Nat.zero_le _) (Nat.le_refl _) hn')
  go_enter Tryz.func71, Tryz.ntmps71
  go_wp2
  rw [← HW.out]
  refine wp_loop_rounds 1 ?_
  rw [rounds_succ]
  go_wp2_with fail
  refine HC.out.mono ?_
  rintro e w2 ⟨rfl, HS2⟩
  go_wp2
  (try simp only [Exit.inBlock, Exit.then]); refine bodyPost_ret (results_none rfl _ _ _) rfl ?_
  exact ⟨rfl, _, Lib.hid (insertionSort_holds swo_ahd d 0 n (Nat.zero_le _) (by rw [hd.out]; exact Nat.le_refl _)), Lib.hid (HS1.out.on HS2.out)⟩

end Go.Proofs.YtmcmpjcijbeilaaGreatDoor.Gr
