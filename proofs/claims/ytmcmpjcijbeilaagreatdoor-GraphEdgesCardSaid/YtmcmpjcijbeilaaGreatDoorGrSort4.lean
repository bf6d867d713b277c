/-
  What is proved here: graph.order: it sorts what it is given, from what the library's pdqsort_func does over its closure. Conditions: the row is one that the call has made.
-/
import Derived.Test.YtmcmpjcijbeilaaGreatDoorGrSort3
namespace Go.Proofs.YtmcmpjcijbeilaaGreatDoor.Gr
open Go.RowKit Wd Ws Go.Sort

noncomputable def svT : TypeInfo := (Tryz.prog.info? 22).get (by kernel_rfl)
theorem swK (n : Nat) (h2 : 2 ≤ n) : Lib.swapperK n ieE 25 = 9 := by
  have a : ieE.hasPointers = false := by kernel_rfl
  have b : ieE.bytes = 24 := by kernel_rfl
  have c : (n == 0) = false := by simp; omega
  have d : (n == 1) = false := by simp; omega
  simp [Lib.swapperK, a, b, c, d]
theorem grown_none {w w' : World} (h : w.grownBy w' none) (r : Option Nat) : w.grownBy w' r := ⟨h.os, h.tape, h.output, h.size, fun i hi _ => h.block i hi nofun⟩
theorem below_grow (w : World) (os : Array Obj) : Below w.heap.size w (Sort.grow w os) := { size := by simp [Sort.grow], os := rfl, tape := rfl, output := rfl, block := fun i hi => by simp [Sort.grow, Array.getElem?_append_left hi] }

set_option maxRecDepth 100000 in
set_option maxHeartbeats 600000 in
theorem slice_any (M : Nat) (hP : Hid (PdqOK M)) (w : World) (B g n c Bs : Nat) (L : List Ed) (h : Hid (EOwn w B (.slice (some ⟨g, 0, none⟩) n c) L)) (hb : Hid (Bes w g Bs n c)) (hn : L.length ≤ M) (hM : M < 4611686018427387904) :
    Calls Tryz.prog 50 #[.iface 22 (.slice (some ⟨g, 0, none⟩) n c), .func (.func 51) #[] #[.pointer (some ⟨Bs, 0, none⟩)]] w fun e w' => e = .returned (.tuple #[]) ∧ ∃ L', Hid (L'.Perm L ∧ L'.Pairwise (fun a b => ahd b a = false) ∧ EOwn w' B (.slice (some ⟨g, 0, none⟩) n c) L' ∧ w.grownBy w' (some g)) := by
  obtain ⟨hnl, hBg, hS, hnc, hcm⟩ := swd_of h.out
  have hm : n < 4611686018427387904 := by omega
  by_cases h2 : 2 ≤ n
  · have hK : Tryz.prog.funcs.findIdx? (·.name == "internal/reflectlite" ++ ".Swapper$" ++ toString (Lib.swapperK n ieE 25)) = some 92 := by rw [swK n h2]; kernel_rfl
    refine Any.sort_Slice_of_pdq Tryz.laysGg6 22 42 svT ieE (by kernel_rfl) (by kernel_rfl) (by kernel_rfl) ieE_is 25 (fun _ => by kernel_rfl) (some ⟨g, 0, none⟩) n c hm _ hK _ _ _ w _ ?_
    have hB : sliceBound Tryz.prog 42 ieE 25 (some ⟨g, 0, none⟩) n c = #[.slice (some ⟨g, 0, none⟩) n c, typeHandle Tryz.prog 42] := by
      unfold sliceBound; rw [if_neg (by rw [swK n h2]; decide)]
    rw [hB]
    obtain ⟨w1, hw1⟩ : ∃ w1, w1 = sliceWorld Tryz.prog Tryz.laysGg6_ren 22 (some ⟨g, 0, none⟩) n c w := ⟨_, rfl⟩
    have hb1 : Below w.heap.size w w1 := by
      rw [hw1]; unfold sliceWorld
      exact ((Below.refl _ w).alloc (Nat.le_refl _) _).alloc (by simp) _
    rw [← hw1]
    have hS1 := hS.below hb1
    have hl : Lib.bitLen n < 4611686018427387904 := Nat.lt_of_le_of_lt (Lib.bitLen_le n 62 (by omega) (by omega)) (by omega)
    refine (hP.out w1 g (c * 3) Bs n c L.toArray (Lib.bitLen n) _ (Lib.hid rfl) (Lib.hid hS1.start) (Lib.hid (hb.out.on hS1)) (Lib.hid (by simpa using hnl.symm)) (by omega) hm hl).mono ?_
    rintro e w' ⟨rfl, d', hd, hS'⟩
    obtain ⟨hp, hs⟩ := hd.out
    have hsz : d'.size = n := by rw [hp.1]; simpa using hnl.symm
    refine ⟨rfl, d'.toList, Lib.hid ⟨?_, pairs_of hs hsz, own_of (hS1.on hS'.out) hBg hsz hnc hcm, (hS1.on hS'.out).grown⟩⟩
    have := hp.2.2
    rw [show d'.extract 0 n = d' by rw [← hsz]; exact Array.extract_size .., show L.toArray.extract 0 n = L.toArray by rw [hnl]; exact Array.extract_size ..] at this
    simpa using this
  · have hK : ∃ f, Tryz.prog.funcs.findIdx? (·.name == "internal/reflectlite" ++ ".Swapper$" ++ toString (Lib.swapperK n ieE 25)) = some f := by
      have h3 : n = 0 ∨ n = 1 := by omega
      rcases h3 with rfl | rfl
      · exact ⟨84, by kernel_rfl⟩
      · exact ⟨85, by kernel_rfl⟩
    obtain ⟨f, hK⟩ := hK
    refine (Any.sort_Slice_tiny Tryz.laysGg6 22 42 svT ieE (by kernel_rfl) (by kernel_rfl) (by kernel_rfl) ieE_is 25 (fun _ => by kernel_rfl) (some ⟨g, 0, none⟩) n c (by omega) f hK _ _ _ w).mono ?_
    rintro e w' ⟨rfl, os, rfl⟩
    refine ⟨rfl, L, Lib.hid ⟨List.Perm.refl _, ?_, h.out.below (below_grow w os), grown_below (below_grow w os) _⟩⟩
    match L, hnl with
    | [], _ => exact List.Pairwise.nil
    | [a], _ => simp
    | a :: b :: l, hh => simp at hh; omega

end Go.Proofs.YtmcmpjcijbeilaaGreatDoor.Gr
