/-
  What is proved here: Place, works, and the law on Of and Owned, walked. No condition.
-/
import Derived.Test.YtjcgejbggmpikaaPtW3
namespace Go.Proofs.Ytjcgejbggmpikaa.Pt
open Go.RowKit Gr Wd Ws

set_option maxRecDepth 100000 in
theorem place_any (x y n v : Int) (A1 A2 A3 : Option Addr) (c1 n2 c2 n3 c3 : Nat) (L : List Int) (w : World) (hL : IAt w A1 L) (hl : L.length ≤ 9223372036854775807) :
    Calls Try.prog 25 #[.agg #[.int .i64 x, .int .i64 y, .int .i64 n, .slice A1 L.length c1, .slice A2 n2 c2, .slice A3 n3 c3], .int .i64 v] w fun e w' => e = .returned (.int .i64 (plc L v)) ∧ Below w.heap.size w w' := by
  have HC := Lib.hid (fun W (h : Below w.heap.size w W) => index_any A1 c1 L v W (hL.below h) hl)
  have HZ := Lib.hid ((Below.refl w.heap.size w).alloc (Nat.le_refl _) (.cells #[.int .i64 x, .int .i64 y, .int .i64 n, .slice A1 L.length c1, .slice A2 n2 c2, .slice A3 n3 c3] 34))
  clear hL
  go_enter Try.func25, Try.ntmps25
  go_wp2_with fail
  refine (HC.out _ HZ.out).mono ?_
  rintro e w' ⟨rfl, hb⟩
  have HB := Lib.hid hb; clear hb
  go_wp2_with fail
  go_ret
  exact ⟨rfl, HZ.out.trans (HB.out.mono HZ.out.size)⟩

theorem of_at (v k r : Int) (w : World) (h : Hid (ofI v k = r)) : Calls Try.prog 8 #[.int .i64 v, .int .i64 k] w fun e w' => e = .returned (.int .i64 r) ∧ w = w' := by
  rw [← h.out]; exact of_any v k w
/- The row [0, 2, 4, 5] at a block. -/
theorem iat_row {w : World} {b : Nat} {l : List Int} (h : w.heap[b]? = some (.cells (ints l).toArray 3 (0, 0))) : IAt w (some ⟨b, 0, none⟩) l := by
  intro k x hx
  refine ⟨b, 0, rfl, ?_⟩
  rw [Nat.zero_add, cell_of_row w b k _ 3 (0, 0) h, List.getElem?_toArray, ints_at, hx]; rfl

set_option maxRecDepth 100000 in
set_option maxHeartbeats 1000000 in
theorem works_any (w : World) : Calls Try.prog 13 #[] w fun e w' => e = .returned (.bool true) ∧ Hid (Below w.heap.size w w') := by
  have H1 := Lib.hid (fun W => of_at 0 4 0 W (Lib.hid (by decide +kernel)))
  have H2 := Lib.hid (fun W => of_at 1 4 2 W (Lib.hid (by decide +kernel)))
  have H3 := Lib.hid (fun W => of_at 2 4 0 W (Lib.hid (by decide +kernel)))
  have H4 := Lib.hid (fun W => of_at 3 4 3 W (Lib.hid (by decide +kernel)))
  have H5 := Lib.hid (fun W => of_at 1 0 (-1) W (Lib.hid (by decide +kernel)))
  have H6 := Lib.hid (fun W => of_at 512 2 (-1) W (Lib.hid (by decide +kernel)))
  have ho : owned 6 2 0 = [0, 2, 4, 5] := by decide +kernel
  have HO := Lib.hid ho; clear ho
  have hp : plc [3, 5] 5 = 1 := by decide +kernel
  have HP := Lib.hid hp; clear hp
  go_enter Try.func13, Try.ntmps13
  go_wp2_with fail
  refine (H1.out _).mono ?_
  rintro e w' ⟨rfl, rfl⟩
  go_wp2_with fail
  refine (H2.out _).mono ?_
  rintro e w' ⟨rfl, rfl⟩
  go_wp2_with fail
  refine (H3.out _).mono ?_
  rintro e w' ⟨rfl, rfl⟩
  go_wp2_with fail
  refine (H4.out _).mono ?_
  rintro e w' ⟨rfl, rfl⟩
  go_wp2_with fail
  refine (owned_any 6 2 0 _).mono ?_
  rintro e w1 ⟨v, rfl, hv, hb1⟩
  rw [HO.out] at hv
  obtain ⟨A, c, rfl, hA⟩ := hv.form
  have hn := heap_alloc_new w1 (.cells (ints [0, 2, 4, 5]).toArray 3)
  have hb2 := (Below.refl _ w1).alloc (Nat.le_refl _) (.cells (ints [0, 2, 4, 5]).toArray 3)
  have HN := Lib.hid (kitsame_any A (some ⟨w1.heap.size, 0, none⟩) c 4 [0, 2, 4, 5] [0, 2, 4, 5] _ (hA.below hb2) (iat_row hn) (by decide) (by decide))
  rw [show decide (([0, 2, 4, 5] : List Int) = [0, 2, 4, 5]) = true from rfl] at HN
  have HB2 := Lib.hid (hb1.trans (hb2.mono hb1.size))
  clear hA hv hb1 hb2 hn
  go_wp2_with fail
  refine HN.out.mono ?_
  rintro e w2 ⟨rfl, hb3⟩
  have HB3 := Lib.hid (HB2.out.trans (hb3.mono HB2.out.size))
  clear hb3 HB2 HN
  go_wp2_with fail
  refine (H5.out _).mono ?_
  rintro e w' ⟨rfl, rfl⟩
  go_wp2_with fail
  refine (H6.out _).mono ?_
  rintro e w' ⟨rfl, rfl⟩
  have hn := heap_alloc_new w2 (.cells (ints [3, 5]).toArray 3)
  have hb4 := (Below.refl _ w2).alloc (Nat.le_refl _) (.cells (ints [3, 5]).toArray 3)
  have HN := Lib.hid (place_any 0 0 0 5 (some ⟨w2.heap.size, 0, none⟩) none none 2 0 0 0 0 [3, 5] _ (iat_row hn) (by decide))
  rw [HP.out] at HN
  have HB4 := Lib.hid (HB3.out.trans (hb4.mono HB3.out.size))
  clear hn hb4
  go_wp2_with fail
  refine HN.out.mono ?_
  rintro e w3 ⟨rfl, hb5⟩
  have HB5 := Lib.hid (HB4.out.trans (hb5.mono HB4.out.size))
  clear hb5
  go_wp2_with fail
  go_ret
  exact ⟨rfl, HB5⟩

set_option maxRecDepth 100000 in
theorem law_of (v k x : Int) (w : World) : Calls Try.prog 3 #[.int .i64 v, .int .i64 k, .int .i64 x] w fun e w' => e = .returned (.bool true) ∧ Below w.heap.size w w' := by
  obtain ⟨q, hq⟩ : ∃ q, ofI v k = q := ⟨_, rfl⟩
  have H1 := Lib.hid (fun W => of_any v k W)
  have H2 := Lib.hid (fun W => rof_any v k W)
  rw [hq] at H1 H2
  have hlo := owned_len v k x
  obtain ⟨L, hL⟩ : ∃ L, owned v k x = L := ⟨_, rfl⟩
  have H3 := Lib.hid (fun W => owned_any v k x W)
  have H4 := Lib.hid (fun W => rowned_any v k x W)
  rw [hL] at H3 H4 hlo
  clear hL hq
  go_enter Try.func3, Try.ntmps3
  go_wp2_with fail
  refine (H1.out _).mono ?_
  rintro e w' ⟨rfl, rfl⟩
  go_wp2_with fail
  refine (H2.out _).mono ?_
  rintro e w' ⟨rfl, rfl⟩
  go_wp2_with fail
  refine (H3.out _).mono ?_
  rintro e w1 ⟨u1, rfl, h1, hb1⟩
  have HB1 := Lib.hid hb1
  have HU1 := Lib.hid h1
  clear hb1 h1
  go_wp2_with fail
  refine (H4.out _).mono ?_
  rintro e w2 ⟨u2, rfl, h2, hb2⟩
  obtain ⟨A, c, rfl, hA⟩ := (HU1.out.below hb2).form
  obtain ⟨B, d, rfl, hB⟩ := h2.form
  have HN := Lib.hid (kitsame_any A B c d L L _ hA hB (by omega) (by omega))
  rw [show decide (L = L) = true by simp] at HN
  have HB2 := Lib.hid (HB1.out.trans (hb2.mono HB1.out.size))
  clear hA hB h2 hb2
  go_wp2_with fail
  refine HN.out.mono ?_
  rintro e w3 ⟨rfl, hb3⟩
  have HB3 := Lib.hid (HB2.out.trans (hb3.mono HB2.out.size))
  clear hb3
  go_wp2_with fail
  refine (works_any _).mono ?_
  rintro e w4 ⟨rfl, hb4⟩
  have HB4 := Lib.hid (HB3.out.trans (hb4.out.mono HB3.out.size))
  go_wp2_with fail
  go_ret
  exact ⟨rfl, HB4.out⟩

end Go.Proofs.Ytjcgejbggmpikaa.Pt
