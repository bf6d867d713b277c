/-
  What is proved here: the law's function PartsKnown, walked. No condition.
-/
import Derived.Test.YtjcgejbggmpikaaPtK4
import Derived.Test.YtjcgejbggmpikaaPtK2
import Derived.Test.YtjcgejbggmpikaaPtK1
import Derived.Test.YtjcgejbggmpikaaPtCut
namespace Go.Proofs.Ytjcgejbggmpikaa.Pt
open Go.RowKit Gr Wd Ws

/- Four graphs in a row. -/
def FourG (w : World) (b : Nat) : Prop := ∀ i : Nat, i < 4 → ∃ (V : Int) (A : Option Addr) (n c : Nat) (L : List Ed), w.cell? ⟨b, i * 2, none⟩ = some (.int .i64 V) ∧ w.cell? ⟨b, i * 2 + 1, none⟩ = some (.slice A n c) ∧ L.length = n ∧ n ≤ 200 ∧ EAt w A L
theorem FourG.below {w w' : World} {b : Nat} (h : FourG w b) (hb : Below w.heap.size w w') : FourG w' b := fun i hi => by
  obtain ⟨V, A, n, c, L, h0, h1, h2, h3, h4⟩ := h i hi
  exact ⟨V, A, n, c, L, (hb.cell (block_lt_of_cell h0)).trans h0, (hb.cell (block_lt_of_cell h1)).trans h1, h2, h3, h4.below hb⟩
theorem four_of {w : World} {b : Nat} {T : TypeId} {V0 V1 V2 V3 : Int} {A0 A1 A2 A3 : Option Addr} {n0 n1 n2 n3 c0 c1 c2 c3 : Nat} {L0 L1 L2 L3 : List Ed}
    (h : w.heap[b]? = some (.cells #[.int .i64 V0, .slice A0 n0 c0, .int .i64 V1, .slice A1 n1 c1, .int .i64 V2, .slice A2 n2 c2, .int .i64 V3, .slice A3 n3 c3] T (0, 0)))
    (e0 : EAt w A0 L0) (e1 : EAt w A1 L1) (e2 : EAt w A2 L2) (e3 : EAt w A3 L3) (l0 : L0.length = n0) (l1 : L1.length = n1) (l2 : L2.length = n2) (l3 : L3.length = n3) (m0 : n0 ≤ 200) (m1 : n1 ≤ 200) (m2 : n2 ≤ 200) (m3 : n3 ≤ 200) : FourG w b := fun i hi => by
  rcases i with _ | _ | _ | _ | i
  · exact ⟨_, _, _, _, L0, by rw [Lib.cell_of_heap h]; rfl, by rw [Lib.cell_of_heap h]; rfl, l0, m0, e0⟩
  · exact ⟨_, _, _, _, L1, by rw [Lib.cell_of_heap h]; rfl, by rw [Lib.cell_of_heap h]; rfl, l1, m1, e1⟩
  · exact ⟨_, _, _, _, L2, by rw [Lib.cell_of_heap h]; rfl, by rw [Lib.cell_of_heap h]; rfl, l2, m2, e2⟩
  · exact ⟨_, _, _, _, L3, by rw [Lib.cell_of_heap h]; rfl, by rw [Lib.cell_of_heap h]; rfl, l3, m3, e3⟩
  · omega
theorem one_part {w : World} {b : Nat} {T : TypeId} {a k n : Int} (h : w.heap[b]? = some (.cells #[.int .i64 a, .int .i64 k, .int .i64 n, .slice none 0 0, .slice none 0 0, .slice none 0 0] T (0, 0))) : LAt w (some ⟨b, 0, none⟩) [⟨a, k, n, [], [], []⟩] := by
  intro q Q hq
  rcases q with _ | q
  · simp at hq; subst hq
    exact ⟨b, 0, none, none, none, 0, 0, 0, rfl, by rw [Lib.cell_of_heap h]; rfl, by rw [Lib.cell_of_heap h]; rfl, by rw [Lib.cell_of_heap h]; rfl, by rw [Lib.cell_of_heap h]; rfl, by rw [Lib.cell_of_heap h]; rfl, by rw [Lib.cell_of_heap h]; rfl, IAt.nil _ _, RAt.nil _ _, RAt.nil _ _⟩
  · simp at hq
theorem bare_sm (a k n : Int) : Sm ⟨a, k, n, [], [], []⟩ := ⟨by simp, by simp, by simp, by simp [Fits], by simp [Fits]⟩
theorem mill5 (w : World) : Calls Try.prog 26 #[] w fun e w' => (∃ A c, e = .returned (.agg #[.int .i64 6, .slice A 5 c]) ∧ Hid (EAt w' A millL)) ∧ Hid (Below w.heap.size w w') := mill_any w
theorem ring9 (w : World) : Calls Try.prog 27 #[.int .i64 9] w fun e w' => (∃ A c, e = .returned (.agg #[.int .i64 9, .slice A 9 c]) ∧ Hid (EAt w' A (ringL 9 9))) ∧ Hid (Below w.heap.size w w') := ring_any 9 (by omega) w
theorem ring1 (w : World) : Calls Try.prog 27 #[.int .i64 1] w fun e w' => (∃ A c, e = .returned (.agg #[.int .i64 1, .slice A 1 c]) ∧ Hid (EAt w' A (ringL 1 1))) ∧ Hid (Below w.heap.size w w') := ring_any 1 (by omega) w

def KoRel (w : World) (g : Nat) (i : Value) (wr : World) : Prop := ∃ k : Nat, k + g = 6 ∧ 1 ≤ k ∧ i = .int .i64 (k : Int) ∧ Hid (Below w.heap.size w wr)
def KiRel (w : World) (b g : Nat) (i : Value) (wr : World) : Prop := ∃ j : Nat, j + g = 4 ∧ i = .int .i64 (j : Int) ∧ Hid (FourG wr b) ∧ Hid (Below w.heap.size w wr)
def KwRel (w : World) (b bx : Nat) (V : Int) (A : Option Addr) (c : Nat) (L : List Ed) (g : Nat) (i : Value) (wr : World) : Prop := ∃ y : Int, y + (g : Int) = 6 ∧ -1 ≤ y ∧ i = .int .i64 y ∧ Hid (FourG wr b) ∧ Hid (GBox wr bx V A c L) ∧ Hid (Below w.heap.size w wr)

set_option maxRecDepth 100000 in
set_option maxHeartbeats 4000000 in
theorem known_law (w : World) : Calls Try.prog 7 #[] w fun e w' => e = .returned (.bool true) ∧ Below w.heap.size w w' := by
  have mixed := mixedP
  go_enter Try.func7, Try.ntmps7
  go_wp2_with fail
  go_loopg [1] 5 (fun g i wr => KoRel w g i wr)
  case atStart => exact ⟨1, by omega, by omega, rfl, Lib.hid (Below.refl _ _)⟩
  case round =>
    obtain ⟨k, hk, hk1, rfl, HB⟩ := hrel
    by_cases hlt : k < 6
    · go_wp2_with fail
      refine (mill5 wr).mono ?_
      rintro e w1 ⟨⟨A0, c0, rfl, HE0⟩, HB1⟩
      go_wp2_with fail
      refine (ring9 w1).mono ?_
      rintro e w2 ⟨⟨A1, c1, rfl, HE1⟩, HB2⟩
      go_wp2_with fail
      refine (ring1 w2).mono ?_
      rintro e w3 ⟨⟨A2, c2, rfl, HE2⟩, HB3⟩
      obtain ⟨w4, hw4⟩ : ∃ w4, w4 = w3.alloc (.cells #[.int .i64 6, .slice A0 5 c0, .int .i64 9, .slice A1 9 c1, .int .i64 1, .slice A2 1 c2, .int .i64 3, .slice none 0 0] 30) := ⟨_, rfl⟩
      have hb4 : Below w3.heap.size w3 w4 := by rw [hw4]; exact (Below.refl _ w3).alloc (Nat.le_refl _) _
      have h4 := heap_alloc_new w3 (.cells #[.int .i64 6, .slice A0 5 c0, .int .i64 9, .slice A1 9 c1, .int .i64 1, .slice A2 1 c2, .int .i64 3, .slice none 0 0] 30)
      rw [← hw4] at h4
      have HF4 : Hid (FourG w4 w3.heap.size) := Lib.hid (four_of h4 (HE0.out.below (HB2.out.trans ((HB3.out.trans (hb4.mono HB3.out.size)).mono HB2.out.size))) (HE1.out.below (HB3.out.trans (hb4.mono HB3.out.size))) (HE2.out.below hb4) (L3 := []) (fun q e hq => by cases hq) rfl (ringL_len 9 9) (ringL_len 1 1) rfl (by omega) (by omega) (by omega) (by omega))
      have hbA := HB1.out.trans ((HB2.out.trans ((HB3.out.trans (hb4.mono HB3.out.size)).mono HB2.out.size)).mono HB1.out.size)
      have HB4 : Hid (Below w.heap.size w w4) := Lib.hid (HB.out.trans (hbA.mono HB.out.size))
      have HW4 := Lib.hid hw4
      clear hw4 hb4 h4 hbA HE0 HE1 HE2 HB1 HB2 HB3
      go_wp2_with fail
      rw [← HW4.out]
      obtain ⟨G, rfl⟩ : ∃ G : Nat, G = gk := ⟨_, rfl⟩
      obtain ⟨wo, rfl⟩ : ∃ wo : World, wo = wr := ⟨_, rfl⟩
      go_loopg [15] 4 (fun g i wr => KiRel w w3.heap.size g i wr)
      case atStart => exact ⟨0, by omega, rfl, HF4, HB4⟩
      case round =>
        obtain ⟨j, hj, rfl, HF, HBj⟩ := hrel
        by_cases hj4 : j < 4
        · obtain ⟨V, A, n, c, L, f0, f1, hn, hm, hE⟩ := HF.out j hj4
          have HE := Lib.hid hE; have HN := Lib.hid hn
          clear hE hn
          obtain ⟨w5, hw5⟩ : ∃ w5, w5 = wr.alloc (.cells #[.int .i64 V, .slice A n c] 30) := ⟨_, rfl⟩
          have hb5 : Below wr.heap.size wr w5 := by rw [hw5]; exact (Below.refl _ wr).alloc (Nat.le_refl _) _
          have h5 := heap_alloc_new wr (.cells #[.int .i64 V, .slice A n c] 30)
          rw [← hw5] at h5
          have HB5 := Lib.hid (HBj.out.trans (hb5.mono HBj.out.size))
          have HF5 := Lib.hid (HF.out.below hb5)
          have HG5 : Hid (GBox w5 wr.heap.size V A c L) := Lib.hid ⟨by rw [HN.out]; exact h5, HE.out.below hb5⟩
          have HW5 := Lib.hid hw5
          have h8 : IntKind.i64.wrap ((k : Int) - 1) = ((k - 1 : Nat) : Int) := by rw [IntWalk.i64_in _ (by omega)]; omega
          have hC1 := law_whole V ((k - 1 : Nat) : Int) A c L w5 (Lib.hid HG5.out.2) (by rw [HN.out]; omega) (by omega)
          rw [HN.out] at hC1
          have HC1 := Lib.hid hC1
          obtain ⟨k1, hk1⟩ : ∃ k1, k - 1 = k1 := ⟨_, rfl⟩
          rw [hk1] at h8 HC1
          clear hw5 hb5 h5 hC1
          go_wp2_with fail
          rw [← HW5.out]
          refine HC1.out.mono ?_
          rintro e w6 ⟨rfl, hb6⟩
          have HB6 := Lib.hid (HB5.out.trans (hb6.mono HB5.out.size))
          have HF6 := Lib.hid (HF5.out.below hb6)
          have HG6 := Lib.hid (HG5.out.below hb6)
          obtain ⟨q0, q1, _⟩ := Bx.cells HG6.out.1
          rw [HN.out] at q1
          have hC2 := spoilt_any V k A c L w6 (Lib.hid HG6.out.2) (by rw [HN.out]; omega) ⟨by omega, by omega⟩
          rw [HN.out] at hC2
          have HC2 := Lib.hid hC2
          clear hb6 hC2 HC1 HG5 HF5 HB5 HW5 h8
          go_wp2_with fail
          refine HC2.out.mono ?_
          rintro e w7 ⟨rfl, hb7⟩
          have HB7 := Lib.hid (HB6.out.trans (hb7.mono HB6.out.size))
          have HF7 := Lib.hid (HF6.out.below hb7)
          have HG7 := Lib.hid (HG6.out.below hb7)
          clear hb7 HC2 HG6 HF6 HB6 q0 q1 f0 f1
          go_wp2_with fail
          obtain ⟨G2, rfl⟩ : ∃ G2 : Nat, G2 = gk := ⟨_, rfl⟩
          obtain ⟨wp, rfl⟩ : ∃ wp : World, wp = wr := ⟨_, rfl⟩
          go_loopg [4] 7 (fun g i wr => KwRel w w3.heap.size wp.heap.size V A c L g i wr)
          case atStart => exact ⟨-1, by omega, by omega, rfl, HF7, HG7, HB7⟩
          case round =>
            obtain ⟨y, hy, hy1, rfl, HFx, HGx, HBx⟩ := hrel
            by_cases hy6 : y < 6
            · obtain ⟨q0, q1, _⟩ := Bx.cells HGx.out.1
              rw [HN.out] at q1
              have hC3 := law_cut V k y A c L wr (Lib.hid HGx.out.2) (by rw [HN.out]; omega)
              rw [HN.out] at hC3
              have HC3 := Lib.hid hC3
              clear hC3
              go_wp2_with fail
              refine HC3.out.mono ?_
              rintro e w8 ⟨rfl, hb8⟩
              have HB8 := Lib.hid (HBx.out.trans (hb8.mono HBx.out.size))
              have HF8 := Lib.hid (HFx.out.below hb8)
              have HG8 := Lib.hid (HGx.out.below hb8)
              clear q0 q1 hb8 HC3
              obtain ⟨q0, q1, _⟩ := Bx.cells HG8.out.1
              clear q1
              go_wp2_with fail
              refine (law_of _ _ _ _).mono ?_
              rintro e w9 ⟨rfl, hb9⟩
              have HB9 := Lib.hid (HB8.out.trans (hb9.mono HB8.out.size))
              have HF9 := Lib.hid (HF8.out.below hb9)
              have HG9 := Lib.hid (HG8.out.below hb9)
              clear q0 hb9
              go_wp2_with fail
              refine (law_of _ _ _ _).mono ?_
              rintro e w10 ⟨rfl, hb10⟩
              have HB10 := Lib.hid (HB9.out.trans (hb10.mono HB9.out.size))
              have HF10 := Lib.hid (HF9.out.below hb10)
              have HG10 := Lib.hid (HG9.out.below hb10)
              clear hb10
              go_wp2_with fail
              go_roundg (gk - 1)
              case measure => omega
              case rel => exact ⟨y + 1, by omega, by omega, by go_num, HF10, HG10, HB10⟩
            · go_wp2
              go_roundg (G2 - 1)
              case measure => omega
              case rel => exact ⟨j + 1, by omega, by go_num, HFx, HBx⟩
        · go_wp2
          go_roundg (G - 1)
          case measure => omega
          case rel => exact ⟨k + 1, by omega, by omega, by go_num, HBj⟩
    · have hj1 : Calls Try.prog 5 #[.slice none 0 0] wr fun e w' => e = .returned (.bool true) ∧ Below wr.heap.size wr w' := law_join none 0 [] wr (Lib.hid (fun q P h => by cases h)) (Lib.hid (fun Q h => by cases h)) (by simp)
      go_wp2_with fail
      refine hj1.mono ?_
      rintro e w1 ⟨rfl, hb1⟩
      have HB1 := Lib.hid (HB.out.trans (hb1.mono HB.out.size))
      obtain ⟨w2, hw2⟩ : ∃ w2, w2 = w1.alloc (.cells #[.int .i64 0, .int .i64 1, .int .i64 513, .slice none 0 0, .slice none 0 0, .slice none 0 0] 34) := ⟨_, rfl⟩
      have hb2 : Below w1.heap.size w1 w2 := by rw [hw2]; exact (Below.refl _ w1).alloc (Nat.le_refl _) _
      have h2 := heap_alloc_new w1 (.cells #[.int .i64 0, .int .i64 1, .int .i64 513, .slice none 0 0, .slice none 0 0, .slice none 0 0] 34)
      rw [← hw2] at h2
      have hj2 : Calls Try.prog 5 #[.slice (some ⟨w1.heap.size, 0, none⟩) 1 1] w2 fun e w' => e = .returned (.bool true) ∧ Below w2.heap.size w2 w' := law_join (some ⟨w1.heap.size, 0, none⟩) 1 [⟨0, 1, 513, [], [], []⟩] w2 (Lib.hid (one_part h2)) (Lib.hid (fun Q h => by simp at h; subst h; exact bare_sm _ _ _)) (by simp)
      have HB2 := Lib.hid (HB1.out.trans (hb2.mono HB1.out.size))
      have HJ2 := Lib.hid hj2; have HW2 := Lib.hid hw2
      clear hj1 hj2 hw2 h2 hb2 hb1
      go_wp2_with fail
      rw [← HW2.out]
      refine HJ2.out.mono ?_
      rintro e w3 ⟨rfl, hb3⟩
      have HB3 := Lib.hid (HB2.out.trans (hb3.mono HB2.out.size))
      obtain ⟨w4, hw4⟩ : ∃ w4, w4 = w3.alloc (.cells #[.int .i64 0, .int .i64 0, .int .i64 0, .slice none 0 0, .slice none 0 0, .slice none 0 0] 34) := ⟨_, rfl⟩
      have hb4 : Below w3.heap.size w3 w4 := by rw [hw4]; exact (Below.refl _ w3).alloc (Nat.le_refl _) _
      have h4 := heap_alloc_new w3 (.cells #[.int .i64 0, .int .i64 0, .int .i64 0, .slice none 0 0, .slice none 0 0, .slice none 0 0] 34)
      rw [← hw4] at h4
      have hj4 : Calls Try.prog 5 #[.slice (some ⟨w3.heap.size, 0, none⟩) 1 1] w4 fun e w' => e = .returned (.bool true) ∧ Below w4.heap.size w4 w' := law_join (some ⟨w3.heap.size, 0, none⟩) 1 [⟨0, 0, 0, [], [], []⟩] w4 (Lib.hid (one_part h4)) (Lib.hid (fun Q h => by simp at h; subst h; exact bare_sm _ _ _)) (by simp)
      have HB4 := Lib.hid (HB3.out.trans (hb4.mono HB3.out.size))
      have HJ4 := Lib.hid hj4; have HW4 := Lib.hid hw4
      clear hj4 hw4 h4 hb4 hb3 HJ2 HW2
      go_wp2_with fail
      rw [← HW4.out]
      refine HJ4.out.mono ?_
      rintro e w5 ⟨rfl, hb5⟩
      have HB5 := Lib.hid (HB4.out.trans (hb5.mono HB4.out.size))
      have HC5 : Hid (Calls Try.prog 4 #[.agg #[.int .i64 0, .slice none 0 0], .int .i64 2, .int .i64 0] w5 fun e w' => e = .returned (.bool true) ∧ Below w5.heap.size w5 w') := Lib.hid (law_cut 0 2 0 none 0 [] w5 (Lib.hid (fun q e h => by cases h)) (by simp))
      clear hb5 HJ4 HW4
      go_wp2_with fail
      refine HC5.out.mono ?_
      rintro e w6 ⟨rfl, hb6⟩
      have HB6 := Lib.hid (HB5.out.trans (hb6.mono HB5.out.size))
      clear hb6 HC5
      go_wp2_with fail
      refine (mill5 w6).mono ?_
      rintro e w7 ⟨⟨A7, c7, rfl, HE7⟩, hb7⟩
      have HB7 := Lib.hid (HB6.out.trans (hb7.out.mono HB6.out.size))
      have HC7 : Hid (Calls Try.prog 4 #[.agg #[.int .i64 6, .slice A7 5 c7], .int .i64 65, .int .i64 0] w7 fun e w' => e = .returned (.bool true) ∧ Below w7.heap.size w7 w') := Lib.hid (law_cut 6 65 0 A7 c7 millL w7 HE7 (by simp [millL]))
      clear hb7 HE7
      go_wp2_with fail
      refine HC7.out.mono ?_
      rintro e w8 ⟨rfl, hb8⟩
      have HB8 := Lib.hid (HB7.out.trans (hb8.mono HB7.out.size))
      clear hb8 HC7
      go_wp2_with fail
      refine (mill5 w8).mono ?_
      rintro e w9 ⟨⟨A9, c9, rfl, HE9⟩, hb9⟩
      have HB9 := Lib.hid (HB8.out.trans (hb9.out.mono HB8.out.size))
      have HC9 : Hid (Calls Try.prog 4 #[.agg #[.int .i64 6, .slice A9 5 c9], .int .i64 0, .int .i64 0] w9 fun e w' => e = .returned (.bool true) ∧ Below w9.heap.size w9 w') := Lib.hid (law_cut 6 0 0 A9 c9 millL w9 HE9 (by simp [millL]))
      clear hb9 HE9
      go_wp2_with fail
      refine HC9.out.mono ?_
      rintro e w10 ⟨rfl, hb10⟩
      have HB10 := Lib.hid (HB9.out.trans (hb10.mono HB9.out.size))
      clear hb10 HC9
      go_wp2_with fail
      refine (law_of _ _ _ _).mono ?_
      rintro e w11 ⟨rfl, hb11⟩
      have HB11 := Lib.hid (HB10.out.trans (hb11.mono HB10.out.size))
      clear hb11
      go_wp2_with fail
      refine (law_of _ _ _ _).mono ?_
      rintro e w12 ⟨rfl, hb12⟩
      have HB12 := Lib.hid (HB11.out.trans (hb12.mono HB11.out.size))
      clear hb12
      go_wp2_with fail
      refine (law_of _ _ _ _).mono ?_
      rintro e w13 ⟨rfl, hb13⟩
      have HB13 := Lib.hid (HB12.out.trans (hb13.mono HB12.out.size))
      clear hb13
      go_wp2_with fail
      refine (works_any _).mono ?_
      rintro e w14 ⟨rfl, hb14⟩
      have HB14 := Lib.hid (HB13.out.trans (hb14.out.mono HB13.out.size))
      clear hb14
      go_wp2_with fail
      go_ret
      exact ⟨rfl, HB14.out⟩

end Go.Proofs.Ytjcgejbggmpikaa.Pt
