/-
  What is proved here: the law's own look at whether the program works at all. Conditions: what the program's start has laid down.
-/
import Derived.Test.YtmcmpjcijbeilaaGreatDoorGrWrk2
namespace Go.Proofs.YtmcmpjcijbeilaaGreatDoor.Gr
open Go.RowKit Wd Ws

/- The graph in its box, and its edges. -/
structure Kn (w W : World) (b g c : Nat) : Prop where
  below : Below w.heap.size w W
  box : W.heap[b]? = some (.cells #[.int .i64 3, .slice (some ⟨g, 0, none⟩) 3 c] 24 (0, 0))
  at_ : EAt W (some ⟨g, 0, none⟩) mA
theorem Kn.step {w W W' : World} {b g c : Nat} (h : Kn w W b g c) (k : Below W.heap.size W W') : Kn w W' b g c :=
  ⟨h.below.trans (k.mono h.below.size), (k.block b (lt_of_block h.box)).trans h.box, h.at_.below k⟩
theorem Kn.facts {w W : World} {b g c : Nat} (h : Kn w W b g c) : W.cell? ⟨b, 0, none⟩ = some (.int .i64 3) ∧ W.cell? ⟨b, 1, none⟩ = some (.slice (some ⟨g, 0, none⟩) 3 c) ∧ b < W.heap.size ∧
    W.cell? ⟨g, 3, none⟩ = some (.int .i64 1) ∧ W.cell? ⟨g, 4, none⟩ = some (.int .i64 0) ∧ W.cell? ⟨g, 5, none⟩ = some (.int .i64 1) := by
  obtain ⟨bk, o, e, c0, c1, c2⟩ := h.at_ 1 (1, 0, 1) rfl
  cases e
  exact ⟨by rw [Lib.cell_of_heap h.box]; rfl, by rw [Lib.cell_of_heap h.box]; rfl, lt_of_block h.box, c0, c1, c2⟩

set_option maxRecDepth 100000 in
set_option maxHeartbeats 1000000 in
theorem works_any (w : World) (hLd : Hid (Laid w)) :
    Calls Tryz.prog 10 #[] w fun e w' => e = .returned (.bool true) ∧ Hid (Below w.heap.size w w') := by
  have mixed := mixedO
  have HL : Hid (∀ w', Below w.heap.size w w' → Laid w') := Lib.hid fun w' h => hLd.out.bel h
  go_enter Tryz.func10, Tryz.ntmps10
  go_wp2_with fail
  refine (parse_A w hLd).mono ?_
  rintro e w1 ⟨g, c, rfl, HE, HB1⟩
  obtain ⟨W1, hW1⟩ : ∃ W1, W1 = w1.alloc (.cells #[.int .i64 3, .slice (some ⟨g, 0, none⟩) 3 c] 24) := ⟨_, rfl⟩
  have hb1 : Below w1.heap.size w1 W1 := by rw [hW1]; exact (Below.refl _ w1).alloc (Nat.le_refl _) _
  have hk1 : Kn w W1 w1.heap.size g c := ⟨HB1.out.trans (hb1.mono HB1.out.size), by rw [hW1]; exact heap_alloc_new w1 _, (by
    obtain ⟨A, c', e, hA, _⟩ := HE.out.form
    cases e
    exact hA.below hb1)⟩
  have HW1 := Lib.hid hW1
  have HK1 := Lib.hid hk1
  clear hW1 hk1 hb1 HE HB1
  go_wp2_with fail
  rw [← HW1.out]
  refine (parse_B W1 (Lib.hid (HL.out _ HK1.out.below))).mono ?_
  rintro e w2 ⟨rfl, HB2⟩
  obtain ⟨W2, hW2⟩ : ∃ W2, W2 = w2.alloc (.cells #[.int .i64 0, .slice none 0 0] 24) := ⟨_, rfl⟩
  have HK2 : Hid (Kn w W2 w1.heap.size g c) := Lib.hid (by
    have k := HK1.out.step HB2.out
    rw [hW2]; exact k.step ((Below.refl _ w2).alloc (Nat.le_refl _) _))
  have HW2 := Lib.hid hW2
  clear hW2 HB2 HK1
  go_wp2_with fail
  rw [← HW2.out]
  refine (parse_C W2 (Lib.hid (HL.out _ HK2.out.below))).mono ?_
  rintro e w3 ⟨rfl, HB3⟩
  obtain ⟨W3, hW3⟩ : ∃ W3, W3 = w3.alloc (.cells #[.int .i64 0, .slice none 0 0] 24) := ⟨_, rfl⟩
  have HK3 : Hid (Kn w W3 w1.heap.size g c) := Lib.hid (by
    have k := HK2.out.step HB3.out
    rw [hW3]; exact k.step ((Below.refl _ w3).alloc (Nat.le_refl _) _))
  have HW3 := Lib.hid hW3
  clear hW3 HB3 HK2
  go_wp2_with fail
  rw [← HW3.out]
  refine (parse_D W3 (Lib.hid (HL.out _ HK3.out.below))).mono ?_
  rintro e w4 ⟨rfl, HB4⟩
  obtain ⟨W4, hW4⟩ : ∃ W4, W4 = w4.alloc (.cells #[.int .i64 0, .slice none 0 0] 24) := ⟨_, rfl⟩
  have HK4 : Hid (Kn w W4 w1.heap.size g c) := Lib.hid (by
    have k := HK3.out.step HB4.out
    rw [hW4]; exact k.step ((Below.refl _ w4).alloc (Nat.le_refl _) _))
  have HW4 := Lib.hid hW4
  clear hW4 HB4 HK3
  obtain ⟨k0, k1, k2, k3, k4, k5⟩ := HK4.out.facts
  have HC5 := Lib.hid (print_at W4 g c (Lib.hid HK4.out.at_) (Lib.hid (HL.out _ HK4.out.below)))
  rw [HW4.out] at k0 k1
  go_wp2_with fail
  rw [← HW4.out]
  refine HC5.out.mono ?_
  rintro e w5 ⟨rfl, HB5⟩
  have HK5 : Hid (Kn w w5 w1.heap.size g c) := Lib.hid (HK4.out.step HB5.out)
  clear k0 k1 k2 k3 k4 k5 HB5 HC5 HK4
  obtain ⟨k0, k1, k2, k3, k4, k5⟩ := HK5.out.facts
  have HC6 := Lib.hid (out_at w5 g c (Lib.hid HK5.out.at_))
  go_wp2_with fail
  refine HC6.out.mono ?_
  rintro e w6 ⟨A6, q6, rfl, HB6⟩
  have HK6 : Hid (Kn w w6 w1.heap.size g c) := Lib.hid (HK5.out.step HB6.out)
  clear k0 k1 k2 k3 k4 k5 HB6 HC6 HK5
  obtain ⟨k0, k1, k2, k3, k4, k5⟩ := HK6.out.facts
  have HC7 := Lib.hid (back_at w6 g c (Lib.hid HK6.out.at_))
  go_wp2_with fail
  refine HC7.out.mono ?_
  rintro e w7 ⟨A7, q7, rfl, HB7⟩
  have HK7 : Hid (Below w.heap.size w w7) := Lib.hid (HK6.out.step HB7.out).below
  clear k0 k1 k2 k3 k4 k5 HB7 HC7 HK6
  go_wp2
  go_ret
  exact ⟨rfl, HK7⟩

end Go.Proofs.YtmcmpjcijbeilaaGreatDoor.Gr
