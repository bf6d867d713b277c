/-
  What is proved here: contracts of graph.Parse at the law's four texts. Conditions: what the program's start has laid down.
-/
import Derived.Test.YtmcmpjcijbeilaaGreatDoorGrWrk1
namespace Go.Proofs.YtmcmpjcijbeilaaGreatDoor.Gr
open Go.RowKit Wd Ws

theorem parse_A (w : World) (hLd : Hid (Laid w)) :
    Calls Tryz.prog 18 #[.string { data := #[118, 101, 114, 116, 105, 99, 101, 115, 32, 51, 10, 98, 111, 116, 104, 32, 48, 32, 50, 32, 53, 10, 101, 100, 103, 101, 32, 49, 32, 48, 10] }] w fun e w' => ∃ g c, e = .returned (.tuple #[.agg #[.int .i64 3, .slice (some ⟨g, 0, none⟩) 3 c], .int .i64 0, .int .i64 0]) ∧ Hid (EOwn w' w.heap.size (.slice (some ⟨g, 0, none⟩) 3 c) mA) ∧ Hid (Below w.heap.size w w') := by
  refine (parse_any 12 (Lib.hid order_twelve) tA w (by decide) (Lib.hid (by decide)) hLd _ (Lib.hid say_A) (Lib.hid (by rintro s hs; obtain rfl := Option.some.inj hs; decide))).mono ?_
  rintro e w' ⟨⟨v, L', rfl, hE, hp, hr⟩, hB⟩
  obtain rfl := rows_A hp hr
  obtain ⟨A, c, rfl, hA, h1, _⟩ := hE.out.form
  rcases h1 with rfl | ⟨g, rfl, _⟩
  · obtain ⟨bk, o, h, _⟩ := hA 0 (0, 2, 5) rfl; cases h
  · exact ⟨g, c, rfl, hE, hB⟩
theorem parse_B (w : World) (hLd : Hid (Laid w)) :
    Calls Tryz.prog 18 #[.string { data := #[118, 101, 114, 116, 105, 99, 101, 115, 32, 50, 10, 101, 100, 103, 101, 32, 48, 32, 49, 10, 101, 100, 103, 101, 32, 48, 32, 49, 32, 57] }] w fun e w' => e = .returned (.tuple #[.agg #[.int .i64 0, .slice none 0 0], .int .i64 3, .int .i64 41]) ∧ Hid (Below w.heap.size w w') :=
  parse_any 12 (Lib.hid order_twelve) tB w (by decide) (Lib.hid (by decide)) hLd _ (Lib.hid say_B) (Lib.hid (by rintro s hs; cases hs))
theorem parse_C (w : World) (hLd : Hid (Laid w)) :
    Calls Tryz.prog 18 #[.string { data := #[118, 101, 114, 116, 105, 99, 101, 115, 32, 50, 10, 101, 100, 103, 101, 32, 48, 32, 50] }] w fun e w' => e = .returned (.tuple #[.agg #[.int .i64 0, .slice none 0 0], .int .i64 2, .int .i64 41]) ∧ Hid (Below w.heap.size w w') :=
  parse_any 12 (Lib.hid order_twelve) tC w (by decide) (Lib.hid (by decide)) hLd _ (Lib.hid say_C) (Lib.hid (by rintro s hs; cases hs))
theorem parse_D (w : World) (hLd : Hid (Laid w)) :
    Calls Tryz.prog 18 #[.string { data := #[] }] w fun e w' => e = .returned (.tuple #[.agg #[.int .i64 0, .slice none 0 0], .int .i64 1, .int .i64 41]) ∧ Hid (Below w.heap.size w w') :=
  parse_any 12 (Lib.hid order_twelve) [] w (by decide) (Lib.hid (by intro x hx; simp [ln] at hx)) hLd _ (Lib.hid say_D) (Lib.hid (by rintro s hs; cases hs))
theorem print_at (w : World) (g c : Nat) (hE : Hid (EAt w (some ⟨g, 0, none⟩) mA)) (hLd : Hid (Laid w)) :
    Calls Tryz.prog 11 #[.agg #[.int .i64 3, .slice (some ⟨g, 0, none⟩) 3 c]] w fun e w' => e = .returned (.tuple #[.string { data := #[118, 101, 114, 116, 105, 99, 101, 115, 32, 51, 10, 101, 100, 103, 101, 32, 48, 32, 50, 32, 53, 10, 101, 100, 103, 101, 32, 49, 32, 48, 32, 49, 10, 101, 100, 103, 101, 32, 50, 32, 48, 32, 53, 10] }, .int .i64 0]) ∧ Hid (Below w.heap.size w w') := by
  refine (print_any 3 (some ⟨g, 0, none⟩) c mA w hE.out hLd.out (by decide)).mono ?_
  rintro e w' ⟨rfl, hB⟩
  rw [print_A, chk_A]
  exact ⟨rfl, Lib.hid hB⟩
theorem out_at (w : World) (g c : Nat) (hE : Hid (EAt w (some ⟨g, 0, none⟩) mA)) :
    Calls Tryz.prog 21 #[.agg #[.int .i64 3, .slice (some ⟨g, 0, none⟩) 3 c], .int .i64 0] w fun e w' => ∃ A k, e = .returned (.slice A 1 k) ∧ Hid (Below w.heap.size w w') := by
  refine (out_any 3 0 (some ⟨g, 0, none⟩) c mA w hE.out (by decide)).mono ?_
  rintro e w' ⟨x, rfl, hO, hB⟩
  obtain ⟨A, k, rfl, _⟩ := hO.form
  exact ⟨A, k, rfl, Lib.hid hB⟩
theorem back_at (w : World) (g c : Nat) (hE : Hid (EAt w (some ⟨g, 0, none⟩) mA)) :
    Calls Tryz.prog 22 #[.agg #[.int .i64 3, .slice (some ⟨g, 0, none⟩) 3 c], .int .i64 0] w fun e w' => ∃ A k, e = .returned (.slice A 2 k) ∧ Hid (Below w.heap.size w w') := by
  refine (back_any 3 0 (some ⟨g, 0, none⟩) c mA w hE.out (by decide)).mono ?_
  rintro e w' ⟨x, rfl, hO, hB⟩
  obtain ⟨A, k, rfl, _⟩ := hO.form
  exact ⟨A, k, rfl, Lib.hid hB⟩

end Go.Proofs.YtmcmpjcijbeilaaGreatDoor.Gr
