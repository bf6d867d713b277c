/-
  What is proved here: the texts GrChk of this seat, laid together (each says itself what it proves; no condition beyond theirs).
-/
import Derived.Test.YtmcmpjcijbeilaaGreatDoorGmG
import Derived.Test.YtmcmpjcijbeilaaGreatDoorGmH
import Derived.Test.YtmcmpjcijbeilaaGreatDoorGmS
import Derived.Deep.Cut
/-
  What is proved here: the law on Check, Print and Turn, walked. Conditions: what the program's start has laid down; the graph can be read.
-/
namespace Go.Proofs.YtmcmpjcijbeilaaGreatDoor.Gr
open Go.RowKit Wd Ws

/- What both turned graphs are. -/
noncomputable def tV (V : Int) (L : List Ed) : Int := if chk V L = 0 then V else 0
noncomputable def tL (V : Int) (L : List Ed) : List Ed := if chk V L = 0 then turnP V L else []
theorem tL_len (V : Int) (L : List Ed) : (tL V L).length ≤ 8192 := by
  unfold tL
  split
  · rename_i h
    obtain ⟨_, _, h3, _⟩ := (chk_zero V _).1 (turnP_chk h)
    exact h3
  · exact Nat.zero_le _
theorem turn_form {w w' : World} {V : Int} {L : List Ed} {e : Ending} (h : TurnRes w w' V L e) : ∃ A c, e = .returned (.tuple #[.agg #[.int .i64 (tV V L), .slice A (tL V L).length c], .int .i64 (chk V L)]) ∧ EAt w' A (tL V L) := by
  by_cases hc : chk V L = 0
  · obtain ⟨v, rfl, ho⟩ := h.2 hc
    obtain ⟨A, c, rfl, hA, _⟩ := ho.out.form
    refine ⟨A, c, ?_, ?_⟩
    · unfold tV tL; rw [if_pos hc, if_pos hc, hc]
    · unfold tL; rw [if_pos hc]; exact hA
  · refine ⟨none, 0, ?_, ?_⟩
    · rw [h.1 hc]; unfold tV tL; rw [if_neg hc, if_neg hc]; rfl
    · unfold tL; rw [if_neg hc]; exact EAt.nil _ _
theorem turn_hid (V U : Int) (A : Option Addr) (c : Nat) (L M : List Ed) (E : Int) (w : World) (hL : Hid (EAt w A L)) (hm : L.length ≤ 9223372036854775807) (h1 : Hid (tV V L = U)) (h2 : Hid (tL V L = M)) (h3 : Hid (chk V L = E)) :
    Calls Tryz.prog 13 #[.agg #[.int .i64 V, .slice A L.length c]] w fun e w' => (∃ A' c', e = .returned (.tuple #[.agg #[.int .i64 U, .slice A' M.length c'], .int .i64 E]) ∧ Hid (EAt w' A' M)) ∧ Hid (Below w.heap.size w w') :=
  (turn_any V A c L w hL hm).mono fun _ _ ⟨h, hb⟩ => by
    obtain ⟨A', c', e1, e2⟩ := turn_form h
    rw [h1.out, h2.out, h3.out] at e1
    rw [h2.out] at e2
    exact ⟨⟨A', c', e1, Lib.hid e2⟩, hb⟩
theorem rturn_hid (V U : Int) (A : Option Addr) (c : Nat) (L M : List Ed) (E : Int) (w : World) (hL : Hid (EAt w A L)) (hm : L.length ≤ 9223372036854775807) (h1 : Hid (tV V L = U)) (h2 : Hid (tL V L = M)) (h3 : Hid (chk V L = E)) :
    Calls Tryz.prog 14 #[.agg #[.int .i64 V, .slice A L.length c]] w fun e w' => (∃ A' c', e = .returned (.tuple #[.agg #[.int .i64 U, .slice A' M.length c'], .int .i64 E]) ∧ Hid (EAt w' A' M)) ∧ Hid (Below w.heap.size w w') :=
  (rturn_any V A c L w hL hm).mono fun _ _ ⟨h, hb⟩ => by
    obtain ⟨A', c', e1, e2⟩ := turn_form h
    rw [h1.out, h2.out, h3.out] at e1
    rw [h2.out] at e2
    exact ⟨⟨A', c', e1, Lib.hid e2⟩, hb⟩

set_option maxRecDepth 100000 in
set_option maxHeartbeats 2000000 in
theorem law_check (V : Int) (A : Option Addr) (c : Nat) (L : List Ed) (w : World) (hL : Hid (EAt w A L)) (hl : L.length ≤ 9223372036854775807) (hLd : Hid (Laid w)) :
    Calls Tryz.prog 3 #[.agg #[.int .i64 V, .slice A L.length c]] w fun e w' => e = .returned (.bool true) ∧ Below w.heap.size w w' := by
  have mixed := mixedO
  have HC1 := Lib.hid (fun W => light_any V A L.length c 300 W)
  obtain ⟨w1, hw1⟩ : ∃ w1, w1 = w.alloc (.cells #[.int .i64 V, .slice A L.length c] 24) := ⟨_, rfl⟩
  have hz : Below w.heap.size w w1 := by rw [hw1]; exact (Below.refl _ w).alloc (Nat.le_refl _) _
  have x0 : w1.heap[w.heap.size]? = some (.cells #[.int .i64 V, .slice A L.length c] 24 (0, 0)) := by
    rw [hw1]; exact heap_alloc_new w _
  have HG1 : Hid (Gb w w1 w.heap.size V A c L) := Lib.hid ⟨hz, x0, hL.out.below hz⟩
  have HW := Lib.hid hw1
  have HLd : Hid (∀ w', Below w.heap.size w w' → Laid w') := Lib.hid fun w' h => hLd.out.bel h
  clear hw1 hz x0
  obtain ⟨r1, hr1⟩ : ∃ r, decide (L.length ≤ 300) = r := ⟨_, rfl⟩
  rw [hr1] at HC1
  clear hr1
  obtain ⟨S, hS⟩ : ∃ S, printB V L = S := ⟨_, rfl⟩
  obtain ⟨E, hE⟩ : ∃ E, chk V L = E := ⟨_, rfl⟩
  obtain ⟨U, hU⟩ : ∃ U, tV V L = U := ⟨_, rfl⟩
  obtain ⟨M, hM⟩ : ∃ M, tL V L = M := ⟨_, rfl⟩
  have hM8 : M.length ≤ 8192 := by rw [← hM]; exact tL_len V L
  have HS := Lib.hid hS; have HE := Lib.hid hE; have HU := Lib.hid hU; have HM := Lib.hid hM
  clear hS hE hU hM
  go_enter Tryz.func3, Tryz.ntmps3
  go_wp2_with fail
  rw [← HW.out]
  refine (HC1.out w1).mono ?_
  rintro e w2 ⟨rfl, hg2⟩
  have HA2 := Lib.hid (HG1.out.step hg2.below)
  clear hg2
  cases r1 with
  | false =>
    go_wp2_with fail
    refine (works_any w2 (Lib.hid (HLd.out _ HA2.out.below))).mono ?_
    rintro e w3 ⟨rfl, HB⟩
    have HZ := Lib.hid (HA2.out.step HB.out).below
    clear HB
    go_wp2
    go_ret
    exact ⟨rfl, HZ.out⟩
  | true =>
    obtain ⟨k0, k1, hk⟩ := HA2.out.facts
    have hp := print_any V A c L w2 HA2.out.at_ (HLd.out _ HA2.out.below) hl
    rw [HS.out, HE.out] at hp
    have HP := Lib.hid hp; clear hp
    go_wp2_with fail
    refine HP.out.mono ?_
    rintro e w3 ⟨rfl, hb3⟩
    have HA3 := Lib.hid (HA2.out.step hb3)
    clear hb3 k0 k1 hk
    obtain ⟨k0, k1, hk⟩ := HA3.out.facts
    have hp := rprint_any V A c L w3 HA3.out.at_ hl
    rw [HS.out, HE.out] at hp
    have HQ := Lib.hid hp; clear hp
    go_wp2_with fail
    refine HQ.out.mono ?_
    rintro e w4 ⟨rfl, hb4⟩
    have HA4 := Lib.hid (HA3.out.step hb4)
    clear hb4 k0 k1 hk
    obtain ⟨k0, k1, hk⟩ := HA4.out.facts
    go_wp2_with fail
    refine (turn_hid V U A c L M E w4 (Lib.hid HA4.out.at_) hl HU HM HE).mono ?_
    rintro e w5 ⟨⟨A5, c5, rfl, HT5⟩, HB5⟩
    obtain ⟨W5, hW5⟩ : ∃ W5, W5 = w5.alloc (.cells #[.int .i64 U, .slice A5 M.length c5] 24) := ⟨_, rfl⟩
    have hb5 : Below w5.heap.size w5 W5 := by rw [hW5]; exact (Below.refl _ w5).alloc (Nat.le_refl _) _
    have HA5 := Lib.hid ((HA4.out.step HB5.out).step hb5)
    have HG5 : Hid (Gb w W5 w5.heap.size U A5 c5 M) := Lib.hid ⟨HA5.out.below, by rw [hW5]; exact heap_alloc_new w5 _, HT5.out.below hb5⟩
    have HW5 := Lib.hid hW5
    clear hW5 hb5 k0 k1 hk
    obtain ⟨k0, k1, hk⟩ := HA5.out.facts
    go_upto_region 6 with fail
    rw [← HW5.out]
    go_wp2_with fail
    refine (rturn_hid V U A c L M E W5 (Lib.hid HA5.out.at_) hl HU HM HE).mono ?_
    rintro e w6 ⟨⟨A6, c6, rfl, HT6⟩, HB6⟩
    obtain ⟨W6, hW6⟩ : ∃ W6, W6 = w6.alloc (.cells #[.int .i64 U, .slice A6 M.length c6] 24) := ⟨_, rfl⟩
    have hb6 : Below w6.heap.size w6 W6 := by rw [hW6]; exact (Below.refl _ w6).alloc (Nat.le_refl _) _
    have HA6 := Lib.hid ((HA5.out.step HB6.out).step hb6)
    have HG6 := Lib.hid ((HG5.out.step HB6.out).step hb6)
    have HH6 : Hid (Gb w W6 w6.heap.size U A6 c6 M) := Lib.hid ⟨HA6.out.below, by rw [hW6]; exact heap_alloc_new w6 _, HT6.out.below hb6⟩
    have HW6 := Lib.hid hW6
    clear hW6 hb6 k0 k1 hk
    have c15 := fun W (h : Below W6.heap.size W6 W) => check_any V A c L W (HA6.out.at_.below h) hl
    have c16 := fun W (h : Below W6.heap.size W6 W) => rcheck_any V A c L W (HA6.out.at_.below h) hl
    have c17 := fun W (h : Below W6.heap.size W6 W) => rsame_any U U A5 A6 c5 c6 M M W (HG6.out.at_.below h) (HH6.out.at_.below h) (by omega) (by omega)
    rw [show (decide (U = U) && decide (M = M)) = true by simp] at c17
    rw [HE.out] at c15 c16
    have c10 := fun W (h : Below W6.heap.size W6 W) => (works_any W (Lib.hid (HLd.out _ (HA6.out.step h).below))).mono fun _ _ hh => And.intro hh.1 hh.2.out
    have H15 := Lib.hid (regr c15); have H16 := Lib.hid (regr c16); have H17 := Lib.hid (regr c17); have H10 := Lib.hid (regr c10)
    clear c15 c16 c17 c10
    obtain ⟨a0, a1, ha⟩ := HA6.out.facts
    obtain ⟨b0, b1, hb⟩ := HG6.out.facts
    obtain ⟨d0, d1, hd⟩ := HH6.out.facts
    have k0 := cell_regrown a0; have k1 := cell_regrown a1; have k2 := cell_regrown b0; have k3 := cell_regrown b1; have k4 := cell_regrown d0; have k5 := cell_regrown d1
    clear a0 a1 b0 b1 d0 d1
    go_upto_region 7 with fail
    rw [← HW6.out]
    refine wp_region_quiet_below mixed (by kernel_rfl) ?_
    repeat (go_big_quiet_step ((with_reducible first | exact H15.out _ _ | exact H16.out _ _ | exact H17.out _ _ | exact H10.out _ _)))
    refine wpQuiet_nil ?_
    intro _ hw'
    obtain ⟨⟨dq, osq⟩, hw''⟩ := hw'
    subst hw''
    have HZ := Lib.hid (HA6.out.step (below_regrown W6 dq osq)).below
    go_wp2
    go_ret
    exact ⟨rfl, HZ.out⟩

end Go.Proofs.YtmcmpjcijbeilaaGreatDoor.Gr
