/-
  What is proved here: the law on Same, walked. Conditions: what the program's start has laid down; the two graphs can be read.
-/
import Derived.Test.YtmcmpjcijbeilaaGreatDoorGrWrk3
import Derived.Test.YtmcmpjcijbeilaaGreatDoorGrW3
import Derived.Lib.QuietBelow
import Derived.BigQuiet
namespace Go.Proofs.YtmcmpjcijbeilaaGreatDoor.Gr
open Go.RowKit Wd Ws

/- A graph in its box. -/
structure Gb (w W : World) (b : Nat) (V : Int) (A : Option Addr) (c : Nat) (L : List Ed) : Prop where
  below : Below w.heap.size w W
  box : W.heap[b]? = some (.cells #[.int .i64 V, .slice A L.length c] 24 (0, 0))
  at_ : EAt W A L
theorem Gb.step {w W W' : World} {b : Nat} {V : Int} {A : Option Addr} {c : Nat} {L : List Ed} (h : Gb w W b V A c L) (k : Below W.heap.size W W') : Gb w W' b V A c L :=
  ⟨h.below.trans (k.mono h.below.size), (k.block b (lt_of_block h.box)).trans h.box, h.at_.below k⟩
theorem Gb.facts {w W : World} {b : Nat} {V : Int} {A : Option Addr} {c : Nat} {L : List Ed} (h : Gb w W b V A c L) : W.cell? ⟨b, 0, none⟩ = some (.int .i64 V) ∧ W.cell? ⟨b, 1, none⟩ = some (.slice A L.length c) ∧ b < W.heap.size :=
  ⟨by rw [Lib.cell_of_heap h.box]; rfl, by rw [Lib.cell_of_heap h.box]; rfl, lt_of_block h.box⟩
theorem regr {P : Program} {f : FuncId} {args : Array Value} {w : World} {v : Value} (h : ∀ W, Below w.heap.size w W → Calls P f args W fun e w' => e = .returned v ∧ Below W.heap.size W w') (d : Nat) (os : Array Obj) :
    Calls P f args (Sort.grow (redrawn w d) os) fun e w'' => e = .returned v ∧ ∃ p : Regrown, w'' = Sort.grow (redrawn w p.d) p.os := Calls.regrown_of (h _ (below_regrown w d os))

set_option maxRecDepth 100000 in
set_option maxHeartbeats 1000000 in
theorem law_same (V U : Int) (A B : Option Addr) (c d : Nat) (L M : List Ed) (w : World) (hL : Hid (EAt w A L)) (hM : Hid (EAt w B M)) (hl : L.length ≤ 9223372036854775807) (hm : M.length ≤ 9223372036854775807) (hLd : Hid (Laid w)) :
    Calls Tryz.prog 7 #[.agg #[.int .i64 V, .slice A L.length c], .agg #[.int .i64 U, .slice B M.length d]] w fun e w' => e = .returned (.bool true) ∧ Below w.heap.size w w' := by
  have mixed := mixedO
  obtain ⟨w1, hw1⟩ : ∃ w1, w1 = (w.alloc (.cells #[.int .i64 V, .slice A L.length c] 24)).alloc (.cells #[.int .i64 U, .slice B M.length d] 24) := ⟨_, rfl⟩
  have hz : Below w.heap.size w w1 := by rw [hw1]; exact two_boxes w _ _
  have x0 : w1.heap[w.heap.size]? = some (.cells #[.int .i64 V, .slice A L.length c] 24 (0, 0)) := by
    rw [hw1, Lib.alloc_old _ _ _ (by simp)]; exact heap_alloc_new w _
  have x1 : w1.heap[w.heap.size + 1]? = some (.cells #[.int .i64 U, .slice B M.length d] 24 (0, 0)) := by
    rw [hw1]; have := heap_alloc_new (w.alloc (.cells #[.int .i64 V, .slice A L.length c] 24)) (.cells #[.int .i64 U, .slice B M.length d] 24)
    simpa using this
  have HG1 : Hid (Gb w w1 w.heap.size V A c L) := Lib.hid ⟨hz, x0, hL.out.below hz⟩
  have HG2 : Hid (Gb w w1 (w.heap.size + 1) U B d M) := Lib.hid ⟨hz, x1, hM.out.below hz⟩
  have HW := Lib.hid hw1
  have HLd : Hid (∀ w', Below w.heap.size w w' → Laid w') := Lib.hid fun w' h => hLd.out.bel h
  clear hw1 hz x0 x1
  obtain ⟨r1, hr1⟩ : ∃ r, decide (L.length ≤ 300) = r := ⟨_, rfl⟩
  obtain ⟨r2, hr2⟩ : ∃ r, decide (M.length ≤ 300) = r := ⟨_, rfl⟩
  have HC1 := Lib.hid (fun W => light_any V A L.length c 300 W)
  have HC2 := Lib.hid (fun W => light_any U B M.length d 300 W)
  rw [hr1] at HC1; rw [hr2] at HC2
  clear hr1 hr2
  go_enter Tryz.func7, Tryz.ntmps7
  go_wp2_with fail
  rw [← HW.out]
  refine (HC1.out w1).mono ?_
  rintro e w2 ⟨rfl, hg2⟩
  have HA2 := Lib.hid (HG1.out.step hg2.below); have HB2 := Lib.hid (HG2.out.step hg2.below)
  clear hg2
  cases r1 with
  | false =>
    go_wp2_with fail
    refine (works_any w2 (Lib.hid (HLd.out _ HA2.out.below))).mono ?_
    rintro e w3 ⟨rfl, HB⟩
    have HZ := Lib.hid (HA2.out.step HB.out).below
    clear HB
    go_wp2
    go_ret
    exact ⟨rfl, HZ.out⟩
  | true =>
    obtain ⟨k0, k1, hk⟩ := HB2.out.facts
    go_wp2_with fail
    refine (HC2.out w2).mono ?_
    rintro e w3 ⟨rfl, hg3⟩
    have HA3 := Lib.hid (HA2.out.step hg3.below); have HB3 := Lib.hid (HB2.out.step hg3.below)
    clear hg3 k0 k1 hk HA2 HB2
    cases r2 with
    | false =>
      go_wp2_with fail
      refine (works_any w3 (Lib.hid (HLd.out _ HA3.out.below))).mono ?_
      rintro e w4 ⟨rfl, HB⟩
      have HZ := Lib.hid (HA3.out.step HB.out).below
      clear HB
      go_wp2
      go_ret
      exact ⟨rfl, HZ.out⟩
    | true =>
      obtain ⟨R, hR⟩ : ∃ R, (decide (V = U) && decide (L = M)) = R := ⟨_, rfl⟩
      have c20 := fun W (h : Below w3.heap.size w3 W) => same_any V U A B c d L M W (HA3.out.at_.below h) (HB3.out.at_.below h) hl hm
      have c17 := fun W (h : Below w3.heap.size w3 W) => rsame_any V U A B c d L M W (HA3.out.at_.below h) (HB3.out.at_.below h) hl hm
      have c21 := fun W (h : Below w3.heap.size w3 W) => same_any V V A A c c L L W (HA3.out.at_.below h) (HA3.out.at_.below h) hl hl
      rw [hR] at c20 c17
      rw [show (decide (V = V) && decide (L = L)) = true by simp] at c21
      have c10 := fun W (h : Below w3.heap.size w3 W) => (works_any W (Lib.hid (HLd.out _ (HA3.out.step h).below))).mono fun _ _ hh => And.intro hh.1 hh.2.out
      have H20 := Lib.hid (regr c20); have H17 := Lib.hid (regr c17); have H21 := Lib.hid (regr c21); have H10 := Lib.hid (regr c10)
      clear c20 c17 c21 c10 hR
      obtain ⟨a0, a1, ha⟩ := HA3.out.facts
      obtain ⟨b0, b1, hb⟩ := HB3.out.facts
      have k0 := cell_regrown a0; have k1 := cell_regrown a1; have k2 := cell_regrown b0; have k3 := cell_regrown b1
      clear a0 a1 b0 b1
      go_wp2_with fail
      all_goals
        refine wp_region_quiet_below mixed (by kernel_rfl) ?_
        repeat (go_big_quiet_step ((with_reducible first | exact H20.out _ _ | exact H17.out _ _ | exact H21.out _ _ | exact H10.out _ _)))
        refine wpQuiet_nil ?_
        intro _ hw'
        obtain ⟨⟨dq, osq⟩, hw''⟩ := hw'
        subst hw''
        have HZ := Lib.hid (HA3.out.step (below_regrown w3 dq osq)).below
        go_wp2
        go_ret
        exact ⟨rfl, HZ.out⟩

end Go.Proofs.YtmcmpjcijbeilaaGreatDoor.Gr
