/-
  What is proved here: the texts GrW3 GrSame GrRef1 GrEdge1 GrRef2 of this seat, laid together (each says itself what it proves; no condition beyond theirs).
-/
import Derived.Test.YtmcmpjcijbeilaaGreatDoorGmA
import Derived.Test.YtmcmpjcijbeilaaGreatDoorGmB
import Derived.Test.YtmcmpjcijbeilaaGreatDoorGmG
import Derived.Lib.QuietBelow
import Derived.BigQuiet
import Derived.Deep.Upon
/-
  What is proved here: contracts of slices.Equal at edges, graph.Same, and of the document's own SameEdges and Same: are two the same? Conditions: counts fit an int.
-/
namespace Go.Proofs.YtmcmpjcijbeilaaGreatDoor.Gr
open Go.RowKit Wd Ws

theorem eq_e (a0 a1 a2 b0 b1 b2 : Int) (r : Bool) (hr : Hid (decide (((a0, a1, a2) : Ed) = (b0, b1, b2)) = r)) (w : World) :
    Sem.run Tryz.prog (binOp .neq 42 (.agg #[.int .i64 a0, .int .i64 a1, .int .i64 a2]) (.agg #[.int .i64 b0, .int .i64 b1, .int .i64 b2])) w = .ok (.bool (!r)) w := by
  have u2 := Tryz.underlying2
  have a2' := Tryz.isAgg2
  have z2 := Tryz.sizeOf2
  have u3 := Tryz.underlying3
  have a3 := Tryz.isAgg3
  have z3 := Tryz.sizeOf3
  have hS : Tryz.prog.underlying 42 = some (.struct (Tryz.prog.fieldsOf 42)) := by kernel_rfl
  have hp : Tryz.prog.stoodInHeld 42 = false := by kernel_rfl
  rw [run_neq_struct, show (10000 : Nat) = 9999 + 1 from rfl, run_equalIn_agg w 9999 42 _ _ hS hp]
  simp only [Program.fieldsOf, Tryz.underlying42]
  go_simp
  have hr' := hr.out
  by_cases h1 : a0 = b0 <;> by_cases h2 : a1 = b1 <;> by_cases h3 : a2 = b2 <;> subst hr' <;> simp [h1, h2, h3]

def SmRel (w : World) (L M : List Ed) (g : Nat) (i : Value) (wr : World) : Prop :=
  ∃ k : Nat, k + g = L.length ∧ i = .int .i64 (k : Int) ∧ Below w.heap.size w wr ∧ decide (L = M) = decide (L.drop k = M.drop k)

set_option maxRecDepth 100000 in
set_option maxHeartbeats 600000 in
theorem equal_any (A B : Option Addr) (c d : Nat) (L M : List Ed) (w : World) (hL : EAt w A L) (hM : EAt w B M) (hl : L.length ≤ 9223372036854775807) (_hm : M.length ≤ 9223372036854775807) :
    Calls Tryz.prog 43 #[.slice A L.length c, .slice B M.length d] w fun e w' => e = .returned (.bool (decide (L = M))) ∧ Below w.heap.size w w' := by
  have HL := Lib.hid hL; have HM := Lib.hid hM; clear hL hM
  obtain ⟨R, hR⟩ : ∃ R, decide (L = M) = R := ⟨_, rfl⟩
  rw [hR]
  have HR := Lib.hid hR; clear hR
  by_cases hlm : L.length = M.length
  · obtain ⟨n, hn⟩ : ∃ n, n = M.length := ⟨_, rfl⟩
    rw [← hn, hlm, ← hn]
    have HLn : Hid (L.length = n) := Lib.hid (by rw [hlm, hn])
    have HMn : Hid (M.length = n) := Lib.hid hn.symm
    have hnn : n ≤ 9223372036854775807 := by omega
    clear hlm hn hl _hm
    go_enter Tryz.func43, Tryz.ntmps43
    go_wp2
    go_loopg [13] n (fun g i wr => SmRel w L M g i wr)
    case atStart => exact ⟨0, by have := HLn.out; omega, rfl, Below.refl _ w, rfl⟩
    case round =>
      obtain ⟨k, hk, rfl, hb, hd⟩ := hrel
      rw [HLn.out] at hk
      by_cases hlt : k < n
      · obtain ⟨e, he⟩ := at_lt L k (by rw [HLn.out]; exact hlt)
        obtain ⟨f, hf⟩ := at_lt M k (by rw [HMn.out]; exact hlt)
        obtain ⟨bk, o, rfl, c0, c1, c2⟩ := (HL.out.below hb) k e he
        obtain ⟨bk', o', rfl, d0, d1, d2⟩ := (HM.out.below hb) k f hf
        rw [drop_at he, drop_at hf] at hd
        have HB := Lib.hid hb; have HD := Lib.hid hd
        clear hb hd he hf
        obtain ⟨e0, e1, e2⟩ := e
        obtain ⟨f0, f1, f2⟩ := f
        obtain ⟨r, hr⟩ : ∃ r, decide (((e0, e1, e2) : Ed) = (f0, f1, f2)) = r := ⟨_, rfl⟩
        have hne := fun W => eq_e e0 e1 e2 f0 f1 f2 r (Lib.hid hr) W
        have HQ := Lib.hid hr; clear hr
        cases r with
        | true =>
          simp only [Bool.not_true] at hne
          go_wp2
          go_quiet (fail)
          go_wp2
          go_roundg (gk - 1)
          case measure => omega
          case rel =>
            refine ⟨k + 1, by have := HLn.out; omega, by go_num, below_drewN HB.out _, ?_⟩
            rw [HD.out]
            have := of_decide_eq_true HQ.out
            rw [this]; simp
        | false =>
          simp only [Bool.not_false] at hne
          go_wp2
          go_quiet (fail)
          go_wp2
          go_ret
          refine ⟨ret_b ?_, below_drewN HB.out _⟩
          rw [← HR.out, HD.out]
          have := of_decide_eq_false HQ.out
          simp only [List.cons.injEq, this, false_and, decide_false]
      · have HB := Lib.hid hb; have HD := Lib.hid hd
        have HK : Hid (k = n) := Lib.hid (by omega)
        clear hb hd
        go_wp2
        go_ret
        refine ⟨ret_b ?_, HB.out⟩
        rw [← HR.out, HD.out, HK.out]
        rw [List.drop_eq_nil_of_le (by rw [HLn.out]; exact Nat.le_refl _), List.drop_eq_nil_of_le (by rw [HMn.out]; exact Nat.le_refl _)]; simp
  · have hne : R = false := by
      rw [← HR.out]
      exact decide_eq_false fun h => hlm (by rw [h])
    subst hne
    go_enter Tryz.func43, Tryz.ntmps43
    go_wp2
    go_ret
    exact ⟨rfl, Below.refl _ w⟩

set_option maxRecDepth 100000 in
set_option maxHeartbeats 600000 in
theorem rsame_edges (A B : Option Addr) (c d : Nat) (L M : List Ed) (w : World) (hL : EAt w A L) (hM : EAt w B M) (hl : L.length ≤ 9223372036854775807) (_hm : M.length ≤ 9223372036854775807) :
    Calls Tryz.prog 23 #[.slice A L.length c, .slice B M.length d] w fun e w' => e = .returned (.bool (decide (L = M))) ∧ Below w.heap.size w w' := by
  have HL := Lib.hid hL; have HM := Lib.hid hM; clear hL hM
  obtain ⟨R, hR⟩ : ∃ R, decide (L = M) = R := ⟨_, rfl⟩
  rw [hR]
  have HR := Lib.hid hR; clear hR
  by_cases hlm : L.length = M.length
  · obtain ⟨n, hn⟩ : ∃ n, n = M.length := ⟨_, rfl⟩
    rw [← hn, hlm, ← hn]
    have HLn : Hid (L.length = n) := Lib.hid (by rw [hlm, hn])
    have HMn : Hid (M.length = n) := Lib.hid hn.symm
    have hnn : n ≤ 9223372036854775807 := by omega
    clear hlm hn hl _hm
    go_enter Tryz.func23, Tryz.ntmps23
    go_wp2
    go_loopg [5] n (fun g i wr => SmRel w L M g i wr)
    case atStart => exact ⟨0, by have := HLn.out; omega, rfl, Below.refl _ w, rfl⟩
    case round =>
      obtain ⟨k, hk, rfl, hb, hd⟩ := hrel
      rw [HLn.out] at hk
      by_cases hlt : k < n
      · obtain ⟨e, he⟩ := at_lt L k (by rw [HLn.out]; exact hlt)
        obtain ⟨f, hf⟩ := at_lt M k (by rw [HMn.out]; exact hlt)
        obtain ⟨bk, o, rfl, c0, c1, c2⟩ := (HL.out.below hb) k e he
        obtain ⟨bk', o', rfl, d0, d1, d2⟩ := (HM.out.below hb) k f hf
        rw [drop_at he, drop_at hf] at hd
        have HB := Lib.hid hb; have HD := Lib.hid hd
        clear hb hd he hf
        obtain ⟨e0, e1, e2⟩ := e
        obtain ⟨f0, f1, f2⟩ := f
        obtain ⟨r, hr⟩ : ∃ r, decide (((e0, e1, e2) : Ed) = (f0, f1, f2)) = r := ⟨_, rfl⟩
        have hne := fun W => eq_e e0 e1 e2 f0 f1 f2 r (Lib.hid hr) W
        have HQ := Lib.hid hr; clear hr
        cases r with
        | true =>
          simp only [Bool.not_true] at hne
          go_wp2
          go_quiet (fail)
          go_wp2
          go_roundg (gk - 1)
          case measure => omega
          case rel =>
            refine ⟨k + 1, by have := HLn.out; omega, by go_num, below_drewN HB.out _, ?_⟩
            rw [HD.out]
            have := of_decide_eq_true HQ.out
            rw [this]; simp
        | false =>
          simp only [Bool.not_false] at hne
          go_wp2
          go_quiet (fail)
          go_wp2
          go_ret
          refine ⟨ret_b ?_, below_drewN HB.out _⟩
          rw [← HR.out, HD.out]
          have := of_decide_eq_false HQ.out
          simp only [List.cons.injEq, this, false_and, decide_false]
      · have HB := Lib.hid hb; have HD := Lib.hid hd
        have HK : Hid (k = n) := Lib.hid (by omega)
        clear hb hd
        go_wp2
        go_ret
        refine ⟨ret_b ?_, HB.out⟩
        rw [← HR.out, HD.out, HK.out]
        rw [List.drop_eq_nil_of_le (by rw [HLn.out]; exact Nat.le_refl _), List.drop_eq_nil_of_le (by rw [HMn.out]; exact Nat.le_refl _)]; simp
  · have hne : R = false := by
      rw [← HR.out]
      exact decide_eq_false fun h => hlm (by rw [h])
    subst hne
    go_enter Tryz.func23, Tryz.ntmps23
    go_wp2
    go_ret
    exact ⟨rfl, Below.refl _ w⟩


set_option maxRecDepth 100000 in
theorem same_any (V U : Int) (A B : Option Addr) (c d : Nat) (L M : List Ed) (w : World) (hL : EAt w A L) (hM : EAt w B M) (hl : L.length ≤ 9223372036854775807) (hm : M.length ≤ 9223372036854775807) :
    Calls Tryz.prog 20 #[.agg #[.int .i64 V, .slice A L.length c], .agg #[.int .i64 U, .slice B M.length d]] w fun e w' => e = .returned (.bool (decide (V = U) && decide (L = M))) ∧ Below w.heap.size w w' := by
  have hz := two_boxes w (.cells #[.int .i64 V, .slice A L.length c] 24) (.cells #[.int .i64 U, .slice B M.length d] 24)
  have HC := Lib.hid (equal_any A B c d L M _ (hL.below hz) (hM.below hz) hl hm)
  have HZ := Lib.hid hz; clear hz hL hM
  by_cases h : V = U
  · subst h
    go_enter Tryz.func20, Tryz.ntmps20
    go_wp2_with fail
    refine HC.out.mono ?_
    rintro e w' ⟨rfl, hb⟩
    have HB := Lib.hid hb; clear hb
    go_wp2_with fail
    go_ret
    refine ⟨ret_b ?_, HZ.out.trans (HB.out.mono (by simp; omega))⟩
    simp
  · go_enter Tryz.func20, Tryz.ntmps20
    go_wp2_with fail
    go_ret
    refine ⟨ret_b ?_, HZ.out⟩
    simp [h]

set_option maxRecDepth 100000 in
theorem rsame_any (V U : Int) (A B : Option Addr) (c d : Nat) (L M : List Ed) (w : World) (hL : EAt w A L) (hM : EAt w B M) (hl : L.length ≤ 9223372036854775807) (hm : M.length ≤ 9223372036854775807) :
    Calls Tryz.prog 17 #[.agg #[.int .i64 V, .slice A L.length c], .agg #[.int .i64 U, .slice B M.length d]] w fun e w' => e = .returned (.bool (decide (V = U) && decide (L = M))) ∧ Below w.heap.size w w' := by
  have hz := two_boxes w (.cells #[.int .i64 V, .slice A L.length c] 24) (.cells #[.int .i64 U, .slice B M.length d] 24)
  have HC := Lib.hid (rsame_edges A B c d L M _ (hL.below hz) (hM.below hz) hl hm)
  have HZ := Lib.hid hz; clear hz hL hM
  by_cases h : V = U
  · subst h
    go_enter Tryz.func17, Tryz.ntmps17
    go_wp2_with fail
    refine HC.out.mono ?_
    rintro e w' ⟨rfl, hb⟩
    have HB := Lib.hid hb; clear hb
    go_wp2_with fail
    go_ret
    refine ⟨ret_b ?_, HZ.out.trans (HB.out.mono (by simp; omega))⟩
    simp
  · go_enter Tryz.func17, Tryz.ntmps17
    go_wp2_with fail
    go_ret
    refine ⟨ret_b ?_, HZ.out⟩
    simp [h]

end Go.Proofs.YtmcmpjcijbeilaaGreatDoor.Gr

/-
  What is proved here: the law on Same, walked. Conditions: what the program's start has laid down; the two graphs can be read.
-/
namespace Go.Proofs.YtmcmpjcijbeilaaGreatDoor.Gr
open Go.RowKit Wd Ws

/- A graph in its box. -/
structure Gb (w W : World) (b : Nat) (V : Int) (A : Option Addr) (c : Nat) (L : List Ed) : Prop where
  below : Below w.heap.size w W
  box : W.heap[b]? = some (.cells #[.int .i64 V, .slice A L.length c] 24 (0, 0))
  at_ : EAt W A L
theorem Gb.step {w W W' : World} {b : Nat} {V : Int} {A : Option Addr} {c : Nat} {L : List Ed} (h : Gb w W b V A c L) (k : Below W.heap.size W W') : Gb w W' b V A c L :=
  ⟨h.below.trans (k.mono h.below.size), (k.block b (lt_of_block h.box)).trans h.box, h.at_.below k⟩
theorem Gb.facts {w W : World} {b : Nat} {V : Int} {A : Option Addr} {c : Nat} {L : List Ed} (h : Gb w W b V A c L) : W.cell? ⟨b, 0, none⟩ = some (.int .i64 V) ∧ W.cell? ⟨b, 1, none⟩ = some (.slice A L.length c) ∧ b < W.heap.size :=
  ⟨by rw [Lib.cell_of_heap h.box]; rfl, by rw [Lib.cell_of_heap h.box]; rfl, lt_of_block h.box⟩
theorem regr {P : Program} {f : FuncId} {args : Array Value} {w : World} {v : Value} (h : ∀ W, Below w.heap.size w W → Calls P f args W fun e w' => e = .returned v ∧ Below W.heap.size W w') (d : Nat) (os : Array Obj) :
    Calls P f args (Sort.grow (redrawn w d) os) fun e w'' => e = .returned v ∧ ∃ p : Regrown, w'' = Sort.grow (redrawn w p.d) p.os := Calls.regrown_of (h _ (below_regrown w d os))

set_option maxRecDepth 100000 in
set_option maxHeartbeats 1000000 in
theorem law_same (V U : Int) (A B : Option Addr) (c d : Nat) (L M : List Ed) (w : World) (hL : Hid (EAt w A L)) (hM : Hid (EAt w B M)) (hl : L.length ≤ 9223372036854775807) (hm : M.length ≤ 9223372036854775807) (hLd : Hid (Laid w)) :
    Calls Tryz.prog 7 #[.agg #[.int .i64 V, .slice A L.length c], .agg #[.int .i64 U, .slice B M.length d]] w fun e w' => e = .returned (.bool true) ∧ Below w.heap.size w w' := by
  have mixed := mixedO
  obtain ⟨w1, hw1⟩ : ∃ w1, w1 = (w.alloc (.cells #[.int .i64 V, .slice A L.length c] 24)).alloc (.cells #[.int .i64 U, .slice B M.length d] 24) := ⟨_, rfl⟩
  have hz : Below w.heap.size w w1 := by rw [hw1]; exact two_boxes w _ _
  have x0 : w1.heap[w.heap.size]? = some (.cells #[.int .i64 V, .slice A L.length c] 24 (0, 0)) := by
    rw [hw1, Lib.alloc_old _ _ _ (by simp)]; exact heap_alloc_new w _
  have x1 : w1.heap[w.heap.size + 1]? = some (.cells #[.int .i64 U, .slice B M.length d] 24 (0, 0)) := by
    rw [hw1]; have := heap_alloc_new (w.alloc (.cells #[.int .i64 V, .slice A L.length c] 24)) (.cells #[.int .i64 U, .slice B M.length d] 24)
    simpa using this
  have HG1 : Hid (Gb w w1 w.heap.size V A c L) := Lib.hid ⟨hz, x0, hL.out.below hz⟩
  have HG2 : Hid (Gb w w1 (w.heap.size + 1) U B d M) := Lib.hid ⟨hz, x1, hM.out.below hz⟩
  have HW := Lib.hid hw1
  have HLd : Hid (∀ w', Below w.heap.size w w' → Laid w') := Lib.hid fun w' h => hLd.out.bel h
  clear hw1 hz x0 x1
  obtain ⟨r1, hr1⟩ : ∃ r, decide (L.length ≤ 300) = r := ⟨_, rfl⟩
  obtain ⟨r2, hr2⟩ : ∃ r, decide (M.length ≤ 300) = r := ⟨_, rfl⟩
  have HC1 := Lib.hid (fun W => light_any V A L.length c 300 W)
  have HC2 := Lib.hid (fun W => light_any U B M.length d 300 W)
  rw [hr1] at HC1; rw [hr2] at HC2
  clear hr1 hr2
  go_enter Tryz.func7, Tryz.ntmps7
  go_wp2_with fail
  rw [← HW.out]
  refine (HC1.out w1).mono ?_
  rintro e w2 ⟨rfl, hg2⟩
  have HA2 := Lib.hid (HG1.out.step hg2.below); have HB2 := Lib.hid (HG2.out.step hg2.below)
  clear hg2
  cases r1 with
  | false =>
    go_wp2_with fail
    refine (works_any w2 (Lib.hid (HLd.out _ HA2.out.below))).mono ?_
    rintro e w3 ⟨rfl, HB⟩
    have HZ := Lib.hid (HA2.out.step HB.out).below
    clear HB
    go_wp2
    go_ret
    exact ⟨rfl, HZ.out⟩
  | true =>
    obtain ⟨k0, k1, hk⟩ := HB2.out.facts
    go_wp2_with fail
    refine (HC2.out w2).mono ?_
    rintro e w3 ⟨rfl, hg3⟩
    have HA3 := Lib.hid (HA2.out.step hg3.below); have HB3 := Lib.hid (HB2.out.step hg3.below)
    clear hg3 k0 k1 hk HA2 HB2
    cases r2 with
    | false =>
      go_wp2_with fail
      refine (works_any w3 (Lib.hid (HLd.out _ HA3.out.below))).mono ?_
      rintro e w4 ⟨rfl, HB⟩
      have HZ := Lib.hid (HA3.out.step HB.out).below
      clear HB
      go_wp2
      go_ret
      exact ⟨rfl, HZ.out⟩
    | true =>
      obtain ⟨R, hR⟩ : ∃ R, (decide (V = U) && decide (L = M)) = R := ⟨_, rfl⟩
      have c20 := fun W (h : Below w3.heap.size w3 W) => same_any V U A B c d L M W (HA3.out.at_.below h) (HB3.out.at_.below h) hl hm
      have c17 := fun W (h : Below w3.heap.size w3 W) => rsame_any V U A B c d L M W (HA3.out.at_.below h) (HB3.out.at_.below h) hl hm
      have c21 := fun W (h : Below w3.heap.size w3 W) => same_any V V A A c c L L W (HA3.out.at_.below h) (HA3.out.at_.below h) hl hl
      rw [hR] at c20 c17
      rw [show (decide (V = V) && decide (L = L)) = true by simp] at c21
      have c10 := fun W (h : Below w3.heap.size w3 W) => (works_any W (Lib.hid (HLd.out _ (HA3.out.step h).below))).mono fun _ _ hh => And.intro hh.1 hh.2.out
      have H20 := Lib.hid (regr c20); have H17 := Lib.hid (regr c17); have H21 := Lib.hid (regr c21); have H10 := Lib.hid (regr c10)
      clear c20 c17 c21 c10 hR
      obtain ⟨a0, a1, ha⟩ := HA3.out.facts
      obtain ⟨b0, b1, hb⟩ := HB3.out.facts
      have k0 := cell_regrown a0; have k1 := cell_regrown a1; have k2 := cell_regrown b0; have k3 := cell_regrown b1
      clear a0 a1 b0 b1
      go_wp2_with fail
      all_goals
        refine wp_region_quiet_below mixed (by kernel_rfl) ?_
        repeat (go_big_quiet_step ((with_reducible first | exact H20.out _ _ | exact H17.out _ _ | exact H21.out _ _ | exact H10.out _ _)))
        refine wpQuiet_nil ?_
        intro _ hw'
        obtain ⟨⟨dq, osq⟩, hw''⟩ := hw'
        subst hw''
        have HZ := Lib.hid (HA3.out.step (below_regrown w3 dq osq)).below
        go_wp2
        go_ret
        exact ⟨rfl, HZ.out⟩

end Go.Proofs.YtmcmpjcijbeilaaGreatDoor.Gr

/-
  What is proved here: plain facts on the document's own way to add an edge: it is put where it belongs, so the edges rise at any time; and this takes the same edges as adding behind. No condition.
-/
namespace Go.Proofs.YtmcmpjcijbeilaaGreatDoor.Gr
open Wd

/- The place of an edge: how many stand ahead of it at the start. -/
def placeOf (e : Ed) (R : List Ed) : Nat := (R.takeWhile fun x => ahd x e).length
def insR (e : Ed) (R : List Ed) : List Ed := R.take (placeOf e R) ++ e :: R.drop (placeOf e R)
theorem place_nil (e : Ed) : placeOf e [] = 0 := rfl
theorem place_cons (e x : Ed) (R : List Ed) : placeOf e (x :: R) = if ahd x e = true then placeOf e R + 1 else 0 := by
  unfold placeOf
  rw [List.takeWhile_cons]
  split <;> simp
theorem place_le (e : Ed) : ∀ R : List Ed, placeOf e R ≤ R.length
  | [] => Nat.le_refl _
  | x :: R => by
    rw [place_cons]
    have := place_le e R
    split <;> simp <;> omega
theorem insR_nil (e : Ed) : insR e [] = [e] := rfl
theorem insR_cons (e x : Ed) (R : List Ed) : insR e (x :: R) = if ahd x e = true then x :: insR e R else e :: x :: R := by
  unfold insR
  rw [place_cons]
  split <;> simp
theorem insR_perm (e : Ed) (R : List Ed) : (insR e R).Perm (R ++ [e]) := by
  unfold insR
  have h : (R.take (placeOf e R) ++ e :: R.drop (placeOf e R)).Perm (e :: (R.take (placeOf e R) ++ R.drop (placeOf e R))) := List.perm_middle
  rw [List.take_append_drop] at h
  exact h.trans (List.perm_append_singleton e R).symm
theorem insR_rise (e : Ed) : ∀ R : List Ed, Rise R → (∀ x ∈ R, same e x = false) → Rise (insR e R)
  | [], _, _ => by rw [insR_nil]; exact List.pairwise_singleton _ _
  | x :: R, h, hs => by
    obtain ⟨h1, h2⟩ := List.pairwise_cons.1 h
    rw [insR_cons]
    split
    · rename_i hx
      refine List.pairwise_cons.2 ⟨fun y hy => ?_, insR_rise e R h2 fun y hy => hs y (List.mem_cons_of_mem _ hy)⟩
      have := (insR_perm e R).mem_iff.1 hy
      rcases List.mem_append.1 this with hy | hy
      · exact h1 y hy
      · simp at hy; subst hy; exact hx
    · rename_i hx
      have hx : ahd x e = false := by simpa using hx
      have hn := hs x List.mem_cons_self
      have he : ahd e x = true := by
        cases g : ahd e x with
        | true => rfl
        | false => have := ahd_same g hx; rw [same_not] at hn; omega
      refine List.pairwise_cons.2 ⟨fun y hy => ?_, h⟩
      rcases List.mem_cons.1 hy with rfl | hy
      · exact he
      · exact ahd_trans he (h1 y hy)
/- Is the edge there already? What stands at its place tells. -/
theorem there_iff (e : Ed) : ∀ R : List Ed, Rise R → (R.any (same e) = true ↔ ∃ x, R[placeOf e R]? = some x ∧ ahd e x = false)
  | [], _ => by simp [place_nil]
  | x :: R, h => by
    obtain ⟨h1, h2⟩ := List.pairwise_cons.1 h
    rw [place_cons, List.any_cons, Bool.or_eq_true]
    have ih := there_iff e R h2
    split
    · rename_i hx
      rw [List.getElem?_cons_succ, ← ih]
      have : same e x = false := by rw [same_not]; rw [ahd_iff] at hx; omega
      rw [this]; simp
    · rename_i hx
      have hx : ahd x e = false := by simpa using hx
      rw [List.getElem?_cons_zero]
      constructor
      · intro hh
        refine ⟨x, rfl, ?_⟩
        cases g : ahd e x with
        | false => rfl
        | true =>
          rcases hh with hh | hh
          · have : same e x = false := by rw [same_not]; rw [ahd_iff] at g; omega
            rw [this] at hh; cases hh
          · obtain ⟨y, hy, hs⟩ := List.any_eq_true.1 hh
            have k := ahd_trans g (h1 y hy)
            have : same e y = false := by rw [same_not]; rw [ahd_iff] at k; omega
            rw [this] at hs; cases hs
      · rintro ⟨y, hxy, hy⟩
        obtain rfl := Option.some.inj hxy
        left
        have := ahd_same hy hx
        cases g : same e x with
        | true => rfl
        | false => rw [same_not] at g; omega

/- What the document's words do with an edge, beside what the program does. -/
def addR (V : Int) (R : List Ed) (e : Ed) : Option (List Ed) := if fitE V e = false ∨ 8192 ≤ R.length ∨ R.any (same e) = true then none else some (insR e R)
theorem any_perm {L R : List Ed} (h : R.Perm L) (e : Ed) : R.any (same e) = L.any (same e) := by
  rw [Bool.eq_iff_iff, List.any_eq_true, List.any_eq_true]
  exact ⟨fun ⟨x, hx, hs⟩ => ⟨x, h.mem_iff.1 hx, hs⟩, fun ⟨x, hx, hs⟩ => ⟨x, h.mem_iff.2 hx, hs⟩⟩
theorem addR_none {V : Int} {L R : List Ed} {e : Ed} (h : R.Perm L) (hl : L.length ≤ 8192) (hf : fitE V e = true) : addR V R e = none ↔ addP L e = none := by
  unfold addR addP
  rw [any_perm h, h.length_eq, hf]
  constructor
  · intro hh
    split at hh
    · rename_i g
      rw [if_pos]
      rcases g with g | g | g
      · cases g
      · right; omega
      · left; exact g
    · cases hh
  · intro hh
    split at hh
    · rename_i g
      rw [if_pos]
      rcases g with g | g
      · right; right; exact g
      · right; left; omega
    · cases hh
theorem addR_some {V : Int} {L R M : List Ed} {e : Ed} (h : R.Perm L) (hr : Rise R) (hl : L.length ≤ 8192) (hf : fitE V e = true) (ha : addP L e = some M) : ∃ S, addR V R e = some S ∧ S.Perm M ∧ Rise S := by
  obtain ⟨rfl, h1, h2⟩ := addP_some ha
  have hn : R.any (same e) = false := by
    rw [any_perm h]; rw [List.any_eq_false]; intro x hx; simp [h1 x hx]
  refine ⟨insR e R, ?_, (insR_perm e R).trans (h.append_right [e]), insR_rise e R hr fun x hx => h1 x (h.mem_iff.1 hx)⟩
  unfold addR
  rw [if_neg]
  rintro (g | g | g)
  · rw [hf] at g; cases g
  · rw [h.length_eq] at g; omega
  · rw [hn] at g; cases g

end Go.Proofs.YtmcmpjcijbeilaaGreatDoor.Gr

/-
  What is proved here: facts for the law on edges: how the edges that leave (reach) the vertices add up; all edges behind an empty slice by one append. No condition.
-/
namespace Go.Proofs.YtmcmpjcijbeilaaGreatDoor.Gr
open Go.RowKit Wd Ws

/- How many edges have a key below k. -/
theorem sum_step (f : Ed → Int) (k : Nat) : ∀ L : List Ed, (L.filter fun e => decide (f e < ((k + 1 : Nat) : Int)) && decide (0 ≤ f e)).length = (L.filter fun e => decide (f e < (k : Int)) && decide (0 ≤ f e)).length + (L.filter fun e => decide (f e = (k : Int))).length
  | [] => rfl
  | e :: L => by
    have ih := sum_step f k L
    simp only [List.filter_cons]
    by_cases h1 : f e = (k : Int)
    · have a1 : (decide (f e < ((k + 1 : Nat) : Int)) && decide (0 ≤ f e)) = true := by simp; omega
      have a2 : (decide (f e < (k : Int)) && decide (0 ≤ f e)) = false := by simp; omega
      rw [a1, a2, if_pos rfl, if_neg (by simp), if_pos (by simp [h1]), List.length_cons, List.length_cons, ih]; omega
    · by_cases h2 : f e < (k : Int) ∧ 0 ≤ f e
      · have a1 : (decide (f e < ((k + 1 : Nat) : Int)) && decide (0 ≤ f e)) = true := by simp; omega
        have a2 : (decide (f e < (k : Int)) && decide (0 ≤ f e)) = true := by simp; omega
        rw [a1, a2, if_pos rfl, if_pos rfl, if_neg (by simp [h1]), List.length_cons, List.length_cons, ih]; omega
      · have a1 : (decide (f e < ((k + 1 : Nat) : Int)) && decide (0 ≤ f e)) = false := by simp; omega
        have a2 : (decide (f e < (k : Int)) && decide (0 ≤ f e)) = false := by simp; omega
        rw [a1, a2, if_neg (by simp), if_neg (by simp), if_neg (by simp [h1]), ih]
def below (f : Ed → Int) (k : Nat) (L : List Ed) : Nat := (L.filter fun e => decide (f e < (k : Int)) && decide (0 ≤ f e)).length
theorem below_zero (f : Ed → Int) (L : List Ed) : below f 0 L = 0 := by
  unfold below
  rw [List.length_eq_zero_iff, List.filter_eq_nil_iff]
  intro e _; simp
theorem below_succ (f : Ed → Int) (k : Nat) (L : List Ed) : below f (k + 1) L = below f k L + (L.filter fun e => decide (f e = (k : Int))).length := sum_step f k L
theorem below_le (f : Ed → Int) (k : Nat) (L : List Ed) : below f k L ≤ L.length := List.length_filter_le _ _
theorem below_all (f : Ed → Int) (k : Nat) (L : List Ed) (h : ∀ e ∈ L, 0 ≤ f e ∧ f e < (k : Int)) : below f k L = L.length := by
  unfold below
  rw [List.filter_eq_self.2]
  intro e he
  have := h e he
  simp; omega

/- All edges behind nothing. -/
theorem eat_cells {w : World} {A : Option Addr} {L : List Ed} (h : EAt w A L) (a : Addr) (hA : A = some a) : ∀ j u, (ecs L)[j]? = some u → w.cell? (a.add j) = some u := by
  intro j u hu
  have hj : j < L.length * 3 := by have := lt_at hu; rwa [ecs_len] at this
  obtain ⟨e, he⟩ := at_lt L (j / 3) (by omega)
  obtain ⟨bk, o, hb, c0, c1, c2⟩ := h (j / 3) e he
  obtain ⟨a0, a1, a2⟩ := ecs_at L (j / 3) e he
  rw [hA] at hb
  obtain rfl := Option.some.inj hb
  rw [Ws.add_plain]
  have h3 : j % 3 = 0 ∨ j % 3 = 1 ∨ j % 3 = 2 := by omega
  rcases h3 with h3 | h3 | h3
  · rw [show j / 3 * 3 = j by omega] at a0 c0; rw [a0] at hu; rw [← hu]; exact c0
  · rw [show j / 3 * 3 + 1 = j by omega] at a1; rw [show o + j / 3 * 3 + 1 = o + j by omega] at c1; rw [a1] at hu; rw [← hu]; exact c1
  · rw [show j / 3 * 3 + 2 = j by omega] at a2; rw [show o + j / 3 * 3 + 2 = o + j by omega] at c2; rw [a2] at hu; rw [← hu]; exact c2
theorem app_all {w : World} {ops : Array Oper} {rest : List Oper} {o : Oper} {a : Act} {Q : Exit → Act → World → Prop} (hgd : o.guard = none) (s x : Operand)
    (ho : o.op = .call { callee := .builtin .append, args := #[s, x], argTypes := #[22, 22] }) (B : Nat) (v : Value) (K L : List Ed) (hs : a.eval s = v) (hown : EOwn w B v K)
    (ad : Addr) (c : Nat) (hx : a.eval x = .slice (some ad) L.length c) (hL : EAt w (some ad) L) (hn : K.length + L.length < 1000000000) (hB : B ≤ w.heap.size)
    (h : ∀ v' w', EOwn w' B v' (K ++ L) → w.grownBy w' v.ownBlock → wpList Tryz.prog ops Q rest (a.put o.dst v') w') : wpList Tryz.prog ops Q (o :: rest) a w := by
  obtain ⟨i0, hi, hz0, hz1, hz2⟩ := info_parts infoE
  refine wpList_append_own w hgd s x 22 ho B 42 i0 _ 3 24 Tryz.underlying22 hi hz0 hz1 hz2 rfl (by decide) v K.length (ecs K) hs hown ad L.length c (ecs L) hx (ecs_len L) (eat_cells hL ad rfl) (ecs_one L) ?_ ?_ hB ?_
  · unfold maxLen; omega
  · omega
  · intro v' w' h1 h2 _
    refine h v' w' ?_ h2
    unfold EOwn
    rw [ecs_append, List.length_append]
    exact h1

theorem eat_none {w : World} {L : List Ed} (h : EAt w none L) : L = [] := by
  cases L with
  | nil => rfl
  | cons e L => obtain ⟨_, _, h0, _⟩ := h 0 e rfl; cases h0
theorem app_copy {w : World} {ops : Array Oper} {rest : List Oper} {o : Oper} {a : Act} {Q : Exit → Act → World → Prop} (hgd : o.guard = none) (s x : Operand)
    (ho : o.op = .call { callee := .builtin .append, args := #[s, x], argTypes := #[22, 22] }) (B : Nat) (L : List Ed) (hs : a.eval s = .slice none 0 0)
    (A : Option Addr) (c : Nat) (hx : a.eval x = .slice A L.length c) (hL : EAt w A L) (hn : L.length < 1000000000) (hB : B ≤ w.heap.size)
    (h : ∀ v' w', EOwn w' B v' L → w.grownBy w' none → wpList Tryz.prog ops Q rest (a.put o.dst v') w') : wpList Tryz.prog ops Q (o :: rest) a w := by
  cases A with
  | some ad => exact app_all hgd s x ho B _ [] L hs (EOwn.none_ _ _) ad c hx hL (by simp; omega) hB h
  | none =>
    obtain rfl := eat_none hL
    obtain ⟨i0, hi, _⟩ := info_parts infoE
    have u22 := run_underlying Tryz.underlying22
    have hr : (Builtin.append_ #[22, 22] o.type #[.slice none 0 0, .slice none 0 c]).run Tryz.prog w = .ok (.slice none 0 0) w := by
      simp [Builtin.append_, Builtin.lenOf, Builtin.firstCells, u22, sizeOf, typeInfo, hi]
    refine wpList_plain hgd fun _ hK => ?_
    unfold Oper.wp execOp
    simp only [ho, resolve, invoke, builtin, Sem.run_bind, Sem.run_pure, Result.andThen_ok, List.map_toArray, List.map_cons, List.map_nil, hs, hx, hr, List.length_nil]
    exact hK _ _ (h _ _ (EOwn.none_ _ _) ⟨rfl, rfl, rfl, Nat.le_refl _, fun _ _ _ => rfl⟩)

end Go.Proofs.YtmcmpjcijbeilaaGreatDoor.Gr

/-
  What is proved here: the contract of treadwheelref04's add: a graph with an edge more, or why it is none. Conditions: at most 300000 edges, which rise.
-/
namespace Go.Proofs.YtmcmpjcijbeilaaGreatDoor.Gr
open Go.RowKit Wd Ws

theorem EOwn.room {w : World} {B : Nat} {v : Value} {L : List Ed} (h : EOwn w B v L) : ∃ A c, v = .slice A L.length c ∧ L.length ≤ c ∧ c ≤ maxLen := by
  obtain ⟨h0, h1 | ⟨g, cap, cur, h1, h2, h3, h4, h5, h6, h7⟩⟩ := h
  · have : L = [] := List.eq_nil_of_length_eq_zero h1.2
    subst this
    exact ⟨none, 0, h1.1, Nat.le_refl _, Nat.zero_le _⟩
  · exact ⟨_, cap, h1, h4, h5⟩
/- All edges of a slice, behind others: that slice may be nil. -/
theorem app_rest {w : World} {ops : Array Oper} {rest : List Oper} {o : Oper} {a : Act} {Q : Exit → Act → World → Prop} (hgd : o.guard = none) (s x : Operand)
    (ho : o.op = .call { callee := .builtin .append, args := #[s, x], argTypes := #[22, 22] }) (B : Nat) (v : Value) (K L : List Ed) (hs : a.eval s = v) (hown : EOwn w B v K)
    (A : Option Addr) (c : Nat) (hx : a.eval x = .slice A L.length c) (hL : EAt w A L) (hn : K.length + L.length < 1000000000) (hB : B ≤ w.heap.size)
    (h : ∀ v' w', EOwn w' B v' (K ++ L) → w.grownBy w' v.ownBlock → wpList Tryz.prog ops Q rest (a.put o.dst v') w') : wpList Tryz.prog ops Q (o :: rest) a w := by
  cases A with
  | some ad => exact app_all hgd s x ho B v K L hs hown ad c hx hL hn hB h
  | none =>
    obtain rfl := eat_none hL
    obtain ⟨i0, hi, _⟩ := info_parts infoE
    have u22 := run_underlying Tryz.underlying22
    obtain ⟨A', c', rfl, hcap, _⟩ := hown.room
    have hr : (Builtin.append_ #[22, 22] o.type #[.slice A' K.length c', .slice none 0 c]).run Tryz.prog w = .ok (.slice A' K.length c') w := by
      cases A' <;> simp [Builtin.append_, Builtin.lenOf, Builtin.firstCells, u22, sizeOf, typeInfo, hi, hcap, storeCells]
    refine wpList_plain hgd fun _ hK => ?_
    unfold Oper.wp execOp
    simp only [ho, resolve, invoke, builtin, Sem.run_bind, Sem.run_pure, Result.andThen_ok, List.map_toArray, List.map_cons, List.map_nil, hs, hx, hr, List.length_nil]
    exact hK _ _ (h _ _ (by rw [List.append_nil]; exact hown) ⟨rfl, rfl, rfl, Nat.le_refl _, fun _ _ _ => rfl⟩)

theorem EAt.take {w : World} {A : Option Addr} {L : List Ed} (h : EAt w A L) (k : Nat) : EAt w A (L.take k) := fun i e hi => h i e (by
  rw [List.getElem?_take] at hi; split at hi
  · exact hi
  · cases hi)
theorem EAt.drop {w : World} {g o : Nat} {L : List Ed} (h : EAt w (some ⟨g, o, none⟩) L) (k : Nat) : EAt w (some ⟨g, o + k * 3, none⟩) (L.drop k) := fun i e hi => by
  rw [List.getElem?_drop] at hi
  obtain ⟨bk, o', e1, c0, c1, c2⟩ := h (k + i) e hi
  cases e1
  refine ⟨g, o + k * 3, rfl, ?_, ?_, ?_⟩
  · rw [show o + k * 3 + i * 3 = o + (k + i) * 3 by omega]; exact c0
  · rw [show o + k * 3 + i * 3 + 1 = o + (k + i) * 3 + 1 by omega]; exact c1
  · rw [show o + k * 3 + i * 3 + 2 = o + (k + i) * 3 + 2 by omega]; exact c2

/- The three boxes that add lays: the graph, the edge, the answer. -/
structure Ab (w W : World) (V : Int) (A : Option Addr) (c : Nat) (R : List Ed) (e : Ed) : Prop where
  below : Below w.heap.size w W
  bg : W.heap[w.heap.size]? = some (.cells #[.int .i64 V, .slice A R.length c] 24 (0, 0))
  be : W.heap[w.heap.size + 1]? = some (.cells #[.int .i64 e.1, .int .i64 e.2.1, .int .i64 e.2.2] 42 (0, 0))
  br : W.heap[w.heap.size + 2]? = some (.cells #[.int .i64 0, .slice none 0 0] 24 (0, 0))
  at0 : EAt w A R
theorem Ab.at_ {w W : World} {V : Int} {A : Option Addr} {c : Nat} {R : List Ed} {e : Ed} (h : Ab w W V A c R e) : EAt W A R := h.at0.below h.below
theorem Ab.size {w W : World} {V : Int} {A : Option Addr} {c : Nat} {R : List Ed} {e : Ed} (h : Ab w W V A c R e) : w.heap.size + 2 < W.heap.size := lt_of_block h.br
theorem Ab.step {w W W' : World} {V : Int} {A : Option Addr} {c : Nat} {R : List Ed} {e : Ed} (h : Ab w W V A c R e) (k : Below W.heap.size W W') : Ab w W' V A c R e :=
  ⟨h.below.trans (k.mono h.below.size), (k.block _ (lt_of_block h.bg)).trans h.bg, (k.block _ (lt_of_block h.be)).trans h.be, (k.block _ (lt_of_block h.br)).trans h.br, h.at0⟩
theorem Ab.grown {w W W' : World} {V : Int} {A : Option Addr} {c : Nat} {R : List Ed} {e : Ed} {r : Option Nat} (h : Ab w W V A c R e) (k : W.grownBy W' r) (hr : ∀ j, r = some j → w.heap.size + 3 ≤ j) : Ab w W' V A c R e :=
  ⟨Below.grown h.below k h.below.size (fun j e => by have := hr j e; omega), (k.block _ (lt_of_block h.bg) (fun e => by have := hr _ e.symm; omega)).trans h.bg, (k.block _ (lt_of_block h.be) (fun e => by have := hr _ e.symm; omega)).trans h.be,
    (k.block _ (lt_of_block h.br) (fun e => by have := hr _ e.symm; omega)).trans h.br, h.at0⟩
theorem Ab.facts {w W : World} {V : Int} {A : Option Addr} {c : Nat} {R : List Ed} {e : Ed} (h : Ab w W V A c R e) :
    (W.cell? ⟨w.heap.size, 0, none⟩ = some (.int .i64 V) ∧ W.cell? ⟨w.heap.size, 1, none⟩ = some (.slice A R.length c)) ∧
    (W.cell? ⟨w.heap.size + 1, 0, none⟩ = some (.int .i64 e.1) ∧ W.cell? ⟨w.heap.size + 1, 1, none⟩ = some (.int .i64 e.2.1) ∧ W.cell? ⟨w.heap.size + 1, 2, none⟩ = some (.int .i64 e.2.2)) ∧
    (W.cell? ⟨w.heap.size + 2, 0, none⟩ = some (.int .i64 0) ∧ W.cell? ⟨w.heap.size + 2, 1, none⟩ = some (.slice none 0 0)) ∧
    ((∀ j, W.frozen? ⟨w.heap.size, j, none⟩ = false) ∧ (∀ j, W.frozen? ⟨w.heap.size + 2, j, none⟩ = false)) ∧ w.heap.size + 2 < W.heap.size := by
  refine ⟨⟨?_, ?_⟩, ⟨?_, ?_, ?_⟩, ⟨?_, ?_⟩, ⟨fun j => Lib.frozen_of_heap h.bg j, fun j => Lib.frozen_of_heap h.br j⟩, h.size⟩
  · rw [Lib.cell_of_heap h.bg]; rfl
  · rw [Lib.cell_of_heap h.bg]; rfl
  · rw [Lib.cell_of_heap h.be]; rfl
  · rw [Lib.cell_of_heap h.be]; rfl
  · rw [Lib.cell_of_heap h.be]; rfl
  · rw [Lib.cell_of_heap h.br]; rfl
  · rw [Lib.cell_of_heap h.br]; rfl
theorem ab_new (w : World) (V : Int) (A : Option Addr) (c : Nat) (R : List Ed) (e : Ed) (h : EAt w A R) :
    ∃ W, Hid (W = ((w.alloc (.cells #[.int .i64 V, .slice A R.length c] 24)).alloc (.cells #[.int .i64 e.1, .int .i64 e.2.1, .int .i64 e.2.2] 42)).alloc (.cells #[.int .i64 0, .slice none 0 0] 24)) ∧ Hid (Ab w W V A c R e) := by
  obtain ⟨w1, h1⟩ : ∃ w1, w1 = w.alloc (.cells #[.int .i64 V, .slice A R.length c] 24) := ⟨_, rfl⟩
  obtain ⟨w2, h2⟩ : ∃ w2, w2 = w1.alloc (.cells #[.int .i64 e.1, .int .i64 e.2.1, .int .i64 e.2.2] 42) := ⟨_, rfl⟩
  obtain ⟨w3, h3⟩ : ∃ w3, w3 = w2.alloc (.cells #[.int .i64 0, .slice none 0 0] 24) := ⟨_, rfl⟩
  have s1 : w1.heap.size = w.heap.size + 1 := by rw [h1]; simp
  have s2 : w2.heap.size = w.heap.size + 2 := by rw [h2]; simp; omega
  have b1 : Below w.heap.size w w1 := by rw [h1]; exact (Below.refl _ w).alloc (Nat.le_refl _) _
  have b2 : Below w1.heap.size w1 w2 := by rw [h2]; exact (Below.refl _ w1).alloc (Nat.le_refl _) _
  have b3 : Below w2.heap.size w2 w3 := by rw [h3]; exact (Below.refl _ w2).alloc (Nat.le_refl _) _
  have e1 : w1.heap[w.heap.size]? = some (.cells #[.int .i64 V, .slice A R.length c] 24 (0, 0)) := by rw [h1]; exact heap_alloc_new w _
  have e2 : w2.heap[w1.heap.size]? = some (.cells #[.int .i64 e.1, .int .i64 e.2.1, .int .i64 e.2.2] 42 (0, 0)) := by rw [h2]; exact heap_alloc_new w1 _
  have e3 : w3.heap[w2.heap.size]? = some (.cells #[.int .i64 0, .slice none 0 0] 24 (0, 0)) := by rw [h3]; exact heap_alloc_new w2 _
  have b23 := b2.trans (b3.mono (by omega))
  have b13 := b1.trans (b23.mono (by omega))
  refine ⟨w3, Lib.hid (by rw [h3, h2, h1]), Lib.hid ⟨b13, (b23.block _ (by omega)).trans e1, ?_, ?_, h⟩⟩
  · rw [← s1]; exact (b3.block _ (by omega)).trans e2
  · rw [← s2]; exact e3

theorem app_copy2 {w : World} {ops : Array Oper} {rest : List Oper} {o : Oper} {a : Act} {Q : Exit → Act → World → Prop} (hgd : o.guard = none) (s x : Operand)
    (ho : o.op = .call { callee := .builtin .append, args := #[s, x], argTypes := #[22, 22] }) (B : Nat) (L : List Ed) (hs : a.eval s = .slice none 0 0)
    (A : Option Addr) (n c : Nat) (hx : a.eval x = .slice A n c) (hL : EAt w A L) (hnL : L.length = n) (hn : n < 1000000000) (hB : B ≤ w.heap.size)
    (h : ∀ v' w', EOwn w' B v' L → w.grownBy w' none → wpList Tryz.prog ops Q rest (a.put o.dst v') w') : wpList Tryz.prog ops Q (o :: rest) a w := by
  subst hnL
  exact app_copy hgd s x ho B L hs A c hx hL hn hB h
theorem app_rest2 {w : World} {ops : Array Oper} {rest : List Oper} {o : Oper} {a : Act} {Q : Exit → Act → World → Prop} (hgd : o.guard = none) (s x : Operand)
    (ho : o.op = .call { callee := .builtin .append, args := #[s, x], argTypes := #[22, 22] }) (B : Nat) (v : Value) (K L : List Ed) (hs : a.eval s = v) (hown : EOwn w B v K)
    (A : Option Addr) (n c : Nat) (hx : a.eval x = .slice A n c) (hL : EAt w A L) (hnL : L.length = n) (hn : K.length + n < 1000000000) (hB : B ≤ w.heap.size)
    (h : ∀ v' w', EOwn w' B v' (K ++ L) → w.grownBy w' v.ownBlock → wpList Tryz.prog ops Q rest (a.put o.dst v') w') : wpList Tryz.prog ops Q (o :: rest) a w := by
  subst hnL
  exact app_rest hgd s x ho B v K L hs hown A c hx hL hn hB h

/- What add answers. -/
def AddRes (w w' : World) (V : Int) (A : Option Addr) (c : Nat) (R : List Ed) (e : Ending) : Option (List Ed) → Prop
  | none => e = .returned (.tuple #[.agg #[.int .i64 V, .slice A R.length c], .bool false])
  | some S => ∃ v, e = .returned (.tuple #[.agg #[.int .i64 V, v], .bool true]) ∧ Hid (EOwn w' w.heap.size v S)
def AlRel (w : World) (V : Int) (A : Option Addr) (c : Nat) (R : List Ed) (e : Ed) (gk : Nat) (v6 : Value) (wr : World) : Prop :=
  ∃ k : Nat, v6 = .int .i64 (k : Int) ∧ k + gk = R.length ∧ Hid (Ab w wr V A c R e) ∧ Hid (placeOf e R = k + placeOf e (R.drop k))
theorem place_go {e x : Ed} {R : List Ed} {k : Nat} (hx : R[k]? = some x) (h : placeOf e R = k + placeOf e (R.drop k)) (ha : ahd x e = true) : placeOf e R = k + 1 + placeOf e (R.drop (k + 1)) := by
  rw [h, drop_at hx, place_cons, if_pos ha]; omega
theorem place_stop {e x : Ed} {R : List Ed} {k : Nat} (hx : R[k]? = some x) (h : placeOf e R = k + placeOf e (R.drop k)) (ha : ahd x e = false) : placeOf e R = k := by
  rw [h, drop_at hx, place_cons, if_neg (by rw [ha]; exact Bool.false_ne_true)]; omega
theorem eat_edge {w : World} {A : Option Addr} {L : List Ed} (h : EAt w A L) {k : Nat} {x : Ed} (hx : L[k]? = some x) :
    ∃ g o, A = some ⟨g, o, none⟩ ∧ w.cell? ⟨g, o + k * 3, none⟩ = some (.int .i64 x.1) ∧ w.cell? ⟨g, o + k * 3 + 1, none⟩ = some (.int .i64 x.2.1) ∧ w.cell? ⟨g, o + k * 3 + 2, none⟩ = some (.int .i64 x.2.2) := h k x hx

end Go.Proofs.YtmcmpjcijbeilaaGreatDoor.Gr
