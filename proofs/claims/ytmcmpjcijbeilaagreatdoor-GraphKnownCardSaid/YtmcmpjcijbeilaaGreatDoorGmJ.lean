/-
  What is proved here: the texts GrRef5 of this seat, laid together (each says itself what it proves; no condition beyond theirs).
-/
import Derived.Test.YtmcmpjcijbeilaaGreatDoorGmI
import Derived.Deep.Cut
import Derived.Deep.RegionWith
/-
  What is proved here: the contract of treadwheelref04's line: a graph with what a line says. Conditions: at most 8192 edges, which rise; words of at most 300000 bytes.
-/
namespace Go.Proofs.YtmcmpjcijbeilaaGreatDoor.Gr
open Go.RowKit Wd Ws

def putS (V : Int) (both : Bool) (a b d : Nat) : Option (List Ed) → Option (List Ed)
  | none => none
  | some S => if both = true ∧ a ≠ b then addR V S ((b : Int), (a : Int), (d : Int)) else some S
theorem addR_rise {V : Int} {R S : List Ed} {e : Ed} (hr : Rise R) (h : addR V R e = some S) : Rise S ∧ S.length = R.length + 1 := by
  unfold addR at h
  split at h
  · cases h
  · rename_i g
    obtain rfl := Option.some.inj h
    simp only [not_or, Bool.not_eq_true, List.any_eq_false] at g
    refine ⟨insR_rise e R hr fun x hx => by simpa using g.2.2 x hx, ?_⟩
    rw [(insR_perm e R).length_eq]; simp
/- What line answers. -/
def LineRes (w w' : World) (V : Int) (e : Ending) : Option (List Ed) → Prop
  | none => ∃ A n c, e = .returned (.tuple #[.agg #[.int .i64 V, .slice A n c], .bool false])
  | some S => ∃ v, e = .returned (.tuple #[.agg #[.int .i64 V, v], .bool true]) ∧ Hid (EOwn w' w.heap.size v S)
/- The boxes that line lays: the graph, the answer. -/
structure Lb (w W : World) (V : Int) (A : Option Addr) (c : Nat) (R : List Ed) : Prop where
  below : Below w.heap.size w W
  bg : W.heap[w.heap.size]? = some (.cells #[.int .i64 V, .slice A R.length c] 24 (0, 0))
  br : W.heap[w.heap.size + 1]? = some (.cells #[.int .i64 0, .slice none 0 0] 24 (0, 0))
  at0 : EAt w A R
theorem Lb.step {w W W' : World} {V : Int} {A : Option Addr} {c : Nat} {R : List Ed} (h : Lb w W V A c R) (k : Below W.heap.size W W') : Lb w W' V A c R :=
  ⟨h.below.trans (k.mono h.below.size), (k.block _ (lt_of_block h.bg)).trans h.bg, (k.block _ (lt_of_block h.br)).trans h.br, h.at0⟩
theorem Lb.store {w W : World} {V : Int} {A : Option Addr} {c : Nat} {R : List Ed} (h : Lb w W V A c R) (b j : Nat) (v : Value) (hb : w.heap.size + 2 ≤ b) : Lb w (W.setCell ⟨b, j, none⟩ v) V A c R :=
  ⟨h.below.setCell (p := ⟨b, j, none⟩) (by show w.heap.size ≤ b; omega) _, (heap_setCell_other W ⟨b, j, none⟩ _ v (by show w.heap.size ≠ b; omega)).trans h.bg, (heap_setCell_other W ⟨b, j, none⟩ _ v (by show w.heap.size + 1 ≠ b; omega)).trans h.br, h.at0⟩
theorem Lb.facts {w W : World} {V : Int} {A : Option Addr} {c : Nat} {R : List Ed} (h : Lb w W V A c R) :
    (W.cell? ⟨w.heap.size, 0, none⟩ = some (.int .i64 V) ∧ W.cell? ⟨w.heap.size, 1, none⟩ = some (.slice A R.length c)) ∧
    (W.cell? ⟨w.heap.size + 1, 0, none⟩ = some (.int .i64 0) ∧ W.cell? ⟨w.heap.size + 1, 1, none⟩ = some (.slice none 0 0)) ∧
    ((∀ j, W.frozen? ⟨w.heap.size, j, none⟩ = false) ∧ (∀ j, W.frozen? ⟨w.heap.size + 1, j, none⟩ = false)) ∧ w.heap.size + 1 < W.heap.size := by
  refine ⟨⟨?_, ?_⟩, ⟨?_, ?_⟩, ⟨fun j => Lib.frozen_of_heap h.bg j, fun j => Lib.frozen_of_heap h.br j⟩, lt_of_block h.br⟩
  · rw [Lib.cell_of_heap h.bg]; rfl
  · rw [Lib.cell_of_heap h.bg]; rfl
  · rw [Lib.cell_of_heap h.br]; rfl
  · rw [Lib.cell_of_heap h.br]; rfl
theorem lb_new (w : World) (V : Int) (A : Option Addr) (c : Nat) (R : List Ed) (h : EAt w A R) :
    ∃ W, Hid (W = (w.alloc (.cells #[.int .i64 V, .slice A R.length c] 24)).alloc (.cells #[.int .i64 0, .slice none 0 0] 24)) ∧ Hid (Lb w W V A c R) ∧ W.heap.size = w.heap.size + 2 := by
  obtain ⟨w1, h1⟩ : ∃ w1, w1 = w.alloc (.cells #[.int .i64 V, .slice A R.length c] 24) := ⟨_, rfl⟩
  obtain ⟨w2, h2⟩ : ∃ w2, w2 = w1.alloc (.cells #[.int .i64 0, .slice none 0 0] 24) := ⟨_, rfl⟩
  have s1 : w1.heap.size = w.heap.size + 1 := by rw [h1]; simp
  have s2 : w2.heap.size = w.heap.size + 2 := by rw [h2]; simp; omega
  have b1 : Below w.heap.size w w1 := by rw [h1]; exact (Below.refl _ w).alloc (Nat.le_refl _) _
  have b2 : Below w1.heap.size w1 w2 := by rw [h2]; exact (Below.refl _ w1).alloc (Nat.le_refl _) _
  have e1 : w1.heap[w.heap.size]? = some (.cells #[.int .i64 V, .slice A R.length c] 24 (0, 0)) := by rw [h1]; exact heap_alloc_new w _
  have e2 : w2.heap[w1.heap.size]? = some (.cells #[.int .i64 0, .slice none 0 0] 24 (0, 0)) := by rw [h2]; exact heap_alloc_new w1 _
  refine ⟨w2, Lib.hid (by rw [h2, h1]), Lib.hid ⟨b1.trans (b2.mono (by omega)), (b2.block _ (by omega)).trans e1, ?_, h⟩, s2⟩
  rw [← s1]; exact e2
/- The row of three numbers. -/
def Nb (W : World) (nb : Nat) (l : List Nat) : Prop := W.heap[nb]? = some (.cells (a3 l) 2 (0, 0))
theorem Nb.cells {W : World} {nb : Nat} {l : List Nat} (h : Nb W nb l) : W.cell? ⟨nb, 0, none⟩ = some (.int .i64 (nth0 l : Int)) ∧ W.cell? ⟨nb, 1, none⟩ = some (.int .i64 (nth1 l : Int)) ∧ W.cell? ⟨nb, 2, none⟩ = some (.int .i64 (nth2 l : Int)) ∧ (∀ j, W.frozen? ⟨nb, j, none⟩ = false) := by
  refine ⟨?_, ?_, ?_, fun j => Lib.frozen_of_heap h j⟩
  · rw [Lib.cell_of_heap h]; rfl
  · rw [Lib.cell_of_heap h]; rfl
  · rw [Lib.cell_of_heap h]; rfl
theorem Nb.any {W : World} {nb : Nat} {l : List Nat} (h : Nb W nb l) (j : Nat) (hj : j < 3) : ∃ u, W.cell? ⟨nb, j, none⟩ = some u := by
  obtain ⟨a, b, c, _⟩ := h.cells
  have : j = 0 ∨ j = 1 ∨ j = 2 := by omega
  rcases this with rfl | rfl | rfl
  · exact ⟨_, a⟩
  · exact ⟨_, b⟩
  · exact ⟨_, c⟩
def LlRel (w : World) (V : Int) (A : Option Addr) (c : Nat) (R : List Ed) (nb : Nat) (t : List (List UInt8)) (gk : Nat) (v7 : Value) (wr : World) : Prop :=
  ∃ (i : Nat) (done : List Nat), v7 = .int .i64 (i : Int) ∧ i + gk = t.length + 1 ∧ done.length + 1 = i ∧ Hid (Lb w wr V A c R) ∧ Hid (Nb wr nb done) ∧ nb < wr.heap.size ∧ Hid (numsOf t = (match numsOf (t.drop done.length) with | none => none | some l => some (done ++ l)))
theorem bool_and {a b : Bool} : (a && b) = true ↔ a = true ∧ b = true := by simp

set_option maxRecDepth 100000 in
set_option maxHeartbeats 4000000 in
theorem rline_any (V : Int) (R : List Ed) (A : Option Addr) (c : Nat) (x : List UInt8) (t : List (List UInt8)) (gw n cw : Nat) (w : World) (hA : Hid (EAt w A R)) (hf : Hid (A = none ∨ ∃ g, A = some ⟨g, 0, none⟩)) (hc : R.length ≤ c) (hl : R.length ≤ 8192) (hr : Hid (Rise R))
    (hn : n = t.length + 1) (hn2 : n ≤ 1000000) (hW : Hid (∀ k y, (x :: t)[k]? = some y → w.cell? ⟨gw, k, none⟩ = some (.string (sb y)))) (hWl : Hid (∀ y ∈ x :: t, y.length ≤ 300000)) (res : Option (List Ed)) (hres : Hid (lineR V R x t = res)) :
    Calls Tryz.prog 42 #[.agg #[.int .i64 V, .slice A R.length c], .slice (some ⟨gw, 0, none⟩) n cw] w fun e w' => LineRes w w' V e res ∧ Hid (Below w.heap.size w w') := by
  have mixed := mixedO
  obtain ⟨w1, HW, HL1, hs1⟩ := lb_new w V A c R hA.out
  have HN := Lib.hid hn; clear hn
  obtain ⟨⟨g0, g1⟩, ⟨r0, r1⟩, ⟨gf, rf⟩, hsz⟩ := HL1.out.facts
  have hcw0 := hW.out 0 x rfl
  have c0 : w1.cell? ⟨gw, 0, none⟩ = some (.string (sb x)) := (HL1.out.below.cell (block_lt_of_cell hcw0)).trans hcw0
  clear hcw0
  obtain ⟨bx, hbx⟩ : ∃ b, ((sb x).toList == [101, 100, 103, 101]) = b := ⟨_, rfl⟩
  obtain ⟨bz, hbz⟩ : ∃ b, ((sb x).toList == [98, 111, 116, 104]) = b := ⟨_, rfl⟩
  have HBX : Hid (bx = decide (x = edgeB)) := Lib.hid (by rw [← hbx, sb_toList]; show (x == edgeB) = decide (x = edgeB); rw [Bool.eq_iff_iff]; simp)
  have HBZ : Hid (bz = decide (x = bothB)) := Lib.hid (by rw [← hbz, sb_toList]; show (x == bothB) = decide (x = bothB); rw [Bool.eq_iff_iff]; simp)
  obtain ⟨bad, hbad⟩ : ∃ bad, (!(decide (t.length = 2 ∨ t.length = 3) && (bx || bz))) = bad := ⟨_, rfl⟩
  have HBad := Lib.hid hbad; clear hbad
  go_enter Tryz.func42, Tryz.ntmps42
  go_upto_region 1 with fail
  rw [← HW.out]
  go_cut [31] from 12 (fun s31 wx => s31 = .bool bad ∧ wx = w1)
  case first =>
    by_cases h23 : t.length = 2 ∨ t.length = 3
    · have hb : bad = !(bx || bz) := by rw [← HBad.out, decide_eq_true h23, Bool.true_and]
      have HB := Lib.hid hb; clear hb
      rcases h23 with h2 | h3
      · obtain rfl : n = 3 := by have := HN.out; omega
        clear HN h2
        cases bx <;> cases bz <;>
          (go_wp2_with fail
           all_goals
             go_meet
             exact ⟨by rw [HB.out]; rfl, rfl⟩)
      · obtain rfl : n = 4 := by have := HN.out; omega
        clear HN h3
        cases bx <;> cases bz <;>
          (go_wp2_with fail
           all_goals
             go_meet
             exact ⟨by rw [HB.out]; rfl, rfl⟩)
    · have hb : bad = true := by rw [← HBad.out, decide_eq_false h23]; rfl
      have HB := Lib.hid hb; clear hb
      have e3 : ¬ ((n : Int) = 3) := by have := HN.out; omega
      have e4 : ¬ ((n : Int) = 4) := by have := HN.out; omega
      go_wp2_with fail
      all_goals (try (exfalso; omega))
      all_goals
        go_meet
        exact ⟨by rw [HB.out], rfl⟩
  case rest =>
    obtain ⟨rfl, rfl⟩ := hcut
    clear HW
    cases bad with
    | true =>
      have hrn : res = none := by
        rw [← hres.out]; unfold lineR
        rw [if_neg]
        rintro ⟨h1, h2⟩
        have := HBad.out
        rw [decide_eq_true h1, HBX.out, HBZ.out] at this
        rcases h2 with h2 | h2 <;> simp [h2] at this
      subst hrn
      go_wp2
      obtain ⟨q0, q1⟩ := gx_put HL1.out.br (.int .i64 V) (.slice A R.length c)
      refine bodyPost_ret (v := .tuple #[.agg #[.int .i64 V, .slice A R.length c], .bool false]) (by simp [results, Tryz.results42, go_sem, q0, q1]) rfl ⟨⟨_, _, _, rfl⟩, Lib.hid ?_⟩
      exact (HL1.out.below.setCell (p := ⟨w.heap.size + 1, 0, none⟩) (by show w.heap.size ≤ w.heap.size + 1; omega) _).setCell (p := ⟨w.heap.size + 1, 1, none⟩) (by show w.heap.size ≤ w.heap.size + 1; omega) _
    | false =>
      have h23 : t.length = 2 ∨ t.length = 3 := by
        have := HBad.out
        by_cases h : t.length = 2 ∨ t.length = 3
        · exact h
        · rw [decide_eq_false h] at this; cases this
      have hbb : (bx || bz) = true := by
        have := HBad.out
        rw [decide_eq_true h23] at this; revert this; cases bx <;> cases bz <;> simp
      have hres2 : Hid (numsR V R bz (numsOf t) = res) := Lib.hid (by
        rw [← hres.out]; unfold lineR
        rw [if_pos, HBZ.out]
        refine ⟨h23, ?_⟩
        rw [HBX.out, HBZ.out] at hbb
        simpa using hbb)
      obtain ⟨w2, hw2⟩ : ∃ w2, w2 = wc.alloc (.cells #[.int .i64 0, .int .i64 0, .int .i64 1] 2) := ⟨_, rfl⟩
      have hb2 : Below wc.heap.size wc w2 := by rw [hw2]; exact (Below.refl _ wc).alloc (Nat.le_refl _) _
      have HNB2 : Hid (Nb w2 (w.heap.size + 2) []) := Lib.hid (by rw [hw2, ← hs1]; exact heap_alloc_new wc _)
      have HL2 := Lib.hid (HL1.out.step hb2)
      have hs2 : w2.heap.size = w.heap.size + 3 := by rw [hw2]; simp; omega
      have HW2 := Lib.hid hw2
      clear hw2 hb2
      go_wp2
      rw [← HW2.out]
      have HBZT := Lib.hid hbz
      clear g0 g1 r0 r1 gf rf hsz hbx hbz c0
      go_loopg [7] t.length (fun gk v7 wr => LlRel w V A c R (w.heap.size + 2) t gk v7 wr)
      case atStart => exact ⟨1, [], rfl, by omega, rfl, HL2, HNB2, by omega, Lib.hid (by simp only [List.length_nil, List.drop_zero, List.nil_append]; cases numsOf t <;> rfl)⟩
      case round =>
        obtain ⟨i, done, rfl, hig, hdl, HLr, HNr, hnb, HNM⟩ := hrel
        have hn3 : n ≤ 4 := by have := HN.out; omega
        by_cases hlt : i < n
        · obtain ⟨y, hy⟩ := at_lt t done.length (by have := HN.out; omega)
          have hyi : (x :: t)[i]? = some y := by rw [← hdl]; simpa using hy
          have hcy0 := hW.out i y hyi
          have hcy : wr.cell? ⟨gw, i, none⟩ = some (.string (sb y)) := (HLr.out.below.cell (block_lt_of_cell hcy0)).trans hcy0
          have hyl := hWl.out y (List.mem_of_getElem? hyi)
          obtain ⟨m, E, hmE⟩ : ∃ m E, numB y = (m, E) := ⟨_, _, rfl⟩
          have HME := Lib.hid hmE; have HY := Lib.hid hy
          clear hmE hy hyi hcy0
          go_wp2_with fail
          refine (rnumber_hid _ y (chOf y) m E wr rfl (Lib.hid (chOf_rg y)) hyl HME).mono ?_
          rintro e w3 ⟨rfl, HB3⟩
          have HL3 := Lib.hid (HLr.out.step HB3.out)
          have HN3 : Hid (Nb w3 (w.heap.size + 2) done) := Lib.hid ((HB3.out.block _ hnb).trans HNr.out)
          have hnb3 := Nat.lt_of_lt_of_le hnb HB3.out.size
          obtain ⟨⟨g0, g1⟩, ⟨r0, r1⟩, ⟨gf, rf⟩, hsz⟩ := HL3.out.facts
          clear hcy
          by_cases hE : E = 0
          · subst hE
            obtain ⟨u, hu⟩ := HN3.out.any (i - 1) (by omega)
            have hfz := HN3.out.cells.2.2.2
            go_wp2
            go_roundg (gk - 1)
            case measure => have := HN.out; omega
            case rel =>
              have hnn := HN.out
              have hset := heap_setCell_same w3 (w.heap.size + 2) (i - 1) _ _ (.int .i64 (m : Int)) HN3.out
              rw [a3_set done (i - 1) m (by omega) (by omega)] at hset
              refine ⟨i + 1, done ++ [m], by go_num, by omega, by simp; omega, Lib.hid (HL3.out.store _ _ _ (Nat.le_refl _)), Lib.hid hset, by simpa using hnb3, Lib.hid ?_⟩
              rw [HNM.out, drop_at HY.out, numsOf, HME.out, if_pos rfl, List.length_append, List.length_singleton]
              cases numsOf (t.drop (done.length + 1)) with
              | none => rfl
              | some l => simp
          · have hrn : res = none := by
              rw [← hres2.out, HNM.out, drop_at HY.out, numsOf, HME.out, if_neg hE]; rfl
            subst hrn
            go_wp2
            all_goals (try (exfalso; omega))
            obtain ⟨q0, q1⟩ := gx_put HL3.out.br (.int .i64 V) (.slice A R.length c)
            refine bodyPost_ret (v := .tuple #[.agg #[.int .i64 V, .slice A R.length c], .bool false]) (by simp [results, Tryz.results42, go_sem, q0, q1]) rfl ⟨⟨_, _, _, rfl⟩, Lib.hid ?_⟩
            exact (HL3.out.below.setCell (p := ⟨w.heap.size + 1, 0, none⟩) (by show w.heap.size ≤ w.heap.size + 1; omega) _).setCell (p := ⟨w.heap.size + 1, 1, none⟩) (by show w.heap.size ≤ w.heap.size + 1; omega) _
        · have HNS : Hid (numsOf t = some done) := Lib.hid (by
            have h := HNM.out
            rw [show done.length = t.length by have := HN.out; omega, List.drop_length, numsOf] at h
            simpa using h)
          have HQ : Hid (putR V R bz (nth0 done) (nth1 done) (nth2 done) = res) := Lib.hid (by rw [← hres2.out, HNS.out]; rfl)
          obtain ⟨⟨g0, g1⟩, ⟨r0, r1⟩, ⟨gf, rf⟩, hsz⟩ := HLr.out.facts
          obtain ⟨n0, n1, n2, nf⟩ := HNr.out.cells
          obtain ⟨a, ha⟩ : ∃ a, nth0 done = a := ⟨_, rfl⟩
          obtain ⟨b, hb⟩ : ∃ b, nth1 done = b := ⟨_, rfl⟩
          obtain ⟨d, hd⟩ : ∃ d, nth2 done = d := ⟨_, rfl⟩
          rw [ha, hb, hd] at HQ
          rw [ha] at n0; rw [hb] at n1; rw [hd] at n2
          clear ha hb hd nf
          by_cases hA5 : 512 ≤ a
          · have hrn : res = none := by rw [← HQ.out]; unfold putR; rw [if_pos (Or.inl hA5)]
            subst hrn
            go_wp2
            all_goals (try (exfalso; omega))
            obtain ⟨q0, q1⟩ := gx_put HLr.out.br (.int .i64 V) (.slice A R.length c)
            refine bodyPost_ret (v := .tuple #[.agg #[.int .i64 V, .slice A R.length c], .bool false]) (by simp [results, Tryz.results42, go_sem, q0, q1]) rfl ⟨⟨_, _, _, rfl⟩, Lib.hid ?_⟩
            exact (HLr.out.below.setCell (p := ⟨w.heap.size + 1, 0, none⟩) (by show w.heap.size ≤ w.heap.size + 1; omega) _).setCell (p := ⟨w.heap.size + 1, 1, none⟩) (by show w.heap.size ≤ w.heap.size + 1; omega) _
          · by_cases hB5 : 512 ≤ b
            · have hrn : res = none := by rw [← HQ.out]; unfold putR; rw [if_pos (Or.inr hB5)]
              subst hrn
              go_wp2
              all_goals (try (exfalso; omega))
              obtain ⟨q0, q1⟩ := gx_put HLr.out.br (.int .i64 V) (.slice A R.length c)
              refine bodyPost_ret (v := .tuple #[.agg #[.int .i64 V, .slice A R.length c], .bool false]) (by simp [results, Tryz.results42, go_sem, q0, q1]) rfl ⟨⟨_, _, _, rfl⟩, Lib.hid ?_⟩
              exact (HLr.out.below.setCell (p := ⟨w.heap.size + 1, 0, none⟩) (by show w.heap.size ≤ w.heap.size + 1; omega) _).setCell (p := ⟨w.heap.size + 1, 1, none⟩) (by show w.heap.size ≤ w.heap.size + 1; omega) _
            · obtain ⟨r1', hr1'⟩ : ∃ r, addR V R ((a : Int), (b : Int), (d : Int)) = r := ⟨_, rfl⟩
              have HR1 := Lib.hid hr1'; clear hr1'
              have HQ2 : Hid (res = putS V bz a b d r1') := Lib.hid (by
                rw [← HQ.out, ← HR1.out]; unfold putR; rw [if_neg (by omega)]; unfold putS; cases addR V R ((a : Int), (b : Int), (d : Int)) <;> rfl)
              go_upto_region 13 with fail
              all_goals (try (exfalso; omega))
              go_cut [10] from 67 (fun s10 wx => s10 = .pointer (some ⟨wr.heap.size, 0, none⟩) ∧ Hid (Below wr.heap.size wr wx) ∧ Hid (wx.heap[wr.heap.size]? = some (.cells #[.int .i64 (a : Int), .int .i64 (b : Int), .int .i64 (d : Int)] 42 (0, 0))))
              case first =>
                have hbw := Lib.hid (((Below.refl _ wr).alloc (Nat.le_refl _) (.cells #[.int .i64 (a : Int), .int .i64 (b : Int), .int .i64 (d : Int)] 42)).drew)
                have hnw := Lib.hid (heap_alloc_new wr (.cells #[.int .i64 (a : Int), .int .i64 (b : Int), .int .i64 (d : Int)] 42))
                go_region
                all_goals
                  go_wp2_with fail
                  go_meet
                  exact ⟨rfl, hbw, hnw⟩
              case rest =>
                obtain ⟨rfl, HB4, HE4⟩ := hcut
                have HL4 := Lib.hid (HLr.out.step HB4.out)
                have hsr : w.heap.size + 2 < wr.heap.size := hnb
                have hsc := lt_of_block HE4.out
                clear g0 g1 r0 r1 gf rf n0 n1 n2
                obtain ⟨⟨g0, g1⟩, ⟨r0, r1⟩, ⟨gf, rf⟩, hsz4⟩ := HL4.out.facts
                obtain ⟨y0, y1, y2, hys⟩ := eb_cells HE4.out
                have HQA := Lib.hid (radd_any V R A c (a : Int) (b : Int) (d : Int) wc (Lib.hid (hA.out.below HL4.out.below)) hf hc (by omega) hr r1' HR1)
                go_wp2_with fail
                refine HQA.out.mono ?_
                rintro e w5 ⟨hAdd, HB5⟩
                have HL5 := Lib.hid (HL4.out.step HB5.out)
                have HE5 := Lib.hid ((HB5.out.block _ hsc).trans HE4.out)
                have hs5 := HB5.out.size
                clear g0 g1 r0 r1 gf rf y0 y1 y2 hys
                obtain ⟨⟨g0, g1⟩, ⟨r0, r1⟩, ⟨gf, rf⟩, hsz5⟩ := HL5.out.facts
                cases r1' with
                | none =>
                  have hrn : res = none := HQ2.out
                  subst hrn
                  have he : e = .returned (.tuple #[.agg #[.int .i64 V, .slice A R.length c], .bool false]) := hAdd
                  subst he
                  obtain ⟨q0, q1⟩ := gx_put HL5.out.bg (.int .i64 V) (.slice A R.length c)
                  go_wp2
                  have hb6 := (heap_setCell_other _ ⟨w.heap.size, 1, none⟩ (w.heap.size + 1) (.slice A R.length c) (by show w.heap.size + 1 ≠ w.heap.size; omega)).trans ((heap_setCell_other w5 ⟨w.heap.size, 0, none⟩ (w.heap.size + 1) (.int .i64 V) (by show w.heap.size + 1 ≠ w.heap.size; omega)).trans HL5.out.br)
                  obtain ⟨p0, p1⟩ := gx_put hb6 (.int .i64 V) (.slice A R.length c)
                  refine bodyPost_ret (v := .tuple #[.agg #[.int .i64 V, .slice A R.length c], .bool false]) (by simp [results, Tryz.results42, go_sem, p0, p1]) rfl ⟨⟨_, _, _, rfl⟩, Lib.hid ?_⟩
                  exact (((HL5.out.below.setCell (p := ⟨w.heap.size, 0, none⟩) (Nat.le_refl _) _).setCell (p := ⟨w.heap.size, 1, none⟩) (Nat.le_refl _) _).setCell (p := ⟨w.heap.size + 1, 0, none⟩) (by show w.heap.size ≤ w.heap.size + 1; omega) _).setCell (p := ⟨w.heap.size + 1, 1, none⟩) (by show w.heap.size ≤ w.heap.size + 1; omega) _
                | some S =>
                  obtain ⟨v5, rfl, HO5⟩ := hAdd
                  obtain ⟨A5, c5, hv5, hc5, _⟩ := HO5.out.room
                  have hf5 : A5 = none ∨ ∃ g, A5 = some ⟨g, 0, none⟩ := by
                    obtain ⟨A', c', h1, _, h2, _⟩ := HO5.out.form
                    rw [hv5] at h1; cases h1
                    rcases h2 with h2 | ⟨g, h2, _⟩
                    · exact Or.inl h2
                    · exact Or.inr ⟨g, h2⟩
                  subst hv5
                  obtain ⟨hSr, hSl⟩ := addR_rise hr.out HR1.out
                  have hSl2 : S.length ≤ 8193 := by omega
                  clear hSl
                  have hle1 : w.heap.size ≤ w.heap.size + 1 := by omega
                  obtain ⟨w6, hw6⟩ : ∃ w6, w6 = (w5.setCell ⟨w.heap.size, 0, none⟩ (.int .i64 V)).setCell ⟨w.heap.size, 1, none⟩ (.slice A5 S.length c5) := ⟨_, rfl⟩
                  have hoth : ∀ k, k ≠ w.heap.size → w6.heap[k]? = w5.heap[k]? := fun k hk => by
                    rw [hw6]; exact (heap_setCell_other _ ⟨w.heap.size, 1, none⟩ k _ hk).trans (heap_setCell_other w5 ⟨w.heap.size, 0, none⟩ k _ hk)
                  have hG6 : w6.heap[w.heap.size]? = some (.cells #[.int .i64 V, .slice A5 S.length c5] 24 (0, 0)) := by
                    rw [hw6]; exact heap_setCell_same _ w.heap.size 1 _ _ _ (heap_setCell_same w5 w.heap.size 0 _ _ _ HL5.out.bg)
                  have HR6 : Hid (w6.heap[w.heap.size + 1]? = some (.cells #[.int .i64 0, .slice none 0 0] 24 (0, 0))) := Lib.hid ((hoth _ (by omega)).trans HL5.out.br)
                  have HE6 := Lib.hid ((hoth wr.heap.size (by omega)).trans HE5.out)
                  have HB6 : Hid (Below w.heap.size w w6) := Lib.hid (by rw [hw6]; exact (HL5.out.below.setCell (p := ⟨w.heap.size, 0, none⟩) (Nat.le_refl _) _).setCell (p := ⟨w.heap.size, 1, none⟩) (Nat.le_refl _) _)
                  have HO6 : Hid (EOwn w6 wc.heap.size (.slice A5 S.length c5) S) := Lib.hid (by rw [hw6]; exact ownsRow_setCell_below (ownsRow_setCell_below HO5.out (a := ⟨w.heap.size, 0, none⟩) (by show w.heap.size < _; omega) _) (a := ⟨w.heap.size, 1, none⟩) (by show w.heap.size < _; omega) _)
                  have hs6 : w6.heap.size = w5.heap.size := by rw [hw6]; simp
                  have HG6 := Lib.hid hG6
                  have HW6 := Lib.hid hw6
                  clear hw6 hoth hG6
                  go_upto_region 15 with fail
                  rw [← HW6.out]
                  clear g0 g1 r0 r1 gf rf hsz5
                  obtain ⟨g0, g1, hgs⟩ := Bx.cells HG6.out
                  obtain ⟨r0, r1, hrs⟩ := Bx.cells HR6.out
                  have rf := Gx.cells HR6.out
                  obtain ⟨y0, y1, y2, hys⟩ := eb_cells HE6.out
                  have hx0 := hW.out 0 x rfl
                  have c0 : w6.cell? ⟨gw, 0, none⟩ = some (.string (sb x)) := (HB6.out.cell (block_lt_of_cell hx0)).trans hx0
                  clear hx0
                  have hbz := HBZT.out
                  have hn1 : 1 ≤ n := by have := HN.out; omega
                  cases bz with
                  | false =>
                    have hrs : res = some S := HQ2.out.trans (by show (if false = true ∧ a ≠ b then addR V S ((b : Int), (a : Int), (d : Int)) else some S) = some S; rw [if_neg (by simp)])
                    subst hrs
                    go_wp2
                    obtain ⟨p0, p1⟩ := gx_put HR6.out (.int .i64 V) (.slice A5 S.length c5)
                    refine bodyPost_ret (v := .tuple #[.agg #[.int .i64 V, .slice A5 S.length c5], .bool true]) (by simp [results, Tryz.results42, go_sem, p0, p1]) rfl ⟨⟨_, rfl, Lib.hid ?_⟩, Lib.hid ?_⟩
                    · exact own_mono (ownsRow_setCell_below (ownsRow_setCell_below HO6.out (a := ⟨w.heap.size + 1, 0, none⟩) (by show w.heap.size + 1 < _; omega) (.int .i64 V)) (a := ⟨w.heap.size + 1, 1, none⟩) (by show w.heap.size + 1 < _; omega) (.slice A5 S.length c5)) (by omega)
                    · exact (HB6.out.setCell (p := ⟨w.heap.size + 1, 0, none⟩) hle1 _).setCell (p := ⟨w.heap.size + 1, 1, none⟩) hle1 _
                  | true =>
                    by_cases hab : a = b
                    · subst hab
                      have hrs : res = some S := HQ2.out.trans (by show (if true = true ∧ a ≠ a then addR V S ((a : Int), (a : Int), (d : Int)) else some S) = some S; rw [if_neg (by simp)])
                      subst hrs
                      go_wp2
                      all_goals (try (exfalso; omega))
                      obtain ⟨p0, p1⟩ := gx_put HR6.out (.int .i64 V) (.slice A5 S.length c5)
                      refine bodyPost_ret (v := .tuple #[.agg #[.int .i64 V, .slice A5 S.length c5], .bool true]) (by simp [results, Tryz.results42, go_sem, p0, p1]) rfl ⟨⟨_, rfl, Lib.hid ?_⟩, Lib.hid ?_⟩
                      · exact own_mono (ownsRow_setCell_below (ownsRow_setCell_below HO6.out (a := ⟨w.heap.size + 1, 0, none⟩) (by show w.heap.size + 1 < _; omega) (.int .i64 V)) (a := ⟨w.heap.size + 1, 1, none⟩) (by show w.heap.size + 1 < _; omega) (.slice A5 S.length c5)) (by omega)
                      · exact (HB6.out.setCell (p := ⟨w.heap.size + 1, 0, none⟩) hle1 _).setCell (p := ⟨w.heap.size + 1, 1, none⟩) hle1 _
                    · have habz : ¬ ((a : Int) = (b : Int)) := by omega
                      obtain ⟨r2, hr2⟩ : ∃ r, addR V S ((b : Int), (a : Int), (d : Int)) = r := ⟨_, rfl⟩
                      have HR2 := Lib.hid hr2; clear hr2
                      have HQ3 : Hid (res = r2) := Lib.hid (HQ2.out.trans (by show (if true = true ∧ a ≠ b then addR V S ((b : Int), (a : Int), (d : Int)) else some S) = r2; rw [if_pos ⟨rfl, hab⟩]; exact HR2.out))
                      have hat : EAt w6 A5 S := by
                        obtain ⟨A', c', h1, h2, _⟩ := HO6.out.form
                        cases h1; exact h2
                      have HQB := Lib.hid (radd_any V S A5 c5 (b : Int) (a : Int) (d : Int) w6 (Lib.hid hat) (Lib.hid hf5) hc5 (by omega) (Lib.hid hSr) r2 HR2)
                      clear hat
                      go_wp2_with fail
                      all_goals (try (exfalso; omega))
                      refine HQB.out.mono ?_
                      rintro e w7 ⟨hAdd, HB7⟩
                      have HB67 := Lib.hid (HB6.out.trans (HB7.out.mono HB6.out.size))
                      have HR7 := Lib.hid ((HB7.out.block _ (lt_of_block HR6.out)).trans HR6.out)
                      have hs7 := HB7.out.size
                      clear g0 g1 r0 r1 rf y0 y1 y2 hys c0
                      obtain ⟨r0, r1, hrs7⟩ := Bx.cells HR7.out
                      have rf := Gx.cells HR7.out
                      obtain rfl := HQ3.out
                      cases res with
                      | none =>
                        have he : e = .returned (.tuple #[.agg #[.int .i64 V, .slice A5 S.length c5], .bool false]) := hAdd
                        subst he
                        go_wp2
                        obtain ⟨p0, p1⟩ := gx_put HR7.out (.int .i64 V) (.slice A5 S.length c5)
                        refine bodyPost_ret (v := .tuple #[.agg #[.int .i64 V, .slice A5 S.length c5], .bool false]) (by simp [results, Tryz.results42, go_sem, p0, p1]) rfl ⟨⟨_, _, _, rfl⟩, Lib.hid ?_⟩
                        exact (HB67.out.setCell (p := ⟨w.heap.size + 1, 0, none⟩) hle1 _).setCell (p := ⟨w.heap.size + 1, 1, none⟩) hle1 _
                      | some S2 =>
                        obtain ⟨v7, rfl, HO7⟩ := hAdd
                        obtain ⟨A7, c7, hv7, _⟩ := HO7.out.room
                        subst hv7
                        go_wp2
                        obtain ⟨p0, p1⟩ := gx_put HR7.out (.int .i64 V) (.slice A7 S2.length c7)
                        refine bodyPost_ret (v := .tuple #[.agg #[.int .i64 V, .slice A7 S2.length c7], .bool true]) (by simp [results, Tryz.results42, go_sem, p0, p1]) rfl ⟨⟨_, rfl, Lib.hid ?_⟩, Lib.hid ?_⟩
                        · exact own_mono (ownsRow_setCell_below (ownsRow_setCell_below HO7.out (a := ⟨w.heap.size + 1, 0, none⟩) (by show w.heap.size + 1 < _; omega) (.int .i64 V)) (a := ⟨w.heap.size + 1, 1, none⟩) (by show w.heap.size + 1 < _; omega) (.slice A7 S2.length c7)) (by omega)
                        · exact (HB67.out.setCell (p := ⟨w.heap.size + 1, 0, none⟩) hle1 _).setCell (p := ⟨w.heap.size + 1, 1, none⟩) hle1 _

end Go.Proofs.YtmcmpjcijbeilaaGreatDoor.Gr
