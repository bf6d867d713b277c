/-
  What is proved here: the texts GrEdge2 of this seat, laid together (each says itself what it proves; no condition beyond theirs).
-/
import Derived.Test.YtmcmpjcijbeilaaGreatDoorGmH
import Derived.Deep.RegionWith
import Derived.Deep.CutRange
/-
  What is proved here: the law on edges, walked. Conditions: what the program's start has laid down; the graph can be read.
-/
namespace Go.Proofs.YtmcmpjcijbeilaaGreatDoor.Gr
open Go.RowKit Wd Ws

/- What Out and Back have given: two rows, each of its own. -/
def EdR (w3 : World) (L : List Ed) (q : Int) (x y : Value) (W : World) : Prop := Hid (Below w3.heap.size w3 W) ∧ Hid (EOwn W w3.heap.size x (L.filter fun e => decide (e.1 = q))) ∧ Hid (EOwn W w3.heap.size y (L.filter fun e => decide (e.2.1 = q))) ∧ Hid (∀ j, x.ownBlock = some j → y.ownBlock ≠ some j)
/- While a loop writes to the edges that a call has made. -/
def Mess (w : World) (B : Nat) (v : Value) (n : Nat) : Prop := ∃ xs, w.ownsRow B 42 3 v n xs
theorem Mess.cell {w : World} {B n c : Nat} {X : Option Addr} (h : Mess w B (.slice X n c) n) {i : Nat} (hi : i < n) (j : Nat) (hj : j < 3) : ∃ g u, X = some ⟨g, 0, none⟩ ∧ w.cell? ⟨g, i * 3 + j, none⟩ = some u ∧ w.frozen? ⟨g, i * 3 + j, none⟩ = false := by
  obtain ⟨xs, h0, h1 | ⟨g, cap, cur, h1, h2, h3, h4, h5, h6, h7⟩⟩ := h
  · omega
  · cases h1
    have hc : i * 3 + j < cur.size := by omega
    exact ⟨g, cur[i * 3 + j], rfl, by rw [cell_of_row w g _ _ 42 (0, 0) h3, Array.getElem?_eq_getElem hc], Lib.frozen_of_heap h3 _⟩
theorem Mess.store {w : World} {B n c g : Nat} (h : Mess w B (.slice (some ⟨g, 0, none⟩) n c) n) (j : Nat) (u : Value) : Mess (w.setCell ⟨g, j, none⟩ u) B (.slice (some ⟨g, 0, none⟩) n c) n ∧ w.grownBy (w.setCell ⟨g, j, none⟩ u) (some g) := by
  obtain ⟨xs, h⟩ := h
  have := World.ownsRow.stored h j u
  exact ⟨⟨_, this.1⟩, this.2⟩
theorem Mess.other {w w' : World} {B n : Nat} {v : Value} {r : Option Nat} (h : Mess w B v n) (hg : w.grownBy w' r) (hr : ∀ j, r = some j → v.ownBlock ≠ some j) : Mess w' B v n := by
  obtain ⟨xs, h0, h1 | ⟨g, cap, cur, h1, h2, h3, h4⟩⟩ := h
  · exact ⟨xs, h0, Or.inl h1⟩
  · exact ⟨xs, h0, Or.inr ⟨g, cap, cur, h1, h2, (hg.block g (lt_of_block h3) fun e => hr g e.symm (by rw [h1]; rfl)).trans h3, h4⟩⟩
theorem Mess.over {w3 w w' : World} {n : Nat} {v : Value} (h : Mess w' w3.heap.size v n) (hb : Below w3.heap.size w3 w) (hg : w.grownBy w' v.ownBlock) : Below w3.heap.size w3 w' :=
  Below.grown hb hg hb.size fun k e => by obtain ⟨xs, h⟩ := h; exact (own_lt h k e).1
def MsRel (B : Nat) (w8 : World) (X : Option Addr) (n c : Nat) (gk : Nat) (vi : Value) (wr : World) : Prop :=
  ∃ i : Nat, vi = .int .i64 (i : Int) ∧ i + gk = n ∧ Hid (Mess wr B (.slice X n c) n) ∧ Hid (w8.grownBy wr (Value.slice X n c).ownBlock)
def SumRel (w12 : World) (L : List Ed) (m : Nat) (gk : Nat) (s1 s2 vi : Value) (wr : World) : Prop :=
  ∃ k p1 p2 : Nat, s1 = .int .i64 (p1 : Int) ∧ s2 = .int .i64 (p2 : Int) ∧ vi = .int .i64 (k : Int) ∧ k + gk = m ∧ Hid (p1 = below (fun e => e.1) k L) ∧ Hid (p2 = below (fun e => e.2.1) k L) ∧ Hid (Below w12.heap.size w12 wr)
theorem own_wide {w : World} {B C : Nat} {v : Value} {L : List Ed} (h : EOwn w B v L) (hc : C ≤ B) : EOwn w C v L := by
  obtain ⟨h0, h1 | ⟨g, cap, cur, h1, h2, h3⟩⟩ := h
  · exact ⟨h0, Or.inl h1⟩
  · exact ⟨h0, Or.inr ⟨g, cap, cur, h1, by omega, h3⟩⟩
theorem edr_xy {w3 wa wb wc : World} {L : List Ed} {q : Int} {x y : Value} (h1 : Below w3.heap.size w3 wa) (hx : EOwn wb wa.heap.size x (L.filter fun e => decide (e.1 = q))) (h2 : Below wa.heap.size wa wb) (hy : EOwn wc wb.heap.size y (L.filter fun e => decide (e.2.1 = q))) (h3 : Below wb.heap.size wb wc) : EdR w3 L q x y wc := by
  have s1 := h1.size; have s2 := h2.size; have s3 := h3.size
  refine ⟨Lib.hid ((h1.trans (h2.mono s1)).trans (h3.mono (by omega))), Lib.hid (own_wide (hx.below h3) s1), Lib.hid (own_wide hy (by omega)), Lib.hid fun j hj hk => ?_⟩
  have a := own_lt hy j hk
  obtain ⟨_, cs, hc⟩ := own_lt hx j hj
  have := lt_of_block hc
  omega
theorem edr_yx {w3 wa wb wc : World} {L : List Ed} {q : Int} {x y : Value} (h1 : Below w3.heap.size w3 wa) (hy : EOwn wb wa.heap.size y (L.filter fun e => decide (e.2.1 = q))) (h2 : Below wa.heap.size wa wb) (hx : EOwn wc wb.heap.size x (L.filter fun e => decide (e.1 = q))) (h3 : Below wb.heap.size wb wc) : EdR w3 L q x y wc := by
  have s1 := h1.size; have s2 := h2.size; have s3 := h3.size
  refine ⟨Lib.hid ((h1.trans (h2.mono s1)).trans (h3.mono (by omega))), Lib.hid (own_wide hx (by omega)), Lib.hid (own_wide (hy.below h3) s1), Lib.hid fun j hj hk => ?_⟩
  have a := own_lt hx j hj
  obtain ⟨_, cs, hc⟩ := own_lt hy j hk
  have := lt_of_block hc
  omega

set_option maxRecDepth 100000 in
set_option maxHeartbeats 1000000 in
theorem law_edges (V q : Int) (A : Option Addr) (c : Nat) (L : List Ed) (w : World) (hL : Hid (EAt w A L)) (hLd : Hid (Laid w)) :
    Calls Tryz.prog 6 #[.agg #[.int .i64 V, .slice A L.length c], .int .i64 q] w fun e w' => e = .returned (.bool true) ∧ Below w.heap.size w w' := by
  have mixed := mixedO
  have HC1 := Lib.hid (fun W => light_any V A L.length c 200 W)
  obtain ⟨w1, hw1⟩ : ∃ w1, w1 = w.alloc (.cells #[.int .i64 V, .slice A L.length c] 24) := ⟨_, rfl⟩
  have hz : Below w.heap.size w w1 := by rw [hw1]; exact (Below.refl _ w).alloc (Nat.le_refl _) _
  have x0 : w1.heap[w.heap.size]? = some (.cells #[.int .i64 V, .slice A L.length c] 24 (0, 0)) := by
    rw [hw1]; exact heap_alloc_new w _
  have HG1 : Hid (Gb w w1 w.heap.size V A c L) := Lib.hid ⟨hz, x0, hL.out.below hz⟩
  have HW := Lib.hid hw1
  have HLd : Hid (∀ w', Below w.heap.size w w' → Laid w') := Lib.hid fun w' h => hLd.out.bel h
  clear hw1 hz x0
  obtain ⟨r1, hr1⟩ : ∃ r, decide (L.length ≤ 200) = r := ⟨_, rfl⟩
  rw [hr1] at HC1
  have HR1 := Lib.hid hr1
  clear hr1
  go_enter Tryz.func6, Tryz.ntmps6
  go_wp2_with fail
  rw [← HW.out]
  refine (HC1.out w1).mono ?_
  rintro e w2 ⟨rfl, hg2⟩
  have HA2 := Lib.hid (HG1.out.step hg2.below)
  clear hg2
  cases r1 with
  | false =>
    go_wp2_with fail
    refine (works_any w2 (Lib.hid (HLd.out _ HA2.out.below))).mono ?_
    rintro e w3 ⟨rfl, HB⟩
    have HZ := Lib.hid (HA2.out.step HB.out).below
    clear HB
    go_wp2
    go_ret
    exact ⟨rfl, HZ.out⟩
  | true =>
    have h200 : L.length ≤ 200 := of_decide_eq_true HR1.out
    obtain ⟨k0, k1, hk⟩ := HA2.out.facts
    go_wp2_with (at_builtin; refine app_copy rfl (.tmp 17) (.tmp 19) rfl w.heap.size L rfl A c rfl HA2.out.at_ ?c1 ?c2 ?_)
    case c1 => omega
    case c2 => have := HA2.out.below.size; omega
    intro vc w3 hoc hgc
    have hb3 : Below w2.heap.size w2 w3 := ⟨hgc.os, hgc.tape, hgc.output, hgc.size, fun i hi => hgc.block i hi nofun⟩
    have HA3 := Lib.hid (HA2.out.step hb3)
    have HK3 := Lib.hid hoc
    clear hoc hgc k0 k1 hk hb3
    obtain ⟨k0, k1, hk⟩ := HA3.out.facts
    have HQ : Hid (∀ W, Below w3.heap.size w3 W → Calls Tryz.prog 21 #[.agg #[.int .i64 V, .slice A L.length c], .int .i64 q] W fun e w' => ∃ x, e = .returned x ∧ Hid (EOwn w' W.heap.size x (L.filter fun e => decide (e.1 = q)) ∧ Below W.heap.size W w')) :=
      Lib.hid fun W h => (out_any V q A c L W (HA3.out.at_.below h) (by omega)).mono fun _ _ ⟨x, h1, h2, h3⟩ => ⟨x, h1, Lib.hid ⟨h2, h3⟩⟩
    have HP : Hid (∀ W, Below w3.heap.size w3 W → Calls Tryz.prog 22 #[.agg #[.int .i64 V, .slice A L.length c], .int .i64 q] W fun e w' => ∃ x, e = .returned x ∧ Hid (EOwn w' W.heap.size x (L.filter fun e => decide (e.2.1 = q)) ∧ Below W.heap.size W w')) :=
      Lib.hid fun W h => (back_any V q A c L W (HA3.out.at_.below h) (by omega)).mono fun _ _ ⟨x, h1, h2, h3⟩ => ⟨x, h1, Lib.hid ⟨h2, h3⟩⟩
    have B3 : Hid (Below w3.heap.size w3 w3.drew) := Lib.hid ((Below.refl _ w3).drew)
    go_wp2_with fail
    go_cut [6, 7] from 13 (fun x y W => EdR w3 L q x y W)
    case first =>
      go_region_with (first
        | (go_at_call 21; refine (HQ.out _ B3.out).mono ?_; rintro e w4 ⟨x4, rfl, H4⟩; have B4 := Lib.hid (B3.out.trans H4.out.2); obtain ⟨k4, l4, m4⟩ := (HA3.out.step B4.out).facts)
        | (go_at_call 21; refine (HQ.out _ B5.out).mono ?_; rintro e w4 ⟨x4, rfl, H4⟩; have B4 := Lib.hid (B5.out.trans (H4.out.2.mono B5.out.size)))
        | (go_at_call 22; refine (HP.out _ B3.out).mono ?_; rintro e w5 ⟨x5, rfl, H5⟩; have B5 := Lib.hid (B3.out.trans H5.out.2); obtain ⟨k5, l5, m5⟩ := (HA3.out.step B5.out).facts)
        | (go_at_call 22; refine (HP.out _ B4.out).mono ?_; rintro e w5 ⟨x5, rfl, H5⟩; have B5 := Lib.hid (B4.out.trans (H5.out.2.mono B4.out.size))))
      all_goals
        go_wp2_with fail
        go_meet
        first
          | exact edr_xy B3.out H4.out.1 H4.out.2 H5.out.1 H5.out.2
          | exact edr_yx B3.out H5.out.1 H5.out.2 H4.out.1 H4.out.2
    case rest =>
      obtain ⟨hb, hx, hy, hd⟩ := hcut
      have HA4 := Lib.hid (HA3.out.step hb.out)
      clear k0 k1 hk
      obtain ⟨F1, hF1⟩ : ∃ F, L.filter (fun e => decide (e.1 = q)) = F := ⟨_, rfl⟩
      obtain ⟨F2, hF2⟩ : ∃ F, L.filter (fun e => decide (e.2.1 = q)) = F := ⟨_, rfl⟩
      have hl1 : F1.length ≤ 200 := by rw [← hF1]; exact Nat.le_trans (List.length_filter_le _ _) h200
      have hl2 : F2.length ≤ 200 := by rw [← hF2]; exact Nat.le_trans (List.length_filter_le _ _) h200
      rw [hF1] at hx; rw [hF2] at hy
      have HF1 := Lib.hid hF1; have HF2 := Lib.hid hF2
      clear hF1 hF2
      obtain ⟨X, cx, rfl, _, _, _⟩ := hx.out.form
      obtain ⟨Y, cy, rfl, _, _, _⟩ := hy.out.form
      obtain ⟨k0, k1, hk⟩ := HA4.out.facts
      go_wp2_with fail
      refine (rout_any V q A c L wc HA4.out.at_ (by omega)).mono ?_
      rintro e w5 ⟨z, rfl, hz, hb5⟩
      rw [HF1.out] at hz
      have HA5 := Lib.hid (HA4.out.step hb5)
      have HX5 := Lib.hid (hx.out.below hb5); have HY5 := Lib.hid (hy.out.below hb5)
      have HW5 := Lib.hid (hb.out.trans (hb5.mono hb.out.size))
      obtain ⟨Z, cz, rfl, hze, _, _⟩ := hz.form
      have HC := Lib.hid (rsame_edges X Z cx cz F1 F1 w5 (by obtain ⟨_, _, e, h, _⟩ := HX5.out.form; cases e; exact h) hze (by omega) (by omega))
      rw [show decide (F1 = F1) = true by simp] at HC
      clear hz hb5 hze k0 k1 hk
      go_wp2_with fail
      refine HC.out.mono ?_
      rintro e w6 ⟨rfl, hb6⟩
      have HA6 := Lib.hid (HA5.out.step hb6)
      have HX6 := Lib.hid (HX5.out.below hb6); have HY6 := Lib.hid (HY5.out.below hb6)
      have HW6 := Lib.hid (HW5.out.trans (hb6.mono HW5.out.size))
      clear hb6 HC
      obtain ⟨k0, k1, hk⟩ := HA6.out.facts
      go_wp2_with fail
      refine (rback_any V q A c L w6 HA6.out.at_ (by omega)).mono ?_
      rintro e w7 ⟨z, rfl, hz, hb7⟩
      rw [HF2.out] at hz
      have HA7 := Lib.hid (HA6.out.step hb7)
      have HX7 := Lib.hid (HX6.out.below hb7); have HY7 := Lib.hid (HY6.out.below hb7)
      have HW7 := Lib.hid (HW6.out.trans (hb7.mono HW6.out.size))
      obtain ⟨Z2, cz2, rfl, hze, _, _⟩ := hz.form
      have HC := Lib.hid (rsame_edges Y Z2 cy cz2 F2 F2 w7 (by obtain ⟨_, _, e, h, _⟩ := HY7.out.form; cases e; exact h) hze (by omega) (by omega))
      rw [show decide (F2 = F2) = true by simp] at HC
      clear hz hb7 hze k0 k1 hk
      go_wp2_with fail
      refine HC.out.mono ?_
      rintro e w8 ⟨rfl, hb8⟩
      have HA8 := Lib.hid (HA7.out.step hb8)
      have HX8 := Lib.hid (HX7.out.below hb8); have HY8 := Lib.hid (HY7.out.below hb8)
      have HW8 := Lib.hid (HW7.out.trans (hb8.mono HW7.out.size))
      clear hb8 HC HA5 HA6 HA7 HX5 HX6 HX7 HY5 HY6 HY7 HW5 HW6 HW7
      obtain ⟨n1, hn1⟩ : ∃ n, n = F1.length := ⟨_, rfl⟩
      obtain ⟨n2, hn2⟩ : ∃ n, n = F2.length := ⟨_, rfl⟩
      rw [← hn1] at hl1; rw [← hn2] at hl2
      have HN1 := Lib.hid hn1; have HN2 := Lib.hid hn2
      rw [← hn1, ← hn2]
      rw [← hn1] at HX8; rw [← hn2] at HY8
      clear hn1 hn2
      go_wp2_with fail
      go_loopg [8] n1 (fun gk vi wr => MsRel w3.heap.size w8 X n1 cx gk vi wr)
      case atStart => exact ⟨0, rfl, by omega, Lib.hid ⟨_, by have := HX8.out; unfold EOwn at this; rw [← HN1.out] at this; exact this⟩, Lib.hid ⟨rfl, rfl, rfl, Nat.le_refl _, fun _ _ _ => rfl⟩⟩
      case round =>
        obtain ⟨i, rfl, hig, hms, hgr⟩ := hrel
        by_cases hin : i < n1
        · obtain ⟨g, u, rfl, hc, hf⟩ := hms.out.cell hin 1 (by omega)
          have hst := hms.out.store (i * 3 + 1) (.int .i64 (-9))
          have HST := Lib.hid hst; clear hst
          go_wp2
          go_roundg (gk - 1)
          case measure => omega
          case rel => exact ⟨i + 1, by go_num, by omega, Lib.hid HST.out.1, Lib.hid (hgr.out.trans HST.out.2)⟩
        · have HB9 := Lib.hid (hms.out.over HW8.out hgr.out)
          have HY9 : Hid (Mess wr w3.heap.size (.slice Y n2 cy) n2) := Lib.hid (Mess.other ⟨_, by have := HY8.out; unfold EOwn at this; rw [← HN2.out] at this; exact this⟩ hgr.out (fun j hj => by have h9 := hd.out j; rw [← HN1.out, ← HN2.out] at h9; exact h9 hj))
          obtain ⟨w9, rfl⟩ : ∃ w9 : World, w9 = wr := ⟨_, rfl⟩
          clear hms hgr
          go_wp2_with fail
          go_loopg [9] n2 (fun gk vi wr => MsRel w3.heap.size w9 Y n2 cy gk vi wr)
          case atStart => exact ⟨0, rfl, by omega, HY9, Lib.hid ⟨rfl, rfl, rfl, Nat.le_refl _, fun _ _ _ => rfl⟩⟩
          case round =>
            obtain ⟨i2, rfl, hig2, hms, hgr⟩ := hrel
            by_cases hin2 : i2 < n2
            · obtain ⟨g, u, rfl, hc, hf⟩ := hms.out.cell hin2 0 (by omega)
              have hst := hms.out.store (i2 * 3) (.int .i64 (-9))
              have HST := Lib.hid hst; clear hst
              rw [Nat.add_zero] at hc hf
              go_wp2
              go_roundg (gk - 1)
              case measure => omega
              case rel => exact ⟨i2 + 1, by go_num, by omega, Lib.hid HST.out.1, Lib.hid (hgr.out.trans HST.out.2)⟩
            · have HB10 := Lib.hid (hms.out.over HB9.out hgr.out)
              have HA10 := Lib.hid (HA3.out.step HB10.out)
              have HK10 := Lib.hid (HK3.out.below HB10.out)
              obtain ⟨K, ck, rfl, hke, _, _⟩ := HK10.out.form
              have HKE := Lib.hid hke
              clear hke hms hgr
              obtain ⟨k0, k1, hk⟩ := HA10.out.facts
              have HC := Lib.hid (fun W (h : Below wr.heap.size wr W) => rsame_edges K A ck c L L W (HKE.out.below h) (HA10.out.at_.below h) (by omega) (by omega))
              rw [show decide (L = L) = true by simp] at HC
              go_wp2_with fail
              refine (HC.out wr (Below.refl _ wr)).mono ?_
              rintro e w11 ⟨rfl, hb11⟩
              have HB11 := Lib.hid hb11
              have HA11 := Lib.hid (HA10.out.step hb11)
              clear hb11 k0 k1 hk
              obtain ⟨k0, k1, hk⟩ := HA11.out.facts
              obtain ⟨R, hR⟩ : ∃ R, chk V L = R := ⟨_, rfl⟩
              have HCK := Lib.hid (check_any V A c L w11 HA11.out.at_ (by omega))
              rw [hR] at HCK
              have HR := Lib.hid hR; clear hR
              go_wp2_with fail
              refine HCK.out.mono ?_
              rintro e w12 ⟨rfl, hb12⟩
              have HB12 := Lib.hid (HB11.out.trans (hb12.mono HB11.out.size))
              have HA12 := Lib.hid (HA11.out.step hb12)
              clear hb12 k0 k1 hk HCK
              obtain ⟨k0, k1, hk⟩ := HA12.out.facts
              by_cases h0 : R = 0
              · subst h0
                obtain ⟨hV1, hV2, _, hfit, _⟩ := (chk_zero V L).1 HR.out
                obtain ⟨m, rfl⟩ : ∃ m : Nat, V = (m : Int) := ⟨V.toNat, by omega⟩
                have HFIT := Lib.hid hfit; clear hfit k0 k1 hk
                go_wp2_with fail
                go_loopg [10, 11, 12] m (fun gk s1 s2 vi wr => SumRel w12 L m gk s1 s2 vi wr)
                case atStart => exact ⟨0, 0, 0, rfl, rfl, rfl, by omega, Lib.hid (below_zero _ L).symm, Lib.hid (below_zero _ L).symm, Lib.hid (Below.refl _ w12)⟩
                case round =>
                  obtain ⟨k, p1, p2, rfl, rfl, rfl, hkm, hp1, hp2, hbw⟩ := hrel
                  have HAr := Lib.hid (HA12.out.step hbw.out)
                  obtain ⟨k0, k1, hk⟩ := HAr.out.facts
                  by_cases hlt : k < m
                  · obtain ⟨l1, hl1'⟩ : ∃ l, (L.filter fun e => decide (e.1 = (k : Int))).length = l := ⟨_, rfl⟩
                    obtain ⟨l2, hl2'⟩ : ∃ l, (L.filter fun e => decide (e.2.1 = (k : Int))).length = l := ⟨_, rfl⟩
                    have hs1 : p1 + l1 = below (fun e => e.1) (k + 1) L := by rw [below_succ, hp1.out, hl1']
                    have hs2 : p2 + l2 = below (fun e => e.2.1) (k + 1) L := by rw [below_succ, hp2.out, hl2']
                    have hq1 : p1 + l1 ≤ 200 := by rw [hs1]; exact Nat.le_trans (below_le _ _ _) h200
                    have hq2 : p2 + l2 ≤ 200 := by rw [hs2]; exact Nat.le_trans (below_le _ _ _) h200
                    have HS1 := Lib.hid hs1; have HS2 := Lib.hid hs2; have HL1 := Lib.hid hl1'; have HL2 := Lib.hid hl2'
                    clear hs1 hs2 hl1' hl2'
                    go_wp2_with fail
                    refine (out_any (m : Int) (k : Int) A c L wr HAr.out.at_ (by omega)).mono ?_
                    rintro e w13 ⟨x, rfl, hx13, hb13⟩
                    obtain ⟨X13, c13, rfl, _, _, _⟩ := hx13.form
                    rw [HL1.out]
                    have HB13 := Lib.hid (hbw.out.trans (hb13.mono hbw.out.size))
                    have HA13 := Lib.hid (HAr.out.step hb13)
                    clear hx13 hb13 k0 k1 hk
                    obtain ⟨k0, k1, hk⟩ := HA13.out.facts
                    go_wp2_with fail
                    refine (back_any (m : Int) (k : Int) A c L w13 HA13.out.at_ (by omega)).mono ?_
                    rintro e w14 ⟨x, rfl, hx14, hb14⟩
                    obtain ⟨X14, c14, rfl, _, _, _⟩ := hx14.form
                    rw [HL2.out]
                    have HB14 := Lib.hid (HB13.out.trans (hb14.mono HB13.out.size))
                    clear hx14 hb14 k0 k1 hk
                    go_wp2
                    go_roundg (gk - 1)
                    case measure => omega
                    case rel => exact ⟨k + 1, p1 + l1, p2 + l2, by go_num, by go_num, by go_num, by omega, HS1, HS2, HB14⟩
                  · obtain rfl : k = m := by omega
                    have e1 : p1 = L.length := by rw [hp1.out]; exact below_all _ _ _ fun e he => by have := HFIT.out e he; rw [fitE_iff] at this; omega
                    have e2 : p2 = L.length := by rw [hp2.out]; exact below_all _ _ _ fun e he => by have := HFIT.out e he; rw [fitE_iff] at this; omega
                    subst e1
                    subst e2
                    go_wp2_with fail
                    refine (works_any wr (Lib.hid (HLd.out _ HAr.out.below))).mono ?_
                    rintro e w14 ⟨rfl, HB⟩
                    have HZ := Lib.hid (HAr.out.step HB.out).below
                    clear HB
                    go_wp2
                    go_ret
                    exact ⟨rfl, HZ.out⟩
              · have hb0 : (R == 0) = false := by simpa using h0
                have hb1 : (R != 0) = true := by simpa using h0
                go_wp2_with fail
                refine (HC.out w12 HB12.out).mono ?_
                rintro e w13 ⟨rfl, hb13⟩
                have HA13 := Lib.hid (HA12.out.step hb13)
                clear hb13
                go_wp2_with fail
                refine (works_any w13 (Lib.hid (HLd.out _ HA13.out.below))).mono ?_
                rintro e w14 ⟨rfl, HB⟩
                have HZ := Lib.hid (HA13.out.step HB.out).below
                clear HB
                go_wp2
                go_ret
                exact ⟨rfl, HZ.out⟩

end Go.Proofs.YtmcmpjcijbeilaaGreatDoor.Gr
