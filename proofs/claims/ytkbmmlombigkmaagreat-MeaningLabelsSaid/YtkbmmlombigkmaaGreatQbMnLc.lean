/-
  What is proved here: contracts of meaning.labels and meaning.Labels. Conditions: at most 100000 edges.
-/
import Derived.Test.YtkbmmlombigkmaaGreatQbMnLb
namespace Go.Proofs.YtkbmmlombigkmaaGreat.Mn
open Go.RowKit Gr Wd Ws Fx Rk Lb Al
open Pa (vl bt vl_of vl_at bt_of bt_at Fits fits_of fr)
def lbs (R : Nat → Nat) (k : Nat) : List Int := (List.range k).map fun v => ((R v : Nat) : Int)
theorem lbs_len (R : Nat → Nat) (k : Nat) : (lbs R k).length = k := by unfold lbs; simp
theorem lbs_next (R : Nat → Nat) (k : Nat) : lbs R (k + 1) = lbs R k ++ [((R k : Nat) : Int)] := by unfold lbs; rw [List.range_succ, List.map_append]; rfl
theorem lbs_at {R : Nat → Nat} {k v : Nat} (h : v < k) : vl (lbs R k) v = ((R v : Nat) : Int) := vl_of (by unfold lbs; rw [List.getElem?_map, List.getElem?_range h]; rfl)
structure RlH (w W : World) (V b ba br g cp B B' : Nat) (S v : Value) (A : List Int) (R : Nat → Nat) (L : List Ed) (k : Nat) : Prop where
  rg : RgH w W V b ba br g cp B S A R L L
  row : NOwn W 2 B' v (lbs R k)
  lo : w.heap.size ≤ B' ∧ B' ≤ W.heap.size
theorem RlH.step {w W W' : World} {V b ba br g cp B B' : Nat} {S v : Value} {A : List Int} {R : Nat → Nat} {L : List Ed} {k : Nat} (h : RlH w W V b ba br g cp B B' S v A R L k) (hb : Below W.heap.size W W') : RlH w W' V b ba br g cp B B' S v A R L k :=
  ⟨h.rg.step hb, h.row.below hb, ⟨h.lo.1, Nat.le_trans h.lo.2 hb.size⟩⟩
theorem RlH.root {w W W' : World} {V b ba br g cp B B' : Nat} {S v : Value} {A A' : List Int} {R : Nat → Nat} {L : List Ed} {k : Nat} (h : RlH w W V b ba br g cp B B' S v A R L k) (hf : Fo V A' R) (hu : Uf V ba br g cp B A' W') (hg : W.grownBy W' (some g)) : RlH w W' V b ba br g cp B B' S v A' R L k :=
  ⟨h.rg.root hf hu hg, nown_other h.row h.rg.uf.row (by decide) hg, ⟨h.lo.1, Nat.le_trans h.lo.2 hg.size⟩⟩
theorem RlH.more {w W W' : World} {V b ba br g cp B B' : Nat} {S v v' : Value} {A : List Int} {R : Nat → Nat} {L : List Ed} {k : Nat} (h : RlH w W V b ba br g cp B B' S v A R L k) (h' : NOwn W' 2 B' v' (lbs R (k + 1))) (hg : W.grownBy W' v.ownBlock) : RlH w W' V b ba br g cp B B' S v' A R L (k + 1) :=
  ⟨⟨h.rg.below.trans (nown_grown h.row hg h.lo.1 h.rg.below.size), nbox_other h.rg.gbox h.row (by decide) hg, ⟨nbox_other h.rg.uf.abox h.row (by decide) hg, nbox_other h.rg.uf.rbox h.row (by decide) hg, nown_other h.rg.uf.row h.row (by decide) hg, h.rg.uf.len⟩, h.rg.fo, h.rg.fc, h.rg.lo⟩,
    h', ⟨h.lo.1, Nat.le_trans h.lo.2 hg.size⟩⟩
set_option maxRecDepth 100000 in
set_option maxHeartbeats 4000000 in
theorem labels_any (V : Nat) (A : Option Addr) (n c : Nat) (L : List Ed) (w : World) (hL : EAt w A L) (hn : L.length = n) (hm : n ≤ 100000) (hV : V ≤ 512) (hV0 : 1 ≤ V) (hc : chk (V : Int) L = 0) :
    Calls Tryz.prog 26 #[.agg #[.int .i64 (V : Int), .slice A n c]] w fun e w' => ∃ v l, e = .returned v ∧ Hid (LabC V L l ∧ NOwn w' 2 w.heap.size v l ∧ Below w.heap.size w w') := by
  have mixed := mixedP
  have HL := Lib.hid hL; have HN := Lib.hid hn; have HC := Lib.hid hc
  clear hL hn hc
  obtain ⟨b, hb⟩ : ∃ b, b = w.heap.size := ⟨_, rfl⟩
  obtain ⟨W1, hW1⟩ : ∃ W1, W1 = w.alloc (.cells #[.int .i64 (V : Int), .slice A n c] 24) := ⟨_, rfl⟩
  have HB1 : Hid (Below w.heap.size w W1) := Lib.hid (by rw [hW1]; exact (Below.refl _ w).alloc (Nat.le_refl _) _)
  have HX1 : Hid (W1.heap[b]? = some (.cells #[.int .i64 (V : Int), .slice A n c] 24 (0, 0))) := Lib.hid (by rw [hW1, hb]; exact heap_alloc_new w _)
  have HBW : Hid (w.heap.size ≤ b) := Lib.hid (by rw [hb]; exact Nat.le_refl _)
  obtain ⟨g0, g1, _⟩ := two_cells HX1.out
  go_enter Tryz.func26, Tryz.ntmps26
  go_upto_region 1 with fail
  rw [← hW1, show w.heap.size = b from hb.symm]
  have HBb := Lib.hid hb
  clear hW1 hb
  go_wp2_with fail
  refine (rootsOf_any V A n c L W1 (HL.out.below HB1.out) HN.out hm hV hV0 HC.out).mono ?_
  rintro e w2 ⟨ba, br, g, cp, rfl, R, A', h2⟩
  have HG2 : Hid (RgH w w2 V b ba br g cp W1.heap.size (.slice A n c) A' R L L) := Lib.hid ⟨step_below HB1.out HB1.out.size h2.out.2.2.2, keepB HX1.out h2.out.2.2.2, h2.out.2.2.1, h2.out.1, h2.out.2.1, ⟨HBW.out, HB1.out.size⟩⟩
  have HB12 := Lib.hid HB1.out.size
  clear h2 HB1 HX1 g0 g1
  obtain ⟨g0, g1, _⟩ := two_cells HG2.out.gbox
  obtain ⟨i0, hi, hz0, hz1, hz2⟩ := info_parts info2
  obtain ⟨W3, hmk, hown3, hg3⟩ := run_make_own (P := Tryz.prog) (w := w2) w.heap.size 27 2 i0 _ 1 Tryz.underlying27 hi hz0 hz1 .i64 .i64 V (by rw [hz2]; omega) (by unfold maxLen; omega) HG2.out.below.size
  have hb3 : Below w2.heap.size w2 W3 := ⟨hg3.os, hg3.tape, hg3.output, hg3.size, fun i hi => hg3.block i hi nofun⟩
  obtain ⟨g3, hg3'⟩ : ∃ g, g = w2.heap.size := ⟨_, rfl⟩
  rw [← hg3'] at hmk hown3
  have HH : Hid (RlH w W3 V b ba br g cp W1.heap.size w.heap.size (.slice A n c) (.slice (some ⟨g3, 0, none⟩) 0 V) A' R L 0) := Lib.hid ⟨HG2.out.step hb3, hown3, ⟨Nat.le_refl _, Nat.le_trans HG2.out.below.size hb3.size⟩⟩
  clear hown3 hg3 hb3 hi hz0 hz1 hz2 hg3'
  go_upto_region 3 with fail
  clear hmk g0 g1 HG2
  obtain ⟨g0, g1, _⟩ := two_cells HH.out.rg.gbox
  go_wp2_with fail
  clear g0 g1
  go_loopg [4, 13] V (fun gk vv iv wr => ∃ (k : Nat) (A1 : List Int) (A5 : Option Addr) (n5 c5 : Nat), iv = .int .i64 (k : Int) ∧ vv = .slice A5 n5 c5 ∧ k + gk = V ∧ Hid (RlH w wr V b ba br g cp W1.heap.size w.heap.size (.slice A n c) (.slice A5 n5 c5) A1 R L k))
  case atStart => exact ⟨0, _, _, _, _, rfl, rfl, by omega, HH⟩
  case round =>
    clear HH
    obtain ⟨k, A1, A5, n5, c5, rfl, rfl, hk, HH⟩ := hrel
    by_cases hlt : k < V
    · obtain ⟨y, hy⟩ : ∃ y, R k = y := ⟨_, rfl⟩
      have HC1 := Lib.hid (root_any V ba br g cp W1.heap.size R k A1 wr hlt hV HH.out.rg.fo HH.out.rg.uf)
      rw [hy] at HC1
      have HNX : Hid (lbs R (k + 1) = lbs R k ++ [(y : Int)]) := Lib.hid (by rw [← hy]; exact lbs_next R k)
      clear hy
      go_wp2_with fail
      refine HC1.out.mono ?_
      rintro e w4 ⟨rfl, A6, h6⟩
      have HH4 := Lib.hid (HH.out.root h6.out.1 h6.out.2.1 h6.out.2.2.2)
      have HO1 := Lib.hid (HH4.out.row.alloc (.cells #[.int .i64 (y : Int)] 2))
      have HH5 := Lib.hid (HH4.out.step ((Below.refl _ w4).alloc (Nat.le_refl _) (.cells #[.int .i64 (y : Int)] 2)))
      have HN1 := Lib.hid (heap_alloc_new w4 (.cells #[.int .i64 (y : Int)] 2))
      have HSL : Hid ((lbs R k).length < 1000000000) := Lib.hid (by rw [lbs_len]; omega)
      have HSZ := Lib.hid HH5.out.lo.2
      clear h6 HC1
      go_wp2_with (at_builtin; refine app_n rfl (.tmp 16) (.tmp 20) 27 2 rfl Tryz.underlying27 info2 w.heap.size _ (lbs R k) (y : Int) rfl HO1.out _ rfl HN1.out HSL.out HSZ.out ?_)
      intro v2 w5 ho2 hg2
      obtain ⟨A7, c7, rfl, _⟩ := ho2.form
      rw [← HNX.out] at ho2 ⊢
      have HH6 := Lib.hid (HH5.out.more ho2 hg2)
      clear ho2 hg2 HO1 HH5 HN1 HSL HSZ HH HH4
      obtain ⟨n6, hn6⟩ : ∃ n6, n6 = (lbs R (k + 1)).length := ⟨_, rfl⟩
      rw [← hn6] at HH6 ⊢
      clear hn6
      go_wp2
      go_roundg (gk - 1)
      case measure => omega
      case rel => exact ⟨k + 1, A6, A7, n6, c7, by go_num, rfl, by omega, HH6⟩
    · have HKV : Hid (k = V) := Lib.hid (by omega)
      go_wp2
      go_ret
      refine ⟨_, lbs R k, rfl, Lib.hid ⟨?_, HH.out.row, HH.out.rg.below⟩⟩
      rw [HKV.out]
      exact fo_labels (fits_of HC.out) HH.out.rg.fo HH.out.rg.fc (lbs_len R V) fun v hv => lbs_at hv
end Go.Proofs.YtkbmmlombigkmaaGreat.Mn
