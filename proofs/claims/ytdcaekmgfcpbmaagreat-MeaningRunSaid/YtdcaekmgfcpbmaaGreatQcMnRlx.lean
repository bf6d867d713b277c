/-
  What is proved here: contracts of meaning.Labels and meaning.Distances. Conditions: at most 100000 edges; of Distances: a graph that may be has at most 40 vertices. What is proved here: a contract of the document's Labels: the least vertices that hang together. Conditions: at most 100000 edges.
-/
import Derived.Test.YtdcaekmgfcpbmaaGreatQcMnLcx
import Derived.Test.YtdcaekmgfcpbmaaGreatQcMnDi
import Derived.Test.YtdcaekmgfcpbmaaGreatQcMnBfsx
namespace Go.Proofs.YtdcaekmgfcpbmaaGreat.Mn
open Go.RowKit Gr Wd Ws Fx Rk Lb Al
open Pa (vl bt vl_of vl_at bt_of bt_at Fits fits_of fr far)
def Ans (w w' : World) (e : Ending) (l : List Int) (E : Int) : Prop := ∃ v, e = .returned (.tuple #[v, .int .i64 E]) ∧ Hid (NOwn w' 2 w.heap.size v l ∧ Below w.heap.size w w')
def LabR (V : Int) (L : List Ed) (l : List Int) : Prop := (chk V L = 0 → LabC V.toNat L l) ∧ (chk V L ≠ 0 → l = [])
def disE (V : Int) (L : List Ed) (s : Int) : Int := if chk V L = 0 then (if 0 ≤ s ∧ s < V then 0 else 2) else chk V L
def disL (V : Int) (L : List Ed) (s : Int) : List Int := if disE V L s = 0 then far V.toNat s.toNat L else []
theorem LabR.one {V : Int} {L : List Ed} {a b : List Int} (ha : LabR V L a) (hb : LabR V L b) : a = b := by
  by_cases h : chk V L = 0
  · exact (ha.1 h).one (hb.1 h)
  · rw [ha.2 h, hb.2 h]
theorem chk_v {V : Int} {L : List Ed} (h : chk V L = 0) : ∃ Vn : Nat, V = (Vn : Int) ∧ 1 ≤ Vn ∧ Vn ≤ 512 := by
  obtain ⟨h1, h2, _, _, _⟩ := (chk_zero _ _).1 h
  exact ⟨V.toNat, by omega, by omega, by omega⟩
set_option maxRecDepth 100000 in
set_option maxHeartbeats 1000000 in
theorem Labels_any (V : Int) (A : Option Addr) (n c : Nat) (L : List Ed) (w : World) (hL : EAt w A L) (hn : L.length = n) (hm : n ≤ 100000) :
    Calls Tryz.prog 9 #[.agg #[.int .i64 V, .slice A n c]] w fun e w' => ∃ l, Ans w w' e l (chk V L) ∧ Hid (LabR V L l) := by
  have mixed := mixedP
  have HL := Lib.hid hL; have HN := Lib.hid hn
  clear hL hn
  obtain ⟨W1, hW1⟩ : ∃ W1, W1 = w.alloc (.cells #[.int .i64 V, .slice A n c] 24) := ⟨_, rfl⟩
  obtain ⟨b, hb⟩ : ∃ b, b = w.heap.size := ⟨_, rfl⟩
  have HB1 : Hid (Below w.heap.size w W1) := Lib.hid (by rw [hW1]; exact (Below.refl _ w).alloc (Nat.le_refl _) _)
  have HX1 : Hid (W1.heap[b]? = some (.cells #[.int .i64 V, .slice A n c] 24 (0, 0))) := Lib.hid (by rw [hW1, hb]; exact heap_alloc_new w _)
  obtain ⟨g0, g1, _⟩ := two_cells HX1.out
  obtain ⟨E, hE⟩ : ∃ E, chk V L = E := ⟨_, rfl⟩
  have HC := Lib.hid (check_any V A c L W1 (HL.out.below HB1.out) (by rw [HN.out]; omega))
  rw [HN.out, hE] at HC
  rw [hE]
  have HE := Lib.hid hE; clear hE
  go_enter Tryz.func9, Tryz.ntmps9
  go_upto_region 1 with fail
  rw [← hW1, show w.heap.size = b from hb.symm]
  have HBb := Lib.hid hb
  clear hW1 hb
  go_wp2_with fail
  refine HC.out.mono ?_
  rintro e w2 ⟨rfl, hb2⟩
  have HB2 := Lib.hid (step_below HB1.out HB1.out.size hb2)
  have HX2 := Lib.hid (keepB HX1.out hb2)
  clear hb2 g0 g1 HC HB1 HX1
  obtain ⟨g0, g1, _⟩ := two_cells HX2.out
  by_cases hE0 : E = 0
  · subst hE0
    obtain ⟨Vn, rfl, hV0, hV⟩ := chk_v HE.out
    have HC2 := Lib.hid (labels_any Vn A n c L w2 (HL.out.below HB2.out) HN.out hm hV hV0 HE.out)
    go_wp2_with fail
    refine HC2.out.mono ?_
    rintro e w3 ⟨v, l, rfl, h3⟩
    go_wp2
    go_ret2
    refine ⟨l, ⟨v, rfl, Lib.hid ⟨h3.out.2.1.mono HB2.out.size, step_below HB2.out HB2.out.size h3.out.2.2⟩⟩, Lib.hid ⟨fun _ => ?_, fun h => absurd HE.out h⟩⟩
    rw [show (Vn : Int).toNat = Vn by simp]; exact h3.out.1
  · go_wp2
    go_ret2
    exact ⟨[], ⟨_, rfl, Lib.hid ⟨NOwn.none_ _ _ _, HB2.out⟩⟩, Lib.hid ⟨fun h => absurd (HE.out.symm.trans h) hE0, fun _ => rfl⟩⟩
set_option maxRecDepth 100000 in
set_option maxHeartbeats 1000000 in
theorem Distances_any (V s : Int) (A : Option Addr) (n c : Nat) (L : List Ed) (w : World) (hL : EAt w A L) (hn : L.length = n) (hm : n ≤ 100000) (hV40 : chk V L = 0 → V ≤ 40) :
    Calls Tryz.prog 13 #[.agg #[.int .i64 V, .slice A n c], .int .i64 s] w fun e w' => Ans w w' e (disL V L s) (disE V L s) := by
  have mixed := mixedP
  have HL := Lib.hid hL; have HN := Lib.hid hn
  clear hL hn
  obtain ⟨W1, hW1⟩ : ∃ W1, W1 = w.alloc (.cells #[.int .i64 V, .slice A n c] 24) := ⟨_, rfl⟩
  obtain ⟨b, hb⟩ : ∃ b, b = w.heap.size := ⟨_, rfl⟩
  have HB1 : Hid (Below w.heap.size w W1) := Lib.hid (by rw [hW1]; exact (Below.refl _ w).alloc (Nat.le_refl _) _)
  have HX1 : Hid (W1.heap[b]? = some (.cells #[.int .i64 V, .slice A n c] 24 (0, 0))) := Lib.hid (by rw [hW1, hb]; exact heap_alloc_new w _)
  obtain ⟨g0, g1, _⟩ := two_cells HX1.out
  obtain ⟨E, hE⟩ : ∃ E, chk V L = E := ⟨_, rfl⟩
  have HC := Lib.hid (check_any V A c L W1 (HL.out.below HB1.out) (by rw [HN.out]; omega))
  rw [HN.out, hE] at HC
  rw [hE] at hV40
  have HE := Lib.hid hE; clear hE
  go_enter Tryz.func13, Tryz.ntmps13
  go_upto_region 1 with fail
  rw [← hW1, show w.heap.size = b from hb.symm]
  have HBb := Lib.hid hb
  clear hW1 hb
  go_wp2_with fail
  refine HC.out.mono ?_
  rintro e w2 ⟨rfl, hb2⟩
  have HB2 := Lib.hid (step_below HB1.out HB1.out.size hb2)
  have HX2 := Lib.hid (keepB HX1.out hb2)
  clear hb2 g0 g1 HC HB1 HX1
  obtain ⟨g0, g1, _⟩ := two_cells HX2.out
  by_cases hE0 : E = 0
  · subst hE0
    obtain ⟨Vn, rfl, hV0, hV⟩ := chk_v HE.out
    have hV4 := hV40 rfl
    clear hV40
    by_cases hs : 0 ≤ s ∧ s < (Vn : Int)
    · obtain ⟨sn, rfl⟩ : ∃ sn : Nat, s = (sn : Int) := ⟨s.toNat, by omega⟩
      have HD : Hid (disE (Vn : Int) L (sn : Int) = 0) := Lib.hid (by unfold disE; rw [if_pos HE.out, if_pos hs])
      have HDL : Hid (disL (Vn : Int) L (sn : Int) = far Vn sn L) := Lib.hid (by unfold disL; rw [if_pos HD.out]; simp)
      have hs1 : (sn : Int) < (Vn : Int) := hs.2
      clear hs
      have HC2 := Lib.hid (distances_any Vn sn A n c L w2 (HL.out.below HB2.out) HN.out hm (by omega) (by omega) HE.out)
      go_wp2_with fail
      refine HC2.out.mono ?_
      rintro e w3 ⟨g, cp, rfl, h3⟩
      go_wp2
      go_ret2
      rw [HD.out, HDL.out]
      exact ⟨_, rfl, Lib.hid ⟨h3.out.1.mono HB2.out.size, step_below HB2.out HB2.out.size h3.out.2⟩⟩
    · have HD : Hid (disE (Vn : Int) L s = 2) := Lib.hid (by unfold disE; rw [if_pos HE.out, if_neg hs])
      have HDL : Hid (disL (Vn : Int) L s = []) := Lib.hid (by unfold disL; rw [HD.out]; rfl)
      by_cases h0 : s < 0
      · clear hs
        go_wp2
        go_ret2
        rw [HD.out, HDL.out]
        exact ⟨_, rfl, Lib.hid ⟨NOwn.none_ _ _ _, HB2.out⟩⟩
      · have h1 : (Vn : Int) ≤ s := by omega
        clear hs
        go_wp2
        go_ret2
        rw [HD.out, HDL.out]
        exact ⟨_, rfl, Lib.hid ⟨NOwn.none_ _ _ _, HB2.out⟩⟩
  · have HD : Hid (disE V L s = E) := Lib.hid (by unfold disE; rw [if_neg (by rw [HE.out]; exact hE0), HE.out])
    have HDL : Hid (disL V L s = []) := Lib.hid (by unfold disL; rw [HD.out, if_neg hE0])
    go_wp2
    go_ret2
    rw [HD.out, HDL.out]
    exact ⟨_, rfl, Lib.hid ⟨NOwn.none_ _ _ _, HB2.out⟩⟩
end Go.Proofs.YtdcaekmgfcpbmaaGreat.Mn
namespace Go.Proofs.YtdcaekmgfcpbmaaGreat.Mn
open Go.RowKit Gr Wd Ws Fx Rk Lb Al
open Pa (vl bt vl_of vl_at bt_of bt_at Fits fits_of fr)
def nts (l : List Nat) : List Int := l.map fun (x : Nat) => (x : Int)
structure FrH (w W : World) (b gl : Nat) (V : Nat) (S : Value) (l : List Int) : Prop where
  below : Below w.heap.size w W
  gbox : W.heap[b]? = some (.cells #[.int .i64 (V : Int), S] 24 (0, 0))
  row : NOwn W 2 w.heap.size (.slice (some ⟨gl, 0, none⟩) V V) l
  len : l.length = V
theorem FrH.step {w W W' : World} {b gl V : Nat} {S : Value} {l : List Int} (h : FrH w W b gl V S l) (hb : Below W.heap.size W W') : FrH w W' b gl V S l :=
  ⟨step_below h.below h.below.size hb, keepB h.gbox hb, h.row.below hb, h.len⟩
theorem FrH.set {w W : World} {b gl V : Nat} {S : Value} {l : List Int} (h : FrH w W b gl V S l) (k : Nat) (x : Int) : FrH w (W.setCell ⟨gl, k, none⟩ (.int .i64 x)) b gl V S (l.set k x) := by
  obtain ⟨h1, c, hc⟩ := h.row.blk
  exact ⟨h.below.setCell (p := ⟨gl, k, none⟩) h1 _, nbox_set h.gbox hc (by decide), h.row.set h.len k x, by rw [List.length_set]; exact h.len⟩
structure BfH (w W : World) (b gl V : Nat) (S : Value) (p : List Int × List Nat) (vd : Value) : Prop where
  fr : FrH w W b gl V S p.1
  todo : NOwn W 3 w.heap.size vd (nts p.2)
theorem BfH.step {w W W' : World} {b gl V : Nat} {S vd : Value} {p : List Int × List Nat} (h : BfH w W b gl V S p vd) (hb : Below W.heap.size W W') : BfH w W' b gl V S p vd := ⟨h.fr.step hb, h.todo.below hb⟩
theorem BfH.set {w W : World} {b gl V : Nat} {S vd : Value} {p : List Int × List Nat} (h : BfH w W b gl V S p vd) (k : Nat) (x : Int) (o : Obj) : BfH w ((W.setCell ⟨gl, k, none⟩ (.int .i64 x)).alloc o) b gl V S (p.1.set k x, p.2) vd := by
  obtain ⟨h1, c, hc⟩ := h.fr.row.blk
  have h2 : BfH w (W.setCell ⟨gl, k, none⟩ (.int .i64 x)) b gl V S (p.1.set k x, p.2) vd := ⟨h.fr.set k x, nown_set h.todo hc (by decide)⟩
  exact h2.step ((Below.refl _ _).alloc (Nat.le_refl _) o)
theorem BfH.more {w W W' : World} {b gl V : Nat} {S vd vd' : Value} {p : List Int × List Nat} {k : Nat} (h : BfH w W b gl V S p vd) (h' : NOwn W' 3 w.heap.size vd' (nts p.2 ++ [(k : Int)])) (hg : W.grownBy W' vd.ownBlock) : BfH w W' b gl V S (p.1, p.2 ++ [k]) vd' :=
  ⟨⟨h.fr.below.trans (nown_grown h.todo hg (Nat.le_refl _) h.fr.below.size), nbox_other h.fr.gbox h.todo (by decide) hg, nown_other h.fr.row h.todo (by decide) hg, h.fr.len⟩, by
    have e : nts (p.2 ++ [k]) = nts p.2 ++ [(k : Int)] := by unfold nts; rw [List.map_append]; rfl
    rw [e]; exact h'⟩
end Go.Proofs.YtdcaekmgfcpbmaaGreat.Mn
