/-
  What is proved here: contracts of container/heap's up and down over a heap of ways: they are the same ways in another row. Conditions: places are places of it; it is not longer than memory bears.
-/
import Derived.Test.YtkbmmlombigkmaaGreatQbMnHp
namespace Go.Proofs.YtkbmmlombigkmaaGreat.Mn
open Go.RowKit Gr Wd Ws Fx Rk Lb
open Pa (vl bt vl_of vl_at bt_of bt_at)
structure Hp (b B g n cp : Nat) (H : List Wy) (w : World) : Prop where
  box : w.heap[b]? = some (.cells #[.slice (some ⟨g, 0, none⟩) n cp] 88 (0, 0))
  row : WOw w B (.slice (some ⟨g, 0, none⟩) n cp) H
  cap : 1 ≤ cp
  len : H.length = n
  lo : B ≤ b ∧ B ≤ w.heap.size
structure Sd (B b g g' : Nat) (w w' : World) : Prop where
  below : Below B w w'
  keep : ∀ j c T, w.heap[j]? = some (.cells c T (0, 0)) → (T ≠ 86 ∨ c.size = 2) → j ≠ b → j ≠ g → w'.heap[j]? = some (.cells c T (0, 0)) ∧ j ≠ g'
theorem Sd.refl (B b g : Nat) (w : World) : Sd B b g g w w := ⟨Below.refl _ _, fun _ _ _ h _ _ hg => ⟨h, hg⟩⟩
theorem Sd.trans {B b g1 g2 g3 : Nat} {w1 w2 w3 : World} (h : Sd B b g1 g2 w1 w2) (k : Sd B b g2 g3 w2 w3) : Sd B b g1 g3 w1 w3 :=
  ⟨h.below.trans k.below, fun j c T hj hT hb hg => by
    obtain ⟨h1, h2⟩ := h.keep j c T hj hT hb hg
    exact k.keep j c T h1 hT hb h2⟩
theorem Sd.of_grown {B b g : Nat} {w w' : World} (h : w.grownBy w' (some g)) (hg : B ≤ g) (hB : B ≤ w.heap.size) : Sd B b g g w w' :=
  ⟨grown_below h hg hB, fun j _ _ hj _ _ hjg => ⟨(h.block j (lt_of_block hj) (fun e => hjg (by injection e))).trans hj, hjg⟩⟩
theorem Sd.of_below {B b g : Nat} {w w' : World} (h : Below w.heap.size w w') (hB : B ≤ w.heap.size) : Sd B b g g w w' :=
  ⟨h.mono hB, fun j _ _ hj _ _ hjg => ⟨(h.block j (lt_of_block hj)).trans hj, hjg⟩⟩
theorem Hp.below {b B g n cp : Nat} {H : List Wy} {w w' : World} (h : Hp b B g n cp H w) (hb : Below w.heap.size w w') : Hp b B g n cp H w' := ⟨keepB h.box hb, h.row.below hb, h.cap, h.len, ⟨h.lo.1, Nat.le_trans h.lo.2 hb.size⟩⟩
theorem Hp.grown {b B g n cp : Nat} {H H' : List Wy} {w w' : World} (h : Hp b B g n cp H w) (hg : w.grownBy w' (some g)) (h' : WOw w' B (.slice (some ⟨g, 0, none⟩) n cp) H') (hl : H'.length = n) : Hp b B g n cp H' w' := by
  obtain ⟨_, c', hc⟩ := h.row.blk
  exact ⟨grown_box hg h.box hc (by decide), h', h.cap, hl, ⟨h.lo.1, Nat.le_trans h.lo.2 hg.size⟩⟩
theorem Hp.cell {b B g n cp : Nat} {H : List Wy} {w : World} (h : Hp b B g n cp H w) : w.cell? ⟨b, 0, none⟩ = some (.slice (some ⟨g, 0, none⟩) n cp) := (one_cell h.box).1
theorem Hp.own {b B g n cp : Nat} {H : List Wy} {w : World} (h : Hp b B g n cp H w) : B ≤ g := h.row.blk.1
structure Mv (b B g n cp : Nat) (H H' : List Wy) (w w' : World) : Prop where
  perm : H'.Perm H
  hp : Hp b B g n cp H' w'
  sd : Sd B b g g w w'
theorem Mv.refl {b B g n cp : Nat} {H : List Wy} {w : World} (h : Hp b B g n cp H w) : Mv b B g n cp H H w w := ⟨.refl _, h, .refl _ _ _ _⟩
theorem Mv.below {b B g n cp : Nat} {H H' : List Wy} {w w1 w2 : World} (h : Mv b B g n cp H H' w w1) (hb : Below w1.heap.size w1 w2) : Mv b B g n cp H H' w w2 :=
  ⟨h.perm, h.hp.below hb, h.sd.trans (.of_below hb h.hp.lo.2)⟩
theorem Mv.swap {b B g n cp i k : Nat} {H H' : List Wy} {p q : Wy} {w w1 w2 : World} (h : Mv b B g n cp H H' w w1) (hi : H'[i]? = some p) (hk : H'[k]? = some q) (h2 : WOw w2 B (.slice (some ⟨g, 0, none⟩) n cp) ((H'.set i q).set k p) ∧ w1.grownBy w2 (some g)) :
    Mv b B g n cp H ((H'.set i q).set k p) w w2 :=
  ⟨(swp_perm hi hk).trans h.perm, h.hp.grown h2.2 h2.1 (by rw [List.length_set, List.length_set]; exact h.hp.len), h.sd.trans (.of_grown h2.2 h.hp.own h.hp.lo.2)⟩
theorem way_at {H : List Wy} {n k : Nat} (hl : H.length = n) (hk : k < n) : ∃ p, H[k]? = some p := ⟨_, List.getElem?_eq_getElem (by rw [hl]; exact hk)⟩
set_option maxRecDepth 100000 in
set_option maxHeartbeats 2000000 in
theorem up_any (b B g n cp : Nat) (H : List Wy) (j0 : Nat) (w : World) (hm : n < 4000000000000) (h : Hp b B g n cp H w) (hj : j0 < n) :
    Calls Tryz.prog 76 #[hpV b, .int .i64 (j0 : Int)] w fun e w' => e = .returned (.tuple #[]) ∧ ∃ H', Hid (Mv b B g n cp H H' w w') := by
  have HH := Lib.hid h
  clear h
  go_enter Tryz.func76, Tryz.ntmps76
  go_wp2_with fail
  go_loopg [1] (j0 + 1) (fun gk jv wr => ∃ (j : Nat) (H1 : List Wy), jv = .int .i64 (j : Int) ∧ j + 1 = gk ∧ j < n ∧ Hid (Mv b B g n cp H H1 w wr))
  case atStart => exact ⟨j0, H, rfl, rfl, hj, Lib.hid (Mv.refl HH.out)⟩
  case round =>
    clear HH
    obtain ⟨j, H1, rfl, hjk, hjn, HR⟩ := hrel
    by_cases hz : j = 0
    · subst hz
      have hq : Int.tdiv (((0 : Nat) : Int) - 1) 2 = 0 := by decide
      go_wp2
      go_end0
      exact ⟨rfl, H1, HR⟩
    · obtain ⟨i, hi⟩ : ∃ i, i = (j - 1) / 2 := ⟨_, rfl⟩
      have hq : ((j : Int) - 1).tdiv 2 = (i : Int) := by
        rw [Int.tdiv_eq_ediv_of_nonneg (by omega)]; omega
      have hij : i < j := by omega
      have hne : ((i : Int) = (j : Int)) = False := by simp; omega
      obtain ⟨p, hp⟩ := way_at HR.out.hp.len (show i < n by omega)
      obtain ⟨q, hq'⟩ := way_at HR.out.hp.len hjn
      have HP := Lib.hid hp; have HQ := Lib.hid hq'
      have hlk := look_less wr b _ HR.out.hp.cell
      obtain ⟨r, hr⟩ : ∃ r, decide (q.2 < p.2) = r := ⟨_, rfl⟩
      have HC := Lib.hid (less_any B g n cp j i H1 q p wr HR.out.hp.len HR.out.hp.row hq' hp hm)
      rw [hr] at HC
      clear hp hq' hi hr
      go_wp2_with fail
      refine HC.out.mono ?_
      rintro e w2 ⟨rfl, hb2⟩
      have HR2 := Lib.hid (HR.out.below hb2)
      clear hlk HC hb2
      cases r with
      | false =>
        go_wp2
        go_end0
        exact ⟨rfl, H1, HR2⟩
      | true =>
        have hlk := look_swap w2 b _ HR2.out.hp.cell
        have HC := Lib.hid (swap_any B g n cp i j H1 p q w2 HR2.out.hp.len HR2.out.hp.row HP.out HQ.out hm)
        go_wp2_with fail
        refine HC.out.mono ?_
        rintro e w3 ⟨rfl, h3⟩
        have HR3 := Lib.hid (HR2.out.swap HP.out HQ.out h3.out)
        clear hlk HC h3
        go_wp2
        go_roundg (i + 1)
        case measure => omega
        case rel => exact ⟨i, _, rfl, rfl, by omega, HR3⟩
theorem less_at (B g n cp i k : Nat) (H : List Wy) (p q : Wy) (w : World) (I K : Int) (hI : I = (i : Int)) (hK : K = (k : Int)) (hn : H.length = n) (h : WOw w B (.slice (some ⟨g, 0, none⟩) n cp) H) (hi : H[i]? = some p) (hk : H[k]? = some q) (hm : n < 4000000000000) :
    Calls Tryz.prog 142 #[.slice (some ⟨g, 0, none⟩) n cp, .int .i64 I, .int .i64 K] w fun e w' => e = .returned (.bool (decide (p.2 < q.2))) ∧ Below w.heap.size w w' := by
  subst hI hK; exact less_any B g n cp i k H p q w hn h hi hk hm
theorem swap_at (B g n cp i k : Nat) (H : List Wy) (p q : Wy) (w : World) (I K : Int) (hI : I = (i : Int)) (hK : K = (k : Int)) (hn : H.length = n) (h : WOw w B (.slice (some ⟨g, 0, none⟩) n cp) H) (hi : H[i]? = some p) (hk : H[k]? = some q) (hm : n < 4000000000000) :
    Calls Tryz.prog 145 #[.slice (some ⟨g, 0, none⟩) n cp, .int .i64 I, .int .i64 K] w fun e w' => e = .returned (.tuple #[]) ∧ Hid (WOw w' B (.slice (some ⟨g, 0, none⟩) n cp) ((H.set i q).set k p) ∧ w.grownBy w' (some g)) := by
  subst hI hK; exact swap_any B g n cp i k H p q w hn h hi hk hm
end Go.Proofs.YtkbmmlombigkmaaGreat.Mn
