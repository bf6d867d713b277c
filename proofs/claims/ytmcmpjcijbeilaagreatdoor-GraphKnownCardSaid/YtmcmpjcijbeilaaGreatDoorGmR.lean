/-
  What is proved here: the texts GrTurn1 GrTurn2 of this seat, laid together (each says itself what it proves; no condition beyond theirs).
-/
import Derived.Test.YtmcmpjcijbeilaaGreatDoorGmA
import Derived.Test.YtmcmpjcijbeilaaGreatDoorGmP
import Derived.Test.YtmcmpjcijbeilaaGreatDoorGmQ
import Derived.Laws.MakeOwn
/-
  What is proved here: plain facts on turned graphs: vertex by vertex the edges to it, turned, are all edges, turned, and rise. No condition.
-/
namespace Go.Proofs.YtmcmpjcijbeilaaGreatDoor.Gr

def toV (L : List Ed) (v : Nat) : List Ed := L.filter fun e => decide (e.2.1 = (v : Int))
/- The edges to the first k vertices, turned. -/
def tur (L : List Ed) : Nat → List Ed
  | 0 => []
  | k + 1 => tur L k ++ (toV L k).map trn
theorem trn_trn (e : Ed) : trn (trn e) = e := rfl
theorem tur_perm (L : List Ed) : ∀ k : Nat, (tur L k).Perm ((L.filter fun e => decide (0 ≤ e.2.1) && decide (e.2.1 < (k : Int))).map trn)
  | 0 => by
    have : (L.filter fun e => decide (0 ≤ e.2.1) && decide (e.2.1 < ((0 : Nat) : Int))) = [] := by
      rw [List.filter_eq_nil_iff]; intro e _; simp
    rw [this]; exact List.Perm.refl _
  | k + 1 => by
    have ih := tur_perm L k
    have key : ∀ M : List Ed, (M.filter fun e => decide (0 ≤ e.2.1) && decide (e.2.1 < ((k + 1 : Nat) : Int))).Perm ((M.filter fun e => decide (0 ≤ e.2.1) && decide (e.2.1 < (k : Int))) ++ toV M k) := by
      intro M
      induction M with
      | nil => exact List.Perm.refl _
      | cons e M ihm =>
        by_cases h1 : e.2.1 = (k : Int)
        · have a1 : (decide (0 ≤ e.2.1) && decide (e.2.1 < ((k + 1 : Nat) : Int))) = true := by simp; omega
          have a2 : (decide (0 ≤ e.2.1) && decide (e.2.1 < (k : Int))) = false := by simp; omega
          have a3 : toV (e :: M) k = e :: toV M k := by unfold toV; rw [List.filter_cons, if_pos (by simp [h1])]
          rw [List.filter_cons, if_pos a1, List.filter_cons, if_neg (by rw [a2]; simp), a3]
          exact (List.Perm.cons e ihm).trans List.perm_middle.symm
        · have a3 : toV (e :: M) k = toV M k := by unfold toV; rw [List.filter_cons, if_neg (by simp [h1])]
          by_cases h2 : 0 ≤ e.2.1 ∧ e.2.1 < (k : Int)
          · have a1 : (decide (0 ≤ e.2.1) && decide (e.2.1 < ((k + 1 : Nat) : Int))) = true := by simp; omega
            have a2 : (decide (0 ≤ e.2.1) && decide (e.2.1 < (k : Int))) = true := by simp; omega
            rw [List.filter_cons, if_pos a1, List.filter_cons, if_pos a2, a3]
            exact List.Perm.cons e ihm
          · have a1 : ¬ (decide (0 ≤ e.2.1) && decide (e.2.1 < ((k + 1 : Nat) : Int))) = true := by simp; omega
            have a2 : ¬ (decide (0 ≤ e.2.1) && decide (e.2.1 < (k : Int))) = true := by simp; omega
            rw [List.filter_cons, if_neg a1, List.filter_cons, if_neg a2, a3]
            exact ihm
    have k2 := (key L).map trn
    rw [List.map_append] at k2
    exact (ih.append_right _).trans k2.symm
theorem tur_all {L : List Ed} {V : Int} (h : ∀ e ∈ L, fitE V e = true) (k : Nat) (hk : (k : Int) = V) : (tur L k).Perm (L.map trn) := by
  have e : (L.filter fun e => decide (0 ≤ e.2.1) && decide (e.2.1 < (k : Int))) = L := by
    rw [List.filter_eq_self]
    intro e he
    have := h e he; rw [fitE_iff] at this; simp; omega
  have := tur_perm L k
  rwa [e] at this
theorem tur_from {L : List Ed} : ∀ (k : Nat) (e : Ed), e ∈ tur L k → e.1 < (k : Int)
  | 0, e, h => by cases h
  | k + 1, e, h => by
    rcases List.mem_append.1 h with h | h
    · have := tur_from k e h; omega
    · obtain ⟨x, hx, rfl⟩ := List.mem_map.1 h
      unfold toV at hx
      have := (List.mem_filter.1 hx).2
      simp only [decide_eq_true_eq] at this
      simp only [trn]; omega
theorem tur_rise {L : List Ed} (hr : Rise L) : ∀ k : Nat, Rise (tur L k)
  | 0 => List.Pairwise.nil
  | k + 1 => by
    refine List.pairwise_append.2 ⟨tur_rise hr k, ?_, fun a ha b hb => ?_⟩
    · rw [List.pairwise_map]
      refine List.Pairwise.imp_of_mem ?_ (List.Pairwise.filter _ hr)
      intro a b ha hb h
      have h1 := (List.mem_filter.1 ha).2
      have h2 := (List.mem_filter.1 hb).2
      simp only [decide_eq_true_eq] at h1 h2
      rw [ahd_iff] at h ⊢
      simp only [trn]; omega
    · have h1 := tur_from k a ha
      obtain ⟨x, hx, rfl⟩ := List.mem_map.1 hb
      have h2 := (List.mem_filter.1 hx).2
      simp only [decide_eq_true_eq] at h2
      rw [ahd_iff]; simp only [trn]; omega
theorem map_apart {L : List Ed} (h : Apart L) : Apart (L.map trn) := by
  unfold Apart
  rw [List.pairwise_map]
  exact h.imp fun {a b} g => by rw [same_not] at g ⊢; simp only [trn]; omega
theorem map_fit {V : Int} {L : List Ed} (h : ∀ e ∈ L, fitE V e = true) : ∀ e ∈ L.map trn, fitE V e = true := by
  intro e he
  obtain ⟨x, hx, rfl⟩ := List.mem_map.1 he
  exact fit_trn (h x hx)
/- The turned graph, and that it may be; turned twice it is what it was. -/
noncomputable def turnP (V : Int) (L : List Ed) : List Ed := tur L V.toNat
theorem turnP_perm {V : Int} {L : List Ed} (hc : chk V L = 0) : (turnP V L).Perm (L.map trn) := by
  obtain ⟨h1, _, _, h4, _⟩ := (chk_zero V L).1 hc
  exact tur_all h4 _ (by omega)
theorem turnP_rise {V : Int} {L : List Ed} (hc : chk V L = 0) : Rise (turnP V L) := tur_rise ((chk_zero V L).1 hc).2.2.2.2 _
theorem turnP_one {V : Int} {L M : List Ed} (hc : chk V L = 0) (hp : M.Perm (L.map trn)) (hr : Rise M) : M = turnP V L := rise_one _ _ hr (turnP_rise hc) (hp.trans (turnP_perm hc).symm)
theorem turnP_chk {V : Int} {L : List Ed} (hc : chk V L = 0) : chk V (turnP V L) = 0 := by
  obtain ⟨h1, h2, h3, h4, h5⟩ := (chk_zero V L).1 hc
  refine (chk_zero V _).2 ⟨h1, h2, ?_, fun e he => map_fit h4 e ((turnP_perm hc).mem_iff.1 he), turnP_rise hc⟩
  rw [(turnP_perm hc).length_eq, List.length_map]; exact h3
theorem turnP_twice {V : Int} {L : List Ed} (hc : chk V L = 0) : turnP V (turnP V L) = L := by
  obtain ⟨h1, h2, h3, h4, h5⟩ := (chk_zero V L).1 hc
  refine (turnP_one (turnP_chk hc) ?_ h5).symm
  have := (turnP_perm hc).map trn
  rw [List.map_map] at this
  have e : L.map (trn ∘ trn) = L := by
    have : (trn ∘ trn) = id := by funext e; rfl
    rw [this, List.map_id]
  rw [e] at this
  exact this.symm

end Go.Proofs.YtmcmpjcijbeilaaGreatDoor.Gr

/-
  What is proved here: the contract of graph.Turn. Conditions: the edges can be read.
-/
namespace Go.Proofs.YtmcmpjcijbeilaaGreatDoor.Gr
open Go.RowKit Wd Ws

def TnRel (w w4 : World) (L : List Ed) (gk : Nat) (v5 v21 : Value) (wr : World) : Prop :=
  ∃ (k : Nat) (A : Option Addr) (n c : Nat), v21 = .int .i64 (k : Int) ∧ v5 = .slice A n c ∧ k + gk = L.length ∧ Hid (EOwn wr (w.heap.size + 2) (.slice A n c) ((L.take k).map trn)) ∧ Hid (Below (w.heap.size + 2) w4 wr)
/- What Turn answers. -/
def TurnRes (w w' : World) (V : Int) (L : List Ed) (e : Ending) : Prop :=
  (chk V L ≠ 0 → e = .returned (.tuple #[.agg #[.int .i64 0, .slice none 0 0], .int .i64 (chk V L)])) ∧
  (chk V L = 0 → ∃ v, e = .returned (.tuple #[.agg #[.int .i64 V, v], .int .i64 0]) ∧ Hid (EOwn w' w.heap.size v (turnP V L)))

set_option maxRecDepth 100000 in
set_option maxHeartbeats 2000000 in
theorem turn_any (V : Int) (A : Option Addr) (c : Nat) (L : List Ed) (w : World) (hL : Hid (EAt w A L)) (hm : L.length ≤ 9223372036854775807) :
    Calls Tryz.prog 13 #[.agg #[.int .i64 V, .slice A L.length c]] w fun e w' => TurnRes w w' V L e ∧ Hid (Below w.heap.size w w') := by
  have mixed := mixedO
  obtain ⟨w1, hw1⟩ : ∃ w1, w1 = w.alloc (.cells #[.int .i64 V, .slice A L.length c] 24) := ⟨_, rfl⟩
  obtain ⟨w2, hw2⟩ : ∃ w2, w2 = w1.alloc (.cells #[.int .i64 0, .slice none 0 0] 24) := ⟨_, rfl⟩
  have s1 : w1.heap.size = w.heap.size + 1 := by rw [hw1]; simp
  have s2 : w2.heap.size = w.heap.size + 2 := by rw [hw2]; simp; omega
  have b1 : Below w.heap.size w w1 := by rw [hw1]; exact (Below.refl _ w).alloc (Nat.le_refl _) _
  have b2 : Below w1.heap.size w1 w2 := by rw [hw2]; exact (Below.refl _ w1).alloc (Nat.le_refl _) _
  have b12 := b1.trans (b2.mono (by omega))
  have e1 : w1.heap[w.heap.size]? = some (.cells #[.int .i64 V, .slice A L.length c] 24 (0, 0)) := by rw [hw1]; exact heap_alloc_new w _
  have e2 : w2.heap[w.heap.size + 1]? = some (.cells #[.int .i64 0, .slice none 0 0] 24 (0, 0)) := by rw [hw2, ← s1]; exact heap_alloc_new w1 _
  have HX2 := Lib.hid ((b2.block _ (by omega)).trans e1)
  have HR2 := Lib.hid e2
  have HB2 := Lib.hid b12
  have HA2 := Lib.hid (hL.out.below b12)
  have HW : Hid (w2 = (w.alloc (.cells #[.int .i64 V, .slice A L.length c] 24)).alloc (.cells #[.int .i64 0, .slice none 0 0] 24)) := Lib.hid (by rw [hw2, hw1])
  clear hw1 hw2 b1 b2 b12 e1 e2 s1
  obtain ⟨E, hE⟩ : ∃ E, chk V L = E := ⟨_, rfl⟩
  have HC := check_any V A c L w2 HA2.out hm
  rw [hE] at HC
  have HCK := Lib.hid HC; have HE := Lib.hid hE; clear HC hE
  go_enter Tryz.func13, Tryz.ntmps13
  go_wp2_with fail
  rw [← HW.out]
  refine HCK.out.mono ?_
  rintro e w3 ⟨rfl, hb3⟩
  have hs3 := hb3.size
  have HB3 := Lib.hid (HB2.out.trans (hb3.mono HB2.out.size))
  have HX3 := Lib.hid ((hb3.block _ (by omega)).trans HX2.out)
  have HR3 := Lib.hid ((hb3.block _ (by omega)).trans HR2.out)
  have HA3 := Lib.hid (HA2.out.below hb3)
  clear hb3
  obtain ⟨x0, x1, hxs⟩ := Bx.cells HX3.out
  obtain ⟨r0, r1, hrs⟩ := Bx.cells HR3.out
  have rf := Gx.cells HR3.out
  by_cases hE0 : E = 0
  · subst hE0
    obtain ⟨v1, v2, v3, v4, v5⟩ := (chk_zero V L).1 HE.out
    have HFT := Lib.hid v4; have HRI := Lib.hid v5; clear v4 v5
    obtain ⟨i0, hi, hz0, hz1, hz2⟩ := info_parts infoE
    obtain ⟨w4, hmk, hown4, hg4⟩ := run_make_own (P := Tryz.prog) (w := w3) (w.heap.size + 2) 22 42 i0 _ 3 Tryz.underlying22 hi hz0 hz1 .i64 .i64 L.length (by rw [hz2]; omega) (by unfold maxLen; omega) (by omega)
    have HO4 : Hid (EOwn w4 (w.heap.size + 2) (.slice (some ⟨w3.heap.size, 0, none⟩) 0 L.length) []) := Lib.hid hown4
    have hb4 : Below w3.heap.size w3 w4 := ⟨hg4.os, hg4.tape, hg4.output, hg4.size, fun i hi => hg4.block i hi nofun⟩
    have hs4 := hb4.size
    have HB4 := Lib.hid (HB3.out.trans (hb4.mono (by omega)))
    have HX4 := Lib.hid ((hb4.block _ (by omega)).trans HX3.out)
    have HR4 := Lib.hid ((hb4.block _ (by omega)).trans HR3.out)
    have HA4 := Lib.hid (HA3.out.below hb4)
    have HMK := Lib.hid hmk
    clear hown4 hg4 hb4 hi hz0 hz1 hz2 hmk x0 x1 r0 r1 rf
    obtain ⟨x0, x1, hxs3⟩ := Bx.cells HX3.out
    obtain ⟨r0, r1, hrs3⟩ := Bx.cells HR3.out
    obtain ⟨x2, x3, hxs4⟩ := Bx.cells HX4.out
    have hmk := HMK.out
    go_wp2_with fail
    go_loopg [5, 21] L.length (fun gk v5 v21 wr => TnRel w w4 L gk v5 v21 wr)
    case atStart => exact ⟨0, _, _, _, rfl, rfl, by omega, HO4, Lib.hid (Below.refl _ _)⟩
    case round =>
      clear x0 x1 x2 x3 r0 r1 hmk
      obtain ⟨k, A5, n5, c5, rfl, rfl, hk, HO, HBr⟩ := hrel
      have HBw := Lib.hid (HB4.out.trans (HBr.out.mono (by omega : w.heap.size ≤ w.heap.size + 2)))
      have hsr := HBr.out.size
      by_cases hlt : k < L.length
      · obtain ⟨⟨y0, y1, y2⟩, hy⟩ := at_lt L k hlt
        obtain ⟨g, o, rfl, c0, c1, c2⟩ := eat_edge (hL.out.below HBw.out) hy
        have HY := Lib.hid hy; clear hy
        go_wp2_with fail
        refine (turned_any y0 y1 y2 _).mono ?_
        rintro e w5 ⟨rfl, hg5⟩
        have hb5 : Below wr.heap.size wr w5 := (((Below.refl _ wr).alloc (Nat.le_refl _) (.cells #[.int .i64 y0, .int .i64 y1, .int .i64 y2] 42)).trans (hg5.below.mono (by simp)))
        have HN6 := Lib.hid (heap_alloc_new w5 (.cells #[.int .i64 y1, .int .i64 y0, .int .i64 y2] 42))
        have HO6 := Lib.hid ((HO.out.below hb5).alloc (.cells #[.int .i64 y1, .int .i64 y0, .int .i64 y2] 42))
        have hb6 := hb5.trans (((Below.refl _ w5).alloc (Nat.le_refl _) (.cells #[.int .i64 y1, .int .i64 y0, .int .i64 y2] 42)).mono hb5.size)
        have HB6 := Lib.hid (HBr.out.trans (hb6.mono (by omega : w.heap.size + 2 ≤ wr.heap.size)))
        have hs6 := hb6.size
        clear hg5 hb5 hb6 c0 c1 c2
        go_wp2_with (at_builtin; refine app_e rfl (.tmp 25) (.tmp 28) rfl (w.heap.size + 2) _ _ y1 y0 y2 rfl HO6.out _ rfl HN6.out ?tc1 ?tc2 ?_)
        case tc1 => rw [List.length_map, List.length_take]; omega
        case tc2 => omega
        intro v' w7 ho7 hg7
        have HB7 := Lib.hid (Below.grown HB6.out hg7 (by omega) fun j e => (own_lt HO6.out j e).1)
        have HO7 : Hid (EOwn w7 (w.heap.size + 2) v' ((L.take (k + 1)).map trn)) := Lib.hid (by rw [take_at HY.out, List.map_append, List.map_take]; exact ho7)
        obtain ⟨A7, n7, c7, hv7⟩ : ∃ A n c, v' = .slice A n c := by obtain ⟨A, c, h, _⟩ := ho7.form; exact ⟨_, _, _, h⟩
        subst hv7
        clear ho7 hg7
        go_wp2
        go_roundg (gk - 1)
        case measure => omega
        case rel => exact ⟨k + 1, _, _, _, by go_num, rfl, by omega, HO7, HB7⟩
      · have HOE : Hid (EOwn wr (w.heap.size + 2) (.slice A5 n5 c5) (L.map trn)) := Lib.hid (by have := HO.out; rwa [show k = L.length by omega, List.take_length] at this)
        have hX := (HBr.out.block w.heap.size (by omega)).trans HX4.out
        have hR := (HBr.out.block (w.heap.size + 1) (by omega)).trans HR4.out
        have HXr := Lib.hid hX; have HRr := Lib.hid hR
        clear hX hR
        go_wp2_with fail
        refine (order_max.out (w.heap.size + 2) _ (L.map trn) wr HOE (by rw [List.length_map]; omega) (by omega)).mono ?_
        rintro e w8 ⟨rfl, L', hp, hpw, HE8, HG8⟩
        have hLt : L' = turnP V L := turnP_one HE.out hp (rise_of (apart_perm (map_apart (rise_apart HRI.out)) hp.symm) hpw)
        have HLT := Lib.hid hLt
        have hown : ∀ j, (Value.slice A5 n5 c5).ownBlock = some j → w.heap.size + 2 ≤ j := fun j e => (own_lt HOE.out j e).1
        have HX8 := Lib.hid ((HG8.out.block w.heap.size (by omega) (fun e => by have := hown _ e.symm; omega)).trans HXr.out)
        have HR8 := Lib.hid ((HG8.out.block (w.heap.size + 1) (by omega) (fun e => by have := hown _ e.symm; omega)).trans HRr.out)
        have HB8 := Lib.hid (Below.grown HBw.out HG8.out (by omega) fun j e => by have := hown j e; omega)
        clear hp hpw hLt hown
        obtain ⟨x0, x1, hxs8⟩ := Bx.cells HX8.out
        obtain ⟨r0, r1, hrs8⟩ := Bx.cells HR8.out
        have rf := Gx.cells HR8.out
        go_wp2
        obtain ⟨q0, q1⟩ := gx_put HR8.out (.int .i64 V) (.slice A5 n5 c5)
        refine bodyPost_ret (v := .tuple #[.agg #[.int .i64 V, .slice A5 n5 c5], .int .i64 0]) (by simp [results, Tryz.results13, go_sem, q0, q1]) rfl ⟨⟨fun h => absurd HE.out h, fun _ => ⟨_, rfl, Lib.hid ?_⟩⟩, Lib.hid ?_⟩
        · rw [← HLT.out]
          exact own_mono (ownsRow_setCell_below (ownsRow_setCell_below HE8.out (a := ⟨w.heap.size + 1, 0, none⟩) (by show w.heap.size + 1 < _; omega) _) (a := ⟨w.heap.size + 1, 1, none⟩) (by show w.heap.size + 1 < _; omega) _) (by omega)
        · exact (HB8.out.setCell (p := ⟨w.heap.size + 1, 0, none⟩) (by show w.heap.size ≤ w.heap.size + 1; omega) _).setCell (p := ⟨w.heap.size + 1, 1, none⟩) (by show w.heap.size ≤ w.heap.size + 1; omega) _
  · obtain ⟨q0, q1⟩ := gx_put HR3.out (.int .i64 0) (.slice none 0 0)
    go_wp2
    refine bodyPost_ret (v := .tuple #[.agg #[.int .i64 0, .slice none 0 0], .int .i64 E]) (by simp [results, Tryz.results13, go_sem, q0, q1]) rfl ⟨⟨fun _ => by rw [HE.out], fun h => absurd (HE.out.symm.trans h) hE0⟩, Lib.hid ?_⟩
    exact (HB3.out.setCell (p := ⟨w.heap.size + 1, 0, none⟩) (by show w.heap.size ≤ w.heap.size + 1; omega) _).setCell (p := ⟨w.heap.size + 1, 1, none⟩) (by show w.heap.size ≤ w.heap.size + 1; omega) _

end Go.Proofs.YtmcmpjcijbeilaaGreatDoor.Gr
