/-
  What is proved here: contracts of states.marksOf and states.told; words for a part in its box, and what keeps it. No condition. What is proved here: a contract of states.Right: which parts are right. Conditions: lengths fit an int.
-/
import Derived.Test.YtfbfckdabbaocaaQbStW1
namespace Go.Proofs.Ytfbfckdabbaocaa.St
open Go.RowKit Gr Wd Ws Fx Rk Lb Al In
open Sq (BAt BOwn QOwn bls)
theorem marks_any (c h : Bool) (w : World) : Calls Try.prog 30 #[.bool c, .bool h] w fun e w' => e = .returned (.int .u8 ((flg c h : Nat) : Int)) ∧ w = w' := by
  cases c <;> cases h <;>
  · go_enter Try.func30, Try.ntmps30
    go_wp2
    go_ret
    exact ⟨rfl, rfl⟩
set_option maxRecDepth 100000 in
theorem res_m (fn : Func) (c : Nat) (tmps : Array Value) (w : World) (b : Nat) (a0 a1 : Value) (hr : fn.results = #[.cell c 61]) (ht : tmps.getD c undef = .pointer (some ⟨b, 0, none⟩))
    (f : w.heap[b]? = some (.cells #[a0, a1] 61 (0, 0))) : (results fn tmps).run Try.prog w = .ok (.agg #[a0, a1]) w := by
  have ht' : tmps[c]?.getD undef = .pointer (some ⟨b, 0, none⟩) := by simpa using ht
  have f0 : w.cell? ⟨b, 0, none⟩ = some a0 := by rw [Lib.cell_of_heap f]; rfl
  have f1 : w.cell? ⟨b, 1, none⟩ = some a1 := by rw [Lib.cell_of_heap f]; rfl
  simp [results, hr, ht', go_sem, f0, f1]
theorem told_any (h : Bool) (x : Int) (w : World) : Calls Try.prog 69 #[.agg #[.bool h, .int .i64 x]] w fun e w' => e = .returned (.agg #[.bool (nrmL (h, x)).1, .int .i64 (nrmL (h, x)).2]) ∧ Hid (Below w.heap.size w w') := by
  have hal := al2 w (.cells #[.bool h, .int .i64 x] 61) (.cells #[.bool false, .int .i64 0] 61)
  obtain ⟨W1, hW1⟩ : ∃ W1, W1 = (w.alloc (.cells #[.bool h, .int .i64 x] 61)).alloc (.cells #[.bool false, .int .i64 0] 61) := ⟨_, rfl⟩
  rw [← hW1] at hal
  obtain ⟨b0, e0⟩ : ∃ b0, b0 = w.heap.size := ⟨_, rfl⟩
  obtain ⟨b1, e1⟩ : ∃ b1, b1 = w.heap.size + 1 := ⟨_, rfl⟩
  obtain ⟨y0, y1, hb⟩ := hal
  rw [← e0] at y0; rw [← e1] at y1
  obtain ⟨m0, m1, _⟩ := ml_cells y0
  have HB := Lib.hid hb
  have HY := Lib.hid y1
  have hf : W1.frozen? ⟨b1, 0, none⟩ = false ∧ W1.frozen? ⟨b1, 1, none⟩ = false := ⟨Lib.frozen_of_heap y1 _, Lib.frozen_of_heap y1 _⟩
  obtain ⟨hf0, hf1⟩ := hf
  obtain ⟨n0, n1, _⟩ := ml_cells y1
  have HS : ∀ u0 u1, Hid (((W1.setCell ⟨b1, 0, none⟩ u0).setCell ⟨b1, 1, none⟩ u1).heap[b1]? = some (.cells #[u0, u1] 61 (0, 0)) ∧ Below w.heap.size w ((W1.setCell ⟨b1, 0, none⟩ u0).setCell ⟨b1, 1, none⟩ u1)) := fun u0 u1 => Lib.hid ⟨by
    have h1 := heap_setCell_same W1 b1 0 _ _ u0 y1
    exact heap_setCell_same _ b1 1 _ _ u1 h1, (HB.out.setCell (p := ⟨b1, 0, none⟩) (by show w.heap.size ≤ b1; omega) u0).setCell (p := ⟨b1, 1, none⟩) (by show w.heap.size ≤ b1; omega) u1⟩
  clear hb y0 y1
  cases h with
  | true =>
    go_enter Try.func69, Try.ntmps69
    go_upto_region 1 with fail
    rw [← hW1, show w.heap.size + 1 = b1 from e1.symm, show w.heap.size = b0 from e0.symm]
    clear hW1 e0 e1
    go_wp2
    refine bodyPost_ret (v := .agg #[.bool true, .int .i64 x]) (res_m _ 2 _ _ b1 _ _ rfl rfl (HS _ _).out.1) rfl ⟨rfl, Lib.hid (HS _ _).out.2⟩
  | false =>
    go_enter Try.func69, Try.ntmps69
    go_upto_region 1 with fail
    rw [← hW1, show w.heap.size + 1 = b1 from e1.symm, show w.heap.size = b0 from e0.symm]
    clear hW1 e0 e1
    go_wp2
    refine bodyPost_ret (v := .agg #[.bool false, .int .i64 0]) (res_m _ 2 _ _ b1 _ _ rfl rfl (HS _ _).out.1) rfl ⟨rfl, Lib.hid (HS _ _).out.2⟩
def PBx (T : TypeId) (w : World) (b B : Nat) (p : Pr) : Prop := ∃ vo vv vc vi, w.heap[b]? = some (.cells #[.int .i64 p.st, vo, vv, vc, vi] T (0, 0)) ∧ IOwn w B vo p.own ∧ QOwn w B vv p.vals ∧ BOwn w B vc p.chg ∧ KOwn w B vi p.inb
theorem PBx.below {T : TypeId} {w w' : World} {b B : Nat} {p : Pr} (h : PBx T w b B p) (hb : Below w.heap.size w w') : PBx T w' b B p := by
  obtain ⟨vo, vv, vc, vi, h0, h1, h2, h3, h4⟩ := h
  exact ⟨vo, vv, vc, vi, keep h0 hb, h1.below hb, h2.below hb, h3.below hb, h4.below hb⟩
theorem own_past {w w' : World} {B r : Nat} {e : TypeId} {s : Nat} {v : Value} {n : Nat} {xs : List Value} (h : w.ownsRow B e s v n xs) (hg : w.grownBy w' (some r)) (hr : r < B) : w'.ownsRow B e s v n xs :=
  own_kept h fun g _ _ he hc => hg.block g (lt_of_block hc) fun e2 => by
    injection e2 with e2
    have := (own_lt h g he).1
    omega
theorem PBx.past {T : TypeId} {w w' : World} {b B r : Nat} {p : Pr} (h : PBx T w b B p) (hg : w.grownBy w' (some r)) (hb : r ≠ b) (hr : r < B) : PBx T w' b B p := by
  obtain ⟨vo, vv, vc, vi, h0, h1, h2, h3, h4⟩ := h
  exact ⟨vo, vv, vc, vi, (hg.block b (lt_of_block h0) fun e => by injection e with e; exact hb e.symm).trans h0, own_past h1 hg hr, own_past h2 hg hr, own_past h3 hg hr, own_past h4 hg hr⟩
def addE (p : Pr) (e : En) : Pr := ⟨p.st, p.own ++ [e.v], p.vals ++ [e.x], p.chg ++ [e.c], p.inb ++ [nrmL e.m]⟩
theorem addE_of (st : Int) (l : List En) (e : En) : addE (ofE st l) e = ofE st (l ++ [nrmE e]) := by
  unfold addE ofE nrmE; simp
end Go.Proofs.Ytfbfckdabbaocaa.St
namespace Go.Proofs.Ytfbfckdabbaocaa.St
open Go.RowKit Gr Wd Ws Fx Rk Lb Al In
open Sq (BAt BOwn QOwn bls)
set_option maxRecDepth 100000 in
set_option maxHeartbeats 2000000 in
theorem right_any (p : Pr) (Ao Av Ac Ai : Option Addr) (no nv nc ni co cv cc ci : Nat) (w : World) (h : PAt w Ao Av Ac Ai no nv nc ni p) (h1 : no ≤ 9223372036854775807) (h2 : nv ≤ 9223372036854775807) (h3 : nc ≤ 9223372036854775807) (_h4 : ni ≤ 9223372036854775807) :
    Calls Try.prog 14 #[.agg #[.int .i64 p.st, .slice Ao no co, .slice Av nv cv, .slice Ac nc cc, .slice Ai ni ci]] w fun e w' => e = .returned (.bool (decide (Rgt p))) ∧ Hid (Below w.heap.size w w') := by
  obtain ⟨r, hr⟩ : ∃ r, decide (Rgt p) = r := ⟨_, rfl⟩
  have hi := rgt_iff p
  rw [hr]
  obtain ⟨st, hst⟩ : ∃ st, p.st = st := ⟨_, rfl⟩
  obtain ⟨t, ht⟩ : ∃ t, asc p.own 0 = t := ⟨_, rfl⟩
  obtain ⟨u, hu⟩ : ∃ u, p.vals.any outB = u := ⟨_, rfl⟩
  obtain ⟨z, hz⟩ : ∃ z, p.inb.any badM = z := ⟨_, rfl⟩
  have hA0 := h.no; have hV0 := h.nv; have hC0 := h.nc; have hI0 := h.ni
  have hno : ∀ q : Prop, (Rgt p → q) → ¬ q → r = false := fun _ a b => by rw [← hr]; exact decide_eq_false fun c => b (a c)
  rw [hst, ht, hu, hz] at hi
  obtain ⟨W1, hW1⟩ : ∃ W1, W1 = w.alloc (.cells #[.int .i64 st, .slice Ao no co, .slice Av nv cv, .slice Ac nc cc, .slice Ai ni ci] 27) := ⟨_, rfl⟩
  have hbox : W1.heap[w.heap.size]? = some (.cells #[.int .i64 st, .slice Ao no co, .slice Av nv cv, .slice Ac nc cc, .slice Ai ni ci] 27 (0, 0)) := by rw [hW1]; exact heap_alloc_new w _
  have hb1 : Below w.heap.size w W1 := by rw [hW1]; exact (Below.refl _ w).alloc (Nat.le_refl _) _
  have hp1 := h.below hb1
  have HB1 := Lib.hid hb1
  have HV := Lib.hid (areV_any Ao no co p.own W1 hp1.o hp1.no h1)
  have HBX := Lib.hid hbox
  have HP := Lib.hid hp1
  obtain ⟨c0, c1, c2, c3, c4, _⟩ := five hbox
  rw [ht] at HV
  rw [hst]
  have HI := Lib.hid hi
  have HR := Lib.hid hr
  have HU := Lib.hid hu
  have HZ := Lib.hid hz
  have HL : Hid (LenP p ↔ nv = no ∧ nc = no ∧ ni = no) := Lib.hid (by unfold LenP; rw [hA0, hV0, hC0, hI0])
  have HNO := Lib.hid hno
  clear hb1 hp1 hbox h hi hr hu hz ht hst hA0 hV0 hC0 hI0 hno
  by_cases g0 : 0 ≤ st
  · by_cases g1 : st ≤ 2000
    · cases t with
      | false =>
        have e3 : r = false := HNO.out _ HI.out.1 fun a => by cases a.2.2.1
        subst e3
        go_enter Try.func14, Try.ntmps14
        go_upto_region 1 with fail
        rw [← hW1]
        clear hW1
        go_wp2_with fail
        refine HV.out.mono ?_
        rintro e w' ⟨rfl, rfl⟩
        go_wp2_with fail
        go_ret
        exact ⟨rfl, HB1⟩
      | true =>
        by_cases k1 : nv = no
        · by_cases k2 : nc = no
          · by_cases k3 : ni = no
            · subst k1 k2 k3
              have HQ := Lib.hid (containsO_any Av ni cv p.vals W1 HP.out.v HP.out.nv h1)
              rw [HU.out] at HQ
              cases u with
              | true =>
                have e3 : r = false := HNO.out _ HI.out.1 fun a => by cases a.2.2.2.2.1
                subst e3
                go_enter Try.func14, Try.ntmps14
                go_upto_region 1 with fail
                rw [← hW1]
                clear hW1
                go_wp2_with fail
                refine HV.out.mono ?_
                rintro e w' ⟨rfl, rfl⟩
                go_wp2_with fail
                refine HQ.out.mono ?_
                rintro e w' ⟨rfl, hb2⟩
                have HB2 := Lib.hid (step_below HB1.out HB1.out.size hb2.out)
                clear hb2
                go_wp2_with fail
                go_ret
                exact ⟨rfl, HB2⟩
              | false =>
                have HX := Lib.hid (fun (W : World) (hb : Below W1.heap.size W1 W) => containsD_any Ai ni ci p.inb W (HP.out.below hb).i HP.out.ni h1)
                rw [HZ.out] at HX
                have e3 : r = !z := by
                  rw [← HR.out]
                  cases z with
                  | true => exact decide_eq_false fun a => by have := (HI.out.1 a).2.2.2.2.2; cases this
                  | false => exact decide_eq_true (HI.out.2 ⟨g0, g1, rfl, HL.out.2 ⟨rfl, rfl, rfl⟩, rfl, rfl⟩)
                subst e3
                go_enter Try.func14, Try.ntmps14
                go_upto_region 1 with fail
                rw [← hW1]
                clear hW1
                go_wp2_with fail
                refine HV.out.mono ?_
                rintro e w' ⟨rfl, rfl⟩
                go_wp2_with fail
                refine HQ.out.mono ?_
                rintro e w2 ⟨rfl, hb2⟩
                have HB2 := Lib.hid (step_below HB1.out HB1.out.size hb2.out)
                have HX2 := Lib.hid (HX.out w2 hb2.out)
                obtain ⟨d0, d1, d2, d3, d4, _⟩ := five (keep HBX.out hb2.out)
                clear hb2 c0 c1 c2 c3 c4
                go_wp2_with fail
                refine HX2.out.mono ?_
                rintro e w3 ⟨rfl, hb3⟩
                have HB3 := Lib.hid (step_below HB2.out HB2.out.size hb3.out)
                clear hb3
                go_wp2_with fail
                go_ret
                exact ⟨rfl, HB3⟩
            · have e3 : r = false := HNO.out _ HI.out.1 fun a => k3 (HL.out.1 a.2.2.2.1).2.2
              subst e3
              subst k1 k2
              have q3 : ((ni : Int) != (nc : Int)) = true := by simp only [bne_iff_ne, ne_eq]; omega
              go_enter Try.func14, Try.ntmps14
              go_upto_region 1 with fail
              rw [← hW1]
              clear hW1
              go_wp2_with fail
              refine HV.out.mono ?_
              rintro e w' ⟨rfl, rfl⟩
              go_wp2_with fail
              go_ret
              exact ⟨rfl, HB1⟩
          · have e3 : r = false := HNO.out _ HI.out.1 fun a => k2 (HL.out.1 a.2.2.2.1).2.1
            subst e3
            subst k1
            have q3 : ((nc : Int) != (nv : Int)) = true := by simp only [bne_iff_ne, ne_eq]; omega
            go_enter Try.func14, Try.ntmps14
            go_upto_region 1 with fail
            rw [← hW1]
            clear hW1
            go_wp2_with fail
            refine HV.out.mono ?_
            rintro e w' ⟨rfl, rfl⟩
            go_wp2_with fail
            go_ret
            exact ⟨rfl, HB1⟩
        · have e3 : r = false := HNO.out _ HI.out.1 fun a => k1 (HL.out.1 a.2.2.2.1).1
          subst e3
          have q3 : ((nv : Int) != (no : Int)) = true := by simp only [bne_iff_ne, ne_eq]; omega
          go_enter Try.func14, Try.ntmps14
          go_upto_region 1 with fail
          rw [← hW1]
          clear hW1
          go_wp2_with fail
          refine HV.out.mono ?_
          rintro e w' ⟨rfl, rfl⟩
          go_wp2_with fail
          go_ret
          exact ⟨rfl, HB1⟩
    · have e3 : r = false := HNO.out _ HI.out.1 fun a => g1 a.2.1
      subst e3
      go_enter Try.func14, Try.ntmps14
      go_upto_region 1 with fail
      rw [← hW1]
      clear hW1
      go_wp2_with fail
      go_ret
      exact ⟨rfl, HB1⟩
  · have e3 : r = false := HNO.out _ HI.out.1 fun a => g0 a.1
    subst e3
    go_enter Try.func14, Try.ntmps14
    go_upto_region 1 with fail
    rw [← hW1]
    clear hW1
    go_wp2_with fail
    go_ret
    exact ⟨rfl, HB1⟩
end Go.Proofs.Ytfbfckdabbaocaa.St
