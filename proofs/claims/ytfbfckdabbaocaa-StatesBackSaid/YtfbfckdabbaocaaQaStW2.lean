/-
  What is proved here: a contract of states.Right: which parts are right. Conditions: lengths fit an int.
-/
import Derived.Test.YtfbfckdabbaocaaQaStW1
namespace Go.Proofs.Ytfbfckdabbaocaa.St
open Go.RowKit Gr Wd Ws Fx Rk Lb Al In
open Sq (BAt BOwn QOwn bls)
set_option maxRecDepth 100000 in
set_option maxHeartbeats 2000000 in
theorem right_any (p : Pr) (Ao Av Ac Ai : Option Addr) (no nv nc ni co cv cc ci : Nat) (w : World) (h : PAt w Ao Av Ac Ai no nv nc ni p) (h1 : no ≤ 9223372036854775807) (h2 : nv ≤ 9223372036854775807) (h3 : nc ≤ 9223372036854775807) (_h4 : ni ≤ 9223372036854775807) :
    Calls Try.prog 14 #[.agg #[.int .i64 p.st, .slice Ao no co, .slice Av nv cv, .slice Ac nc cc, .slice Ai ni ci]] w fun e w' => e = .returned (.bool (decide (Rgt p))) ∧ Hid (Below w.heap.size w w') := by
  obtain ⟨r, hr⟩ : ∃ r, decide (Rgt p) = r := ⟨_, rfl⟩
  have hi := rgt_iff p
  rw [hr]
  obtain ⟨st, hst⟩ : ∃ st, p.st = st := ⟨_, rfl⟩
  obtain ⟨t, ht⟩ : ∃ t, asc p.own 0 = t := ⟨_, rfl⟩
  obtain ⟨u, hu⟩ : ∃ u, p.vals.any outB = u := ⟨_, rfl⟩
  obtain ⟨z, hz⟩ : ∃ z, p.inb.any badM = z := ⟨_, rfl⟩
  have hA0 := h.no; have hV0 := h.nv; have hC0 := h.nc; have hI0 := h.ni
  have hno : ∀ q : Prop, (Rgt p → q) → ¬ q → r = false := fun _ a b => by rw [← hr]; exact decide_eq_false fun c => b (a c)
  rw [hst, ht, hu, hz] at hi
  obtain ⟨W1, hW1⟩ : ∃ W1, W1 = w.alloc (.cells #[.int .i64 st, .slice Ao no co, .slice Av nv cv, .slice Ac nc cc, .slice Ai ni ci] 27) := ⟨_, rfl⟩
  have hbox : W1.heap[w.heap.size]? = some (.cells #[.int .i64 st, .slice Ao no co, .slice Av nv cv, .slice Ac nc cc, .slice Ai ni ci] 27 (0, 0)) := by rw [hW1]; exact heap_alloc_new w _
  have hb1 : Below w.heap.size w W1 := by rw [hW1]; exact (Below.refl _ w).alloc (Nat.le_refl _) _
  have hp1 := h.below hb1
  have HB1 := Lib.hid hb1
  have HV := Lib.hid (areV_any Ao no co p.own W1 hp1.o hp1.no h1)
  have HBX := Lib.hid hbox
  have HP := Lib.hid hp1
  obtain ⟨c0, c1, c2, c3, c4, _⟩ := five hbox
  rw [ht] at HV
  rw [hst]
  have HI := Lib.hid hi
  have HR := Lib.hid hr
  have HU := Lib.hid hu
  have HZ := Lib.hid hz
  have HL : Hid (LenP p ↔ nv = no ∧ nc = no ∧ ni = no) := Lib.hid (by unfold LenP; rw [hA0, hV0, hC0, hI0])
  have HNO := Lib.hid hno
  clear hb1 hp1 hbox h hi hr hu hz ht hst hA0 hV0 hC0 hI0 hno
  by_cases g0 : 0 ≤ st
  · by_cases g1 : st ≤ 2000
    · cases t with
      | false =>
        have e3 : r = false := HNO.out _ HI.out.1 fun a => by cases a.2.2.1
        subst e3
        go_enter Try.func14, Try.ntmps14
        go_upto_region 1 with fail
        rw [← hW1]
        clear hW1
        go_wp2_with fail
        refine HV.out.mono ?_
        rintro e w' ⟨rfl, rfl⟩
        go_wp2_with fail
        go_ret
        exact ⟨rfl, HB1⟩
      | true =>
        by_cases k1 : nv = no
        · by_cases k2 : nc = no
          · by_cases k3 : ni = no
            · subst k1 k2 k3
              have HQ := Lib.hid (containsO_any Av ni cv p.vals W1 HP.out.v HP.out.nv h1)
              rw [HU.out] at HQ
              cases u with
              | true =>
                have e3 : r = false := HNO.out _ HI.out.1 fun a => by cases a.2.2.2.2.1
                subst e3
                go_enter Try.func14, Try.ntmps14
                go_upto_region 1 with fail
                rw [← hW1]
                clear hW1
                go_wp2_with fail
                refine HV.out.mono ?_
                rintro e w' ⟨rfl, rfl⟩
                go_wp2_with fail
                refine HQ.out.mono ?_
                rintro e w' ⟨rfl, hb2⟩
                have HB2 := Lib.hid (step_below HB1.out HB1.out.size hb2.out)
                clear hb2
                go_wp2_with fail
                go_ret
                exact ⟨rfl, HB2⟩
              | false =>
                have HX := Lib.hid (fun (W : World) (hb : Below W1.heap.size W1 W) => containsD_any Ai ni ci p.inb W (HP.out.below hb).i HP.out.ni h1)
                rw [HZ.out] at HX
                have e3 : r = !z := by
                  rw [← HR.out]
                  cases z with
                  | true => exact decide_eq_false fun a => by have := (HI.out.1 a).2.2.2.2.2; cases this
                  | false => exact decide_eq_true (HI.out.2 ⟨g0, g1, rfl, HL.out.2 ⟨rfl, rfl, rfl⟩, rfl, rfl⟩)
                subst e3
                go_enter Try.func14, Try.ntmps14
                go_upto_region 1 with fail
                rw [← hW1]
                clear hW1
                go_wp2_with fail
                refine HV.out.mono ?_
                rintro e w' ⟨rfl, rfl⟩
                go_wp2_with fail
                refine HQ.out.mono ?_
                rintro e w2 ⟨rfl, hb2⟩
                have HB2 := Lib.hid (step_below HB1.out HB1.out.size hb2.out)
                have HX2 := Lib.hid (HX.out w2 hb2.out)
                obtain ⟨d0, d1, d2, d3, d4, _⟩ := five (keep HBX.out hb2.out)
                clear hb2 c0 c1 c2 c3 c4
                go_wp2_with fail
                refine HX2.out.mono ?_
                rintro e w3 ⟨rfl, hb3⟩
                have HB3 := Lib.hid (step_below HB2.out HB2.out.size hb3.out)
                clear hb3
                go_wp2_with fail
                go_ret
                exact ⟨rfl, HB3⟩
            · have e3 : r = false := HNO.out _ HI.out.1 fun a => k3 (HL.out.1 a.2.2.2.1).2.2
              subst e3
              subst k1 k2
              have q3 : ((ni : Int) != (nc : Int)) = true := by simp only [bne_iff_ne, ne_eq]; omega
              go_enter Try.func14, Try.ntmps14
              go_upto_region 1 with fail
              rw [← hW1]
              clear hW1
              go_wp2_with fail
              refine HV.out.mono ?_
              rintro e w' ⟨rfl, rfl⟩
              go_wp2_with fail
              go_ret
              exact ⟨rfl, HB1⟩
          · have e3 : r = false := HNO.out _ HI.out.1 fun a => k2 (HL.out.1 a.2.2.2.1).2.1
            subst e3
            subst k1
            have q3 : ((nc : Int) != (nv : Int)) = true := by simp only [bne_iff_ne, ne_eq]; omega
            go_enter Try.func14, Try.ntmps14
            go_upto_region 1 with fail
            rw [← hW1]
            clear hW1
            go_wp2_with fail
            refine HV.out.mono ?_
            rintro e w' ⟨rfl, rfl⟩
            go_wp2_with fail
            go_ret
            exact ⟨rfl, HB1⟩
        · have e3 : r = false := HNO.out _ HI.out.1 fun a => k1 (HL.out.1 a.2.2.2.1).1
          subst e3
          have q3 : ((nv : Int) != (no : Int)) = true := by simp only [bne_iff_ne, ne_eq]; omega
          go_enter Try.func14, Try.ntmps14
          go_upto_region 1 with fail
          rw [← hW1]
          clear hW1
          go_wp2_with fail
          refine HV.out.mono ?_
          rintro e w' ⟨rfl, rfl⟩
          go_wp2_with fail
          go_ret
          exact ⟨rfl, HB1⟩
    · have e3 : r = false := HNO.out _ HI.out.1 fun a => g1 a.2.1
      subst e3
      go_enter Try.func14, Try.ntmps14
      go_upto_region 1 with fail
      rw [← hW1]
      clear hW1
      go_wp2_with fail
      go_ret
      exact ⟨rfl, HB1⟩
  · have e3 : r = false := HNO.out _ HI.out.1 fun a => g0 a.1
    subst e3
    go_enter Try.func14, Try.ntmps14
    go_upto_region 1 with fail
    rw [← hW1]
    clear hW1
    go_wp2_with fail
    go_ret
    exact ⟨rfl, HB1⟩
end Go.Proofs.Ytfbfckdabbaocaa.St
