/-
  What is proved here: contracts of the document's in and Right: which parts are right. Conditions: lengths fit an int.
-/
import Derived.Test.YtfbfckdabbaocaaQbStW1
namespace Go.Proofs.Ytfbfckdabbaocaa.St
open Go.RowKit Gr Wd Ws Fx Rk Lb Al In
open Sq (BAt BOwn QOwn bls)
theorem inn_any (x : Int) (w : World) : Calls Try.prog 38 #[.int .i64 x] w fun e w' => e = .returned (.bool (decide (InR x))) ∧ w = w' := by
  by_cases h0 : 0 ≤ x
  · by_cases h1 : x ≤ 4611686018427387904
    · rw [decide_eq_true (show InR x from ⟨h0, h1⟩)]
      go_enter Try.func38, Try.ntmps38
      go_wp2
      go_ret
      first | exact ⟨rfl, rfl⟩ | exact ⟨by simp [h0, h1], rfl⟩
    · rw [decide_eq_false (show ¬ InR x from fun h => h1 h.2)]
      go_enter Try.func38, Try.ntmps38
      go_wp2
      go_ret
      first | exact ⟨rfl, rfl⟩ | exact ⟨by simp; omega, rfl⟩
  · rw [decide_eq_false (show ¬ InR x from fun h => h0 h.1)]
    go_enter Try.func38, Try.ntmps38
    go_wp2
    go_ret
    first | exact ⟨rfl, rfl⟩ | exact ⟨by simp; omega, rfl⟩
def RrRel (w1 : World) (p : Pr) (no g : Nat) (i : Value) (wr : World) : Prop :=
  ∃ k : Nat, k + g = no ∧ i = .int .i64 (k : Int) ∧ w1 = wr ∧ Hid (∀ i, i < k → OkAt p i)
set_option maxRecDepth 100000 in
set_option maxHeartbeats 8000000 in
theorem rright_any (p : Pr) (Ao Av Ac Ai : Option Addr) (no nv nc ni co cv cc ci : Nat) (w : World) (h : PAt w Ao Av Ac Ai no nv nc ni p) (h1 : no ≤ 9223372036854775807) (_h2 : nv ≤ 9223372036854775807) (_h3 : nc ≤ 9223372036854775807) (_h4 : ni ≤ 9223372036854775807) :
    Calls Try.prog 15 #[.agg #[.int .i64 p.st, .slice Ao no co, .slice Av nv cv, .slice Ac nc cc, .slice Ai ni ci]] w fun e w' => e = .returned (.bool (decide (Rgt p))) ∧ Hid (Below w.heap.size w w') := by
  obtain ⟨r, hr⟩ : ∃ r, decide (Rgt p) = r := ⟨_, rfl⟩
  rw [hr]
  obtain ⟨st, hst⟩ : ∃ st, p.st = st := ⟨_, rfl⟩
  rw [hst]
  have hbox := heap_alloc_new w (.cells #[.int .i64 st, .slice Ao no co, .slice Av nv cv, .slice Ac nc cc, .slice Ai ni ci] 35)
  have hb1 : Below w.heap.size w (w.alloc (.cells #[.int .i64 st, .slice Ao no co, .slice Av nv cv, .slice Ac nc cc, .slice Ai ni ci] 35)) := (Below.refl _ w).alloc (Nat.le_refl _) _
  obtain ⟨W1, hW1⟩ : ∃ W1, W1 = w.alloc (.cells #[.int .i64 st, .slice Ao no co, .slice Av nv cv, .slice Ac nc cc, .slice Ai ni ci] 35) := ⟨_, rfl⟩
  obtain ⟨b1, e1⟩ : ∃ b1, b1 = w.heap.size := ⟨_, rfl⟩
  rw [← hW1] at hbox hb1
  rw [← e1] at hbox
  have HB1 := Lib.hid hb1
  have HP := Lib.hid (h.below hb1)
  obtain ⟨c0, c1, c2, c3, c4, _⟩ := five hbox
  have HNO : Hid (¬ Rgt p → r = false) := Lib.hid fun h => by rw [← hr]; exact decide_eq_false h
  have HYE : Hid (Rgt p → r = true) := Lib.hid fun h => by rw [← hr]; exact decide_eq_true h
  have HL : Hid (LenP p ↔ nv = no ∧ nc = no ∧ ni = no) := Lib.hid (by unfold LenP; rw [h.no, h.nv, h.nc, h.ni])
  have HST := Lib.hid hst
  clear hbox hb1 h hr hst
  by_cases g0 : 0 ≤ st
  · by_cases g1 : st ≤ 2000
    · by_cases k1 : nv = no
      · by_cases k2 : nc = no
        · by_cases k3 : ni = no
          · subst k1; subst k2; subst k3
            have hLn : LenP p := HL.out.2 ⟨rfl, rfl, rfl⟩
            have HLn := Lib.hid hLn
            clear hLn
            go_enter Try.func15, Try.ntmps15
            go_upto_region 1 with fail
            rw [← hW1, show w.heap.size = b1 from e1.symm]
            clear hW1 e1
            go_wp2_with fail
            go_loopg [4] ni (fun g i wr => RrRel W1 p ni g i wr)
            case atStart => exact ⟨0, by omega, rfl, rfl, Lib.hid fun i hi => absurd hi (Nat.not_lt_zero i)⟩
            case round =>
              obtain ⟨k, hk, rfl, rfl, HD⟩ := hrel
              by_cases hlt : k < ni
              · have o1 := nu_at (l := p.own) (k := k) (by rw [HP.out.no]; exact hlt)
                have o2 := nu_at (l := p.vals) (k := k) (by rw [HP.out.nv]; exact hlt)
                have o4 := mi_at (l := p.inb) (k := k) (by rw [HP.out.ni]; exact hlt)
                obtain ⟨v, hv⟩ : ∃ v, nu p.own k = v := ⟨_, rfl⟩
                obtain ⟨x, hx⟩ : ∃ x, nu p.vals k = x := ⟨_, rfl⟩
                obtain ⟨⟨mh, my⟩, hm⟩ : ∃ m, mi p.inb k = m := ⟨_, rfl⟩
                rw [hv] at o1; rw [hx] at o2; rw [hm] at o4
                have HOK : Hid (OkAt p k ↔ 0 ≤ v ∧ v < 512 ∧ (0 < k → nu p.own (k - 1) < v) ∧ InR x ∧ (mh = true → InR my)) := Lib.hid (by unfold OkAt; rw [hv, hx, hm])
                have HNR : Hid (¬ OkAt p k → r = false) := Lib.hid fun h => HNO.out fun hr => h (hr.2.2 k (by rw [HP.out.no]; exact hlt))
                obtain ⟨bo1, oo1, rfl, d0⟩ := HP.out.o k _ o1
                obtain ⟨bv, ov, rfl, d1⟩ := HP.out.v k _ o2
                obtain ⟨bi, oi, rfl, d3, d4⟩ := HP.out.i k _ o4
                simp only at d3 d4
                have HIX := Lib.hid (fun W => inn_any x W)
                have HIM := Lib.hid (fun W => inn_any my W)
                clear o1 o2 o4 hv hx hm
                by_cases a0 : 0 ≤ v
                · by_cases a1 : v < 512
                  · rcases Nat.eq_zero_or_pos k with hk0 | hk0
                    · subst hk0
                      have d0z : W1.cell? ⟨bo1, oo1, none⟩ = some (.int .i64 v) := d0
                      have d1z : W1.cell? ⟨bv, ov, none⟩ = some (.int .i64 x) := d1
                      have d3z : W1.cell? ⟨bi, oi, none⟩ = some (.bool mh) := by rw [Nat.zero_mul, Nat.add_zero] at d3; exact d3
                      have d4z : W1.cell? ⟨bi, oi + 1, none⟩ = some (.int .i64 my) := by rw [Nat.zero_mul, Nat.add_zero] at d4; exact d4
                      by_cases ax : InR x
                      · rw [decide_eq_true ax] at HIX
                        cases mh with
                        | false =>
                          have am : false = true → InR my := fun h => by cases h
                          go_wp2_with fail
                          refine (HIX.out _).mono ?_
                          rintro e wq ⟨rfl, rfl⟩
                          have HD2 : Hid (∀ i, i < 0 + 1 → OkAt p i) := Lib.hid fun i hi => by
                            rcases Nat.lt_or_ge i (0) with h | h
                            · exact HD.out i h
                            · have hik : i = 0 := by omega
                              rw [hik]
                              exact HOK.out.2 ⟨a0, a1, fun h => absurd h (Nat.lt_irrefl 0), ax, am⟩
                          go_wp2_with fail
                          go_roundg (gk - 1)
                          case measure => omega
                          case rel => exact ⟨0 + 1, by omega, by go_num, rfl, HD2⟩
                        | true =>
                          by_cases am0 : InR my
                          · have am : true = true → InR my := fun _ => am0
                            rw [decide_eq_true am0] at HIM
                            go_wp2_with fail
                            refine (HIX.out _).mono ?_
                            rintro e wq ⟨rfl, rfl⟩
                            go_wp2_with fail
                            refine (HIM.out _).mono ?_
                            rintro e wq ⟨rfl, rfl⟩
                            have HD2 : Hid (∀ i, i < 0 + 1 → OkAt p i) := Lib.hid fun i hi => by
                              rcases Nat.lt_or_ge i (0) with h | h
                              · exact HD.out i h
                              · have hik : i = 0 := by omega
                                rw [hik]
                                exact HOK.out.2 ⟨a0, a1, fun h => absurd h (Nat.lt_irrefl 0), ax, am⟩
                            go_wp2_with fail
                            go_roundg (gk - 1)
                            case measure => omega
                            case rel => exact ⟨0 + 1, by omega, by go_num, rfl, HD2⟩
                          · rw [decide_eq_false am0] at HIM
                            go_wp2_with fail
                            refine (HIX.out _).mono ?_
                            rintro e wq ⟨rfl, rfl⟩
                            go_wp2_with fail
                            refine (HIM.out _).mono ?_
                            rintro e wq ⟨rfl, rfl⟩
                            obtain rfl : r = false := HNR.out fun h => am0 ((HOK.out.1 h).2.2.2.2 (by simp))
                            go_wp2_with fail
                            go_ret
                            exact ⟨rfl, HB1⟩
                      · rw [decide_eq_false ax] at HIX
                        go_wp2_with fail
                        refine (HIX.out _).mono ?_
                        rintro e wq ⟨rfl, rfl⟩
                        obtain rfl : r = false := HNR.out fun h => ax (HOK.out.1 h).2.2.2.1
                        go_wp2_with fail
                        go_ret
                        exact ⟨rfl, HB1⟩
                    · obtain ⟨k', rfl⟩ : ∃ k', k = k' + 1 := ⟨k - 1, by omega⟩
                      obtain ⟨u, hu⟩ : ∃ u, nu p.own k' = u := ⟨_, rfl⟩
                      have o5 := nu_at (l := p.own) (k := k') (by rw [HP.out.no]; omega)
                      rw [hu] at o5
                      have d5 : W1.cell? ⟨bo1, oo1 + k', none⟩ = some (.int .i64 u) := by
                        obtain ⟨_, _, e, c⟩ := HP.out.o k' _ o5; cases e; exact c
                      have HU : Hid (nu p.own (k' + 1 - 1) = u) := Lib.hid (by rw [Nat.add_sub_cancel]; exact hu)
                      clear o5 hu
                      by_cases a2 : u < v
                      · by_cases ax : InR x
                        · rw [decide_eq_true ax] at HIX
                          cases mh with
                          | false =>
                            have am : false = true → InR my := fun h => by cases h
                            go_wp2_with fail
                            refine (HIX.out _).mono ?_
                            rintro e wq ⟨rfl, rfl⟩
                            have HD2 : Hid (∀ i, i < (k' + 1) + 1 → OkAt p i) := Lib.hid fun i hi => by
                              rcases Nat.lt_or_ge i ((k' + 1)) with h | h
                              · exact HD.out i h
                              · have hik : i = (k' + 1) := by omega
                                rw [hik]
                                exact HOK.out.2 ⟨a0, a1, fun _ => by rw [HU.out]; exact a2, ax, am⟩
                            go_wp2_with fail
                            go_roundg (gk - 1)
                            case measure => omega
                            case rel => exact ⟨(k' + 1) + 1, by omega, by go_num, rfl, HD2⟩
                          | true =>
                            by_cases am0 : InR my
                            · have am : true = true → InR my := fun _ => am0
                              rw [decide_eq_true am0] at HIM
                              go_wp2_with fail
                              refine (HIX.out _).mono ?_
                              rintro e wq ⟨rfl, rfl⟩
                              go_wp2_with fail
                              refine (HIM.out _).mono ?_
                              rintro e wq ⟨rfl, rfl⟩
                              have HD2 : Hid (∀ i, i < (k' + 1) + 1 → OkAt p i) := Lib.hid fun i hi => by
                                rcases Nat.lt_or_ge i ((k' + 1)) with h | h
                                · exact HD.out i h
                                · have hik : i = (k' + 1) := by omega
                                  rw [hik]
                                  exact HOK.out.2 ⟨a0, a1, fun _ => by rw [HU.out]; exact a2, ax, am⟩
                              go_wp2_with fail
                              go_roundg (gk - 1)
                              case measure => omega
                              case rel => exact ⟨(k' + 1) + 1, by omega, by go_num, rfl, HD2⟩
                            · rw [decide_eq_false am0] at HIM
                              go_wp2_with fail
                              refine (HIX.out _).mono ?_
                              rintro e wq ⟨rfl, rfl⟩
                              go_wp2_with fail
                              refine (HIM.out _).mono ?_
                              rintro e wq ⟨rfl, rfl⟩
                              obtain rfl : r = false := HNR.out fun h => am0 ((HOK.out.1 h).2.2.2.2 (by simp))
                              go_wp2_with fail
                              go_ret
                              exact ⟨rfl, HB1⟩
                        · rw [decide_eq_false ax] at HIX
                          go_wp2_with fail
                          refine (HIX.out _).mono ?_
                          rintro e wq ⟨rfl, rfl⟩
                          obtain rfl : r = false := HNR.out fun h => ax (HOK.out.1 h).2.2.2.1
                          go_wp2_with fail
                          go_ret
                          exact ⟨rfl, HB1⟩
                      · obtain rfl : r = false := HNR.out fun h => a2 (by have := (HOK.out.1 h).2.2.1 hk0; rw [HU.out] at this; exact this)
                        go_wp2_with fail
                        go_ret
                        exact ⟨rfl, HB1⟩
                  · obtain rfl : r = false := HNR.out fun h => a1 (HOK.out.1 h).2.1
                    go_wp2_with fail
                    go_ret
                    exact ⟨rfl, HB1⟩
                · obtain rfl : r = false := HNR.out fun h => a0 (HOK.out.1 h).1
                  go_wp2_with fail
                  go_ret
                  exact ⟨rfl, HB1⟩
              · have e3 : r = true := HYE.out ⟨by rw [HST.out]; exact ⟨g0, g1⟩, HLn.out, fun i hi => HD.out i (by rw [HP.out.no] at hi; omega)⟩
                subst e3
                go_wp2_with fail
                go_ret
                exact ⟨rfl, HB1⟩
          · subst k1; subst k2
            have q3 : ((ni : Int) != (nc : Int)) = true := by simp only [bne_iff_ne, ne_eq]; omega
            have e3 : r = false := HNO.out fun h => k3 (HL.out.1 h.2.1).2.2
            subst e3
            go_enter Try.func15, Try.ntmps15
            go_upto_region 1 with fail
            rw [← hW1, show w.heap.size = b1 from e1.symm]
            clear hW1 e1
            go_wp2_with fail
            go_ret
            exact ⟨rfl, HB1⟩
        · subst k1
          have q3 : ((nc : Int) != (nv : Int)) = true := by simp only [bne_iff_ne, ne_eq]; omega
          have e3 : r = false := HNO.out fun h => k2 (HL.out.1 h.2.1).2.1
          subst e3
          go_enter Try.func15, Try.ntmps15
          go_upto_region 1 with fail
          rw [← hW1, show w.heap.size = b1 from e1.symm]
          clear hW1 e1
          go_wp2_with fail
          go_ret
          exact ⟨rfl, HB1⟩
      · have q3 : ((nv : Int) != (no : Int)) = true := by simp only [bne_iff_ne, ne_eq]; omega
        have e3 : r = false := HNO.out fun h => k1 (HL.out.1 h.2.1).1
        subst e3
        go_enter Try.func15, Try.ntmps15
        go_upto_region 1 with fail
        rw [← hW1, show w.heap.size = b1 from e1.symm]
        clear hW1 e1
        go_wp2_with fail
        go_ret
        exact ⟨rfl, HB1⟩
    · have e3 : r = false := HNO.out fun h => g1 (by have := h.1.2; rw [HST.out] at this; exact this)
      subst e3
      go_enter Try.func15, Try.ntmps15
      go_upto_region 1 with fail
      rw [← hW1, show w.heap.size = b1 from e1.symm]
      clear hW1 e1
      go_wp2_with fail
      go_ret
      exact ⟨rfl, HB1⟩
  · have e3 : r = false := HNO.out fun h => g0 (by have := h.1.1; rw [HST.out] at this; exact this)
    subst e3
    go_enter Try.func15, Try.ntmps15
    go_upto_region 1 with fail
    rw [← hW1, show w.heap.size = b1 from e1.symm]
    clear hW1 e1
    go_wp2_with fail
    go_ret
    exact ⟨rfl, HB1⟩
end Go.Proofs.Ytfbfckdabbaocaa.St
