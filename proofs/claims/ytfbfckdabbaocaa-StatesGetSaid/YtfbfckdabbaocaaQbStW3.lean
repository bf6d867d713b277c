/-
  What is proved here: contracts of slices.Equal at rows of ints and of states.Same: which parts are the same. Conditions: lengths fit an int.
-/
import Derived.Test.YtfbfckdabbaocaaQbStW2x
namespace Go.Proofs.Ytfbfckdabbaocaa.St
open Go.RowKit Gr Wd Ws Fx Rk Lb Al In
open Sq (BAt BOwn QOwn bls equalQ_any equalB_any)
set_option maxRecDepth 100000 in
set_option maxHeartbeats 600000 in
theorem equalN_any (A B : Option Addr) (n m c d : Nat) (L M : List Int) (w : World) (hL : IAt w A L) (hM : IAt w B M) (hn : L.length = n) (hm : M.length = m) (hl : n ≤ 9223372036854775807) (_hm2 : m ≤ 9223372036854775807) :
    Calls Try.prog 49 #[.slice A n c, .slice B m d] w fun e w' => e = .returned (.bool (decide (L = M))) ∧ Below w.heap.size w w' := by
  have mixed := mixedI
  have HL := Lib.hid hL; have HM := Lib.hid hM; have HLn := Lib.hid hn; have HMm := Lib.hid hm; clear hL hM hn hm
  obtain ⟨R, hR⟩ : ∃ R, decide (L = M) = R := ⟨_, rfl⟩
  rw [hR]
  have HR := Lib.hid hR; clear hR
  by_cases hlm : n = m
  · subst hlm
    go_enter Try.func49, Try.ntmps49
    go_wp2
    go_loopg [13] n (fun g i wr => Sq.SqRel w L M g i wr)
    case atStart => exact ⟨0, by have := HLn.out; omega, rfl, Below.refl _ w, rfl⟩
    case round =>
      obtain ⟨k, hk, rfl, hb, hd⟩ := hrel
      rw [HLn.out] at hk
      by_cases hlt : k < n
      · obtain ⟨e, he⟩ := at_lt L k (by rw [HLn.out]; exact hlt)
        obtain ⟨f, hf⟩ := at_lt M k (by rw [HMm.out]; exact hlt)
        obtain ⟨bk, o, rfl, c0⟩ := (HL.out.below hb) k e he
        obtain ⟨bk', o', rfl, d0⟩ := (HM.out.below hb) k f hf
        rw [drop_at he, drop_at hf] at hd
        have HB := Lib.hid hb; have HD := Lib.hid hd
        clear hb hd he hf
        by_cases hef : e = f
        · subst hef
          go_wp2
          go_quiet (fail)
          go_wp2
          go_roundg (gk - 1)
          case measure => omega
          case rel =>
            refine ⟨k + 1, by have := HLn.out; omega, by go_num, Ws.below_drewN HB.out _, ?_⟩
            rw [HD.out]; simp
        · go_wp2
          go_quiet (fail)
          go_wp2
          go_ret
          refine ⟨ret_b ?_, Ws.below_drewN HB.out _⟩
          rw [← HR.out, HD.out]
          simp only [List.cons.injEq, hef, false_and, decide_false]
      · have HB := Lib.hid hb; have HD := Lib.hid hd
        have HK : Hid (k = n) := Lib.hid (by omega)
        clear hb hd
        go_wp2
        go_ret
        refine ⟨ret_b ?_, HB.out⟩
        rw [← HR.out, HD.out, HK.out]
        rw [List.drop_eq_nil_of_le (by rw [HLn.out]; exact Nat.le_refl _), List.drop_eq_nil_of_le (by rw [HMm.out]; exact Nat.le_refl _)]; simp
  · have hne : R = false := by
      rw [← HR.out]
      exact decide_eq_false fun h => hlm (by rw [← HLn.out, ← HMm.out, h])
    subst hne
    go_enter Try.func49, Try.ntmps49
    go_wp2
    go_ret
    exact ⟨rfl, Below.refl _ w⟩
def samePB (a b : Pr) : Bool := decide (a.st = b.st) && (decide (a.own = b.own) && (decide (a.vals = b.vals) && (decide (a.chg = b.chg) && sameB a.inb b.inb)))
theorem samePB_is (a b : Pr) : samePB a b = decide (sameP a b) := by
  rw [Bool.eq_iff_iff, decide_eq_true_iff]
  unfold samePB sameP
  simp only [Bool.and_eq_true, decide_eq_true_eq]
set_option maxRecDepth 100000 in
set_option maxHeartbeats 2000000 in
theorem psame_any (a b : Pr) (p q : Int) (hp : a.st = p) (hq : b.st = q) (Ao Av Ac Ai Bo Bv Bc Bi : Option Addr) (no nv nc ni co cv cc ci mo mv mc mi eo dv dc di : Nat) (w : World) (ha : PAt w Ao Av Ac Ai no nv nc ni a) (hb : PAt w Bo Bv Bc Bi mo mv mc mi b)
    (h0 : no ≤ 9223372036854775807) (h1 : nv ≤ 9223372036854775807) (h2 : nc ≤ 9223372036854775807) (h3 : ni ≤ 9223372036854775807) (g0 : mo ≤ 9223372036854775807) (g1 : mv ≤ 9223372036854775807) (g2 : mc ≤ 9223372036854775807) (g3 : mi ≤ 9223372036854775807) :
    Calls Try.prog 20 #[.agg #[.int .i64 p, .slice Ao no co, .slice Av nv cv, .slice Ac nc cc, .slice Ai ni ci], .agg #[.int .i64 q, .slice Bo mo eo, .slice Bv mv dv, .slice Bc mc dc, .slice Bi mi di]] w fun e w' => e = .returned (.bool (decide (sameP a b))) ∧ Hid (Below w.heap.size w w') := by
  have mixed := mixedI
  rw [← samePB_is]
  have HA := Lib.hid ha; have HB := Lib.hid hb
  clear ha hb
  obtain ⟨r, hr⟩ : ∃ r, samePB a b = r := ⟨_, rfl⟩
  rw [hr]
  unfold samePB at hr
  rw [hp, hq] at hr
  clear hp hq
  obtain ⟨W2, hW2⟩ : ∃ W2, W2 = (w.alloc (.cells #[.int .i64 p, .slice Ao no co, .slice Av nv cv, .slice Ac nc cc, .slice Ai ni ci] 27)).alloc (.cells #[.int .i64 q, .slice Bo mo eo, .slice Bv mv dv, .slice Bc mc dc, .slice Bi mi di] 27) := ⟨_, rfl⟩
  have hal := al2 w (.cells #[.int .i64 p, .slice Ao no co, .slice Av nv cv, .slice Ac nc cc, .slice Ai ni ci] 27) (.cells #[.int .i64 q, .slice Bo mo eo, .slice Bv mv dv, .slice Bc mc dc, .slice Bi mi di] 27)
  rw [← hW2] at hal
  have HB2 := Lib.hid hal.2.2
  have HX := Lib.hid hal.1; have HY := Lib.hid hal.2.1
  obtain ⟨b0, e0⟩ : ∃ b0, b0 = w.heap.size := ⟨_, rfl⟩
  obtain ⟨b1, e1⟩ : ∃ b1, b1 = w.heap.size + 1 := ⟨_, rfl⟩
  rw [← e0] at HX
  rw [← e1] at HY
  obtain ⟨x0, x1, x2, x3, x4, _⟩ := five HX.out
  obtain ⟨y0, y1, y2, y3, y4, _⟩ := five HY.out
  clear hal
  by_cases k1 : p = q
  · rw [decide_eq_true k1, Bool.true_and] at hr
    subst k1
    obtain ⟨t0, ht0⟩ : ∃ t, decide (a.own = b.own) = t := ⟨_, rfl⟩
    obtain ⟨t1, ht1⟩ : ∃ t, decide (a.vals = b.vals) = t := ⟨_, rfl⟩
    obtain ⟨t2, ht2⟩ : ∃ t, decide (a.chg = b.chg) = t := ⟨_, rfl⟩
    obtain ⟨t3, ht3⟩ : ∃ t, sameB a.inb b.inb = t := ⟨_, rfl⟩
    rw [ht0, ht1, ht2, ht3] at hr
    have HC0 := Lib.hid (fun W (h : Below w.heap.size w W) => equalN_any Ao Bo no mo co eo a.own b.own W (HA.out.o.below h) (HB.out.o.below h) HA.out.no HB.out.no h0 g0)
    have HC1 := Lib.hid (fun W (h : Below w.heap.size w W) => equalQ_any Av Bv nv mv cv dv a.vals b.vals W (HA.out.v.below h) (HB.out.v.below h) HA.out.nv HB.out.nv h1 g1)
    have HC2 := Lib.hid (fun W (h : Below w.heap.size w W) => equalB_any Ac Bc nc mc cc dc a.chg b.chg W (HA.out.c.below h) (HB.out.c.below h) HA.out.nc HB.out.nc h2 g2)
    have HC3 := Lib.hid (fun W (h : Below w.heap.size w W) => In.same_any Ai Bi ni mi ci di a.inb b.inb W (HA.out.i.below h) (HB.out.i.below h) HA.out.ni HB.out.ni h3 g3)
    rw [ht0] at HC0; rw [ht1] at HC1; rw [ht2] at HC2; rw [ht3] at HC3
    clear ht0 ht1 ht2 ht3
    go_enter Try.func20, Try.ntmps20
    go_upto_region 1 with fail
    rw [← hW2, show w.heap.size + 1 = b1 from e1.symm, show w.heap.size = b0 from e0.symm]
    clear hW2 e0 e1
    go_wp2_with fail
    refine (HC0.out _ HB2.out).mono ?_
    rintro e w3 ⟨rfl, hb3⟩
    have HB3 := Lib.hid (step_below HB2.out HB2.out.size hb3)
    have HX3 := Lib.hid (keep HX.out (hb3)); have HY3 := Lib.hid (keep HY.out (hb3))
    clear hb3 x0 x1 x2 x3 x4 y0 y1 y2 y3 y4
    obtain ⟨x0, x1, x2, x3, x4, _⟩ := five HX3.out
    obtain ⟨y0, y1, y2, y3, y4, _⟩ := five HY3.out
    cases t0 with
    | false =>
      obtain rfl : false = r := by rw [← hr]; simp
      go_wp2_with fail
      go_ret
      exact ⟨rfl, HB3⟩
    | true =>
      go_wp2_with fail
      refine (HC1.out _ HB3.out).mono ?_
      rintro e w4 ⟨rfl, hb4⟩
      have HB4 := Lib.hid (step_below HB3.out HB3.out.size hb4)
      have HX4 := Lib.hid (keep HX3.out (hb4)); have HY4 := Lib.hid (keep HY3.out (hb4))
      clear hb4 x0 x1 x2 x3 x4 y0 y1 y2 y3 y4
      obtain ⟨x0, x1, x2, x3, x4, _⟩ := five HX4.out
      obtain ⟨y0, y1, y2, y3, y4, _⟩ := five HY4.out
      cases t1 with
      | false =>
        obtain rfl : false = r := by rw [← hr]; simp
        go_wp2_with fail
        go_ret
        exact ⟨rfl, HB4⟩
      | true =>
        go_wp2_with fail
        refine (HC2.out _ HB4.out).mono ?_
        rintro e w5 ⟨rfl, hb5⟩
        have HB5 := Lib.hid (step_below HB4.out HB4.out.size hb5)
        have HX5 := Lib.hid (keep HX4.out (hb5)); have HY5 := Lib.hid (keep HY4.out (hb5))
        clear hb5 x0 x1 x2 x3 x4 y0 y1 y2 y3 y4
        obtain ⟨x0, x1, x2, x3, x4, _⟩ := five HX5.out
        obtain ⟨y0, y1, y2, y3, y4, _⟩ := five HY5.out
        cases t2 with
        | false =>
          obtain rfl : false = r := by rw [← hr]; simp
          go_wp2_with fail
          go_ret
          exact ⟨rfl, HB5⟩
        | true =>
          go_wp2_with fail
          refine (HC3.out _ HB5.out).mono ?_
          rintro e w6 ⟨rfl, hb6⟩
          have HB6 := Lib.hid (step_below HB5.out HB5.out.size hb6.out)
          have HX6 := Lib.hid (keep HX5.out (hb6.out)); have HY6 := Lib.hid (keep HY5.out (hb6.out))
          clear hb6 x0 x1 x2 x3 x4 y0 y1 y2 y3 y4
          obtain rfl : t3 = r := by rw [← hr]; rfl
          go_wp2_with fail
          go_ret
          exact ⟨rfl, HB6⟩
  · obtain rfl : false = r := by rw [← hr]; rw [decide_eq_false k1]; simp
    clear hr
    go_enter Try.func20, Try.ntmps20
    go_upto_region 1 with fail
    rw [← hW2, show w.heap.size + 1 = b1 from e1.symm, show w.heap.size = b0 from e0.symm]
    clear hW2 e0 e1
    go_wp2_with fail
    go_ret
    exact ⟨rfl, HB2⟩
end Go.Proofs.Ytfbfckdabbaocaa.St
