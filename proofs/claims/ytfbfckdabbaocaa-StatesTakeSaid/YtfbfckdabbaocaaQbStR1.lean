/-
  What is proved here: a contract of the document's Same: which parts are the same. Conditions: lengths fit an int.
-/
import Derived.Test.YtfbfckdabbaocaaQbStW3
import Derived.Test.YtfbfckdabbaocaaQbSqErx
namespace Go.Proofs.Ytfbfckdabbaocaa.St
open Go.RowKit Gr Wd Ws Fx Rk Lb Al In
open Sq (BAt BOwn QOwn bls equalQ_any equalB_any)
set_option maxRecDepth 100000 in
set_option maxHeartbeats 2000000 in
theorem rpsame_any (a b : Pr) (p q : Int) (hp : a.st = p) (hq : b.st = q) (Ao Av Ac Ai Bo Bv Bc Bi : Option Addr) (no nv nc ni co cv cc ci mo mv mc mi eo dv dc di : Nat) (w : World) (ha : PAt w Ao Av Ac Ai no nv nc ni a) (hb : PAt w Bo Bv Bc Bi mo mv mc mi b)
    (h0 : no ≤ 9223372036854775807) (h1 : nv ≤ 9223372036854775807) (h2 : nc ≤ 9223372036854775807) (h3 : ni ≤ 9223372036854775807) (g0 : mo ≤ 9223372036854775807) (g1 : mv ≤ 9223372036854775807) (g2 : mc ≤ 9223372036854775807) (g3 : mi ≤ 9223372036854775807) :
    Calls Try.prog 18 #[.agg #[.int .i64 p, .slice Ao no co, .slice Av nv cv, .slice Ac nc cc, .slice Ai ni ci], .agg #[.int .i64 q, .slice Bo mo eo, .slice Bv mv dv, .slice Bc mc dc, .slice Bi mi di]] w fun e w' => e = .returned (.bool (decide (sameP a b))) ∧ Hid (Below w.heap.size w w') := by
  have mixed := mixedI
  rw [← samePB_is]
  have HA := Lib.hid ha; have HB := Lib.hid hb
  clear ha hb
  obtain ⟨r, hr⟩ : ∃ r, samePB a b = r := ⟨_, rfl⟩
  rw [hr]
  unfold samePB at hr
  rw [hp, hq] at hr
  clear hp hq
  obtain ⟨W2, hW2⟩ : ∃ W2, W2 = (w.alloc (.cells #[.int .i64 p, .slice Ao no co, .slice Av nv cv, .slice Ac nc cc, .slice Ai ni ci] 35)).alloc (.cells #[.int .i64 q, .slice Bo mo eo, .slice Bv mv dv, .slice Bc mc dc, .slice Bi mi di] 35) := ⟨_, rfl⟩
  have hal := al2 w (.cells #[.int .i64 p, .slice Ao no co, .slice Av nv cv, .slice Ac nc cc, .slice Ai ni ci] 35) (.cells #[.int .i64 q, .slice Bo mo eo, .slice Bv mv dv, .slice Bc mc dc, .slice Bi mi di] 35)
  rw [← hW2] at hal
  have HB2 := Lib.hid hal.2.2
  have HX := Lib.hid hal.1; have HY := Lib.hid hal.2.1
  obtain ⟨b0, e0⟩ : ∃ b0, b0 = w.heap.size := ⟨_, rfl⟩
  obtain ⟨b1, e1⟩ : ∃ b1, b1 = w.heap.size + 1 := ⟨_, rfl⟩
  rw [← e0] at HX
  rw [← e1] at HY
  obtain ⟨x0, x1, x2, x3, x4, _⟩ := five HX.out
  obtain ⟨y0, y1, y2, y3, y4, _⟩ := five HY.out
  clear hal
  by_cases k1 : p = q
  · rw [decide_eq_true k1, Bool.true_and] at hr
    subst k1
    by_cases q0 : no = mo
    · subst q0
      by_cases q1 : nv = mv
      · subst q1
        by_cases q2 : nc = mc
        · subst q2
          obtain ⟨t3, ht3⟩ : ∃ t, sameB a.inb b.inb = t := ⟨_, rfl⟩
          rw [ht3] at hr
          have HR := Lib.hid hr
          have HC3 := Lib.hid (fun W (h : Below w.heap.size w W) => In.rsame_any Ai Bi ni mi ci di a.inb b.inb W (HA.out.i.below h) (HB.out.i.below h) HA.out.ni HB.out.ni h3 g3)
          rw [ht3] at HC3
          clear ht3 hr
          go_enter Try.func18, Try.ntmps18
          go_upto_region 1 with fail
          rw [← hW2, show w.heap.size + 1 = b1 from e1.symm, show w.heap.size = b0 from e0.symm]
          clear hW2 e0 e1
          go_wp2_with fail
          refine (HC3.out _ HB2.out).mono ?_
          rintro e w3 ⟨rfl, hb3⟩
          have HB3 := Lib.hid (step_below HB2.out HB2.out.size hb3.out)
          have HX3 := Lib.hid (keep HX.out hb3.out); have HY3 := Lib.hid (keep HY.out hb3.out)
          clear hb3 x0 x1 x2 x3 x4 y0 y1 y2 y3 y4 HC3 HX HY HB2
          obtain ⟨x0, x1, x2, x3, x4, _⟩ := five HX3.out
          obtain ⟨y0, y1, y2, y3, y4, _⟩ := five HY3.out
          cases t3 with
          | false =>
            obtain rfl : false = r := by rw [← HR.out]; simp
            go_wp2_with fail
            go_ret
            exact ⟨rfl, HB3⟩
          | true =>
            have HR3 := Lib.hid HR.out
            go_wp2_with fail
            clear x0 x1 x2 x3 x4 y0 y1 y2 y3 y4
            go_loopg [5] no (fun g i wr => Sq.RqRel w3 a.own b.own g i wr)
            case atStart => exact ⟨0, by have := HA.out.no; omega, rfl, Lib.hid (Below.refl _ w3), Lib.hid rfl⟩
            case round =>
              obtain ⟨k, hk0, rfl, hb, hd⟩ := hrel
              rw [HA.out.no] at hk0
              obtain ⟨x0, x1, x2, x3, x4, _⟩ := five (keep HX3.out hb.out)
              obtain ⟨y0, y1, y2, y3, y4, _⟩ := five (keep HY3.out hb.out)
              by_cases hlt0 : k < no
              · obtain ⟨e, he⟩ := at_lt a.own k (by rw [HA.out.no]; exact hlt0)
                obtain ⟨f, hf⟩ := at_lt b.own k (by rw [HB.out.no]; omega)
                obtain ⟨bk, o, rfl, c0⟩ := ((HA.out.o.below HB3.out).below hb.out) k e he
                obtain ⟨bk', o', rfl, d0⟩ := ((HB.out.o.below HB3.out).below hb.out) k f hf
                have HD : Hid (decide (a.own = b.own) = decide (e :: a.own.drop (k + 1) = f :: b.own.drop (k + 1))) := Lib.hid (by rw [hd.out, drop_at he, drop_at hf])
                clear hd he hf
                by_cases hef : e = f
                · subst hef
                  go_wp2
                  go_quiet (fail)
                  go_wp2
                  go_roundg (gk - 1)
                  case measure => omega
                  case rel =>
                    refine ⟨k + 1, by have := HA.out.no; omega, by go_num, Lib.hid (Ws.below_drewN hb.out _), Lib.hid ?_⟩
                    rw [HD.out]; simp
                · have e3 : false = r := by rw [← HR3.out, HD.out]; simp [hef]
                  subst e3
                  go_wp2
                  go_quiet (fail)
                  go_wp2
                  go_ret
                  exact ⟨rfl, Lib.hid (Ws.below_drewN (step_below HB3.out HB3.out.size hb.out) _)⟩
              · have hval : decide (a.own = b.own) = true := by
                  rw [hd.out, List.drop_eq_nil_of_le (by rw [HA.out.no]; omega), List.drop_eq_nil_of_le (by rw [HB.out.no]; omega)]; simp
                have HR4 : Hid ((decide (a.vals = b.vals) && (decide (a.chg = b.chg) && true)) = r) := Lib.hid (by rw [← HR3.out, hval]; simp)
                clear hd hval
                go_wp2_with fail
                clear x0 x1 x2 x3 x4 y0 y1 y2 y3 y4
                obtain ⟨G0, rfl⟩ : ∃ G : Nat, G = gk := ⟨_, rfl⟩
                obtain ⟨w4, rfl⟩ : ∃ w4 : World, w4 = wr := ⟨_, rfl⟩
                have HB4 := Lib.hid (step_below HB3.out HB3.out.size hb.out)
                have HX4 := Lib.hid (keep HX3.out hb.out); have HY4 := Lib.hid (keep HY3.out hb.out)
                clear hb HX3 HY3 HB3 hk0
                go_loopg [6] nv (fun g i wr => Sq.RqRel w4 a.vals b.vals g i wr)
                case atStart => exact ⟨0, by have := HA.out.nv; omega, rfl, Lib.hid (Below.refl _ w4), Lib.hid rfl⟩
                case round =>
                  obtain ⟨j, hk1, rfl, hb, hd⟩ := hrel
                  rw [HA.out.nv] at hk1
                  obtain ⟨x0, x1, x2, x3, x4, _⟩ := five (keep HX4.out hb.out)
                  obtain ⟨y0, y1, y2, y3, y4, _⟩ := five (keep HY4.out hb.out)
                  by_cases hlt1 : j < nv
                  · obtain ⟨e, he⟩ := at_lt a.vals j (by rw [HA.out.nv]; exact hlt1)
                    obtain ⟨f, hf⟩ := at_lt b.vals j (by rw [HB.out.nv]; omega)
                    obtain ⟨bk, o, rfl, c0⟩ := ((HA.out.v.below HB4.out).below hb.out) j e he
                    obtain ⟨bk', o', rfl, d0⟩ := ((HB.out.v.below HB4.out).below hb.out) j f hf
                    have HD : Hid (decide (a.vals = b.vals) = decide (e :: a.vals.drop (j + 1) = f :: b.vals.drop (j + 1))) := Lib.hid (by rw [hd.out, drop_at he, drop_at hf])
                    clear hd he hf
                    by_cases hef : e = f
                    · subst hef
                      go_wp2
                      go_quiet (fail)
                      go_wp2
                      go_roundg (gk - 1)
                      case measure => omega
                      case rel =>
                        refine ⟨j + 1, by have := HA.out.nv; omega, by go_num, Lib.hid (Ws.below_drewN hb.out _), Lib.hid ?_⟩
                        rw [HD.out]; simp
                    · have e3 : false = r := by rw [← HR4.out, HD.out]; simp [hef]
                      subst e3
                      go_wp2
                      go_quiet (fail)
                      go_wp2
                      go_ret
                      exact ⟨rfl, Lib.hid (Ws.below_drewN (step_below HB4.out HB4.out.size hb.out) _)⟩
                  · have hval : decide (a.vals = b.vals) = true := by
                      rw [hd.out, List.drop_eq_nil_of_le (by rw [HA.out.nv]; omega), List.drop_eq_nil_of_le (by rw [HB.out.nv]; omega)]; simp
                    have HR5 : Hid ((decide (a.chg = b.chg) && true) = r) := Lib.hid (by rw [← HR4.out, hval]; simp)
                    clear hd hval
                    go_wp2_with fail
                    clear x0 x1 x2 x3 x4 y0 y1 y2 y3 y4
                    obtain ⟨G1, rfl⟩ : ∃ G : Nat, G = gk := ⟨_, rfl⟩
                    obtain ⟨w5, rfl⟩ : ∃ w4 : World, w4 = wr := ⟨_, rfl⟩
                    have HB5 := Lib.hid (step_below HB4.out HB4.out.size hb.out)
                    have HX5 := Lib.hid (keep HX4.out hb.out); have HY5 := Lib.hid (keep HY4.out hb.out)
                    clear hb HX4 HY4 HB4 hk1
                    go_loopg [7] nc (fun g i wr => Sq.RqRel w5 a.chg b.chg g i wr)
                    case atStart => exact ⟨0, by have := HA.out.nc; omega, rfl, Lib.hid (Below.refl _ w5), Lib.hid rfl⟩
                    case round =>
                      obtain ⟨u, hk2, rfl, hb, hd⟩ := hrel
                      rw [HA.out.nc] at hk2
                      obtain ⟨x0, x1, x2, x3, x4, _⟩ := five (keep HX5.out hb.out)
                      obtain ⟨y0, y1, y2, y3, y4, _⟩ := five (keep HY5.out hb.out)
                      by_cases hlt2 : u < nc
                      · obtain ⟨e, he⟩ := at_lt a.chg u (by rw [HA.out.nc]; exact hlt2)
                        obtain ⟨f, hf⟩ := at_lt b.chg u (by rw [HB.out.nc]; omega)
                        obtain ⟨bk, o, rfl, c0⟩ := ((HA.out.c.below HB5.out).below hb.out) u e he
                        obtain ⟨bk', o', rfl, d0⟩ := ((HB.out.c.below HB5.out).below hb.out) u f hf
                        have HD : Hid (decide (a.chg = b.chg) = decide (e :: a.chg.drop (u + 1) = f :: b.chg.drop (u + 1))) := Lib.hid (by rw [hd.out, drop_at he, drop_at hf])
                        clear hd he hf
                        rcases e with _ | _ <;> rcases f with _ | _
                        · go_wp2
                          go_quiet (fail)
                          go_wp2
                          go_roundg (gk - 1)
                          case measure => omega
                          case rel =>
                            refine ⟨u + 1, by have := HA.out.nc; omega, by go_num, Lib.hid (Ws.below_drewN hb.out _), Lib.hid ?_⟩
                            rw [HD.out]; simp
                        · have e3 : false = r := by rw [← HR5.out, HD.out]; simp
                          subst e3
                          go_wp2
                          go_quiet (fail)
                          go_wp2
                          go_ret
                          exact ⟨rfl, Lib.hid (Ws.below_drewN (step_below HB5.out HB5.out.size hb.out) _)⟩
                        · have e3 : false = r := by rw [← HR5.out, HD.out]; simp
                          subst e3
                          go_wp2
                          go_quiet (fail)
                          go_wp2
                          go_ret
                          exact ⟨rfl, Lib.hid (Ws.below_drewN (step_below HB5.out HB5.out.size hb.out) _)⟩
                        · go_wp2
                          go_quiet (fail)
                          go_wp2
                          go_roundg (gk - 1)
                          case measure => omega
                          case rel =>
                            refine ⟨u + 1, by have := HA.out.nc; omega, by go_num, Lib.hid (Ws.below_drewN hb.out _), Lib.hid ?_⟩
                            rw [HD.out]; simp
                      · have e3 : true = r := by
                          rw [← HR5.out, hd.out, List.drop_eq_nil_of_le (by rw [HA.out.nc]; omega), List.drop_eq_nil_of_le (by rw [HB.out.nc]; omega)]; simp
                        subst e3
                        go_wp2_with fail
                        go_ret
                        exact ⟨rfl, Lib.hid (step_below HB5.out HB5.out.size hb.out)⟩
        · obtain rfl : false = r := by
            rw [← hr, show decide (a.chg = b.chg) = false from decide_eq_false fun h => q2 (by rw [← HA.out.nc, ← HB.out.nc, h])]; simp
          clear hr
          have j : ((nc : Int) != (mc : Int)) = true := by simp only [bne_iff_ne, ne_eq]; omega
          go_enter Try.func18, Try.ntmps18
          go_upto_region 1 with fail
          rw [← hW2, show w.heap.size + 1 = b1 from e1.symm, show w.heap.size = b0 from e0.symm]
          clear hW2 e0 e1
          go_wp2_with fail
          go_ret
          exact ⟨rfl, HB2⟩
      · obtain rfl : false = r := by
          rw [← hr, show decide (a.vals = b.vals) = false from decide_eq_false fun h => q1 (by rw [← HA.out.nv, ← HB.out.nv, h])]; simp
        clear hr
        have j : ((nv : Int) != (mv : Int)) = true := by simp only [bne_iff_ne, ne_eq]; omega
        go_enter Try.func18, Try.ntmps18
        go_upto_region 1 with fail
        rw [← hW2, show w.heap.size + 1 = b1 from e1.symm, show w.heap.size = b0 from e0.symm]
        clear hW2 e0 e1
        go_wp2_with fail
        go_ret
        exact ⟨rfl, HB2⟩
    · obtain rfl : false = r := by
        rw [← hr, show decide (a.own = b.own) = false from decide_eq_false fun h => q0 (by rw [← HA.out.no, ← HB.out.no, h])]; simp
      clear hr
      have j : ((no : Int) != (mo : Int)) = true := by simp only [bne_iff_ne, ne_eq]; omega
      go_enter Try.func18, Try.ntmps18
      go_upto_region 1 with fail
      rw [← hW2, show w.heap.size + 1 = b1 from e1.symm, show w.heap.size = b0 from e0.symm]
      clear hW2 e0 e1
      go_wp2_with fail
      go_ret
      exact ⟨rfl, HB2⟩
  · obtain rfl : false = r := by rw [← hr]; rw [decide_eq_false k1]; simp
    clear hr
    go_enter Try.func18, Try.ntmps18
    go_upto_region 1 with fail
    rw [← hW2, show w.heap.size + 1 = b1 from e1.symm, show w.heap.size = b0 from e0.symm]
    clear hW2 e0 e1
    go_wp2_with fail
    go_ret
    exact ⟨rfl, HB2⟩
end Go.Proofs.Ytfbfckdabbaocaa.St
