/-
  What is proved here: contracts of what holds two parts against one another: the document's Same, and parts.same. Conditions: counts fit an int.
-/
import Derived.Test.YtjcgejbggmpikaaPtW7
namespace Go.Proofs.Ytjcgejbggmpikaa.Pt
open Go.RowKit Gr Wd Ws

set_option maxRecDepth 100000 in
set_option maxHeartbeats 1000000 in
theorem rsameP_any (x y : Value) (P Q : Pt) (w : World) (hx : PtV w x P) (hy : PtV w y Q) (sP : Sm P) (sQ : Sm Q) :
    Calls Try.prog 17 #[x, y] w fun e w' => e = .returned (.bool (decide (P = Q))) ∧ Below w.heap.size w w' := by
  obtain ⟨A1, c1, A2, c2, A3, c3, rfl, h1, h2, h3⟩ := hx
  obtain ⟨B1, d1, B2, d2, B3, d3, rfl, g1, g2, g3⟩ := hy
  obtain ⟨Pw, Pk, Pn, Po, Pf, Pg⟩ := P
  obtain ⟨Qw, Qk, Qn, Qo, Qf, Qg⟩ := Q
  have hz := two_part w (.cells #[.int .i64 Pw, .int .i64 Pk, .int .i64 Pn, .slice A1 Po.length c1, .slice A2 Pf.length c2, .slice A3 Pg.length c3] 38) (.cells #[.int .i64 Qw, .int .i64 Qk, .int .i64 Qn, .slice B1 Qo.length d1, .slice B2 Qf.length d2, .slice B3 Qg.length d3] 38)
  have HZ := Lib.hid hz; clear hz
  have C1 := Lib.hid (fun W (h : Below w.heap.size w W) => rsameInts_any A1 B1 c1 d1 Po Qo W (h1.below h) (g1.below h) sP.own sQ.own)
  have C2 := Lib.hid (fun W (h : Below w.heap.size w W) => rsameRows_any A2 B2 c2 d2 Pf Qf W (h2.below h) (g2.below h) sP.out sQ.out sP.outs sQ.outs)
  have C3 := Lib.hid (fun W (h : Below w.heap.size w W) => rsameRows_any A3 B3 c3 d3 Pg Qg W (h3.below h) (g3.below h) sP.back sQ.back sP.backs sQ.backs)
  clear h1 h2 h3 g1 g2 g3 sP sQ
  obtain ⟨R, hR⟩ : ∃ R, decide ((⟨Pw, Pk, Pn, Po, Pf, Pg⟩ : Pt) = ⟨Qw, Qk, Qn, Qo, Qf, Qg⟩) = R := ⟨_, rfl⟩
  rw [hR]
  have hR2 : R = (decide (Pw = Qw) && (decide (Pk = Qk) && (decide (Pn = Qn) && (decide (Po = Qo) && (decide (Pf = Qf) && decide (Pg = Qg)))))) := by
    rw [← hR]; simp only [Pt.mk.injEq, Bool.decide_and]
  clear hR
  obtain ⟨b1, e1⟩ : ∃ b, decide (Po = Qo) = b := ⟨_, rfl⟩
  obtain ⟨b2, e2⟩ : ∃ b, decide (Pf = Qf) = b := ⟨_, rfl⟩
  obtain ⟨b3, e3⟩ : ∃ b, decide (Pg = Qg) = b := ⟨_, rfl⟩
  rw [e1] at C1 hR2; rw [e2] at C2 hR2; rw [e3] at C3 hR2
  obtain ⟨np1, hp1⟩ : ∃ n, n = Po.length := ⟨_, rfl⟩
  obtain ⟨np2, hp2⟩ : ∃ n, n = Pf.length := ⟨_, rfl⟩
  obtain ⟨np3, hp3⟩ : ∃ n, n = Pg.length := ⟨_, rfl⟩
  obtain ⟨nq1, hq1⟩ : ∃ n, n = Qo.length := ⟨_, rfl⟩
  obtain ⟨nq2, hq2⟩ : ∃ n, n = Qf.length := ⟨_, rfl⟩
  obtain ⟨nq3, hq3⟩ : ∃ n, n = Qg.length := ⟨_, rfl⟩
  simp only [← hp1, ← hp2, ← hp3, ← hq1, ← hq2, ← hq3] at C1 C2 C3 HZ ⊢
  clear e1 e2 e3 hp1 hp2 hp3 hq1 hq2 hq3
  obtain ⟨z, hz⟩ : ∃ z, z = (w.alloc (.cells #[.int .i64 Pw, .int .i64 Pk, .int .i64 Pn, .slice A1 np1 c1, .slice A2 np2 c2, .slice A3 np3 c3] 38)).alloc (.cells #[.int .i64 Qw, .int .i64 Qk, .int .i64 Qn, .slice B1 nq1 d1, .slice B2 nq2 d2, .slice B3 nq3 d3] 38) := ⟨_, rfl⟩
  rw [← hz] at HZ
  have HX : Hid (z.heap[w.heap.size]? = some (.cells #[.int .i64 Pw, .int .i64 Pk, .int .i64 Pn, .slice A1 np1 c1, .slice A2 np2 c2, .slice A3 np3 c3] 38 (0, 0))) := Lib.hid (by rw [hz]; exact heap_alloc2_old w _ _)
  have HY : Hid (z.heap[w.heap.size + 1]? = some (.cells #[.int .i64 Qw, .int .i64 Qk, .int .i64 Qn, .slice B1 nq1 d1, .slice B2 nq2 d2, .slice B3 nq3 d3] 38 (0, 0))) := Lib.hid (by rw [hz]; exact heap_alloc2_new w _ _)
  have HW := Lib.hid hz; clear hz
  obtain ⟨x0, x1, x2, x3, x4, x5, _, _, _, _, _, _, xl⟩ := six HX.out
  obtain ⟨y0, y1, y2, y3, y4, y5, _, _, _, _, _, _, yl⟩ := six HY.out
  by_cases k1 : Pw = Qw
  · subst k1
    by_cases k2 : Pk = Qk
    · subst k2
      by_cases k3 : Pn = Qn
      · subst k3
        have HR : Hid (R = (b1 && (b2 && b3))) := Lib.hid (by rw [hR2]; simp)
        clear hR2
        go_enter Try.func17, Try.ntmps17
        go_wp2_with fail
        rw [← HW.out]
        go_wp2_with fail
        refine (C1.out _ HZ.out).mono ?_
        rintro e w1 ⟨rfl, hb1⟩
        have HZ1 := Lib.hid (HZ.out.trans (hb1.mono HZ.out.size))
        have HX1 := Lib.hid ((hb1.block _ xl).trans HX.out)
        have HY1 := Lib.hid ((hb1.block _ yl).trans HY.out)
        clear hb1 x0 x1 x2 x3 x4 x5 xl y0 y1 y2 y3 y4 y5 yl
        cases b1 with
        | false =>
          go_wp2_with fail
          go_ret
          exact ⟨ret_b (by rw [HR.out]; rfl), HZ1.out⟩
        | true =>
          obtain ⟨x0, x1, x2, x3, x4, x5, _, _, _, _, _, _, xl⟩ := six HX1.out
          obtain ⟨y0, y1, y2, y3, y4, y5, _, _, _, _, _, _, yl⟩ := six HY1.out
          go_wp2_with fail
          refine (C2.out _ HZ1.out).mono ?_
          rintro e w2 ⟨rfl, hb2⟩
          have HZ2 := Lib.hid (HZ1.out.trans (hb2.mono HZ1.out.size))
          have HX2 := Lib.hid ((hb2.block _ xl).trans HX1.out)
          have HY2 := Lib.hid ((hb2.block _ yl).trans HY1.out)
          clear hb2 x0 x1 x2 x3 x4 x5 xl y0 y1 y2 y3 y4 y5 yl
          cases b2 with
          | false =>
            go_wp2_with fail
            go_ret
            exact ⟨ret_b (by rw [HR.out]; rfl), HZ2.out⟩
          | true =>
            obtain ⟨x0, x1, x2, x3, x4, x5, _, _, _, _, _, _, xl⟩ := six HX2.out
            obtain ⟨y0, y1, y2, y3, y4, y5, _, _, _, _, _, _, yl⟩ := six HY2.out
            go_wp2_with fail
            refine (C3.out _ HZ2.out).mono ?_
            rintro e w3 ⟨rfl, hb3⟩
            have HZ3 := Lib.hid (HZ2.out.trans (hb3.mono HZ2.out.size))
            clear hb3 x0 x1 x2 x3 x4 x5 xl y0 y1 y2 y3 y4 y5 yl
            go_wp2_with fail
            go_ret
            exact ⟨ret_b (by rw [HR.out]; rfl), HZ3.out⟩
      · have HR : Hid (R = false) := Lib.hid (by rw [hR2]; simp [k3])
        clear hR2
        go_enter Try.func17, Try.ntmps17
        go_wp2_with fail
        rw [← HW.out]
        go_wp2_with fail
        go_ret
        exact ⟨ret_b (by rw [HR.out]), HZ.out⟩
    · have HR : Hid (R = false) := Lib.hid (by rw [hR2]; simp [k2])
      clear hR2
      go_enter Try.func17, Try.ntmps17
      go_wp2_with fail
      rw [← HW.out]
      go_wp2_with fail
      go_ret
      exact ⟨ret_b (by rw [HR.out]), HZ.out⟩
  · have HR : Hid (R = false) := Lib.hid (by rw [hR2]; simp [k1])
    clear hR2
    go_enter Try.func17, Try.ntmps17
    go_wp2_with fail
    rw [← HW.out]
    go_wp2_with fail
    go_ret
    exact ⟨ret_b (by rw [HR.out]), HZ.out⟩

set_option maxRecDepth 100000 in
set_option maxHeartbeats 1000000 in
theorem sameP_any (x y : Value) (P Q : Pt) (w : World) (hx : PtV w x P) (hy : PtV w y Q) (sP : Sm P) (sQ : Sm Q) :
    Calls Try.prog 39 #[x, y] w fun e w' => e = .returned (.bool (decide (P = Q))) ∧ Below w.heap.size w w' := by
  obtain ⟨A1, c1, A2, c2, A3, c3, rfl, h1, h2, h3⟩ := hx
  obtain ⟨B1, d1, B2, d2, B3, d3, rfl, g1, g2, g3⟩ := hy
  obtain ⟨Pw, Pk, Pn, Po, Pf, Pg⟩ := P
  obtain ⟨Qw, Qk, Qn, Qo, Qf, Qg⟩ := Q
  have hz := two_part w (.cells #[.int .i64 Pw, .int .i64 Pk, .int .i64 Pn, .slice A1 Po.length c1, .slice A2 Pf.length c2, .slice A3 Pg.length c3] 34) (.cells #[.int .i64 Qw, .int .i64 Qk, .int .i64 Qn, .slice B1 Qo.length d1, .slice B2 Qf.length d2, .slice B3 Qg.length d3] 34)
  have HZ := Lib.hid hz; clear hz
  have C1 := Lib.hid (fun W (h : Below w.heap.size w W) => equalI_any A1 B1 c1 d1 Po Qo W (h1.below h) (g1.below h) sP.own sQ.own)
  have C2 := Lib.hid (fun W (h : Below w.heap.size w W) => sameRows_any A2 B2 c2 d2 Pf Qf W (h2.below h) (g2.below h) sP.out sQ.out sP.outs sQ.outs)
  have C3 := Lib.hid (fun W (h : Below w.heap.size w W) => sameRows_any A3 B3 c3 d3 Pg Qg W (h3.below h) (g3.below h) sP.back sQ.back sP.backs sQ.backs)
  clear h1 h2 h3 g1 g2 g3 sP sQ
  obtain ⟨R, hR⟩ : ∃ R, decide ((⟨Pw, Pk, Pn, Po, Pf, Pg⟩ : Pt) = ⟨Qw, Qk, Qn, Qo, Qf, Qg⟩) = R := ⟨_, rfl⟩
  rw [hR]
  have hR2 : R = (decide (Pw = Qw) && (decide (Pk = Qk) && (decide (Pn = Qn) && (decide (Po = Qo) && (decide (Pf = Qf) && decide (Pg = Qg)))))) := by
    rw [← hR]; simp only [Pt.mk.injEq, Bool.decide_and]
  clear hR
  obtain ⟨b1, e1⟩ : ∃ b, decide (Po = Qo) = b := ⟨_, rfl⟩
  obtain ⟨b2, e2⟩ : ∃ b, decide (Pf = Qf) = b := ⟨_, rfl⟩
  obtain ⟨b3, e3⟩ : ∃ b, decide (Pg = Qg) = b := ⟨_, rfl⟩
  rw [e1] at C1 hR2; rw [e2] at C2 hR2; rw [e3] at C3 hR2
  obtain ⟨np1, hp1⟩ : ∃ n, n = Po.length := ⟨_, rfl⟩
  obtain ⟨np2, hp2⟩ : ∃ n, n = Pf.length := ⟨_, rfl⟩
  obtain ⟨np3, hp3⟩ : ∃ n, n = Pg.length := ⟨_, rfl⟩
  obtain ⟨nq1, hq1⟩ : ∃ n, n = Qo.length := ⟨_, rfl⟩
  obtain ⟨nq2, hq2⟩ : ∃ n, n = Qf.length := ⟨_, rfl⟩
  obtain ⟨nq3, hq3⟩ : ∃ n, n = Qg.length := ⟨_, rfl⟩
  simp only [← hp1, ← hp2, ← hp3, ← hq1, ← hq2, ← hq3] at C1 C2 C3 HZ ⊢
  clear e1 e2 e3 hp1 hp2 hp3 hq1 hq2 hq3
  obtain ⟨z, hz⟩ : ∃ z, z = (w.alloc (.cells #[.int .i64 Pw, .int .i64 Pk, .int .i64 Pn, .slice A1 np1 c1, .slice A2 np2 c2, .slice A3 np3 c3] 34)).alloc (.cells #[.int .i64 Qw, .int .i64 Qk, .int .i64 Qn, .slice B1 nq1 d1, .slice B2 nq2 d2, .slice B3 nq3 d3] 34) := ⟨_, rfl⟩
  rw [← hz] at HZ
  have HX : Hid (z.heap[w.heap.size]? = some (.cells #[.int .i64 Pw, .int .i64 Pk, .int .i64 Pn, .slice A1 np1 c1, .slice A2 np2 c2, .slice A3 np3 c3] 34 (0, 0))) := Lib.hid (by rw [hz]; exact heap_alloc2_old w _ _)
  have HY : Hid (z.heap[w.heap.size + 1]? = some (.cells #[.int .i64 Qw, .int .i64 Qk, .int .i64 Qn, .slice B1 nq1 d1, .slice B2 nq2 d2, .slice B3 nq3 d3] 34 (0, 0))) := Lib.hid (by rw [hz]; exact heap_alloc2_new w _ _)
  have HW := Lib.hid hz; clear hz
  obtain ⟨x0, x1, x2, x3, x4, x5, _, _, _, _, _, _, xl⟩ := six HX.out
  obtain ⟨y0, y1, y2, y3, y4, y5, _, _, _, _, _, _, yl⟩ := six HY.out
  by_cases k1 : Pw = Qw
  · subst k1
    by_cases k2 : Pk = Qk
    · subst k2
      by_cases k3 : Pn = Qn
      · subst k3
        have HR : Hid (R = (b1 && (b2 && b3))) := Lib.hid (by rw [hR2]; simp)
        clear hR2
        go_enter Try.func39, Try.ntmps39
        go_wp2_with fail
        rw [← HW.out]
        go_wp2_with fail
        refine (C1.out _ HZ.out).mono ?_
        rintro e w1 ⟨rfl, hb1⟩
        have HZ1 := Lib.hid (HZ.out.trans (hb1.mono HZ.out.size))
        have HX1 := Lib.hid ((hb1.block _ xl).trans HX.out)
        have HY1 := Lib.hid ((hb1.block _ yl).trans HY.out)
        clear hb1 x0 x1 x2 x3 x4 x5 xl y0 y1 y2 y3 y4 y5 yl
        cases b1 with
        | false =>
          go_wp2_with fail
          go_ret
          exact ⟨ret_b (by rw [HR.out]; rfl), HZ1.out⟩
        | true =>
          obtain ⟨x0, x1, x2, x3, x4, x5, _, _, _, _, _, _, xl⟩ := six HX1.out
          obtain ⟨y0, y1, y2, y3, y4, y5, _, _, _, _, _, _, yl⟩ := six HY1.out
          go_wp2_with fail
          refine (C2.out _ HZ1.out).mono ?_
          rintro e w2 ⟨rfl, hb2⟩
          have HZ2 := Lib.hid (HZ1.out.trans (hb2.mono HZ1.out.size))
          have HX2 := Lib.hid ((hb2.block _ xl).trans HX1.out)
          have HY2 := Lib.hid ((hb2.block _ yl).trans HY1.out)
          clear hb2 x0 x1 x2 x3 x4 x5 xl y0 y1 y2 y3 y4 y5 yl
          cases b2 with
          | false =>
            go_wp2_with fail
            go_ret
            exact ⟨ret_b (by rw [HR.out]; rfl), HZ2.out⟩
          | true =>
            obtain ⟨x0, x1, x2, x3, x4, x5, _, _, _, _, _, _, xl⟩ := six HX2.out
            obtain ⟨y0, y1, y2, y3, y4, y5, _, _, _, _, _, _, yl⟩ := six HY2.out
            go_wp2_with fail
            refine (C3.out _ HZ2.out).mono ?_
            rintro e w3 ⟨rfl, hb3⟩
            have HZ3 := Lib.hid (HZ2.out.trans (hb3.mono HZ2.out.size))
            clear hb3 x0 x1 x2 x3 x4 x5 xl y0 y1 y2 y3 y4 y5 yl
            go_wp2_with fail
            go_ret
            exact ⟨ret_b (by rw [HR.out]; rfl), HZ3.out⟩
      · have HR : Hid (R = false) := Lib.hid (by rw [hR2]; simp [k3])
        clear hR2
        go_enter Try.func39, Try.ntmps39
        go_wp2_with fail
        rw [← HW.out]
        go_wp2_with fail
        go_ret
        exact ⟨ret_b (by rw [HR.out]), HZ.out⟩
    · have HR : Hid (R = false) := Lib.hid (by rw [hR2]; simp [k2])
      clear hR2
      go_enter Try.func39, Try.ntmps39
      go_wp2_with fail
      rw [← HW.out]
      go_wp2_with fail
      go_ret
      exact ⟨ret_b (by rw [HR.out]), HZ.out⟩
  · have HR : Hid (R = false) := Lib.hid (by rw [hR2]; simp [k1])
    clear hR2
    go_enter Try.func39, Try.ntmps39
    go_wp2_with fail
    rw [← HW.out]
    go_wp2_with fail
    go_ret
    exact ⟨ret_b (by rw [HR.out]), HZ.out⟩

end Go.Proofs.Ytjcgejbggmpikaa.Pt
