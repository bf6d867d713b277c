/-
  What is proved here: the law's function StatesPut returns true: whether a part is right, and its bytes, are the document's. Condition: lengths fit an int.
-/
import Derived.Test.YtfbfckdabbaocaaQaStPl
import Derived.Test.YtfbfckdabbaocaaQaStR4
namespace Go.Proofs.Ytfbfckdabbaocaa.St
open Go.RowKit Gr Wd Ws Fx Rk Lb Al In
open Sq (BAt BOwn QOwn bls)
open Fld (dg num)
set_option maxRecDepth 100000 in
set_option maxHeartbeats 16000000 in
theorem law_put (p : Pr) (Ao Av Ac Ai : Option Addr) (no nv nc ni co cv cc ci : Nat) (w : World) (h : PAt w Ao Av Ac Ai no nv nc ni p) (h1 : no ≤ 9223372036854775807) (h2 : nv ≤ 9223372036854775807) (h3 : nc ≤ 9223372036854775807) (h4 : ni ≤ 9223372036854775807) :
    Calls Try.prog 3 #[.agg #[.int .i64 p.st, .slice Ao no co, .slice Av nv cv, .slice Ac nc cc, .slice Ai ni ci]] w fun e w' => e = .returned (.bool true) ∧ Hid (Below w.heap.size w w') := by
  have mixed := mixedI
  obtain ⟨s, hs⟩ : ∃ s, p.st = s := ⟨_, rfl⟩
  rw [hs]
  have hbox := heap_alloc_new w (.cells #[.int .i64 s, .slice Ao no co, .slice Av nv cv, .slice Ac nc cc, .slice Ai ni ci] 27)
  have hb1 : Below w.heap.size w (w.alloc (.cells #[.int .i64 s, .slice Ao no co, .slice Av nv cv, .slice Ac nc cc, .slice Ai ni ci] 27)) := (Below.refl _ w).alloc (Nat.le_refl _) _
  obtain ⟨W1, hW1⟩ : ∃ W1, W1 = w.alloc (.cells #[.int .i64 s, .slice Ao no co, .slice Av nv cv, .slice Ac nc cc, .slice Ai ni ci] 27) := ⟨_, rfl⟩
  obtain ⟨b1, e1⟩ : ∃ b1, b1 = w.heap.size := ⟨_, rfl⟩
  rw [← hW1] at hbox hb1
  rw [← e1] at hbox
  have HB1 := Lib.hid hb1
  have HX1 := Lib.hid hbox
  have HP := Lib.hid h
  have HS := Lib.hid hs
  have HFw := Lib.hid (few_any s Ao Av Ac Ai no nv nc ni co cv cc ci W1)
  obtain ⟨c0, c1, c2, c3, c4, _⟩ := five hbox
  clear hbox hb1 h hs
  go_enter Try.func3, Try.ntmps3
  go_upto_region 1 with fail
  rw [← hW1, show w.heap.size = b1 from e1.symm]
  clear hW1 e1
  go_wp2_with fail
  refine HFw.out.mono ?_
  rintro e w2 ⟨rfl, hb2⟩
  have HB2 := Lib.hid (step_below HB1.out HB1.out.size hb2.out)
  have HX2 := Lib.hid (keep HX1.out hb2.out)
  clear hb2 HFw c0 c1 c2 c3 c4
  obtain ⟨c0, c1, c2, c3, c4, _⟩ := five HX2.out
  by_cases hfew : Few no nv nc ni
  · rw [decide_eq_true hfew]
    clear hfew
    obtain ⟨l, hl⟩ : ∃ l, (putR p).1 = l := ⟨_, rfl⟩
    obtain ⟨E, hE⟩ : ∃ E, (putR p).2 = E := ⟨_, rfl⟩
    have HPU := Lib.hid (pput_any p Ao Av Ac Ai no nv nc ni co cv cc ci w2 (HP.out.below HB2.out) h1 h2 h3 h4)
    rw [HS.out] at HPU
    have HRE : Hid (putR p = (l, E)) := Lib.hid (by rw [← hl, ← hE])
    rw [HRE.out] at HPU
    clear hl hE
    go_wp2_with fail
    refine HPU.out.mono ?_
    rintro e w3 ⟨A1, n1, c1', rfl, ha, hb⟩
    have HB3 := Lib.hid (step_below HB2.out HB2.out.size hb.out)
    have HX3 := Lib.hid (keep HX2.out hb.out)
    have HA3 : Hid (Fd.At w3 A1 l ∧ n1 = l.length) := Lib.hid ⟨ha.out.1, ha.out.2.1⟩
    clear ha hb HPU c0 c1 c2 c3 c4 HX2
    obtain ⟨c0, c1, c2, c3, c4, _⟩ := five HX3.out
    have HPL := Lib.hid (plain_any s Ao Av Ac Ai no nv nc ni co cv cc ci w3)
    go_wp2_with fail
    refine HPL.out.mono ?_
    rintro e w4 ⟨rfl, hb⟩
    have HB4 := Lib.hid (step_below HB3.out HB3.out.size hb.out)
    have HX4 := Lib.hid (keep HX3.out hb.out)
    have HA4 := Lib.hid (HA3.out.1.below hb.out)
    clear hb HPL c0 c1 c2 c3 c4 HX3
    have HRU := Lib.hid (rput_any p Ao Av Ac Ai no nv nc ni co cv cc ci w4 (HP.out.below HB4.out) h1 h2 h3 h4)
    rw [HS.out, HRE.out] at HRU
    go_wp2_with fail
    refine HRU.out.mono ?_
    rintro e w5 ⟨A2, n2, c2', rfl, ha, hb⟩
    have HB5 := Lib.hid (step_below HB4.out HB4.out.size hb.out)
    have HX5 := Lib.hid (keep HX4.out hb.out)
    obtain ⟨S, hS⟩ : ∃ S, Fd.str l = S := ⟨_, rfl⟩
    have cvA := conS (c := c1') (HA4.out.below hb.out) HA3.out.2 hS
    have cvB := conS (c := c2') ha.out.1 ha.out.2 hS
    clear ha hb HRU HX4 HA4 hS
    obtain ⟨c0, c1, c2, c3, c4, _⟩ := five HX5.out
    obtain ⟨r, hr⟩ : ∃ r, decide (Rgt p) = r := ⟨_, rfl⟩
    have HQ1 := Lib.hid (regS (w := w5) fun W hW => (show Calls Try.prog 14 #[.agg #[.int .i64 s, .slice Ao no co, .slice Av nv cv, .slice Ac nc cc, .slice Ai ni ci]] W fun e w' => e = .returned (.bool r) ∧ Hid (Below W.heap.size W w') from by
      have := right_any p Ao Av Ac Ai no nv nc ni co cv cc ci W (HP.out.below (step_below HB5.out HB5.out.size hW)) h1 h2 h3 h4
      rw [HS.out, hr] at this; exact this))
    have HQ2 := Lib.hid (regS (w := w5) fun W _ => plain_any s Ao Av Ac Ai no nv nc ni co cv cc ci W)
    have HQ3 := Lib.hid (regS (w := w5) fun W hW => (show Calls Try.prog 15 #[.agg #[.int .i64 s, .slice Ao no co, .slice Av nv cv, .slice Ac nc cc, .slice Ai ni ci]] W fun e w' => e = .returned (.bool r) ∧ Hid (Below W.heap.size W w') from by
      have := rright_any p Ao Av Ac Ai no nv nc ni co cv cc ci W (HP.out.below (step_below HB5.out HB5.out.size hW)) h1 h2 h3 h4
      rw [HS.out, hr] at this; exact this))
    have HQ4 := Lib.hid (regS (w := w5) fun W _ => works_any W)
    clear hr
    go_upto_region 5 with fail
    have z0 := cell_regrown c0; have z1 := cell_regrown c1; have z2 := cell_regrown c2; have z3 := cell_regrown c3; have z4 := cell_regrown c4
    clear c0 c1 c2 c3 c4
    refine wp_region_quiet_below mixed (by kernel_rfl) ?_
    repeat (go_big_quiet_step ((with_reducible first | exact HQ1.out _ _ | exact HQ2.out _ _ | exact HQ3.out _ _ | exact HQ4.out _ _)))
    refine wpQuiet_nil ?_
    intro _ hw'
    obtain ⟨⟨dq, osq⟩, hw''⟩ := hw'
    subst hw''
    have HB6 := Lib.hid (step_below HB5.out HB5.out.size (below_regrown w5 dq osq))
    clear z0 z1 z2 z3 z4 HQ1 HQ2 HQ3 HQ4 cvA cvB
    go_wp2
    go_ret
    exact ⟨rfl, HB6⟩
  · rw [decide_eq_false hfew]
    clear hfew
    go_wp2_with fail
    refine (works_any _).mono ?_
    rintro e wz ⟨rfl, hbz⟩
    have HBz := Lib.hid (step_below HB2.out HB2.out.size hbz.out)
    clear hbz
    go_wp2_with fail
    go_ret
    exact ⟨rfl, HBz⟩
end Go.Proofs.Ytfbfckdabbaocaa.St
