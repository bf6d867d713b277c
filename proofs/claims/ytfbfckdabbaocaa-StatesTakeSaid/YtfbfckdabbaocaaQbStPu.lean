/-
  What is proved here: a contract of states.Put: a part's bytes, or its refusal. Condition: lengths fit an int.
-/
import Derived.Test.YtfbfckdabbaocaaQbStR5x
import Derived.Test.YtfbfckdabbaocaaQbFW3
namespace Go.Proofs.Ytfbfckdabbaocaa.St
open Go.RowKit Gr Wd Ws Fx Rk Lb Al In
open Sq (BAt BOwn QOwn bls)
open Fld (dg)
theorem dg_one (n : Nat) (h : n < 256) : dg 1 n = [n] := by
  show dg 0 _ ++ [n % 256] = [n]
  rw [Nat.mod_eq_of_lt h]; rfl
theorem flg_lt (c h : Bool) : flg c h < 256 := by unfold flg; cases c <;> cases h <;> decide
theorem flat_len : ∀ l : List En, (l.flatMap putE).length ≤ 19 * l.length
  | [] => by simp
  | e :: l => by
    rw [List.flatMap_cons, List.length_append, putE_len, List.length_cons]
    have := flat_len l
    split <;> omega
def hdP (p : Pr) : List Nat := dg 4 p.st.toNat ++ dg 2 p.own.length
def upP (p : Pr) (j : Nat) : List Nat := hdP p ++ ((ents p).take j).flatMap putE
theorem upP_len (p : Pr) (j : Nat) (h : p.own.length ≤ 512) : (upP p j).length ≤ 9734 := by
  unfold upP hdP
  rw [List.length_append, List.length_append, Fld.dg_length, Fld.dg_length]
  have h1 := flat_len ((ents p).take j)
  rw [List.length_take, ents_len] at h1
  omega
theorem upP_next (p : Pr) {j : Nat} (h : j < p.own.length) : upP p (j + 1) = upP p j ++ putE (entP p j) := by
  unfold upP
  rw [take_at (ents_at h), List.flatMap_append, ← List.append_assoc]
  simp
theorem upP_all (p : Pr) : upP p p.own.length = putP p := by
  unfold upP hdP putP
  rw [List.take_of_length_le (by rw [ents_len]; exact Nat.le_refl _), List.append_assoc]
def putR (p : Pr) : List Nat × Int := if Rgt p then (putP p, 0) else ([], 4)
def ResB (w w' : World) (e : Ending) (r : List Nat × Int) : Prop := ∃ A n c, e = .returned (.tuple #[.slice A n c, .int .i64 r.2]) ∧ Hid (Fd.At w' A r.1 ∧ n = r.1.length ∧ n ≤ c ∧ n ≤ 9734 ∧ (0 < n → ∃ g, A = some ⟨g, 0, none⟩ ∧ w.heap.size ≤ g)) ∧ Hid (Below w.heap.size w w')
structure PuH (w wr : World) (b1 b4 lo : Nat) (cs : Array Value) (l : List Nat) : Prop where
  below : Below w.heap.size w wr
  box : wr.heap[b1]? = some (.cells cs 27 (0, 0))
  wrt : Fd.Wr wr lo b4 l
  lo : lo ≤ wr.heap.size
  ne : w.heap.size ≤ b4 ∧ b1 ≠ b4
theorem PuH.step {w wr w' : World} {b1 b4 lo : Nat} {cs : Array Value} {l l' : List Nat} (h : PuH w wr b1 b4 lo cs l) (hw : Fd.Wr w' lo b4 l') (hg : wr.grownBy w' (some b4)) : PuH w w' b1 b4 lo cs l' :=
  ⟨Below.grown h.below hg h.below.size fun k e => by injection e with e; have := h.ne.1; omega, (hg.block b1 (lt_of_block h.box) fun e => by injection e with e; exact h.ne.2 e).trans h.box, hw, Nat.le_trans h.lo hg.size, h.ne⟩
theorem PuH.drew {w wr : World} {b1 b4 lo : Nat} {cs : Array Value} {l : List Nat} (h : PuH w wr b1 b4 lo cs l) : PuH w wr.drew b1 b4 lo cs l :=
  ⟨h.below.trans ((Below.refl _ wr).drew.mono h.below.size), keep h.box ((Below.refl _ wr).drew), h.wrt.below ((Below.refl _ wr).drew), h.lo, h.ne⟩
def PuRel (w : World) (b1 b4 lo : Nat) (cs : Array Value) (p : Pr) (g : Nat) (i : Value) (wr : World) : Prop :=
  ∃ j : Nat, j + g = p.own.length ∧ i = .int .i64 (j : Int) ∧ Hid (PuH w wr b1 b4 lo cs (upP p j))
set_option maxRecDepth 100000 in
set_option maxHeartbeats 8000000 in
theorem pput_any (p : Pr) (Ao Av Ac Ai : Option Addr) (no nv nc ni co cv cc ci : Nat) (w : World) (h : PAt w Ao Av Ac Ai no nv nc ni p) (h1 : no ≤ 9223372036854775807) (h2 : nv ≤ 9223372036854775807) (h3 : nc ≤ 9223372036854775807) (h4 : ni ≤ 9223372036854775807) :
    Calls Try.prog 11 #[.agg #[.int .i64 p.st, .slice Ao no co, .slice Av nv cv, .slice Ac nc cc, .slice Ai ni ci]] w fun e w' => ResB w w' e (putR p) := by
  have mixed := mixedI
  have hbox := heap_alloc_new w (.cells #[.int .i64 p.st, .slice Ao no co, .slice Av nv cv, .slice Ac nc cc, .slice Ai ni ci] 27)
  have hb1 : Below w.heap.size w (w.alloc (.cells #[.int .i64 p.st, .slice Ao no co, .slice Av nv cv, .slice Ac nc cc, .slice Ai ni ci] 27)) := (Below.refl _ w).alloc (Nat.le_refl _) _
  obtain ⟨W1, hW1⟩ : ∃ W1, W1 = w.alloc (.cells #[.int .i64 p.st, .slice Ao no co, .slice Av nv cv, .slice Ac nc cc, .slice Ai ni ci] 27) := ⟨_, rfl⟩
  obtain ⟨b1, e1⟩ : ∃ b1, b1 = w.heap.size := ⟨_, rfl⟩
  rw [← hW1] at hbox hb1
  rw [← e1] at hbox
  have HG1 : Hid (w.heap.size ≤ b1) := Lib.hid (by omega)
  have HB1 := Lib.hid hb1
  have HX1 := Lib.hid hbox
  have HP := Lib.hid h
  have HRt := Lib.hid (right_any p Ao Av Ac Ai no nv nc ni co cv cc ci W1 (h.below hb1) h1 h2 h3 h4)
  obtain ⟨c0, c1, c2, c3, c4, _⟩ := five hbox
  clear hbox hb1 h
  by_cases hr : Rgt p
  · rw [show putR p = (putP p, 0) from if_pos hr]
    rw [decide_eq_true hr] at HRt
    obtain ⟨sn, hsn⟩ : ∃ sn : Nat, p.st = (sn : Int) := ⟨p.st.toNat, by have := hr.1; omega⟩
    have hs2 : sn ≤ 2000 := by have := hr.1; omega
    have hn5 := rgt_few hr
    rw [HP.out.no] at hn5
    rw [hsn] at c0 hW1 HX1 HRt ⊢
    have HSN := Lib.hid hsn
    have HRG := Lib.hid hr
    clear hr hsn
    go_enter Try.func11, Try.ntmps11
    go_upto_region 1 with fail
    rw [← hW1, show w.heap.size = b1 from e1.symm]
    clear hW1 e1
    go_wp2_with fail
    refine HRt.out.mono ?_
    rintro e w2 ⟨rfl, hb2⟩
    have HB2 := Lib.hid (step_below HB1.out HB1.out.size hb2.out)
    have HX2 := Lib.hid (keep HX1.out hb2.out)
    clear hb2 HRt c0 c1 c2 c3 c4
    obtain ⟨c0, c1, c2, c3, c4, _⟩ := five HX2.out
    go_upto_region 4 with fail
    have hw4 := heap_alloc_new w2 (.cells #[.pointer none] 64)
    have HB4 : Hid (Below w.heap.size w (w2.alloc (.cells #[.pointer none] 64))) := Lib.hid (HB2.out.alloc HB2.out.size _)
    have hx4 := keep HX2.out ((Below.refl _ w2).alloc (Nat.le_refl _) (.cells #[.pointer none] 64))
    have hsz : (w2.alloc (.cells #[.pointer none] 64)).heap.size = w2.heap.size + 1 := by simp
    obtain ⟨W4, hW4⟩ : ∃ W4, W4 = w2.alloc (.cells #[.pointer none] 64) := ⟨_, rfl⟩
    obtain ⟨b4, e4⟩ : ∃ b4, b4 = w2.heap.size := ⟨_, rfl⟩
    rw [← hW4] at hw4 HB4 hx4 hsz
    rw [← e4] at hw4 hsz
    have HU0 : Hid (PuH w W4 b1 b4 W4.heap.size #[.int .i64 (sn : Int), .slice Ao no co, .slice Av nv cv, .slice Ac nc cc, .slice Ai ni ci] []) := Lib.hid ⟨HB4.out, hx4, Fd.Wr.new W4 W4.heap.size b4 hw4 (by omega), Nat.le_refl _, by have := HB2.out.size; omega, by have := lt_of_block HX2.out; omega⟩
    rw [← hW4, show w2.heap.size = b4 from e4.symm]
    obtain ⟨lo, hlo⟩ : ∃ lo, W4.heap.size = lo := ⟨_, rfl⟩
    rw [hlo] at HU0
    clear hW4 e4 hw4 hx4 hsz hlo HB4 c0 c1 c2 c3 c4
    obtain ⟨c0, c1, c2, c3, c4, _⟩ := five HU0.out.box
    have HCw := Lib.hid (Fd.wr32 lo b4 sn [] W4 HU0.out.wrt (by omega) HU0.out.lo (by simp))
    have hno : no ≤ 512 := hn5
    go_wp2_with fail
    refine HCw.out.mono ?_
    rintro e w5 ⟨rfl, hw5, hg5⟩
    have HU5 := Lib.hid (HU0.out.step hw5 hg5)
    clear hw5 hg5 HCw c0 c1 c2 c3 c4 HU0
    obtain ⟨c0, c1, c2, c3, c4, _⟩ := five HU5.out.box
    have HCw := Lib.hid (Fd.wr16 lo b4 no _ w5 HU5.out.wrt (by omega) HU5.out.lo (by simp [Fld.dg_length]))
    go_wp2_with fail
    refine HCw.out.mono ?_
    rintro e w6 ⟨rfl, hw6, hg6⟩
    have HU6 : Hid (PuH w w6 b1 b4 lo #[.int .i64 (sn : Int), .slice Ao no co, .slice Av nv cv, .slice Ac nc cc, .slice Ai ni ci] (upP p 0)) := Lib.hid (by
      have h := HU5.out.step hw6 hg6
      have e : upP p 0 = [] ++ dg 4 sn ++ dg 2 no := by
        unfold upP hdP
        rw [HSN.out, HP.out.no, Int.toNat_natCast]; simp
      rw [e]; exact h)
    clear hw6 hg6 HCw c0 c1 c2 c3 c4 HU5
    obtain ⟨c0, c1, c2, c3, c4, _⟩ := five HU6.out.box
    go_wp2_with fail
    go_loopg [22] no (fun g i wr => PuRel w b1 b4 lo #[.int .i64 (sn : Int), .slice Ao no co, .slice Av nv cv, .slice Ac nc cc, .slice Ai ni ci] p g i wr)
    case atStart => exact ⟨0, by have := HP.out.no; omega, rfl, HU6⟩
    case round =>
      obtain ⟨j, hj, rfl, HH⟩ := hrel
      rw [HP.out.no] at hj
      clear c0 c1 c2 c3 c4
      obtain ⟨c0, c1, c2, c3, c4, _⟩ := five HH.out.box
      by_cases hlt : j < no
      · obtain ⟨k1, k2, k3⟩ := HRG.out.2.1
        obtain ⟨q1, q2, _, q4, q5⟩ := HRG.out.2.2 j (by rw [HP.out.no]; exact hlt)
        have o1 := nu_at (l := p.own) (k := j) (by rw [HP.out.no]; exact hlt)
        have o2 := nu_at (l := p.vals) (k := j) (by rw [k1, HP.out.no]; exact hlt)
        have o3 := bo_at (l := p.chg) (k := j) (by rw [k2, HP.out.no]; exact hlt)
        have o4 := mi_at (l := p.inb) (k := j) (by rw [k3, HP.out.no]; exact hlt)
        have hnx := upP_next p (j := j) (by rw [HP.out.no]; exact hlt)
        obtain ⟨ch, hch⟩ : ∃ ch, bo p.chg j = ch := ⟨_, rfl⟩
        obtain ⟨⟨mh, my⟩, hml⟩ : ∃ m, mi p.inb j = m := ⟨_, rfl⟩
        obtain ⟨vn, hvn⟩ : ∃ n : Nat, nu p.own j = (n : Int) := ⟨(nu p.own j).toNat, by omega⟩
        obtain ⟨xn, hxn⟩ : ∃ n : Nat, nu p.vals j = (n : Int) := ⟨(nu p.vals j).toNat, by have := q4.1; omega⟩
        have hvb : vn < 512 := by omega
        have hxb : xn ≤ 4611686018427387904 := by have := q4.2; omega
        rw [hvn] at o1; rw [hxn] at o2; rw [hch] at o3; rw [hml] at o4 q5
        have HNX : Hid (upP p (j + 1) = upP p j ++ dg 2 vn ++ dg 8 xn ++ (if mh then flg ch true :: dg 8 my.toNat else [flg ch false])) := Lib.hid (by
          rw [hnx]
          unfold putE entP
          simp only [hvn, hxn, hch, hml, Int.toNat_natCast, List.append_assoc])
        obtain ⟨bo1, oo1, rfl, _⟩ := HP.out.o j _ o1
        obtain ⟨bv, ov, rfl, _⟩ := HP.out.v j _ o2
        obtain ⟨bc, oc, rfl, _⟩ := HP.out.c j _ o3
        obtain ⟨bi, oi, rfl, _, _⟩ := HP.out.i j _ o4
        have HDW : Hid (∀ W, Below w.heap.size w W → W.cell? ⟨bo1, oo1 + j, none⟩ = some (.int .i64 (vn : Int)) ∧ W.cell? ⟨bv, ov + j, none⟩ = some (.int .i64 (xn : Int)) ∧ W.cell? ⟨bc, oc + j, none⟩ = some (.bool ch) ∧ W.cell? ⟨bi, oi + j * 2, none⟩ = some (.bool mh) ∧ W.cell? ⟨bi, oi + j * 2 + 1, none⟩ = some (.int .i64 my)) := Lib.hid (by
          intro W hb
          refine ⟨?_, ?_, ?_, ?_, ?_⟩
          · obtain ⟨_, _, e, c⟩ := (HP.out.o.below hb) j _ o1; cases e; exact c
          · obtain ⟨_, _, e, c⟩ := (HP.out.v.below hb) j _ o2; cases e; exact c
          · obtain ⟨_, _, e, c⟩ := (HP.out.c.below hb) j _ o3; cases e; exact c
          · obtain ⟨_, _, e, c, _⟩ := (HP.out.i.below hb) j _ o4; cases e; exact c
          · obtain ⟨_, _, e, _, c⟩ := (HP.out.i.below hb) j _ o4; cases e; exact c)
        have hub := upP_len p j (by rw [HP.out.no]; exact hno)
        obtain ⟨L, hL⟩ : ∃ L, upP p j = L := ⟨_, rfl⟩
        rw [hL] at hub HH HNX
        have HQ5 := Lib.hid q5
        have hjv : j < nv := by have := HP.out.nv; have := HP.out.no; omega
        have hjc : j < nc := by have := HP.out.nc; have := HP.out.no; omega
        have hji : j < ni := by have := HP.out.ni; have := HP.out.no; omega
        clear hL hnx hch hml hvn hxn o1 o2 o3 o4 q1 q2 q4 q5 k1 k2 k3
        obtain ⟨d0, d1, d2, d3, d4⟩ := HDW.out wr HH.out.below
        have HCw := Lib.hid (Fd.wr16 lo b4 vn L wr HH.out.wrt (by omega) HH.out.lo (by omega))
        go_wp2_with fail
        refine HCw.out.mono ?_
        rintro e w5 ⟨rfl, hw5, hg5⟩
        have HU5 := Lib.hid (HH.out.step hw5 hg5)
        clear hw5 hg5 HCw c0 c1 c2 c3 c4 d0 d1 d2 d3 d4
        obtain ⟨c0, c1, c2, c3, c4, _⟩ := five HU5.out.box
        obtain ⟨d0, d1, d2, d3, d4⟩ := HDW.out w5 HU5.out.below
        have HCw := Lib.hid (Fd.wr64 lo b4 xn _ w5 HU5.out.wrt (by omega) HU5.out.lo (by rw [List.length_append, Fld.dg_length]; omega))
        go_wp2_with fail
        refine HCw.out.mono ?_
        rintro e w6 ⟨rfl, hw6, hg6⟩
        have HU6 := Lib.hid (HU5.out.step hw6 hg6)
        have hl6 : (L ++ dg 2 vn ++ dg 8 xn).length ≤ 9744 := by rw [List.length_append, List.length_append, Fld.dg_length, Fld.dg_length]; omega
        obtain ⟨L6, hL6⟩ : ∃ L6, L ++ dg 2 vn ++ dg 8 xn = L6 := ⟨_, rfl⟩
        rw [hL6] at HU6 HNX hl6
        clear hw6 hg6 HCw c0 c1 c2 c3 c4 d0 d1 d2 d3 d4 HU5 hL6
        obtain ⟨c0, c1, c2, c3, c4, _⟩ := five HU6.out.box
        obtain ⟨d0, d1, d2, d3, d4⟩ := HDW.out w6 HU6.out.below
        go_upto_region 11 with fail
        have hS : (fun W : World => W.cell? ⟨b1, 3, none⟩ = some (.slice (some ⟨bc, oc, none⟩) nc cc) ∧ W.cell? ⟨b1, 4, none⟩ = some (.slice (some ⟨bi, oi, none⟩) ni ci) ∧ W.cell? ⟨bc, oc + j, none⟩ = some (.bool ch) ∧ W.cell? ⟨bi, oi + j * 2, none⟩ = some (.bool mh)) w6.drew := ⟨c3, c4, d2, d3⟩
        have HUd := Lib.hid HU6.out.drew
        refine Tl.headX_region (S := (fun W : World => W.cell? ⟨b1, 3, none⟩ = some (.slice (some ⟨bc, oc, none⟩) nc cc) ∧ W.cell? ⟨b1, 4, none⟩ = some (.slice (some ⟨bi, oi, none⟩) ni ci) ∧ W.cell? ⟨bc, oc + j, none⟩ = some (.bool ch) ∧ W.cell? ⟨bi, oi + j * 2, none⟩ = some (.bool mh))) 12 mixed (by decide) ?_
        try dsimp only
        clear c0 c1 c2 c3 c4 d0 d1 d2 d3 d4 HU6
        refine Tl.headX_tk 0 ?v0_1 rfl (by kernel_rfl) (by decide) (by kernel_rfl) (by kernel_rfl) (by kernel_rfl) (fun _ _ _ h => h) (by rfl) (fun W hSw => ?hy0_1) hS ?_
        case hy0_1 => ((try dsimp only at hSw); go_simp; try with_reducible rfl)
        simp only [Act.put, List.setIfInBounds_toArray, List.set_cons_zero, List.set_cons_succ]
        refine Tl.headX_tk 1 ?v1_2 rfl (by kernel_rfl) (by decide) (by kernel_rfl) (by kernel_rfl) (by kernel_rfl) (fun _ _ _ h => h) (by rfl) (fun W hSw => ?hy1_2) hS ?_
        case hy1_2 => ((try dsimp only at hSw); go_simp; try with_reducible rfl)
        simp only [Act.put, List.setIfInBounds_toArray, List.set_cons_zero, List.set_cons_succ]
        refine Tl.headX_tk 2 ?v2_3 rfl (by kernel_rfl) (by decide) (by kernel_rfl) (by kernel_rfl) (by kernel_rfl) (fun _ _ _ h => h) (by rfl) (fun W hSw => ?hy2_3) hS ?_
        case hy2_3 => ((try dsimp only at hSw); go_simp; try with_reducible rfl)
        simp only [Act.put, List.setIfInBounds_toArray, List.set_cons_zero, List.set_cons_succ]
        refine Tl.headX_tk 3 ?v3_4 rfl (by kernel_rfl) (by decide) (by kernel_rfl) (by kernel_rfl) (by kernel_rfl) (fun _ _ _ h => h) (by rfl) (fun W hSw => ?hy3_4) hS ?_
        case hy3_4 => ((try dsimp only at hSw); go_simp; try with_reducible rfl)
        simp only [Act.put, List.setIfInBounds_toArray, List.set_cons_zero, List.set_cons_succ]
        refine Tl.headX_tk 4 ?v4_5 rfl (by kernel_rfl) (by decide) (by kernel_rfl) (by kernel_rfl) (by kernel_rfl) (fun _ _ _ h => h) (by rfl) (fun W hSw => ?hy4_5) hS ?_
        case hy4_5 => ((try dsimp only at hSw); go_simp; try with_reducible rfl)
        simp only [Act.put, List.setIfInBounds_toArray, List.set_cons_zero, List.set_cons_succ]
        refine Tl.headX_tk 5 ?v5_6 rfl (by kernel_rfl) (by decide) (by kernel_rfl) (by kernel_rfl) (by kernel_rfl) (fun _ _ _ h => h) (by rfl) (fun W hSw => ?hy5_6) hS ?_
        case hy5_6 => ((try dsimp only at hSw); go_simp; try with_reducible rfl)
        simp only [Act.put, List.setIfInBounds_toArray, List.set_cons_zero, List.set_cons_succ]
        refine Tl.headX_tk 6 ?v6_7 rfl (by kernel_rfl) (by decide) (by kernel_rfl) (by kernel_rfl) (by kernel_rfl) (fun _ _ _ h => h) (by rfl) (fun W hSw => ?hy6_7) hS ?_
        case hy6_7 => ((try dsimp only at hSw); go_simp; try with_reducible rfl)
        simp only [Act.put, List.setIfInBounds_toArray, List.set_cons_zero, List.set_cons_succ]
        refine Tl.headX_tk 7 ?v7_8 rfl (by kernel_rfl) (by decide) (by kernel_rfl) (by kernel_rfl) (by kernel_rfl) (fun _ _ _ h => h) (by rfl) (fun W hSw => ?hy7_8) hS ?_
        case hy7_8 => ((try dsimp only at hSw); go_simp; try with_reducible rfl)
        simp only [Act.put, List.setIfInBounds_toArray, List.set_cons_zero, List.set_cons_succ]
        refine Tl.headX_tk 8 ?v8_9 rfl (by kernel_rfl) (by decide) (by kernel_rfl) (by kernel_rfl) (by kernel_rfl) (fun _ _ _ h => h) (by rfl) (fun W hSw => ?hy8_9) hS ?_
        case hy8_9 => ((try dsimp only at hSw); go_simp; try with_reducible rfl)
        simp only [Act.put, List.setIfInBounds_toArray, List.set_cons_zero, List.set_cons_succ]
        refine Tl.headX_tk 9 ?v9_10 rfl (by kernel_rfl) (by decide) (by kernel_rfl) (by kernel_rfl) (by kernel_rfl) (fun _ _ _ h => h) (by rfl) (fun W hSw => ?hy9_10) hS ?_
        case hy9_10 => ((try dsimp only at hSw); go_simp; try with_reducible rfl)
        simp only [Act.put, List.setIfInBounds_toArray, List.set_cons_zero, List.set_cons_succ]
        refine Tl.headX_tk 10 ?v10_11 rfl (by kernel_rfl) (by decide) (by kernel_rfl) (by kernel_rfl) (by kernel_rfl) (fun _ _ _ h => h) (by rfl) (fun W hSw => ?hy10_11) hS ?_
        case hy10_11 => ((try dsimp only at hSw); go_simp; try with_reducible rfl)
        simp only [Act.put, List.setIfInBounds_toArray, List.set_cons_zero, List.set_cons_succ]
        have HMK : Hid (Calls Try.prog 30 #[.bool ch, .bool mh] w6.drew fun e w' => ∃ r, e = .returned r ∧ (r = .int .u8 ((flg ch mh : Nat) : Int) ∧ w6.drew = w')) := Lib.hid ((marks_any ch mh w6.drew).mono (by rintro e w' ⟨rfl, h⟩; exact ⟨_, rfl, rfl, h⟩))
        have HFl := Lib.hid (flg_lt ch mh)
        obtain ⟨fl, hfl⟩ : ∃ fl, flg ch mh = fl := ⟨_, rfl⟩
        rw [hfl] at HMK HFl
        have HFL := Lib.hid hfl
        clear hfl
        refine Tl.headX_cl 11 _ _ rfl (by decide) (by kernel_rfl) (by rfl) ?he11 HMK.out ?_
        case he11 => (go_simp; try with_reducible rfl)
        rintro r w7 ⟨rfl, rfl⟩
        refine ⟨hS, ?_⟩
        simp only [Act.put, List.setIfInBounds_toArray, List.set_cons_zero, List.set_cons_succ]
        refine Tl.headX_rest (by kernel_rfl) ?_
        simp only [List.drop_succ_cons, List.drop_zero]
        clear hS HMK
        have HCw := Lib.hid (Fd.wr8 lo b4 fl L6 w6.drew HUd.out.wrt HFl.out HUd.out.lo (by omega))
        go_wp2_with fail
        refine HCw.out.mono ?_
        rintro e w7 ⟨rfl, hw7, hg7⟩
        have HU7 : Hid (PuH w w7 b1 b4 lo #[.int .i64 (sn : Int), .slice (some ⟨bo1, oo1, none⟩) no co, .slice (some ⟨bv, ov, none⟩) nv cv, .slice (some ⟨bc, oc, none⟩) nc cc, .slice (some ⟨bi, oi, none⟩) ni ci] (L6 ++ [fl])) := Lib.hid (by
          have h := HUd.out.step hw7 hg7
          rw [dg_one fl HFl.out] at h; exact h)
        clear hw7 hg7 HCw HUd
        obtain ⟨c0, c1, c2, c3, c4, _⟩ := five HU7.out.box
        obtain ⟨d0, d1, d2, d3, d4⟩ := HDW.out w7 HU7.out.below
        cases mh with
        | false =>
          have HN2 : Hid (upP p (j + 1) = L6 ++ [fl]) := Lib.hid (by rw [HNX.out, ← HFL.out]; rfl)
          go_wp2_with fail
          go_roundg (gk - 1)
          case measure => omega
          case rel => exact ⟨j + 1, by have := HP.out.no; omega, by go_num, Lib.hid (by rw [HN2.out]; exact HU7.out)⟩
        | true =>
          obtain ⟨yn, hyn⟩ : ∃ n : Nat, my = (n : Int) := ⟨my.toNat, by have := (HQ5.out rfl).1; omega⟩
          subst hyn
          have hyb : yn ≤ 4611686018427387904 := by have := (HQ5.out rfl).2; omega
          have HN2 : Hid (upP p (j + 1) = L6 ++ [fl] ++ dg 8 yn) := Lib.hid (by rw [HNX.out, ← HFL.out, Int.toNat_natCast]; simp)
          have HCw := Lib.hid (Fd.wr64 lo b4 yn _ w7 HU7.out.wrt (by omega) HU7.out.lo (by rw [List.length_append, List.length_singleton]; omega))
          go_wp2_with fail
          refine HCw.out.mono ?_
          rintro e w8 ⟨rfl, hw8, hg8⟩
          have HU8 := Lib.hid (HU7.out.step hw8 hg8)
          clear hw8 hg8 HCw c0 c1 c2 c3 c4 d0 d1 d2 d3 d4
          go_wp2_with fail
          go_roundg (gk - 1)
          case measure => omega
          case rel => exact ⟨j + 1, by have := HP.out.no; omega, by go_num, Lib.hid (by rw [HN2.out]; exact HU8.out)⟩
      · have hjn : j = no := by omega
        have hb := upP_len p j (by rw [HP.out.no]; exact hno)
        have HO := Lib.hid (Fd.out_any lo b4 (upP p j) wr HH.out.wrt (by omega))
        have HEq : Hid (upP p j = putP p) := Lib.hid (by rw [hjn, ← HP.out.no]; exact upP_all p)
        have HLb := Lib.hid hb
        clear hjn hb c0 c1 c2 c3 c4
        go_wp2_with fail
        refine HO.out.mono ?_
        rintro e w8 ⟨v, rfl, hv, hb8⟩
        have HV : Hid (∃ A n c, v = .slice A n c ∧ (Fd.At w8 A (putP p) ∧ n = (putP p).length ∧ n ≤ c ∧ n ≤ 9734 ∧ (0 < n → ∃ g, A = some ⟨g, 0, none⟩ ∧ w.heap.size ≤ g))) := Lib.hid (by
          rw [HEq.out] at hv
          have hl := HLb.out
          rw [HEq.out] at hl
          have hs := putP_lt p
          rcases hv with ⟨h1, h2⟩ | ⟨h1, h2⟩
          · exact ⟨none, 0, 0, h2, by rw [h1]; exact Fd.At.nil_, by rw [h1]; rfl, Nat.le_refl _, by omega, fun h => absurd h (Nat.lt_irrefl 0)⟩
          · exact ⟨_, _, _, h1, h2.at_ hs, rfl, Nat.le_refl _, hl, fun _ => ⟨_, rfl, HH.out.below.size⟩⟩)
        obtain ⟨A, n, c, rfl, hv2⟩ := HV.out
        have HV2 := Lib.hid hv2
        have HB8 := Lib.hid (step_below HH.out.below HH.out.below.size hb8)
        clear hv hv2 hb8 HV
        go_wp2_with fail
        go_ret2
        exact ⟨_, _, _, rfl, HV2, HB8⟩
  · rw [show putR p = ([], 4) from if_neg hr]
    rw [decide_eq_false hr] at HRt
    clear hr
    go_enter Try.func11, Try.ntmps11
    go_upto_region 1 with fail
    rw [← hW1, show w.heap.size = b1 from e1.symm]
    clear hW1 e1
    go_wp2_with fail
    refine HRt.out.mono ?_
    rintro e w2 ⟨rfl, hb2⟩
    have HB2 := Lib.hid (step_below HB1.out HB1.out.size hb2.out)
    clear hb2 HRt
    go_wp2_with fail
    go_ret2
    exact ⟨_, _, _, rfl, Lib.hid ⟨Fd.At.nil_, rfl, Nat.le_refl _, by omega, fun h => absurd h (Nat.lt_irrefl 0)⟩, HB2⟩
end Go.Proofs.Ytfbfckdabbaocaa.St
