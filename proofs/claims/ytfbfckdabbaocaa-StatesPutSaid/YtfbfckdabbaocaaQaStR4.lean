/-
  What is proved here: a contract of the document's Put: a part's bytes, or its refusal. Condition: lengths fit an int.
-/
import Derived.Test.YtfbfckdabbaocaaQaStPu
import Derived.Test.YtfbfckdabbaocaaQaStR2
import Derived.Test.YtfbfckdabbaocaaQaStR3
namespace Go.Proofs.Ytfbfckdabbaocaa.St
open Go.RowKit Gr Wd Ws Fx Rk Lb Al In
open Sq (BAt BOwn QOwn bls)
open Fld (dg num)
theorem xapp_ucopy {w : World} {o : Oper} {a : Act} {K : Act → World → Prop} {Q : Exit → Act → World → Prop} (s x : Operand)
    (ho : o.op = .call { callee := .builtin .append, args := #[s, x], argTypes := #[30, 30] }) (B : Nat) (v : Value) (l m : List Nat) (hs : a.eval s = v) (hown : UOwn w B v l)
    (A : Option Addr) (z c : Nat) (hz : m.length = z) (hx : a.eval x = .slice A z c) (hL : Fd.At w A m) (hn : l.length + z < 1000000000) (hB : B ≤ w.heap.size)
    (h : ∀ v' w', UOwn w' B v' (l ++ m) → w.grownBy w' v.ownBlock → K (a.put o.dst v') w') : o.wp Try.prog a w K Q := by
  subst hz
  obtain ⟨i0, hi, hz0, hz1, hz2⟩ := info_parts infoU
  have ht : Try.prog.underlying 30 = some (.slice 5) := Try.underlying30
  cases A with
  | some ad =>
    refine wp_append_own w s x 30 ho B 5 i0 _ 1 1 ht hi hz0 hz1 hz2 rfl (by decide) v l.length (Fd.vals l) hs hown.1 ad m.length c (Fd.vals m) hx (by simp [Fd.vals]) hL.vals (Fd.vals_one m) ?_ ?_ hB ?_
    · unfold maxLen; omega
    · omega
    · intro v' w' h1 h2 _
      refine h v' w' ⟨?_, ?_⟩ h2
      · rw [Fd.vals_append, List.length_append]; exact h1
      · intro z hz
        rcases List.mem_append.1 hz with hz | hz
        · exact hown.2 z hz
        · exact hL.small z hz
  | none =>
    obtain rfl := hL.none_
    have hr : (Builtin.append_ #[30, 30] o.type #[v, .slice none 0 c]).run Try.prog w = .ok v w := by
      rcases hown.1.2 with ⟨rfl, _⟩ | ⟨g, cap, cur, rfl, _, _, hnc, _⟩
      · simp [Builtin.append_, run_underlying ht, sizeOf, typeInfo, hi, Builtin.lenOf, Builtin.firstCells]
      · simp [Builtin.append_, run_underlying ht, sizeOf, typeInfo, hi, Builtin.lenOf, Builtin.firstCells, hnc, storeCells]
    unfold Oper.wp execOp
    simp only [ho, resolve, invoke, builtin, Sem.run_bind, Sem.run_pure, Result.andThen_ok, List.map_toArray, List.map_cons, List.map_nil, hs, hx, hr, List.length_nil]
    exact h _ _ (by rw [List.append_nil]; exact hown) ⟨rfl, rfl, rfl, Nat.le_refl _, fun _ _ _ => rfl⟩
theorem rnum_lit (n k : Nat) (K : Int) (w : World) (hK : K = (k : Int)) (hn : n < 18446744073709551616) (hk : k ≤ 8) :
    Calls Try.prog 32 #[.int .u64 (n : Int), .int .i64 K] w fun e w' => ∃ v, e = .returned v ∧ (UOwn w' w.heap.size v (dg k n) ∧ Below w.heap.size w w' ∧ ∃ A c, v = .slice A k c ∧ Fd.At w' A (dg k n)) := by
  subst hK
  refine (rnumber_any n k w hn hk).mono ?_
  rintro e w' ⟨v, rfl, hu, hb⟩
  obtain ⟨A, c, e, h⟩ := hu.out.form
  rw [Fld.dg_length] at e
  exact ⟨v, rfl, hu.out, hb.out, A, c, e, h⟩
theorem wrap_u64 (n : Nat) (h : n < 18446744073709551616) : IntKind.u64.wrap (n : Int) = (n : Int) := by
  show (n : Int) % 18446744073709551616 = _
  omega
structure RpH (w wr : World) (b1 : Nat) (cs : Array Value) (v : Value) (l : List Nat) : Prop where
  below : Below w.heap.size w wr
  box : wr.heap[b1]? = some (.cells cs 35 (0, 0))
  row : UOwn wr w.heap.size v l
section
variable {w wr w' : World} {b1 : Nat} {cs : Array Value} {v v' : Value} {l l' : List Nat}
theorem RpH.step (h : RpH w wr b1 cs v l) (hb : Below wr.heap.size wr w') : RpH w w' b1 cs v l := ⟨step_below h.below h.below.size hb, keep h.box hb, h.row.below hb⟩
theorem RpH.alloc (h : RpH w wr b1 cs v l) (o : Obj) : RpH w (wr.alloc o) b1 cs v l := h.step ((Below.refl _ wr).alloc (Nat.le_refl _) o)
theorem RpH.app (h : RpH w wr b1 cs v l) (ho : UOwn w' w.heap.size v' l') (hg : wr.grownBy w' v.ownBlock) : RpH w w' b1 cs v' l' :=
  ⟨Below.grown h.below hg h.below.size fun q e => (own_lt h.row.1 q e).1, Sq.box_other h.box h.row.1 (by decide) hg, ho⟩
end
def RpRel (w : World) (b1 : Nat) (cs : Array Value) (p : Pr) (g : Nat) (v i : Value) (wr : World) : Prop :=
  ∃ j : Nat, j + g = p.own.length ∧ i = .int .i64 (j : Int) ∧ Hid (RpH w wr b1 cs v (upP p j))
def ResR (w w' : World) (e : Ending) (r : List Nat × Int) : Prop := ∃ A n c, e = .returned (.tuple #[.slice A n c, .int .i64 r.2]) ∧ Hid (Fd.At w' A r.1 ∧ n = r.1.length) ∧ Hid (Below w.heap.size w w')
set_option maxRecDepth 100000 in
set_option maxHeartbeats 16000000 in
theorem rput_any (p : Pr) (Ao Av Ac Ai : Option Addr) (no nv nc ni co cv cc ci : Nat) (w : World) (h : PAt w Ao Av Ac Ai no nv nc ni p) (h1 : no ≤ 9223372036854775807) (h2 : nv ≤ 9223372036854775807) (h3 : nc ≤ 9223372036854775807) (h4 : ni ≤ 9223372036854775807) :
    Calls Try.prog 12 #[.agg #[.int .i64 p.st, .slice Ao no co, .slice Av nv cv, .slice Ac nc cc, .slice Ai ni ci]] w fun e w' => ResR w w' e (putR p) := by
  have mixed := mixedI
  have hbox := heap_alloc_new w (.cells #[.int .i64 p.st, .slice Ao no co, .slice Av nv cv, .slice Ac nc cc, .slice Ai ni ci] 35)
  have hb1 : Below w.heap.size w (w.alloc (.cells #[.int .i64 p.st, .slice Ao no co, .slice Av nv cv, .slice Ac nc cc, .slice Ai ni ci] 35)) := (Below.refl _ w).alloc (Nat.le_refl _) _
  obtain ⟨W1, hW1⟩ : ∃ W1, W1 = w.alloc (.cells #[.int .i64 p.st, .slice Ao no co, .slice Av nv cv, .slice Ac nc cc, .slice Ai ni ci] 35) := ⟨_, rfl⟩
  obtain ⟨b1, e1⟩ : ∃ b1, b1 = w.heap.size := ⟨_, rfl⟩
  rw [← hW1] at hbox hb1
  rw [← e1] at hbox
  have HB1 := Lib.hid hb1
  have HX1 := Lib.hid hbox
  have HP := Lib.hid h
  have HRt := Lib.hid (rright_any p Ao Av Ac Ai no nv nc ni co cv cc ci W1 (h.below hb1) h1 h2 h3 h4)
  obtain ⟨c0, c1, c2, c3, c4, _⟩ := five hbox
  clear hbox hb1 h
  by_cases hr : Rgt p
  · rw [show putR p = (putP p, 0) from if_pos hr]
    rw [decide_eq_true hr] at HRt
    obtain ⟨sn, hsn⟩ : ∃ sn : Nat, p.st = (sn : Int) := ⟨p.st.toNat, by have := hr.1; omega⟩
    have hs2 : sn ≤ 2000 := by have := hr.1; omega
    have hn5 := rgt_few hr
    rw [HP.out.no] at hn5
    rw [hsn] at c0 hW1 HX1 HRt ⊢
    have HSN := Lib.hid hsn
    have HRG := Lib.hid hr
    clear hr hsn
    go_enter Try.func12, Try.ntmps12
    go_upto_region 1 with fail
    rw [← hW1, show w.heap.size = b1 from e1.symm]
    clear hW1 e1
    go_wp2_with fail
    refine HRt.out.mono ?_
    rintro e w2 ⟨rfl, hb2⟩
    have HB2 := Lib.hid (step_below HB1.out HB1.out.size hb2.out)
    have HX2 := Lib.hid (keep HX1.out hb2.out)
    clear hb2 HRt c0 c1 c2 c3 c4
    go_upto_region 3 with fail
    have hno : no ≤ 512 := hn5
    have hbd : Below w2.heap.size w2 w2.drew := (Below.refl _ w2).drew
    have HSW : Hid (∀ W, Below w2.drew.heap.size w2.drew W → (W.cell? ⟨b1, 0, none⟩ = some (.int .i64 (sn : Int)) ∧ W.cell? ⟨b1, 1, none⟩ = some (.slice Ao no co))) := Lib.hid (by
      intro W hb
      obtain ⟨j0, j1, _⟩ := five (keep (keep HX2.out hbd) hb)
      exact ⟨j0, j1⟩)
    have HBd := Lib.hid (step_below HB2.out HB2.out.size hbd)
    have HXd := Lib.hid (keep HX2.out hbd)
    clear hbd
    have hS := HSW.out _ (Below.refl _ w2.drew)
    refine Tl.headX_region (S := (fun W : World => W.cell? ⟨b1, 0, none⟩ = some (.int .i64 (sn : Int)) ∧ W.cell? ⟨b1, 1, none⟩ = some (.slice Ao no co))) 10 mixed (by decide) ?_
    try dsimp only
    refine Tl.headX_tk 0 ?v0_1 rfl (by kernel_rfl) (by decide) (by kernel_rfl) (by kernel_rfl) (by kernel_rfl) (fun _ _ _ h => h) (by rfl) (fun W hSw => ?hy0_1) hS ?_
    case hy0_1 => ((try dsimp only at hSw); go_simp; try with_reducible rfl)
    simp only [Act.put, List.setIfInBounds_toArray, List.set_cons_zero, List.set_cons_succ]
    refine Tl.headX_tk 1 ?v1_2 rfl (by kernel_rfl) (by decide) (by kernel_rfl) (by kernel_rfl) (by kernel_rfl) (fun _ _ _ h => h) (by rfl) (fun W hSw => ?hy1_2) hS ?_
    case hy1_2 => ((try dsimp only at hSw); go_simp; try with_reducible rfl)
    simp only [Act.put, List.setIfInBounds_toArray, List.set_cons_zero, List.set_cons_succ]
    refine Tl.headX_tk 2 ?v2_3 rfl (by kernel_rfl) (by decide) (by kernel_rfl) (by kernel_rfl) (by kernel_rfl) (fun _ _ _ h => h) (by rfl) (fun W hSw => ?hy2_3) hS ?_
    case hy2_3 => ((try dsimp only at hSw); go_simp; try with_reducible rfl)
    simp only [Act.put, List.setIfInBounds_toArray, List.set_cons_zero, List.set_cons_succ]
    refine Tl.headX_tk 4 ?v4_4 rfl (by kernel_rfl) (by decide) (by kernel_rfl) (by kernel_rfl) (by kernel_rfl) (fun _ _ _ h => h) (by rfl) (fun W hSw => ?hy4_4) hS ?_
    case hy4_4 => ((try dsimp only at hSw); go_simp; try with_reducible rfl)
    simp only [Act.put, List.setIfInBounds_toArray, List.set_cons_zero, List.set_cons_succ]
    refine Tl.headX_tk 5 ?v5_5 rfl (by kernel_rfl) (by decide) (by kernel_rfl) (by kernel_rfl) (by kernel_rfl) (fun _ _ _ h => h) (by rfl) (fun W hSw => ?hy5_5) hS ?_
    case hy5_5 => ((try dsimp only at hSw); go_simp; try with_reducible rfl)
    simp only [Act.put, List.setIfInBounds_toArray, List.set_cons_zero, List.set_cons_succ]
    refine Tl.headX_tk 6 ?v6_6 rfl (by kernel_rfl) (by decide) (by kernel_rfl) (by kernel_rfl) (by kernel_rfl) (fun _ _ _ h => h) (by rfl) (fun W hSw => ?hy6_6) hS ?_
    case hy6_6 => ((try dsimp only at hSw); go_simp; try with_reducible rfl)
    simp only [Act.put, List.setIfInBounds_toArray, List.set_cons_zero, List.set_cons_succ]
    refine Tl.headX_tk 7 ?v7_7 rfl (by kernel_rfl) (by decide) (by kernel_rfl) (by kernel_rfl) (by kernel_rfl) (fun _ _ _ h => h) (by rfl) (fun W hSw => ?hy7_7) hS ?_
    case hy7_7 => ((try dsimp only at hSw); go_simp; try with_reducible rfl)
    simp only [Act.put, List.setIfInBounds_toArray, List.set_cons_zero, List.set_cons_succ]
    refine Tl.headX_cl 3 _ _ rfl (by decide) (by kernel_rfl) (by rfl) ?he3 (rnum_lit sn 4 4 w2.drew rfl (by omega) (by omega)) ?_
    case he3 => (go_simp; exact wrap_u64 sn (by omega))
    rintro r w3 ⟨hu3, hb3, A3, c3', rfl, _⟩
    have HU3 := Lib.hid hu3
    have HS3 := Lib.hid (HSW.out _ hb3)
    have HB3 := Lib.hid hb3
    clear hS hu3 hb3
    have hS := HS3.out
    refine ⟨hS, ?_⟩
    simp only [Act.put, List.setIfInBounds_toArray, List.set_cons_zero, List.set_cons_succ]
    refine Tl.headX_cl 8 _ _ rfl (by decide) (by kernel_rfl) (by rfl) ?he8 (rnum_lit no 2 2 w3 rfl (by omega) (by omega)) ?_
    case he8 => (go_simp; exact wrap_u64 no (by omega))
    rintro r w4 ⟨hu4, hb4, A4, c4', rfl, hat4⟩
    have HB4 := Lib.hid (step_below HB3.out HB3.out.size hb4)
    have HU4 := Lib.hid (HU3.out.below hb4)
    have HAT4 := Lib.hid hat4
    have HS4 := Lib.hid (HSW.out _ HB4.out)
    clear hS hu4 hb4 hat4
    have hS := HS4.out
    refine ⟨hS, ?_⟩
    simp only [Act.put, List.setIfInBounds_toArray, List.set_cons_zero, List.set_cons_succ]
    refine Tl.headX_one (i := 9) (by rfl) (by decide) (by kernel_rfl) (by rfl) fun K hK => ?_
    have hbase : w.heap.size ≤ w2.drew.heap.size := HBd.out.size
    have HU4w : Hid (UOwn w4 w.heap.size (.slice A3 4 c3') (dg 4 sn)) := Lib.hid (HU4.out.mono hbase)
    refine xapp_ucopy (.tmp 13) (.tmp 18) rfl w.heap.size _ (dg 4 sn) (dg 2 no) rfl HU4w.out A4 2 c4' (Fld.dg_length _ _) rfl HAT4.out (by rw [Fld.dg_length]; omega) (Nat.le_trans hbase HB4.out.size) ?_
    intro v' w5 ho5 hg5
    have HH5 : Hid (RpH w w5 b1 #[.int .i64 (sn : Int), .slice Ao no co, .slice Av nv cv, .slice Ac nc cc, .slice Ai ni ci] v' (upP p 0)) := Lib.hid (by
      have e : upP p 0 = dg 4 sn ++ dg 2 no := by
        unfold upP hdP
        rw [HSN.out, HP.out.no, Int.toNat_natCast]; simp
      rw [e]
      exact ⟨Below.grown (step_below HBd.out HBd.out.size HB4.out) hg5 (Nat.le_trans hbase HB4.out.size) fun q e => (own_lt HU4w.out.1 q e).1, Sq.box_other (keep HXd.out HB4.out) HU4w.out.1 (by decide) hg5, ho5⟩)
    obtain ⟨F0, N0, f0, rfl⟩ : ∃ F N f, v' = .slice F N f := by
      obtain ⟨F, f, e, _⟩ := ho5.form
      exact ⟨F, _, f, e⟩
    clear hS
    obtain ⟨j0, j1, _⟩ := five HH5.out.box
    have hS : (fun W : World => W.cell? ⟨b1, 0, none⟩ = some (.int .i64 (sn : Int)) ∧ W.cell? ⟨b1, 1, none⟩ = some (.slice Ao no co)) w5 := ⟨j0, j1⟩
    refine hK (Act.put _ (some 19) _) _ hS ?_
    simp only [Act.put, List.setIfInBounds_toArray, List.set_cons_zero, List.set_cons_succ]
    refine Tl.headX_rest (by kernel_rfl) ?_
    simp only [List.drop_succ_cons, List.drop_zero]
    clear hS j0 j1 ho5 hg5 HU4w HU4 HAT4 HS4 HS3 HU3 HB3 HB4 HSW HBd HXd HB2 HX2 HB1 HX1 hbase
    go_wp2_with fail
    go_loopg [4, 5] no (fun g v i wr => RpRel w b1 #[.int .i64 (sn : Int), .slice Ao no co, .slice Av nv cv, .slice Ac nc cc, .slice Ai ni ci] p g v i wr)
    case atStart => exact ⟨0, by have := HP.out.no; omega, rfl, HH5⟩
    case round =>
      obtain ⟨j, hj, rfl, HH⟩ := hrel
      rw [HP.out.no] at hj
      clear HH5
      obtain ⟨c0, c1, c2, c3, c4, _⟩ := five HH.out.box
      by_cases hlt : j < no
      · obtain ⟨k1, k2, k3⟩ := HRG.out.2.1
        obtain ⟨q1, q2, _, q4, q5⟩ := HRG.out.2.2 j (by rw [HP.out.no]; exact hlt)
        have o1 := nu_at (l := p.own) (k := j) (by rw [HP.out.no]; exact hlt)
        have o2 := nu_at (l := p.vals) (k := j) (by rw [k1, HP.out.no]; exact hlt)
        have o3 := bo_at (l := p.chg) (k := j) (by rw [k2, HP.out.no]; exact hlt)
        have o4 := mi_at (l := p.inb) (k := j) (by rw [k3, HP.out.no]; exact hlt)
        have hnx := upP_next p (j := j) (by rw [HP.out.no]; exact hlt)
        obtain ⟨ch, hch⟩ : ∃ ch, bo p.chg j = ch := ⟨_, rfl⟩
        obtain ⟨⟨mh, my⟩, hml⟩ : ∃ m, mi p.inb j = m := ⟨_, rfl⟩
        obtain ⟨vn, hvn⟩ : ∃ n : Nat, nu p.own j = (n : Int) := ⟨(nu p.own j).toNat, by omega⟩
        obtain ⟨xn, hxn⟩ : ∃ n : Nat, nu p.vals j = (n : Int) := ⟨(nu p.vals j).toNat, by have := q4.1; omega⟩
        have hvb : vn < 512 := by omega
        have hxb : xn ≤ 4611686018427387904 := by have := q4.2; omega
        rw [hvn] at o1; rw [hxn] at o2; rw [hch] at o3; rw [hml] at o4 q5
        have HNX : Hid (upP p (j + 1) = upP p j ++ dg 2 vn ++ dg 8 xn ++ (if mh then flg ch true :: dg 8 my.toNat else [flg ch false])) := Lib.hid (by
          rw [hnx]
          unfold putE entP
          simp only [hvn, hxn, hch, hml, Int.toNat_natCast, List.append_assoc])
        obtain ⟨bo1, oo1, rfl, _⟩ := HP.out.o j _ o1
        obtain ⟨bv, ov, rfl, _⟩ := HP.out.v j _ o2
        obtain ⟨bc, oc, rfl, _⟩ := HP.out.c j _ o3
        obtain ⟨bi, oi, rfl, _, _⟩ := HP.out.i j _ o4
        have HDW : Hid (∀ W, Below w.heap.size w W → W.cell? ⟨bo1, oo1 + j, none⟩ = some (.int .i64 (vn : Int)) ∧ W.cell? ⟨bv, ov + j, none⟩ = some (.int .i64 (xn : Int)) ∧ W.cell? ⟨bc, oc + j, none⟩ = some (.bool ch) ∧ W.cell? ⟨bi, oi + j * 2, none⟩ = some (.bool mh) ∧ W.cell? ⟨bi, oi + j * 2 + 1, none⟩ = some (.int .i64 my)) := Lib.hid (by
          intro W hb
          refine ⟨?_, ?_, ?_, ?_, ?_⟩
          · obtain ⟨_, _, e, c⟩ := (HP.out.o.below hb) j _ o1; cases e; exact c
          · obtain ⟨_, _, e, c⟩ := (HP.out.v.below hb) j _ o2; cases e; exact c
          · obtain ⟨_, _, e, c⟩ := (HP.out.c.below hb) j _ o3; cases e; exact c
          · obtain ⟨_, _, e, c, _⟩ := (HP.out.i.below hb) j _ o4; cases e; exact c
          · obtain ⟨_, _, e, _, c⟩ := (HP.out.i.below hb) j _ o4; cases e; exact c)
        have hub := upP_len p j (by rw [HP.out.no]; exact hno)
        obtain ⟨L, hL⟩ : ∃ L, upP p j = L := ⟨_, rfl⟩
        rw [hL] at hub HH HNX
        have HQ5 := Lib.hid q5
        have hjv : j < nv := by have := HP.out.nv; have := HP.out.no; omega
        have hjc : j < nc := by have := HP.out.nc; have := HP.out.no; omega
        have hji : j < ni := by have := HP.out.ni; have := HP.out.no; omega
        clear hL hnx hch hml hvn hxn o1 o2 o3 o4 q1 q2 q4 q5 k1 k2 k3
        obtain ⟨d0, d1, d2, d3, d4⟩ := HDW.out wr HH.out.below
        go_wp2_with fail
        refine (rnum_lit vn 2 2 wr rfl (by omega) (by omega)).mono ?_
        rintro e wa ⟨va, rfl, hu, hb, Aa, ca', rfl, hat⟩
        have HTa := Lib.hid (HH.out.step hb)
        have HAT := Lib.hid hat
        clear hu hb hat c0 c1 c2 c3 c4 d0 d1 d2 d3 d4
        obtain ⟨c0, c1, c2, c3, c4, _⟩ := five HTa.out.box
        obtain ⟨d0, d1, d2, d3, d4⟩ := HDW.out wa HTa.out.below
        go_wp2_with (at_builtin; refine app_ucopy rfl (.tmp 27) (.tmp 34) rfl w.heap.size _ L (dg 2 vn) rfl HTa.out.row Aa 2 ca' (Fld.dg_length _ _) rfl HAT.out (by omega) HTa.out.below.size ?_)
        intro wav wa2 ho hg
        have HHa := Lib.hid (HTa.out.app ho hg)
        have hla : (L ++ dg 2 vn).length ≤ 9736 := by rw [List.length_append, Fld.dg_length]; omega
        obtain ⟨La, hLa⟩ : ∃ q, L ++ dg 2 vn = q := ⟨_, rfl⟩
        rw [hLa] at HHa hla
        have HLa := Lib.hid hLa
        obtain ⟨Fa, Na, fa, rfl⟩ : ∃ F N f, wav = .slice F N f := by
          obtain ⟨F, f, e, _⟩ := ho.form
          exact ⟨F, _, f, e⟩
        clear ho hg hLa HTa HAT c0 c1 c2 c3 c4 d0 d1 d2 d3 d4
        obtain ⟨c0, c1, c2, c3, c4, _⟩ := five HHa.out.box
        obtain ⟨d0, d1, d2, d3, d4⟩ := HDW.out wa2 HHa.out.below
        go_wp2_with fail
        refine (rnum_lit xn 8 8 wa2 rfl (by omega) (by omega)).mono ?_
        rintro e wb ⟨vb, rfl, hu, hb, Ab, cb', rfl, hat⟩
        have HTb := Lib.hid (HHa.out.step hb)
        have HAT := Lib.hid hat
        clear hu hb hat c0 c1 c2 c3 c4 d0 d1 d2 d3 d4
        obtain ⟨c0, c1, c2, c3, c4, _⟩ := five HTb.out.box
        obtain ⟨d0, d1, d2, d3, d4⟩ := HDW.out wb HTb.out.below
        go_wp2_with (at_builtin; refine app_ucopy rfl (.tmp 36) (.tmp 43) rfl w.heap.size _ La (dg 8 xn) rfl HTb.out.row Ab 8 cb' (Fld.dg_length _ _) rfl HAT.out (by omega) HTb.out.below.size ?_)
        intro wbv wb2 ho hg
        have HHb := Lib.hid (HTb.out.app ho hg)
        have hlb : (La ++ dg 8 xn).length ≤ 9744 := by rw [List.length_append, Fld.dg_length]; omega
        obtain ⟨Lb, hLb⟩ : ∃ q, La ++ dg 8 xn = q := ⟨_, rfl⟩
        rw [hLb] at HHb hlb
        have HLb := Lib.hid hLb
        obtain ⟨Fb, Nb, fb, rfl⟩ : ∃ F N f, wbv = .slice F N f := by
          obtain ⟨F, f, e, _⟩ := ho.form
          exact ⟨F, _, f, e⟩
        clear ho hg hLb HTb HAT c0 c1 c2 c3 c4 d0 d1 d2 d3 d4
        obtain ⟨c0, c1, c2, c3, c4, _⟩ := five HHb.out.box
        obtain ⟨d0, d1, d2, d3, d4⟩ := HDW.out wb2 HHb.out.below
        cases mh with
        | false =>
          cases ch with
          | false =>
            have HTc := Lib.hid (HHb.out.alloc (.cells #[.int .u8 ((0 : Nat) : Int)] 5))
            have HNc := Lib.hid (heap_alloc_new wb2 (.cells #[.int .u8 ((0 : Nat) : Int)] 5))
            go_wp2_with (at_builtin; refine app_u rfl (.tmp 57) (.tmp 59) rfl w.heap.size _ Lb 0 rfl HTc.out.row (by decide) _ rfl HNc.out (by omega) HTc.out.below.size ?_)
            intro wcv wc2 ho hg
            have HHc := Lib.hid (HTc.out.app ho hg)
            obtain ⟨Fc, Nc, fc, rfl⟩ : ∃ F N f, wcv = .slice F N f := by
              obtain ⟨F, f, e, _⟩ := ho.form
              exact ⟨F, _, f, e⟩
            clear ho hg HTc HNc c0 c1 c2 c3 c4 d0 d1 d2 d3 d4
            obtain ⟨c0, c1, c2, c3, c4, _⟩ := five HHc.out.box
            obtain ⟨d0, d1, d2, d3, d4⟩ := HDW.out wc2 HHc.out.below
            have HN2 : Hid (upP p (j + 1) = Lb ++ [0]) := Lib.hid (by rw [HNX.out, HLa.out, HLb.out]; rfl)
            go_wp2_with fail
            go_roundg (gk - 1)
            case measure => omega
            case rel => exact ⟨j + 1, by have := HP.out.no; omega, by go_num, Lib.hid (by rw [HN2.out]; exact HHc.out)⟩
          | true =>
            have HTc := Lib.hid (HHb.out.alloc (.cells #[.int .u8 ((1 : Nat) : Int)] 5))
            have HNc := Lib.hid (heap_alloc_new wb2 (.cells #[.int .u8 ((1 : Nat) : Int)] 5))
            go_wp2_with (at_builtin; refine app_u rfl (.tmp 57) (.tmp 59) rfl w.heap.size _ Lb 1 rfl HTc.out.row (by decide) _ rfl HNc.out (by omega) HTc.out.below.size ?_)
            intro wcv wc2 ho hg
            have HHc := Lib.hid (HTc.out.app ho hg)
            obtain ⟨Fc, Nc, fc, rfl⟩ : ∃ F N f, wcv = .slice F N f := by
              obtain ⟨F, f, e, _⟩ := ho.form
              exact ⟨F, _, f, e⟩
            clear ho hg HTc HNc c0 c1 c2 c3 c4 d0 d1 d2 d3 d4
            obtain ⟨c0, c1, c2, c3, c4, _⟩ := five HHc.out.box
            obtain ⟨d0, d1, d2, d3, d4⟩ := HDW.out wc2 HHc.out.below
            have HN2 : Hid (upP p (j + 1) = Lb ++ [1]) := Lib.hid (by rw [HNX.out, HLa.out, HLb.out]; rfl)
            go_wp2_with fail
            go_roundg (gk - 1)
            case measure => omega
            case rel => exact ⟨j + 1, by have := HP.out.no; omega, by go_num, Lib.hid (by rw [HN2.out]; exact HHc.out)⟩
        | true =>
          obtain ⟨yn, hyn⟩ : ∃ n : Nat, my = (n : Int) := ⟨my.toNat, by have := (HQ5.out rfl).1; omega⟩
          subst hyn
          have hyb : yn ≤ 4611686018427387904 := by have := (HQ5.out rfl).2; omega
          cases ch with
          | false =>
            have HTc := Lib.hid (HHb.out.alloc (.cells #[.int .u8 ((2 : Nat) : Int)] 5))
            have HNc := Lib.hid (heap_alloc_new wb2 (.cells #[.int .u8 ((2 : Nat) : Int)] 5))
            go_wp2_with (at_builtin; refine app_u rfl (.tmp 61) (.tmp 64) rfl w.heap.size _ Lb 2 rfl HTc.out.row (by decide) _ rfl HNc.out (by omega) HTc.out.below.size ?_)
            intro wcv wc2 ho hg
            have HHc := Lib.hid (HTc.out.app ho hg)
            obtain ⟨Fc, Nc, fc, rfl⟩ : ∃ F N f, wcv = .slice F N f := by
              obtain ⟨F, f, e, _⟩ := ho.form
              exact ⟨F, _, f, e⟩
            clear ho hg HTc HNc c0 c1 c2 c3 c4 d0 d1 d2 d3 d4
            obtain ⟨c0, c1, c2, c3, c4, _⟩ := five HHc.out.box
            obtain ⟨d0, d1, d2, d3, d4⟩ := HDW.out wc2 HHc.out.below
            have hlc : (Lb ++ [2]).length ≤ 9745 := by rw [List.length_append, List.length_singleton]; omega
            obtain ⟨Lc, hLc⟩ : ∃ q, Lb ++ [2] = q := ⟨_, rfl⟩
            rw [hLc] at HHc hlc
            have HLc := Lib.hid hLc
            clear hLc
            go_wp2_with fail
            refine (rnum_lit yn 8 8 wc2 rfl (by omega) (by omega)).mono ?_
            rintro e wd ⟨vd, rfl, hu, hb, Ad, cd', rfl, hat⟩
            have HTd := Lib.hid (HHc.out.step hb)
            have HAT := Lib.hid hat
            clear hu hb hat c0 c1 c2 c3 c4 d0 d1 d2 d3 d4
            obtain ⟨c0, c1, c2, c3, c4, _⟩ := five HTd.out.box
            obtain ⟨d0, d1, d2, d3, d4⟩ := HDW.out wd HTd.out.below
            go_wp2_with (at_builtin; refine app_ucopy rfl (.tmp 66) (.tmp 74) rfl w.heap.size _ Lc (dg 8 yn) rfl HTd.out.row Ad 8 cd' (Fld.dg_length _ _) rfl HAT.out (by omega) HTd.out.below.size ?_)
            intro wdv wd2 ho hg
            have HHd := Lib.hid (HTd.out.app ho hg)
            have hld : (Lc ++ dg 8 yn).length ≤ 9753 := by rw [List.length_append, Fld.dg_length]; omega
            obtain ⟨Ld, hLd⟩ : ∃ q, Lc ++ dg 8 yn = q := ⟨_, rfl⟩
            rw [hLd] at HHd hld
            have HLd := Lib.hid hLd
            obtain ⟨Fd, Nd, fd, rfl⟩ : ∃ F N f, wdv = .slice F N f := by
              obtain ⟨F, f, e, _⟩ := ho.form
              exact ⟨F, _, f, e⟩
            clear ho hg hLd HTd HAT c0 c1 c2 c3 c4 d0 d1 d2 d3 d4
            obtain ⟨c0, c1, c2, c3, c4, _⟩ := five HHd.out.box
            obtain ⟨d0, d1, d2, d3, d4⟩ := HDW.out wd2 HHd.out.below
            have HN2 : Hid (upP p (j + 1) = Ld) := Lib.hid (by rw [HNX.out, HLa.out, HLb.out, ← HLd.out, ← HLc.out, Int.toNat_natCast]; simp [flg])
            go_wp2_with fail
            go_roundg (gk - 1)
            case measure => omega
            case rel => exact ⟨j + 1, by have := HP.out.no; omega, by go_num, Lib.hid (by rw [HN2.out]; exact HHd.out)⟩
          | true =>
            have HTc := Lib.hid (HHb.out.alloc (.cells #[.int .u8 ((3 : Nat) : Int)] 5))
            have HNc := Lib.hid (heap_alloc_new wb2 (.cells #[.int .u8 ((3 : Nat) : Int)] 5))
            go_wp2_with (at_builtin; refine app_u rfl (.tmp 61) (.tmp 64) rfl w.heap.size _ Lb 3 rfl HTc.out.row (by decide) _ rfl HNc.out (by omega) HTc.out.below.size ?_)
            intro wcv wc2 ho hg
            have HHc := Lib.hid (HTc.out.app ho hg)
            obtain ⟨Fc, Nc, fc, rfl⟩ : ∃ F N f, wcv = .slice F N f := by
              obtain ⟨F, f, e, _⟩ := ho.form
              exact ⟨F, _, f, e⟩
            clear ho hg HTc HNc c0 c1 c2 c3 c4 d0 d1 d2 d3 d4
            obtain ⟨c0, c1, c2, c3, c4, _⟩ := five HHc.out.box
            obtain ⟨d0, d1, d2, d3, d4⟩ := HDW.out wc2 HHc.out.below
            have hlc : (Lb ++ [3]).length ≤ 9745 := by rw [List.length_append, List.length_singleton]; omega
            obtain ⟨Lc, hLc⟩ : ∃ q, Lb ++ [3] = q := ⟨_, rfl⟩
            rw [hLc] at HHc hlc
            have HLc := Lib.hid hLc
            clear hLc
            go_wp2_with fail
            refine (rnum_lit yn 8 8 wc2 rfl (by omega) (by omega)).mono ?_
            rintro e wd ⟨vd, rfl, hu, hb, Ad, cd', rfl, hat⟩
            have HTd := Lib.hid (HHc.out.step hb)
            have HAT := Lib.hid hat
            clear hu hb hat c0 c1 c2 c3 c4 d0 d1 d2 d3 d4
            obtain ⟨c0, c1, c2, c3, c4, _⟩ := five HTd.out.box
            obtain ⟨d0, d1, d2, d3, d4⟩ := HDW.out wd HTd.out.below
            go_wp2_with (at_builtin; refine app_ucopy rfl (.tmp 66) (.tmp 74) rfl w.heap.size _ Lc (dg 8 yn) rfl HTd.out.row Ad 8 cd' (Fld.dg_length _ _) rfl HAT.out (by omega) HTd.out.below.size ?_)
            intro wdv wd2 ho hg
            have HHd := Lib.hid (HTd.out.app ho hg)
            have hld : (Lc ++ dg 8 yn).length ≤ 9753 := by rw [List.length_append, Fld.dg_length]; omega
            obtain ⟨Ld, hLd⟩ : ∃ q, Lc ++ dg 8 yn = q := ⟨_, rfl⟩
            rw [hLd] at HHd hld
            have HLd := Lib.hid hLd
            obtain ⟨Fd, Nd, fd, rfl⟩ : ∃ F N f, wdv = .slice F N f := by
              obtain ⟨F, f, e, _⟩ := ho.form
              exact ⟨F, _, f, e⟩
            clear ho hg hLd HTd HAT c0 c1 c2 c3 c4 d0 d1 d2 d3 d4
            obtain ⟨c0, c1, c2, c3, c4, _⟩ := five HHd.out.box
            obtain ⟨d0, d1, d2, d3, d4⟩ := HDW.out wd2 HHd.out.below
            have HN2 : Hid (upP p (j + 1) = Ld) := Lib.hid (by rw [HNX.out, HLa.out, HLb.out, ← HLd.out, ← HLc.out, Int.toNat_natCast]; simp [flg])
            go_wp2_with fail
            go_roundg (gk - 1)
            case measure => omega
            case rel => exact ⟨j + 1, by have := HP.out.no; omega, by go_num, Lib.hid (by rw [HN2.out]; exact HHd.out)⟩
      · have hjn : j = no := by omega
        have hb := upP_len p j (by rw [HP.out.no]; exact hno)
        have HV : Hid (∃ A n c, _ = Value.slice A n c ∧ (Fd.At wr A (putP p) ∧ n = (putP p).length)) := Lib.hid (by
          have hrow := HH.out.row
          rw [show upP p j = putP p by rw [hjn, ← HP.out.no]; exact upP_all p] at hrow
          obtain ⟨A, c, e, h⟩ := hrow.form
          exact ⟨A, _, c, e, h, rfl⟩)
        obtain ⟨A, n, c, rfl, hv2⟩ := HV.out
        have HV2 := Lib.hid hv2
        have HB8 := Lib.hid HH.out.below
        clear hjn hb HV hv2
        go_wp2_with fail
        go_ret2
        exact ⟨_, _, _, rfl, HV2, HB8⟩
  · rw [show putR p = ([], 4) from if_neg hr]
    rw [decide_eq_false hr] at HRt
    clear hr
    go_enter Try.func12, Try.ntmps12
    go_upto_region 1 with fail
    rw [← hW1, show w.heap.size = b1 from e1.symm]
    clear hW1 e1
    go_wp2_with fail
    refine HRt.out.mono ?_
    rintro e w2 ⟨rfl, hb2⟩
    have HB2 := Lib.hid (step_below HB1.out HB1.out.size hb2.out)
    clear hb2 HRt
    go_wp2_with fail
    go_ret2
    exact ⟨_, _, _, rfl, Lib.hid ⟨Fd.At.nil_, rfl⟩, HB2⟩
end Go.Proofs.Ytfbfckdabbaocaa.St
