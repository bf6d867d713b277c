/-
  What is proved here: the texts SqRp SqCp SqL3 SqSp of this seat, laid together (each says itself what it proves; no condition beyond theirs).
-/
import Derived.Test.YtbbmgandkmlojaaGreatSqG6
import Derived.Test.YtbbmgandkmlojaaGreatSqG4
import Derived.Test.YtbbmgandkmlojaaGreatSqG5
import Derived.Test.YtbbmgandkmlojaaGreatSqG7
import Derived.Test.YtbbmgandkmlojaaGreatSqG1
/-
  What is proved here: a contract of the document's own Step. Conditions: at most 1000 edges; numbers that fit an int.
-/
namespace Go.Proofs.YtbbmgandkmlojaaGreat.Sq
open Go.RowKit Go.Shelf Gr Wd Ws Fx Rk Lb Al In
open Pa (vl bt vl_of vl_at bt_of bt_at)

set_option maxRecDepth 100000 in
set_option maxHeartbeats 1000000 in
theorem rstep_any (k st so dm ep V p : Int) (A : Option Addr) (n c : Nat) (L : List Ed) (s : Sq) (Av Ac Ai : Option Addr) (nv nc ni cv cc ci : Nat) (w : World) (hL : EAt w A L) (hn : L.length = n) (hm : n ≤ 1000) (ha : SAt w Av Ac Ai nv nc ni s) (hi : ∀ m ∈ s.inb, I63 m.2)
    (h1 : nv ≤ 9223372036854775807) (h2 : nc ≤ 9223372036854775807) (h3 : ni ≤ 9223372036854775807) :
    Calls Tryz.prog 18 #[.agg #[.int .i64 V, .slice A n c], .agg #[.int .u8 k, .int .i64 st, .int .i64 so, .int .i64 dm, .int .i64 ep], .agg #[.int .i64 p, .slice Av nv cv, .slice Ac nc cc, .slice Ai ni ci, .int .i64 s.sum, .int .i64 s.most]] w fun e w' => Res w w' e (stepR k st so dm ep V L p s) := by
  have mixed := mixedI
  have HL := Lib.hid hL; have HN := Lib.hid hn; have HA := Lib.hid ha; have HI := Lib.hid hi
  clear hL hn ha hi
  obtain ⟨sm, esm⟩ : ∃ sm, sm = s.sum := ⟨_, rfl⟩
  obtain ⟨mo, emo⟩ : ∃ mo, mo = s.most := ⟨_, rfl⟩
  rw [← esm, ← emo]
  have HSM := Lib.hid esm; have HMO := Lib.hid emo
  clear esm emo
  obtain ⟨W4, hW4⟩ : ∃ W4, W4 = (((w.alloc (.cells #[.int .i64 V, .slice A n c] 24)).alloc (.cells #[.int .u8 k, .int .i64 st, .int .i64 so, .int .i64 dm, .int .i64 ep] 26)).alloc (.cells #[.int .i64 p, .slice Av nv cv, .slice Ac nc cc, .slice Ai ni ci, .int .i64 sm, .int .i64 mo] 33)).alloc (.cells #[.int .i64 0, .slice none 0 0, .slice none 0 0, .slice none 0 0, .int .i64 0, .int .i64 0] 33) := ⟨_, rfl⟩
  have hal := al4 w (.cells #[.int .i64 V, .slice A n c] 24) (.cells #[.int .u8 k, .int .i64 st, .int .i64 so, .int .i64 dm, .int .i64 ep] 26) (.cells #[.int .i64 p, .slice Av nv cv, .slice Ac nc cc, .slice Ai ni ci, .int .i64 sm, .int .i64 mo] 33) (.cells #[.int .i64 0, .slice none 0 0, .slice none 0 0, .slice none 0 0, .int .i64 0, .int .i64 0] 33)
  rw [← hW4] at hal
  obtain ⟨n0, e0⟩ : ∃ n0, n0 = w.heap.size := ⟨_, rfl⟩
  have HG : Hid (W4.heap[n0]? = some (.cells #[.int .i64 V, .slice A n c] 24 (0, 0))) := Lib.hid (by rw [e0]; exact hal.1)
  have HJ : Hid (W4.heap[n0 + 1]? = some (.cells #[.int .u8 k, .int .i64 st, .int .i64 so, .int .i64 dm, .int .i64 ep] 26 (0, 0))) := Lib.hid (by rw [e0]; exact hal.2.1)
  have HS : Hid (W4.heap[n0 + 1 + 1]? = some (.cells #[.int .i64 p, .slice Av nv cv, .slice Ac nc cc, .slice Ai ni ci, .int .i64 sm, .int .i64 mo] 33 (0, 0))) := Lib.hid (by rw [e0]; exact hal.2.2.1)
  have HR : Hid (W4.heap[n0 + 1 + 1 + 1]? = some (.cells #[.int .i64 0, .slice none 0 0, .slice none 0 0, .slice none 0 0, .int .i64 0, .int .i64 0] 33 (0, 0))) := Lib.hid (by rw [e0]; exact hal.2.2.2.1)
  have HB := Lib.hid hal.2.2.2.2
  have HN0 : Hid (w.heap.size ≤ n0) := Lib.hid (by omega)
  clear hal
  obtain ⟨g0, g1, _⟩ := two HG.out
  obtain ⟨j0, j1, j2, j3, j4, _⟩ := jb_cells HJ.out
  obtain ⟨E, hE⟩ : ∃ E, E = chkJ k st so dm ep V L := ⟨_, rfl⟩
  have HC : Hid (∀ W, Below w.heap.size w W → Calls Tryz.prog 36 #[.agg #[.int .i64 V, .slice A n c], .agg #[.int .u8 k, .int .i64 st, .int .i64 so, .int .i64 dm, .int .i64 ep]] W fun e w' => e = .returned (.int .i64 E) ∧ Below W.heap.size W w') := Lib.hid (fun W h => by
    rw [hE, ← HN.out]
    exact rcheckj_any k st so dm ep V A c L W (HL.out.below h) (by rw [HN.out]; omega))
  have HE := Lib.hid hE
  clear hE
  go_enter Tryz.func18, Tryz.ntmps18
  go_upto_region 1 with fail
  rw [← hW4, show w.heap.size = n0 from e0.symm]
  clear hW4 e0
  go_wp2_with fail
  refine (HC.out _ HB.out).mono ?_
  rintro e w5 ⟨rfl, hb5⟩
  have HG5 := Lib.hid (keep HG.out hb5); have HJ5 := Lib.hid (keep HJ.out hb5); have HS5 := Lib.hid (keep HS.out hb5); have HR5 := Lib.hid (keep HR.out hb5)
  have HB5 := Lib.hid (step_below HB.out HB.out.size hb5)
  clear hb5 g0 g1 j0 j1 j2 j3 j4 HG HJ HS HR HB HC
  by_cases hE0 : E = 0
  · subst hE0
    obtain ⟨hz, _, _, _, _, _⟩ := chkJ_zero HE.out.symm
    obtain ⟨Vn, rfl, hV1, hV2, hfit⟩ := chk_facts hz
    have HFI := Lib.hid hfit
    have hdm : I63 dm := by obtain ⟨_, _, _, _, d0, d1⟩ := chkJ_zero HE.out.symm; unfold I63; omega
    have HDM := Lib.hid hdm
    clear hfit hz hdm
    have HMB := Lib.hid (rmay_any (Vn : Int) p s Av Ac Ai nv nc ni cv cc ci w5 (HA.out.below HB5.out) h1 h2 h3)
    obtain ⟨t, ht⟩ : ∃ t, mayB (Vn : Int) p s = t := ⟨_, rfl⟩
    rw [ht, ← HSM.out, ← HMO.out] at HMB
    have HT := Lib.hid ht
    clear ht
    obtain ⟨g0, g1, _⟩ := two HG5.out
    obtain ⟨s0, s1, s2, s3, s4, s5, _⟩ := six HS5.out
    go_wp2_with fail
    refine HMB.out.mono ?_
    rintro e w6 ⟨rfl, hb6⟩
    have HG6 := Lib.hid (keep HG5.out hb6); have HJ6 := Lib.hid (keep HJ5.out hb6); have HS6 := Lib.hid (keep HS5.out hb6); have HR6 := Lib.hid (keep HR5.out hb6)
    have HB6 := Lib.hid (step_below HB5.out HB5.out.size hb6)
    clear hb6 g0 g1 s0 s1 s2 s3 s4 s5 HMB HG5 HJ5 HS5 HR5
    obtain ⟨s0, s1, s2, s3, s4, s5, _⟩ := six HS6.out
    cases t with
    | false =>
      have hq : stepR k st so dm ep (Vn : Int) L p s = (0, zS, 4) := by unfold stepR; rw [if_pos HE.out.symm, if_neg (by rw [HT.out]; simp)]
      have HQ := Lib.hid hq
      obtain ⟨r0, r1, r2, r3, r4, r5, rl⟩ := six HR6.out
      have f0 := warm HR6.out 0; have f1 := warm HR6.out 1; have f2 := warm HR6.out 2; have f3 := warm HR6.out 3; have f4 := warm HR6.out 4; have f5 := warm HR6.out 5
      clear hq
      go_wp2
      obtain ⟨hX, hRes⟩ := bad_res HQ.out HB6.out (b := n0 + 1 + 1 + 1) (by have := HN0.out; omega) HR6.out
      unfold put6 at hX hRes
      exact bodyPost_ret (v := .tuple #[.agg #[.int .i64 0, .slice none 0 0, .slice none 0 0, .slice none 0 0, .int .i64 0, .int .i64 0], .int .i64 4]) (res2_s _ _ _ _ _ _ _ _ _ _ _ _ _ Tryz.results18 rfl rfl hX) rfl hRes
    | true =>
      by_cases hp : 2000 ≤ p
      · have hq : stepR k st so dm ep (Vn : Int) L p s = (0, zS, 4) := by unfold stepR; rw [if_pos HE.out.symm, if_neg (by omega)]
        have HQ := Lib.hid hq
        obtain ⟨r0, r1, r2, r3, r4, r5, rl⟩ := six HR6.out
        have f0 := warm HR6.out 0; have f1 := warm HR6.out 1; have f2 := warm HR6.out 2; have f3 := warm HR6.out 3; have f4 := warm HR6.out 4; have f5 := warm HR6.out 5
        clear hq
        go_wp2
        obtain ⟨hX, hRes⟩ := bad_res HQ.out HB6.out (b := n0 + 1 + 1 + 1) (by have := HN0.out; omega) HR6.out
        unfold put6 at hX hRes
        exact bodyPost_ret (v := .tuple #[.agg #[.int .i64 0, .slice none 0 0, .slice none 0 0, .slice none 0 0, .int .i64 0, .int .i64 0], .int .i64 4]) (res2_s _ _ _ _ _ _ _ _ _ _ _ _ _ Tryz.results18 rfl rfl hX) rfl hRes
      · obtain ⟨⟨hp0, hp1⟩, hmay⟩ := (mayB_iff Vn p s).1 HT.out
        have HZ : Hid (stepR k st so dm ep (Vn : Int) L p s = (p + 1, nxtS k dm Vn L s, 0)) := Lib.hid (by unfold stepR; rw [if_pos HE.out.symm, if_pos ⟨HT.out, by omega⟩]; rfl)
        have HM := Lib.hid hmay
        clear hmay
        obtain rfl : nv = Vn := by rw [← HA.out.nv]; exact HM.out.1
        obtain rfl : nc = nv := by rw [← HA.out.nc]; exact HM.out.2.1
        obtain rfl : ni = nc := by rw [← HA.out.ni]; exact HM.out.2.2.1
        clear s0 s1 s2 s3 s4 s5
        obtain ⟨g0, g1, _⟩ := two HG6.out
        obtain ⟨j0, j1, j2, j3, j4, _⟩ := jb_cells HJ6.out
        obtain ⟨s0, s1, s2, s3, s4, s5, _⟩ := six HS6.out
        have hvr : ∀ x ∈ s.vals, I63 x := fun x hx => (HM.out.2.2.2.1 x hx).i63
        have h := rnext_any k st so dm ep p ni A n c L Av Ac Ai cv cc ci ni s w6 (HL.out.below HB6.out) HN.out (HA.out.v.below HB6.out) (HA.out.i.below HB6.out) HA.out.nv HA.out.ni hvr HI.out HM.out.2.2.2.2.2.1.i63 (nxt_i63 hvr HI.out) HDM.out ⟨hp0, hp1⟩ hV2 (by rw [HN.out]; omega)
        rw [← HSM.out, ← HMO.out] at h
        have HNX := Lib.hid h
        clear h hvr
        go_wp2_with fail
        refine HNX.out.mono ?_
        rintro e w8 ⟨x, rfl, hx8, hb8⟩
        have HX8 := Lib.hid (hx8.out.mono HB6.out.size)
        have HB8 := Lib.hid (step_below HB6.out HB6.out.size hb8.out)
        have HR8 := Lib.hid (keep HR6.out hb8.out)
        clear hx8 hb8 HNX g0 g1 j0 j1 j2 j3 j4 s0 s1 s2 s3 s4 s5
        obtain ⟨Bv, dv, Bc, dc, Bi, di, rfl, _⟩ := HX8.out.form
        obtain ⟨S, hSq⟩ : ∃ S, nxtS k dm ni L s = S := ⟨_, rfl⟩
        rw [hSq] at HX8 HZ ⊢
        clear hSq
        obtain ⟨n1, hn1⟩ : ∃ n1, S.vals.length = n1 := ⟨_, rfl⟩
        obtain ⟨n2, hn2⟩ : ∃ n2, S.chg.length = n2 := ⟨_, rfl⟩
        obtain ⟨n3, hn3⟩ : ∃ n3, S.inb.length = n3 := ⟨_, rfl⟩
        rw [hn1, hn2, hn3] at HX8 ⊢
        clear hn1 hn2 hn3
        obtain ⟨r0, r1, r2, r3, r4, r5, rl⟩ := six HR8.out
        have f0 := warm HR8.out 0; have f1 := warm HR8.out 1; have f2 := warm HR8.out 2; have f3 := warm HR8.out 3; have f4 := warm HR8.out 4; have f5 := warm HR8.out 5
        go_wp2
        have hX := put6_heap HR8.out (.int .i64 (p + 1)) (.slice Bv n1 dv) (.slice Bc n2 dc) (.slice Bi n3 di) (.int .i64 S.sum) (.int .i64 S.most)
        have hBX := put6_below HB8.out (b := n0 + 1 + 1 + 1) (by have := HN0.out; omega) (.int .i64 (p + 1)) (.slice Bv n1 dv) (.slice Bc n2 dc) (.slice Bi n3 di) (.int .i64 S.sum) (.int .i64 S.most)
        have hSX := HX8.out.moved HR8.out (fun j hj => put6_other w8 (n0 + 1 + 1 + 1) j (.int .i64 (p + 1)) (.slice Bv n1 dv) (.slice Bc n2 dc) (.slice Bi n3 di) (.int .i64 S.sum) (.int .i64 S.most) hj)
        unfold put6 at hX hBX hSX
        exact bodyPost_ret (v := .tuple #[.agg #[.int .i64 (p + 1), .slice Bv n1 dv, .slice Bc n2 dc, .slice Bi n3 di, .int .i64 S.sum, .int .i64 S.most], .int .i64 0]) (res2_s _ _ _ _ _ _ _ _ _ _ _ _ _ Tryz.results18 rfl rfl hX) rfl ⟨_, by rw [HZ.out], Lib.hid (by rw [HZ.out]; exact hSX), Lib.hid hBX⟩
  · have hq : stepR k st so dm ep V L p s = (0, zS, E) := by unfold stepR; rw [if_neg (by rw [← HE.out]; exact hE0), ← HE.out]
    have HQ := Lib.hid hq
    obtain ⟨r0, r1, r2, r3, r4, r5, rl⟩ := six HR5.out
    have f0 := warm HR5.out 0; have f1 := warm HR5.out 1; have f2 := warm HR5.out 2; have f3 := warm HR5.out 3; have f4 := warm HR5.out 4; have f5 := warm HR5.out 5
    clear hq
    go_wp2
    obtain ⟨hX, hRes⟩ := bad_res HQ.out HB5.out (b := n0 + 1 + 1 + 1) (by have := HN0.out; omega) HR5.out
    unfold put6 at hX hRes
    exact bodyPost_ret (v := .tuple #[.agg #[.int .i64 0, .slice none 0 0, .slice none 0 0, .slice none 0 0, .int .i64 0, .int .i64 0], .int .i64 E]) (res2_s _ _ _ _ _ _ _ _ _ _ _ _ _ Tryz.results18 rfl rfl hX) rfl hRes

end Go.Proofs.YtbbmgandkmlojaaGreat.Sq

/-
  What is proved here: append of whole rows (values, marks, mail) behind nothing. Conditions: fewer than 10^9 of them.
-/
namespace Go.Proofs.YtbbmgandkmlojaaGreat.Sq
open Go.RowKit Go.Shelf Gr Wd Ws Fx Rk Lb Al In

theorem iat_add {w : World} {a : Addr} {l : List Int} (h : IAt w (some a) l) : ∀ j u, (ints l)[j]? = some u → w.cell? (a.add j) = some u := by
  intro j u hu
  rw [Lb.ints_at] at hu
  cases hx : l[j]? with
  | none => rw [hx] at hu; cases hu
  | some x =>
    rw [hx] at hu
    obtain ⟨bk, o, hA, c⟩ := h j x hx
    cases hA
    rw [add_plain, c]
    simpa using hu
theorem iat_none {w : World} {l : List Int} (h : IAt w none l) : l = [] := by
  cases l with
  | nil => rfl
  | cons x l => obtain ⟨_, _, h0, _⟩ := h 0 x rfl; cases h0
theorem bat_add {w : World} {a : Addr} {l : List Bool} (h : BAt w (some a) l) : ∀ j u, (bls l)[j]? = some u → w.cell? (a.add j) = some u := by
  intro j u hu
  rw [bls_at] at hu
  cases hx : l[j]? with
  | none => rw [hx] at hu; cases hu
  | some x =>
    rw [hx] at hu
    obtain ⟨bk, o, hA, c⟩ := h j x hx
    cases hA
    rw [add_plain, c]
    simpa using hu
theorem bat_none {w : World} {l : List Bool} (h : BAt w none l) : l = [] := by
  cases l with
  | nil => rfl
  | cons x l => obtain ⟨_, _, h0, _⟩ := h 0 x rfl; cases h0
theorem kcs_of (L : List Ml) : (kcs L).length = L.length * 2 := by
  induction L with
  | nil => rfl
  | cons x L ih => simp only [kcs, List.flatMap_cons, List.length_append, List.length_cons] at ih ⊢; rw [ih]; simp [kc]; omega
theorem kat_add {w : World} {a : Addr} {l : List Ml} (h : KAt w (some a) l) : ∀ j u, (kcs l)[j]? = some u → w.cell? (a.add j) = some u := by
  intro j u hu
  have hj : j < (kcs l).length := by
    rcases Nat.lt_or_ge j (kcs l).length with h | h
    · exact h
    · rw [List.getElem?_eq_none h] at hu; cases hu
  rw [kcs_of] at hj
  obtain ⟨e, he⟩ := at_lt l (j / 2) (by omega)
  obtain ⟨bk, o, hA, c0, c1⟩ := h (j / 2) e he
  obtain ⟨a0, a1⟩ := kcs_at l (j / 2) e he
  cases hA
  rw [add_plain]
  rcases Nat.mod_two_eq_zero_or_one j with hr | hr
  · have ej : j = j / 2 * 2 := by omega
    rw [ej] at hu ⊢
    rw [a0] at hu
    rw [← hu]; exact c0
  · have ej : j = j / 2 * 2 + 1 := by omega
    rw [ej] at hu ⊢
    rw [a1] at hu
    rw [← hu, ← Nat.add_assoc]; exact c1
theorem kat_none {w : World} {l : List Ml} (h : KAt w none l) : l = [] := by
  cases l with
  | nil => rfl
  | cons x l => obtain ⟨_, _, h0, _⟩ := h 0 x rfl; cases h0
theorem app_qcopy {w : World} {ops : Array Oper} {rest : List Oper} {o : Oper} {a : Act} {Q : Exit → Act → World → Prop} (hgd : o.guard = none) (s x : Operand)
    (ho : o.op = .call { callee := .builtin .append, args := #[s, x], argTypes := #[29, 29] }) (B : Nat) (l : List Int) (hs : a.eval s = .slice none 0 0)
    (A : Option Addr) (n c : Nat) (hnl : l.length = n) (hx : a.eval x = .slice A n c) (hL : IAt w A l) (hn : n < 1000000000) (hB : B ≤ w.heap.size)
    (h : ∀ v' w', QOwn w' B v' l → w.grownBy w' none → wpList Tryz.prog ops Q rest (a.put o.dst v') w') : wpList Tryz.prog ops Q (o :: rest) a w := by
  subst hnl
  obtain ⟨i0, hi, hz0, hz1, hz2⟩ := info_parts infoQ
  cases A with
  | some ad =>
    refine wpList_append_own w hgd s x 29 ho B 2 i0 _ 1 8 Tryz.underlying29 hi hz0 hz1 hz2 rfl (by decide) (.slice none 0 0) 0 [] hs (World.ownsRow_nil _ _ _ _) ad l.length c (ints l) hx (by simp [ints]) (iat_add hL) ?_ ?_ ?_ hB ?_
    · intro u hu
      simp only [ints, List.mem_map] at hu
      obtain ⟨y, _, rfl⟩ := hu; rfl
    · unfold maxLen; omega
    · omega
    · intro v' w' h1 h2 _
      refine h v' w' ?_ h2
      unfold QOwn
      rw [Nat.zero_add, List.nil_append] at h1
      exact h1
  | none =>
    obtain rfl := iat_none hL
    have u22 := run_underlying Tryz.underlying29
    have hr : (Builtin.append_ #[29, 29] o.type #[.slice none 0 0, .slice none 0 c]).run Tryz.prog w = .ok (.slice none 0 0) w := by
      simp [Builtin.append_, Builtin.lenOf, Builtin.firstCells, u22, sizeOf, typeInfo, hi]
    refine wpList_plain hgd fun _ hK => ?_
    unfold Oper.wp execOp
    simp only [ho, resolve, invoke, builtin, Sem.run_bind, Sem.run_pure, Result.andThen_ok, List.map_toArray, List.map_cons, List.map_nil, hs, hx, hr, List.length_nil]
    exact hK _ _ (h _ _ (QOwn.none_ _ _) ⟨rfl, rfl, rfl, Nat.le_refl _, fun _ _ _ => rfl⟩)
theorem app_bcopy {w : World} {ops : Array Oper} {rest : List Oper} {o : Oper} {a : Act} {Q : Exit → Act → World → Prop} (hgd : o.guard = none) (s x : Operand)
    (ho : o.op = .call { callee := .builtin .append, args := #[s, x], argTypes := #[30, 30] }) (B : Nat) (l : List Bool) (hs : a.eval s = .slice none 0 0)
    (A : Option Addr) (n c : Nat) (hnl : l.length = n) (hx : a.eval x = .slice A n c) (hL : BAt w A l) (hn : n < 1000000000) (hB : B ≤ w.heap.size)
    (h : ∀ v' w', BOwn w' B v' l → w.grownBy w' none → wpList Tryz.prog ops Q rest (a.put o.dst v') w') : wpList Tryz.prog ops Q (o :: rest) a w := by
  subst hnl
  obtain ⟨i0, hi, hz0, hz1, hz2⟩ := info_parts infoB
  cases A with
  | some ad =>
    refine wpList_append_own w hgd s x 30 ho B 4 i0 _ 1 1 Tryz.underlying30 hi hz0 hz1 hz2 rfl (by decide) (.slice none 0 0) 0 [] hs (World.ownsRow_nil _ _ _ _) ad l.length c (bls l) hx (by simp [bls]) (bat_add hL) ?_ ?_ ?_ hB ?_
    · intro u hu
      simp only [bls, List.mem_map] at hu
      obtain ⟨y, _, rfl⟩ := hu; rfl
    · unfold maxLen; omega
    · omega
    · intro v' w' h1 h2 _
      refine h v' w' ?_ h2
      unfold BOwn
      rw [Nat.zero_add, List.nil_append] at h1
      exact h1
  | none =>
    obtain rfl := bat_none hL
    have u22 := run_underlying Tryz.underlying30
    have hr : (Builtin.append_ #[30, 30] o.type #[.slice none 0 0, .slice none 0 c]).run Tryz.prog w = .ok (.slice none 0 0) w := by
      simp [Builtin.append_, Builtin.lenOf, Builtin.firstCells, u22, sizeOf, typeInfo, hi]
    refine wpList_plain hgd fun _ hK => ?_
    unfold Oper.wp execOp
    simp only [ho, resolve, invoke, builtin, Sem.run_bind, Sem.run_pure, Result.andThen_ok, List.map_toArray, List.map_cons, List.map_nil, hs, hx, hr, List.length_nil]
    exact hK _ _ (h _ _ (BOwn.none_ _ _) ⟨rfl, rfl, rfl, Nat.le_refl _, fun _ _ _ => rfl⟩)
theorem app_kcopy {w : World} {ops : Array Oper} {rest : List Oper} {o : Oper} {a : Act} {Q : Exit → Act → World → Prop} (hgd : o.guard = none) (s x : Operand)
    (ho : o.op = .call { callee := .builtin .append, args := #[s, x], argTypes := #[31, 31] }) (B : Nat) (l : List Ml) (hs : a.eval s = .slice none 0 0)
    (A : Option Addr) (n c : Nat) (hnl : l.length = n) (hx : a.eval x = .slice A n c) (hL : KAt w A l) (hn : n < 1000000000) (hB : B ≤ w.heap.size)
    (h : ∀ v' w', KOwn w' B v' l → w.grownBy w' none → wpList Tryz.prog ops Q rest (a.put o.dst v') w') : wpList Tryz.prog ops Q (o :: rest) a w := by
  subst hnl
  obtain ⟨i0, hi, hz0, hz1, hz2⟩ := info_parts infoK
  cases A with
  | some ad =>
    refine wpList_append_own w hgd s x 31 ho B 78 i0 _ 2 16 Tryz.underlying31 hi hz0 hz1 hz2 rfl (by decide) (.slice none 0 0) 0 [] hs (World.ownsRow_nil _ _ _ _) ad l.length c (kcs l) hx (by rw [kcs_of]) (kat_add hL) ?_ ?_ ?_ hB ?_
    · intro u hu
      simp only [kcs, List.mem_flatMap, kc, List.mem_cons, List.not_mem_nil, or_false] at hu
      obtain ⟨y, _, hu⟩ := hu
      rcases hu with rfl | rfl <;> rfl
    · unfold maxLen; omega
    · omega
    · intro v' w' h1 h2 _
      refine h v' w' ?_ h2
      unfold KOwn
      rw [Nat.zero_add, List.nil_append] at h1
      exact h1
  | none =>
    obtain rfl := kat_none hL
    have u22 := run_underlying Tryz.underlying31
    have hr : (Builtin.append_ #[31, 31] o.type #[.slice none 0 0, .slice none 0 c]).run Tryz.prog w = .ok (.slice none 0 0) w := by
      simp [Builtin.append_, Builtin.lenOf, Builtin.firstCells, u22, sizeOf, typeInfo, hi]
    refine wpList_plain hgd fun _ hK => ?_
    unfold Oper.wp execOp
    simp only [ho, resolve, invoke, builtin, Sem.run_bind, Sem.run_pure, Result.andThen_ok, List.map_toArray, List.map_cons, List.map_nil, hs, hx, hr, List.length_nil]
    exact hK _ _ (h _ _ (KOwn.none_ _ _) ⟨rfl, rfl, rfl, Nat.le_refl _, fun _ _ _ => rfl⟩)

end Go.Proofs.YtbbmgandkmlojaaGreat.Sq

/-
  What is proved here: the law SeqStep walked: it returns true, and no block that was there has changed. Conditions: rows that a memory holds; numbers of 64 bits.
-/
namespace Go.Proofs.YtbbmgandkmlojaaGreat.Sq
open Go.RowKit Go.Shelf Gr Wd Ws Fx Rk Lb Al In
open Pa (vl bt vl_of vl_at bt_of bt_at)

theorem few_step (k st so dm ep V : Int) (L : List Ed) (p : Int) (s : Sq) : Few (stepR k st so dm ep V L p s).2.1 := by
  unfold stepR
  split
  · rename_i h
    split
    · obtain ⟨hz, _, _, _, _, _⟩ := chkJ_zero h
      obtain ⟨Vn, rfl, hV1, hV2, _⟩ := chk_facts hz
      refine ⟨?_, ?_, ?_⟩
      · show (nxtV k dm ((Vn : Int)).toNat s).length ≤ 512
        rw [nxtV_len]; exact hV2
      · show (nxtC k dm ((Vn : Int)).toNat s).length ≤ 512
        rw [nxtC_len]; exact hV2
      · show (inbS k ((Vn : Int)).toNat L _ _).length ≤ 512
        rw [inb_len]; exact hV2
    · exact few_z
  · exact few_z
theorem fewB_of {a b c : Nat} (h : fewB a b c = true) : a ≤ 20 ∧ b ≤ 20 ∧ c ≤ 20 := by
  unfold fewB at h; simp at h; omega
structure StH (w W : World) (n0 : Nat) (V : Int) (A : Option Addr) (n c : Nat) (k st so dm ep p : Int) (Av : Option Addr) (nv cv : Nat) (Ac : Option Addr) (nc cc : Nat) (Ai : Option Addr) (ni ci : Nat) (sm mo : Int) : Prop where
  below : Below w.heap.size w W
  gb : W.heap[n0]? = some (.cells #[.int .i64 V, .slice A n c] 24 (0, 0))
  jb : W.heap[n0 + 1]? = some (.cells #[.int .u8 k, .int .i64 st, .int .i64 so, .int .i64 dm, .int .i64 ep] 26 (0, 0))
  sb : W.heap[n0 + 1 + 1]? = some (.cells #[.int .i64 p, .slice Av nv cv, .slice Ac nc cc, .slice Ai ni ci, .int .i64 sm, .int .i64 mo] 33 (0, 0))
theorem StH.step {w W W' : World} {n0 : Nat} {V : Int} {A : Option Addr} {n c : Nat} {k st so dm ep p : Int} {Av : Option Addr} {nv cv : Nat} {Ac : Option Addr} {nc cc : Nat} {Ai : Option Addr} {ni ci : Nat} {sm mo : Int} (h : StH w W n0 V A n c k st so dm ep p Av nv cv Ac nc cc Ai ni ci sm mo) (hb : Below W.heap.size W W') : StH w W' n0 V A n c k st so dm ep p Av nv cv Ac nc cc Ai ni ci sm mo := ⟨step_below h.below h.below.size hb, keep h.gb hb, keep h.jb hb, keep h.sb hb⟩
/- A copy that is being made, in its box. -/
structure CpH (W : World) (bc B : Nat) (p sm mo : Int) (s : Sq) (va vc vi : Value) : Prop where
  cb : W.heap[bc]? = some (.cells #[.int .i64 p, va, vc, vi, .int .i64 sm, .int .i64 mo] 33 (0, 0))
  q : QOwn W B va s.vals
  m : BOwn W B vc s.chg
  k : KOwn W B vi s.inb
theorem CpH.step {W W' : World} {bc B : Nat} {p sm mo : Int} {s : Sq} {va vc vi : Value} (h : CpH W bc B p sm mo s va vc vi) (hb : Below W.heap.size W W') : CpH W' bc B p sm mo s va vc vi := ⟨keep h.cb hb, h.q.below hb, h.m.below hb, h.k.below hb⟩
/- Values that are written over. -/
structure WrH (X W : World) (B g nv bl : Nat) (bx : Array Value) : Prop where
  below : Below B X W
  bb : W.heap[bl]? = some (.cells bx 33 (0, 0))
  row : ∃ cur, W.heap[g]? = some (.cells cur 2 (0, 0)) ∧ nv ≤ cur.size
theorem WrH.set {X W : World} {B g nv bl : Nat} {bx : Array Value} (h : WrH X W B g nv bl bx) (hg : B ≤ g) (j : Nat) (u : Value) : WrH X (W.setCell ⟨g, j, none⟩ u) B g nv bl bx := by
  obtain ⟨cur, h1, h2⟩ := h.row
  refine ⟨h.below.setCell (p := ⟨g, j, none⟩) hg u, (set_other _ _ _ _ _ fun e => ?_).trans h.bb, cur.setIfInBounds j u, set_heap h1 u, by simpa using h2⟩
  subst e
  have h3 := h.bb
  rw [h1] at h3; injection h3 with h3; injection h3 with _ h3 _
  exact absurd h3 (by decide)
theorem own_block {W : World} {B n : Nat} {A : Option Addr} {c : Nat} {l : List Int} (h : QOwn W B (.slice A n c) l) (hn : 0 < n) : ∃ g, A = some ⟨g, 0, none⟩ ∧ B ≤ g ∧ ∃ cur, W.heap[g]? = some (.cells cur 2 (0, 0)) ∧ n ≤ cur.size := by
  obtain ⟨h0, h1 | ⟨g, cap, cur, h1, h2, h3, h4, h5, h6, h7⟩⟩ := h
  · exact absurd hn (by have := h1.1; injection this; omega)
  · injection h1 with e1 e2 e3
    refine ⟨g, e1, h2, cur, h3, ?_⟩
    have := congrArg List.length h7
    simp [ints] at this
    omega

set_option maxRecDepth 100000 in
set_option maxHeartbeats 1000000 in
theorem law_step (k st so dm ep V p : Int) (A : Option Addr) (n c : Nat) (L : List Ed) (s : Sq) (Av Ac Ai : Option Addr) (nv nc ni cv cc ci : Nat) (w : World) (hL : EAt w A L) (hn : L.length = n) (hm : n ≤ 9223372036854775807) (ha : SAt w Av Ac Ai nv nc ni s) (hi : ∀ m ∈ s.inb, I63 m.2)
    (h1 : nv ≤ 9223372036854775807) (h2 : nc ≤ 9223372036854775807) (h3 : ni ≤ 9223372036854775807) :
    Calls Tryz.prog 4 #[.agg #[.int .i64 V, .slice A n c], .agg #[.int .u8 k, .int .i64 st, .int .i64 so, .int .i64 dm, .int .i64 ep], .agg #[.int .i64 p, .slice Av nv cv, .slice Ac nc cc, .slice Ai ni ci, .int .i64 s.sum, .int .i64 s.most]] w fun e w' => e = .returned (.bool true) ∧ Below w.heap.size w w' := by
  have HL := Lib.hid hL; have HN := Lib.hid hn; have HA := Lib.hid ha
  obtain ⟨r, hr⟩ : ∃ r, stepR k st so dm ep V L p s = r := ⟨_, rfl⟩
  obtain ⟨pr, S, E⟩ := r
  have hfw : Few S := by have := few_step k st so dm ep V L p s; rw [hr] at this; exact this
  have HR := Lib.hid hr
  have HFW := Lib.hid hfw
  have HC1 : Hid (n ≤ 1000 → ∀ W : World, Below w.heap.size w W → Calls Tryz.prog 17 #[.agg #[.int .i64 V, .slice A n c], .agg #[.int .u8 k, .int .i64 st, .int .i64 so, .int .i64 dm, .int .i64 ep], .agg #[.int .i64 p, .slice Av nv cv, .slice Ac nc cc, .slice Ai ni ci, .int .i64 s.sum, .int .i64 s.most]] W fun e w' => Res W w' e (pr, S, E)) := Lib.hid (fun h W hW => by
    have h := seqStep_any k st so dm ep V p A n c L s Av Ac Ai nv nc ni cv cc ci W (hL.below hW) hn h (ha.below hW) hi h1 h2 h3
    rw [hr] at h; exact h)
  have HC2 : Hid (n ≤ 1000 → ∀ (W : World) (Bv Bc Bi : Option Addr) (dv dc di : Nat), Below w.heap.size w W → SAt W Bv Bc Bi nv nc ni s → Calls Tryz.prog 18 #[.agg #[.int .i64 V, .slice A n c], .agg #[.int .u8 k, .int .i64 st, .int .i64 so, .int .i64 dm, .int .i64 ep], .agg #[.int .i64 p, .slice Bv nv dv, .slice Bc nc dc, .slice Bi ni di, .int .i64 s.sum, .int .i64 s.most]] W fun e w' => SRes W w' e pr S E) := Lib.hid (fun h W Bv Bc Bi dv dc di hW hs => (rstep_any k st so dm ep V p A n c L s Bv Bc Bi nv nc ni dv dc di W (hL.below hW) hn h hs hi h1 h2 h3).mono fun _ _ h => sres_of h hr hfw)
  clear hL hn ha hi hr hfw HR
  obtain ⟨sm, hsm⟩ : ∃ x, x = s.sum := ⟨_, rfl⟩
  obtain ⟨mo, hmo⟩ : ∃ x, x = s.most := ⟨_, rfl⟩
  rw [← hsm, ← hmo] at HC1 HC2 ⊢
  have HSM := Lib.hid hsm; have HMO := Lib.hid hmo
  clear hsm hmo
  obtain ⟨W3, hW3⟩ : ∃ W3, W3 = ((w.alloc (.cells #[.int .i64 V, .slice A n c] 24)).alloc (.cells #[.int .u8 k, .int .i64 st, .int .i64 so, .int .i64 dm, .int .i64 ep] 26)).alloc (.cells #[.int .i64 p, .slice Av nv cv, .slice Ac nc cc, .slice Ai ni ci, .int .i64 sm, .int .i64 mo] 33) := ⟨_, rfl⟩
  have hal := al3 w (.cells #[.int .i64 V, .slice A n c] 24) (.cells #[.int .u8 k, .int .i64 st, .int .i64 so, .int .i64 dm, .int .i64 ep] 26) (.cells #[.int .i64 p, .slice Av nv cv, .slice Ac nc cc, .slice Ai ni ci, .int .i64 sm, .int .i64 mo] 33)
  rw [← hW3] at hal
  obtain ⟨n0, e0⟩ : ∃ n0, n0 = w.heap.size := ⟨_, rfl⟩
  have HH : Hid (StH w W3 n0 V A n c k st so dm ep p Av nv cv Ac nc cc Ai ni ci sm mo) := Lib.hid ⟨hal.2.2.2, by rw [e0]; exact hal.1, by rw [e0]; exact hal.2.1, by rw [e0]; exact hal.2.2.1⟩
  have HN0 : Hid (w.heap.size ≤ n0) := Lib.hid (by omega)
  clear hal
  obtain ⟨g0, g1, _⟩ := two HH.out.gb
  have HT := Lib.hid (light_all V A n c L W3 (HL.out.below HH.out.below) HN.out hm)
  obtain ⟨t, ht⟩ : ∃ t, lightB V L = t := ⟨_, rfl⟩
  rw [ht] at HT
  have HTL := Lib.hid ht
  clear ht
  obtain ⟨ta, hta⟩ : ∃ t, fewB nv nc ni = t := ⟨_, rfl⟩
  have HF := Lib.hid (fun W => few_all p sm mo Av Ac Ai nv nc ni cv cc ci W)
  rw [hta] at HF
  have HTA := Lib.hid hta
  clear hta
  go_enter Tryz.func4, Tryz.ntmps4
  go_upto_region 1 with fail
  rw [← hW3, show w.heap.size = n0 from e0.symm]
  clear hW3 e0
  go_wp2_with fail
  refine HT.out.mono ?_
  rintro e w1 ⟨rfl, hb⟩
  replace HH := Lib.hid (HH.out.step hb)
  clear hb HT g0 g1
  cases t with
  | false =>
    clear HC1 HC2 HTL
    go_wp2_with fail
    refine (works_any _).mono ?_
    rintro e w7 ⟨rfl, hb⟩
    replace HH := Lib.hid (HH.out.step hb)
    clear hb
    go_wp2
    go_ret
    exact ⟨rfl, HH.out.below⟩
  | true =>
    obtain ⟨s0, s1, s2, s3, s4, s5, _⟩ := six HH.out.sb
    go_wp2_with fail
    refine (HF.out _).mono ?_
    rintro e w2 ⟨rfl, hb⟩
    replace HH := Lib.hid (HH.out.step hb)
    clear hb HF s0 s1 s2 s3 s4 s5
    cases ta with
    | false =>
      clear HC1 HC2 HTL
      go_wp2_with fail
      refine (works_any _).mono ?_
      rintro e w7 ⟨rfl, hb⟩
      replace HH := Lib.hid (HH.out.step hb)
      clear hb
      go_wp2
      go_ret
      exact ⟨rfl, HH.out.below⟩
    | true =>
      have hn80 : n ≤ 80 := by have := lightB_few HTL.out; rwa [HN.out] at this
      obtain ⟨hv20, hc20, hi20⟩ := fewB_of HTA.out
      replace HC1 := Lib.hid (HC1.out (by omega)); replace HC2 := Lib.hid (HC2.out (by omega))
      clear hn80 HTL HTA
      obtain ⟨s0, s1, s2, s3, s4, s5, _⟩ := six HH.out.sb
      -- the copy
      obtain ⟨X0, hX0⟩ : ∃ X, X = w2.alloc (.cells #[.int .i64 p, .slice none 0 0, .slice none 0 0, .slice none 0 0, .int .i64 sm, .int .i64 mo] 33) := ⟨_, rfl⟩
      obtain ⟨bc, ebc⟩ : ∃ b, b = w2.heap.size := ⟨_, rfl⟩
      have hb : Below w2.heap.size w2 X0 := by rw [hX0]; exact (Below.refl _ w2).alloc (Nat.le_refl _) _
      have HCB : Hid (X0.heap[bc]? = some (.cells #[.int .i64 p, .slice none 0 0, .slice none 0 0, .slice none 0 0, .int .i64 sm, .int .i64 mo] 33 (0, 0))) := Lib.hid (by rw [hX0, ebc]; exact heap_alloc_new w2 _)
      have HBC : Hid (w.heap.size ≤ bc) := Lib.hid (by rw [ebc]; exact HH.out.below.size)
      have HBN : Hid (n0 + 1 + 1 < bc) := Lib.hid (by rw [ebc]; exact lt_of_block HH.out.sb)
      replace HH := Lib.hid (HH.out.step hb)
      clear hb
      go_upto_region 4 with fail
      rw [← hX0, show w2.heap.size = bc from ebc.symm]
      clear hX0 ebc s0 s1 s2 s3 s4 s5
      obtain ⟨s0, s1, s2, s3, s4, s5, _⟩ := six HH.out.sb
      obtain ⟨c0, c1, c2, c3, c4, c5, _⟩ := six HCB.out
      have HSZ := Lib.hid HH.out.below.size
      have HRW := Lib.hid ((HA.out.below HH.out.below).v)
      go_wp2_with (at_builtin; refine app_qcopy rfl (.tmp 30) (.tmp 32) rfl w.heap.size s.vals rfl Av nv cv HA.out.nv rfl HRW.out (by omega) HSZ.out ?_)
      intro u1 y1 ho hg
      have hb : Below X0.heap.size X0 y1 := Below.grown (Below.refl _ _) hg (Nat.le_refl _) (fun j e => by cases e)
      replace HH := Lib.hid (HH.out.step hb)
      replace HCB := Lib.hid (keep HCB.out hb)
      have HO1 : Hid (QOwn y1 w.heap.size u1 s.vals) := Lib.hid ho
      clear hb ho hg HSZ HRW s0 s1 s2 s3 s4 s5 c0 c1 c2 c3 c4 c5
      obtain ⟨D1, d1, rfl, _⟩ := HO1.out.form
      rw [HA.out.nv] at HO1 ⊢
      obtain ⟨X1, hX1⟩ : ∃ X, X = y1.setCell ⟨bc, 1, none⟩ (.slice D1 nv d1) := ⟨_, rfl⟩
      have ho : ∀ j, j ≠ bc → X1.heap[j]? = y1.heap[j]? := fun j hj => by rw [hX1]; exact set_other _ _ _ _ _ hj
      replace HH : Hid (StH w X1 n0 V A n c k st so dm ep p Av nv cv Ac nc cc Ai ni ci sm mo) := Lib.hid (by
        have hbn := HBN.out
        exact ⟨by rw [hX1]; exact HH.out.below.setCell (p := ⟨bc, 1, none⟩) HBC.out _, (ho _ (by omega)).trans HH.out.gb, (ho _ (by omega)).trans HH.out.jb, (ho _ (by omega)).trans HH.out.sb⟩)
      obtain ⟨c0, c1, c2, c3, c4, c5, _⟩ := six HCB.out
      have f1 := warm HCB.out 1
      replace HO1 := Lib.hid (own_moved HO1.out HCB.out (by decide) ho)
      replace HCB : Hid (X1.heap[bc]? = some (.cells #[.int .i64 p, .slice D1 nv d1, .slice none 0 0, .slice none 0 0, .int .i64 sm, .int .i64 mo] 33 (0, 0))) := Lib.hid (by rw [hX1]; exact set_heap (i := 1) HCB.out _)
      clear ho
      go_upto_region 5 with fail
      rw [← hX1]
      clear hX1 c0 c1 c2 c3 c4 c5 f1
      obtain ⟨s0, s1, s2, s3, s4, s5, _⟩ := six HH.out.sb
      obtain ⟨c0, c1, c2, c3, c4, c5, _⟩ := six HCB.out
      have HSZ := Lib.hid HH.out.below.size
      have HRW := Lib.hid ((HA.out.below HH.out.below).c)
      go_wp2_with (at_builtin; refine app_bcopy rfl (.tmp 36) (.tmp 38) rfl w.heap.size s.chg rfl Ac nc cc HA.out.nc rfl HRW.out (by omega) HSZ.out ?_)
      intro u2 y2 ho hg
      have hb : Below X1.heap.size X1 y2 := Below.grown (Below.refl _ _) hg (Nat.le_refl _) (fun j e => by cases e)
      replace HH := Lib.hid (HH.out.step hb)
      replace HCB := Lib.hid (keep HCB.out hb)
      replace HO1 := Lib.hid (own_below HO1.out hb)
      have HO2 : Hid (BOwn y2 w.heap.size u2 s.chg) := Lib.hid ho
      clear hb ho hg HSZ HRW s0 s1 s2 s3 s4 s5 c0 c1 c2 c3 c4 c5
      obtain ⟨D2, d2, rfl, _⟩ := HO2.out.form
      rw [HA.out.nc] at HO2 ⊢
      obtain ⟨X2, hX2⟩ : ∃ X, X = y2.setCell ⟨bc, 2, none⟩ (.slice D2 nc d2) := ⟨_, rfl⟩
      have ho : ∀ j, j ≠ bc → X2.heap[j]? = y2.heap[j]? := fun j hj => by rw [hX2]; exact set_other _ _ _ _ _ hj
      replace HH : Hid (StH w X2 n0 V A n c k st so dm ep p Av nv cv Ac nc cc Ai ni ci sm mo) := Lib.hid (by
        have hbn := HBN.out
        exact ⟨by rw [hX2]; exact HH.out.below.setCell (p := ⟨bc, 2, none⟩) HBC.out _, (ho _ (by omega)).trans HH.out.gb, (ho _ (by omega)).trans HH.out.jb, (ho _ (by omega)).trans HH.out.sb⟩)
      obtain ⟨c0, c1, c2, c3, c4, c5, _⟩ := six HCB.out
      have f2 := warm HCB.out 2
      replace HO1 := Lib.hid (own_moved HO1.out HCB.out (by decide) ho)
      replace HO2 := Lib.hid (own_moved HO2.out HCB.out (by decide) ho)
      replace HCB : Hid (X2.heap[bc]? = some (.cells #[.int .i64 p, .slice D1 nv d1, .slice D2 nc d2, .slice none 0 0, .int .i64 sm, .int .i64 mo] 33 (0, 0))) := Lib.hid (by rw [hX2]; exact set_heap (i := 2) HCB.out _)
      clear ho
      go_upto_region 6 with fail
      rw [← hX2]
      clear hX2 c0 c1 c2 c3 c4 c5 f2
      obtain ⟨s0, s1, s2, s3, s4, s5, _⟩ := six HH.out.sb
      obtain ⟨c0, c1, c2, c3, c4, c5, _⟩ := six HCB.out
      have HSZ := Lib.hid HH.out.below.size
      have HRW := Lib.hid ((HA.out.below HH.out.below).i)
      go_wp2_with (at_builtin; refine app_kcopy rfl (.tmp 42) (.tmp 44) rfl w.heap.size s.inb rfl Ai ni ci HA.out.ni rfl HRW.out (by omega) HSZ.out ?_)
      intro u3 y3 ho hg
      have hb : Below X2.heap.size X2 y3 := Below.grown (Below.refl _ _) hg (Nat.le_refl _) (fun j e => by cases e)
      replace HH := Lib.hid (HH.out.step hb)
      replace HCB := Lib.hid (keep HCB.out hb)
      replace HO1 := Lib.hid (own_below HO1.out hb)
      replace HO2 := Lib.hid (own_below HO2.out hb)
      have HO3 : Hid (KOwn y3 w.heap.size u3 s.inb) := Lib.hid ho
      clear hb ho hg HSZ HRW s0 s1 s2 s3 s4 s5 c0 c1 c2 c3 c4 c5
      obtain ⟨D3, d3, rfl, _⟩ := HO3.out.room
      rw [HA.out.ni] at HO3 ⊢
      obtain ⟨X3, hX3⟩ : ∃ X, X = y3.setCell ⟨bc, 3, none⟩ (.slice D3 ni d3) := ⟨_, rfl⟩
      have ho : ∀ j, j ≠ bc → X3.heap[j]? = y3.heap[j]? := fun j hj => by rw [hX3]; exact set_other _ _ _ _ _ hj
      replace HH : Hid (StH w X3 n0 V A n c k st so dm ep p Av nv cv Ac nc cc Ai ni ci sm mo) := Lib.hid (by
        have hbn := HBN.out
        exact ⟨by rw [hX3]; exact HH.out.below.setCell (p := ⟨bc, 3, none⟩) HBC.out _, (ho _ (by omega)).trans HH.out.gb, (ho _ (by omega)).trans HH.out.jb, (ho _ (by omega)).trans HH.out.sb⟩)
      obtain ⟨c0, c1, c2, c3, c4, c5, _⟩ := six HCB.out
      have f3 := warm HCB.out 3
      replace HO1 := Lib.hid (own_moved HO1.out HCB.out (by decide) ho)
      replace HO2 := Lib.hid (own_moved HO2.out HCB.out (by decide) ho)
      replace HO3 := Lib.hid (own_moved HO3.out HCB.out (by decide) ho)
      replace HCB : Hid (X3.heap[bc]? = some (.cells #[.int .i64 p, .slice D1 nv d1, .slice D2 nc d2, .slice D3 ni d3, .int .i64 sm, .int .i64 mo] 33 (0, 0))) := Lib.hid (by rw [hX3]; exact set_heap (i := 3) HCB.out _)
      clear ho
      go_upto_region 7 with fail
      rw [← hX3]
      clear hX3 c0 c1 c2 c3 c4 c5 f3
      have HCP : Hid (CpH X3 bc w.heap.size p sm mo s (.slice D1 nv d1) (.slice D2 nc d2) (.slice D3 ni d3)) := Lib.hid ⟨HCB.out, HO1.out, HO2.out, HO3.out⟩
      have HSC : Hid (SAt X3 D1 D2 D3 nv nc ni s) := Lib.hid (by
        obtain ⟨_, _, e1, k1⟩ := QOwn.form HO1.out
        obtain ⟨_, _, e2, k2⟩ := BOwn.form HO2.out
        obtain ⟨_, _, e3, k3, _⟩ := KOwn.room HO3.out
        cases e1; cases e2; cases e3
        exact ⟨k1, k2, k3, HA.out.nv, HA.out.nc, HA.out.ni⟩)
      clear HCB HO1 HO2 HO3
      have HX3 := Lib.hid HH.out
      -- the step
      obtain ⟨s0, s1, s2, s3, s4, s5, _⟩ := six HH.out.sb
      obtain ⟨g0, g1, _⟩ := two HH.out.gb
      obtain ⟨j0, j1, j2, j3, j4, _⟩ := jb_cells HH.out.jb
      go_wp2_with fail
      refine (HC1.out X3 HH.out.below).mono ?_
      rintro e v1 ⟨x, rfl, hx1, hb1⟩
      obtain ⟨av, a1, ac, a2, ai, a3, rfl, hsa, hqa, _, _⟩ := hx1.out.at
      simp only at hsa hqa ⊢
      obtain ⟨an1, han1⟩ : ∃ x, x = S.vals.length := ⟨_, rfl⟩
      obtain ⟨an2, han2⟩ : ∃ x, x = S.chg.length := ⟨_, rfl⟩
      obtain ⟨an3, han3⟩ : ∃ x, x = S.inb.length := ⟨_, rfl⟩
      rw [← han1, ← han2, ← han3] at hsa ⊢
      rw [← han1] at hqa
      have HL1 : Hid (an1 ≤ 512 ∧ an2 ≤ 512 ∧ an3 ≤ 512) := Lib.hid (by rw [han1, han2, han3]; exact HFW.out)
      clear han1 han2 han3
      obtain ⟨X4, hX4⟩ : ∃ X, X = v1.alloc (.cells #[.int .i64 pr, .slice av an1 a1, .slice ac an2 a2, .slice ai an3 a3, .int .i64 S.sum, .int .i64 S.most] 33) := ⟨_, rfl⟩
      obtain ⟨bl1, eb1⟩ : ∃ b, b = v1.heap.size := ⟨_, rfl⟩
      have hb' : Below v1.heap.size v1 X4 := by rw [hX4]; exact (Below.refl _ v1).alloc (Nat.le_refl _) _
      have hb : Below X3.heap.size X3 X4 := step_below hb1.out hb1.out.size hb'
      have HB34 := Lib.hid hb
      replace HH := Lib.hid (HH.out.step hb); replace HSC := Lib.hid (HSC.out.below hb)
      have HCX := Lib.hid (HCP.out.step hb)
      have HS1 := Lib.hid (hsa.below hb'); have HQ1 := Lib.hid (hqa.below hb')
      have HB1 : Hid (X4.heap[bl1]? = some (.cells #[.int .i64 pr, .slice av an1 a1, .slice ac an2 a2, .slice ai an3 a3, .int .i64 S.sum, .int .i64 S.most] 33 (0, 0))) := Lib.hid (by rw [hX4, eb1]; exact heap_alloc_new v1 _)
      clear hb hb' hsa hqa hx1 hb1 s0 s1 s2 s3 s4 s5 g0 g1 j0 j1 j2 j3 j4
      go_upto_region 8 with fail
      rw [← hX4, show v1.heap.size = bl1 from eb1.symm]
      clear hX4 eb1
      obtain ⟨g0, g1, _⟩ := two HH.out.gb
      obtain ⟨j0, j1, j2, j3, j4, _⟩ := jb_cells HH.out.jb
      obtain ⟨c0, c1, c2, c3, c4, c5, _⟩ := six HCX.out.cb
      go_wp2_with fail
      refine (HC2.out X4 D1 D2 D3 d1 d2 d3 HH.out.below HSC.out).mono ?_
      rintro e v2 ⟨bv, b1, bcc, b2, bi, b3, bn1, bn2, bn3, rfl, hs2, hf2, hb2⟩
      obtain ⟨X5, hX5⟩ : ∃ X, X = v2.alloc (.cells #[.int .i64 pr, .slice bv bn1 b1, .slice bcc bn2 b2, .slice bi bn3 b3, .int .i64 S.sum, .int .i64 S.most] 33) := ⟨_, rfl⟩
      obtain ⟨bl2, eb2⟩ : ∃ b, b = v2.heap.size := ⟨_, rfl⟩
      have hb' : Below v2.heap.size v2 X5 := by rw [hX5]; exact (Below.refl _ v2).alloc (Nat.le_refl _) _
      have hb : Below X4.heap.size X4 X5 := step_below hb2.out hb2.out.size hb'
      replace HB34 := Lib.hid (step_below HB34.out HB34.out.size hb)
      replace HH := Lib.hid (HH.out.step hb)
      replace HS1 := Lib.hid (HS1.out.below hb); replace HB1 := Lib.hid (keep HB1.out hb); replace HQ1 := Lib.hid (HQ1.out.below hb)
      have HS2 := Lib.hid (hs2.out.below hb')
      have HB2 : Hid (X5.heap[bl2]? = some (.cells #[.int .i64 pr, .slice bv bn1 b1, .slice bcc bn2 b2, .slice bi bn3 b3, .int .i64 S.sum, .int .i64 S.most] 33 (0, 0))) := Lib.hid (by rw [hX5, eb2]; exact heap_alloc_new v2 _)
      have HL2 := Lib.hid hf2.out
      clear hb hb' hs2 hf2 hb2 g0 g1 j0 j1 j2 j3 j4 c0 c1 c2 c3 c4 c5 HCX HSC
      go_upto_region 9 with fail
      rw [← hX5, show v2.heap.size = bl2 from eb2.symm]
      clear hX5 eb2
      obtain ⟨x0, x1, x2, x3, x4, x5, _⟩ := six HB1.out
      obtain ⟨y0, y1, y2, y3, y4, y5, _⟩ := six HB2.out
      have HQ := Lib.hid (rsqSame_any pr pr S S av ac ai bv bcc bi an1 an2 an3 a1 a2 a3 bn1 bn2 bn3 b1 b2 b3 X5 HS1.out HS2.out (by have := HL1.out; omega) (by have := HL1.out; omega) (by have := HL1.out; omega) (by have := HL2.out; omega) (by have := HL2.out; omega) (by have := HL2.out; omega))
      rw [sameS_refl] at HQ
      go_wp2_with fail
      refine HQ.out.mono ?_
      rintro e w5 ⟨rfl, hb⟩
      replace HB34 := Lib.hid (step_below HB34.out HB34.out.size hb)
      replace HB1 := Lib.hid (keep HB1.out hb); replace HQ1 := Lib.hid (HQ1.out.below hb)
      have HUP : Hid (w.heap.size ≤ X3.heap.size) := Lib.hid (by have := lt_of_block HCP.out.cb; have := HBC.out; omega)
      clear hb HQ x0 x1 x2 x3 x4 x5 y0 y1 y2 y3 y4 y5 HS1 HS2 HB2 HC1 HC2 HH
      -- written over
      by_cases hz : an1 = 0
      · subst hz
        obtain ⟨x0, x1, x2, x3, x4, x5, _⟩ := six HB1.out
        have HWR : Hid (Below X3.heap.size X3 w5) := HB34
        clear HQ1 HB34
        go_wp2_with fail
        go_loopg [12] 0 (fun gk i W => i = .int .i64 0 ∧ gk = 0 ∧ Hid (Below X3.heap.size X3 W) ∧ Hid (W.heap[bl1]? = some (.cells #[.int .i64 pr, .slice av 0 a1, .slice ac an2 a2, .slice ai an3 a3, .int .i64 S.sum, .int .i64 S.most] 33 (0, 0))))
        case atStart => exact ⟨rfl, rfl, HWR, HB1⟩
        case round =>
          clear HWR HB1 x0 x1 x2 x3 x4 x5
          obtain ⟨rfl, rfl, HWR, HB1⟩ := hrel
          obtain ⟨x0, x1, x2, x3, x4, x5, _⟩ := six HB1.out
          have HWX : Hid (Below w.heap.size w wr) := Lib.hid (step_below HX3.out.below HX3.out.below.size HWR.out)
          have HH : Hid (StH w wr n0 V A n c k st so dm ep p Av nv cv Ac nc cc Ai ni ci sm mo) := Lib.hid (HX3.out.step HWR.out)
          have HCY : Hid (CpH wr bc w.heap.size p sm mo s (.slice D1 nv d1) (.slice D2 nc d2) (.slice D3 ni d3)) := Lib.hid (HCP.out.step HWR.out)
          have HSC : Hid (SAt wr D1 D2 D3 nv nc ni s) := Lib.hid (by
            obtain ⟨_, _, e1, k1⟩ := QOwn.form HCY.out.q
            obtain ⟨_, _, e2, k2⟩ := BOwn.form HCY.out.m
            obtain ⟨_, _, e3, k3, _⟩ := KOwn.room HCY.out.k
            cases e1; cases e2; cases e3
            exact ⟨k1, k2, k3, HA.out.nv, HA.out.nc, HA.out.ni⟩)
          have HQ := Lib.hid (rsqSame_any p p s s Av Ac Ai D1 D2 D3 nv nc ni cv cc ci nv nc ni d1 d2 d3 wr (HA.out.below HWX.out) HSC.out h1 h2 h3 h1 h2 h3)
          rw [sameS_refl, ← HSM.out, ← HMO.out] at HQ
          obtain ⟨s0, s1, s2, s3, s4, s5, _⟩ := six HH.out.sb
          obtain ⟨c0, c1, c2, c3, c4, c5, _⟩ := six HCY.out.cb
          go_wp2_with fail
          refine HQ.out.mono ?_
          rintro e w8 ⟨rfl, hb⟩
          replace HWX := Lib.hid (step_below HWX.out HWX.out.size hb)
          clear hb HQ s0 s1 s2 s3 s4 s5 c0 c1 c2 c3 c4 c5 x0 x1 x2 x3 x4 x5 HH HCY HSC
          go_wp2_with fail
          refine (works_any _).mono ?_
          rintro e w9 ⟨rfl, hb⟩
          replace HWX := Lib.hid (step_below HWX.out HWX.out.size hb)
          clear hb
          go_wp2
          go_ret
          exact ⟨rfl, HWX.out⟩
      · have hq512 := HL1.out.1
        obtain ⟨g, rfl, hgB, hgr⟩ := own_block HQ1.out (by omega)
        have HWR : Hid (WrH X3 w5 X3.heap.size g an1 bl1 #[.int .i64 pr, .slice (some ⟨g, 0, none⟩) an1 a1, .slice ac an2 a2, .slice ai an3 a3, .int .i64 S.sum, .int .i64 S.most]) := Lib.hid ⟨HB34.out, HB1.out, hgr⟩
        clear HQ1 HB34 HB1 hgr
        go_wp2_with fail
        go_loopg [12] an1 (fun gk i W => ∃ q : Nat, q + gk = an1 ∧ i = .int .i64 (q : Int) ∧ Hid (WrH X3 W X3.heap.size g an1 bl1 #[.int .i64 pr, .slice (some ⟨g, 0, none⟩) an1 a1, .slice ac an2 a2, .slice ai an3 a3, .int .i64 S.sum, .int .i64 S.most]))
        case atStart => exact ⟨0, by omega, rfl, HWR⟩
        case round =>
          clear HWR
          obtain ⟨q, hq, rfl, HWR⟩ := hrel
          obtain ⟨x0, x1, x2, x3, x4, x5, _⟩ := six HWR.out.bb
          by_cases hlt : q < an1
          · obtain ⟨cur, hc1, hc2⟩ := HWR.out.row
            have hcu : cur[q]? = some (cur[q]'(by omega)) := Array.getElem?_eq_getElem (by omega)
            have hcl : wr.cell? ⟨g, q, none⟩ = some (cur[q]'(by omega)) := by rw [cell_of_row wr g q _ 2 (0, 0) hc1]; exact hcu
            obtain ⟨u, hu⟩ : ∃ u, u = cur[q]'(by omega) := ⟨_, rfl⟩
            rw [← hu] at hcl
            have fq := warm hc1 q
            have HWS := Lib.hid (HWR.out.set hgB q (.int .i64 (-9)))
            clear hcu hu hc1 hc2
            go_wp2
            go_roundg (gk - 1)
            case measure => omega
            case rel => exact ⟨q + 1, by omega, by go_num, HWS⟩
          · have HB4 := Lib.hid HWR.out.below
            clear HWR
            have HWX : Hid (Below w.heap.size w wr) := Lib.hid (step_below HX3.out.below HX3.out.below.size HB4.out)
            have HH : Hid (StH w wr n0 V A n c k st so dm ep p Av nv cv Ac nc cc Ai ni ci sm mo) := Lib.hid (HX3.out.step HB4.out)
            have HCY : Hid (CpH wr bc w.heap.size p sm mo s (.slice D1 nv d1) (.slice D2 nc d2) (.slice D3 ni d3)) := Lib.hid (HCP.out.step HB4.out)
            have HSC : Hid (SAt wr D1 D2 D3 nv nc ni s) := Lib.hid (by
              obtain ⟨_, _, e1, k1⟩ := QOwn.form HCY.out.q
              obtain ⟨_, _, e2, k2⟩ := BOwn.form HCY.out.m
              obtain ⟨_, _, e3, k3, _⟩ := KOwn.room HCY.out.k
              cases e1; cases e2; cases e3
              exact ⟨k1, k2, k3, HA.out.nv, HA.out.nc, HA.out.ni⟩)
            have HQ := Lib.hid (rsqSame_any p p s s Av Ac Ai D1 D2 D3 nv nc ni cv cc ci nv nc ni d1 d2 d3 wr (HA.out.below HWX.out) HSC.out h1 h2 h3 h1 h2 h3)
            rw [sameS_refl, ← HSM.out, ← HMO.out] at HQ
            obtain ⟨s0, s1, s2, s3, s4, s5, _⟩ := six HH.out.sb
            obtain ⟨c0, c1, c2, c3, c4, c5, _⟩ := six HCY.out.cb
            go_wp2_with fail
            refine HQ.out.mono ?_
            rintro e w8 ⟨rfl, hb⟩
            replace HWX := Lib.hid (step_below HWX.out HWX.out.size hb)
            clear hb HQ s0 s1 s2 s3 s4 s5 c0 c1 c2 c3 c4 c5 x0 x1 x2 x3 x4 x5 HH HCY HSC
            go_wp2_with fail
            refine (works_any _).mono ?_
            rintro e w9 ⟨rfl, hb⟩
            replace HWX := Lib.hid (step_below HWX.out HWX.out.size hb)
            clear hb
            go_wp2
            go_ret
            exact ⟨rfl, HWX.out⟩

end Go.Proofs.YtbbmgandkmlojaaGreat.Sq

/-
  What is proved here: a contract of the law's own spoilt: it gives some state that can be read. Conditions: rows of at most 512; c from 0 to 8.
-/
namespace Go.Proofs.YtbbmgandkmlojaaGreat.Sq
open Go.RowKit Go.Shelf Gr Wd Ws Fx Rk Lb Al In
open Pa (vl bt vl_of vl_at bt_of bt_at)

theorem QOwn.set {w : World} {B g n c : Nat} {l : List Int} (hn : l.length = n) (h : QOwn w B (.slice (some ⟨g, 0, none⟩) n c) l) (i : Nat) (x : Int) : QOwn (w.setCell ⟨g, i, none⟩ (.int .i64 x)) B (.slice (some ⟨g, 0, none⟩) n c) (l.set i x) := by
  subst hn
  have := (World.ownsRow.stored h i (.int .i64 x)).1
  unfold QOwn
  rw [show ints (l.set i x) = (ints l).set i (.int .i64 x) by simp [ints, List.map_set], List.length_set]
  exact this
theorem KOwn.set0 {w : World} {B g n c : Nat} {m : Ml} {l : List Ml} (hn : (m :: l).length = n) (h : KOwn w B (.slice (some ⟨g, 0, none⟩) n c) (m :: l)) (a : Bool) (x : Int) : KOwn ((w.setCell ⟨g, 0, none⟩ (.bool a)).setCell ⟨g, 1, none⟩ (.int .i64 x)) B (.slice (some ⟨g, 0, none⟩) n c) ((a, x) :: l) := by
  subst hn
  have := (World.ownsRow.stored (World.ownsRow.stored h 0 (.bool a)).1 1 (.int .i64 x)).1
  unfold KOwn
  exact this
def SpR (w w' : World) (e : Ending) : Prop := ∃ x p s, e = .returned x ∧ Hid (SOwn w' w.heap.size x p s) ∧ Hid ((s.vals.length ≤ 513 ∧ s.chg.length ≤ 513 ∧ s.inb.length ≤ 513) ∧ ∀ m ∈ s.inb, I63 m.2) ∧ Hid (Below w.heap.size w w')
set_option maxRecDepth 100000 in
set_option maxHeartbeats 8000000 in
theorem spoilt_any (c0 p : Int) (s : Sq) (Av Ac Ai : Option Addr) (nv nc ni cv cc ci : Nat) (w : World) (ha : SAt w Av Ac Ai nv nc ni s) (hi : ∀ m ∈ s.inb, I63 m.2) (hf : nv ≤ 512 ∧ nc ≤ 512 ∧ ni ≤ 512) (hc : 0 ≤ c0 ∧ c0 ≤ 8) :
    Calls Tryz.prog 31 #[.agg #[.int .i64 p, .slice Av nv cv, .slice Ac nc cc, .slice Ai ni ci, .int .i64 s.sum, .int .i64 s.most], .int .i64 c0] w fun e w' => SpR w w' e := by
  have mixed := mixedI
  have HA := Lib.hid ha; have HI := Lib.hid hi
  have HF := Lib.hid hf
  obtain ⟨f1, f2, f3⟩ := hf
  obtain ⟨sm, hsm⟩ : ∃ x, x = s.sum := ⟨_, rfl⟩
  obtain ⟨mo, hmo⟩ : ∃ x, x = s.most := ⟨_, rfl⟩
  rw [← hsm, ← hmo]
  have HSM := Lib.hid hsm; have HMO := Lib.hid hmo
  clear ha hi hsm hmo
  obtain ⟨W2, hW2⟩ : ∃ W2, W2 = (w.alloc (.cells #[.int .i64 p, .slice Av nv cv, .slice Ac nc cc, .slice Ai ni ci, .int .i64 sm, .int .i64 mo] 33)).alloc (.cells #[.int .i64 0, .slice none 0 0, .slice none 0 0, .slice none 0 0, .int .i64 0, .int .i64 0] 33) := ⟨_, rfl⟩
  have hal := al2 w (.cells #[.int .i64 p, .slice Av nv cv, .slice Ac nc cc, .slice Ai ni ci, .int .i64 sm, .int .i64 mo] 33) (.cells #[.int .i64 0, .slice none 0 0, .slice none 0 0, .slice none 0 0, .int .i64 0, .int .i64 0] 33)
  rw [← hW2] at hal
  obtain ⟨n0, e0⟩ : ∃ n0, n0 = w.heap.size := ⟨_, rfl⟩
  have HSB : Hid (W2.heap[n0]? = some (.cells #[.int .i64 p, .slice Av nv cv, .slice Ac nc cc, .slice Ai ni ci, .int .i64 sm, .int .i64 mo] 33 (0, 0))) := Lib.hid (by rw [e0]; exact hal.1)
  have HZB : Hid (W2.heap[n0 + 1]? = some (.cells #[.int .i64 0, .slice none 0 0, .slice none 0 0, .slice none 0 0, .int .i64 0, .int .i64 0] 33 (0, 0))) := Lib.hid (by rw [e0]; exact hal.2.1)
  have HW := Lib.hid hal.2.2
  have HN0 : Hid (w.heap.size ≤ n0) := Lib.hid (by omega)
  clear hal
  obtain ⟨X0, hX0⟩ : ∃ X, X = W2.alloc (.cells #[.int .i64 p, .slice none 0 0, .slice none 0 0, .slice none 0 0, .int .i64 sm, .int .i64 mo] 33) := ⟨_, rfl⟩
  obtain ⟨bc, ebc⟩ : ∃ b, b = W2.heap.size := ⟨_, rfl⟩
  have hb : Below W2.heap.size W2 X0 := by rw [hX0]; exact (Below.refl _ W2).alloc (Nat.le_refl _) _
  have HCB : Hid (X0.heap[bc]? = some (.cells #[.int .i64 p, .slice none 0 0, .slice none 0 0, .slice none 0 0, .int .i64 sm, .int .i64 mo] 33 (0, 0))) := Lib.hid (by rw [hX0, ebc]; exact heap_alloc_new W2 _)
  have HBC : Hid (n0 + 1 < bc) := Lib.hid (by rw [ebc]; exact lt_of_block HZB.out)
  obtain ⟨s0, s1, s2, s3, s4, s5, _⟩ := six HSB.out
  replace HSB := Lib.hid (keep HSB.out hb); replace HZB := Lib.hid (keep HZB.out hb); replace HW := Lib.hid (step_below HW.out HW.out.size hb)
  clear hb
  go_enter Tryz.func31, Tryz.ntmps31
  go_upto_region 1 with fail
  rw [← hW2, show w.heap.size = n0 from e0.symm]
  clear hW2 e0
  go_upto_region 2 with fail
  rw [← hX0, show W2.heap.size = bc from ebc.symm]
  clear hX0 ebc s0 s1 s2 s3 s4 s5
  obtain ⟨s0, s1, s2, s3, s4, s5, _⟩ := six HSB.out
  obtain ⟨c0_, c1_, c2_, c3_, c4_, c5_, _⟩ := six HCB.out
  have HSZ := Lib.hid HW.out.size
  have HRW := Lib.hid ((HA.out.below HW.out).v)
  go_wp2_with (at_builtin; refine app_qcopy rfl (.tmp 14) (.tmp 16) rfl w.heap.size s.vals rfl Av nv cv HA.out.nv rfl HRW.out (by omega) HSZ.out ?_)
  intro u1 y1 ho hg
  have hb : Below X0.heap.size X0 y1 := Below.grown (Below.refl _ _) hg (Nat.le_refl _) (fun j e => by cases e)
  replace HCB := Lib.hid (keep HCB.out hb); replace HSB := Lib.hid (keep HSB.out hb); replace HZB := Lib.hid (keep HZB.out hb); replace HW := Lib.hid (step_below HW.out HW.out.size hb)
  have HO1 : Hid (QOwn y1 w.heap.size u1 s.vals) := Lib.hid ho
  clear hb ho hg HSZ HRW s0 s1 s2 s3 s4 s5 c0_ c1_ c2_ c3_ c4_ c5_
  obtain ⟨D1, d1, rfl, _⟩ := HO1.out.form
  rw [HA.out.nv] at HO1 ⊢
  obtain ⟨X1, hX1⟩ : ∃ X, X = y1.setCell ⟨bc, 1, none⟩ (.slice D1 nv d1) := ⟨_, rfl⟩
  have ho : ∀ j, j ≠ bc → X1.heap[j]? = y1.heap[j]? := fun j hj => by rw [hX1]; exact set_other _ _ _ _ _ hj
  have hbn := HBC.out
  have hn0 := HN0.out
  replace HW : Hid (Below w.heap.size w X1) := Lib.hid (by rw [hX1]; exact HW.out.setCell (p := ⟨bc, 1, none⟩) (by show w.heap.size ≤ bc; omega) _)
  replace HSB := Lib.hid ((ho n0 (by omega)).trans HSB.out); replace HZB := Lib.hid ((ho (n0 + 1) (by omega)).trans HZB.out)
  obtain ⟨c0_, c1_, c2_, c3_, c4_, c5_, _⟩ := six HCB.out
  have f1 := warm HCB.out 1
  replace HO1 := Lib.hid (own_moved HO1.out HCB.out (by decide) ho)
  replace HCB : Hid (X1.heap[bc]? = some (.cells #[.int .i64 p, .slice D1 nv d1, .slice none 0 0, .slice none 0 0, .int .i64 sm, .int .i64 mo] 33 (0, 0))) := Lib.hid (by rw [hX1]; exact set_heap (i := 1) HCB.out _)
  clear ho hbn hn0
  go_upto_region 3 with fail
  rw [← hX1]
  clear hX1 c0_ c1_ c2_ c3_ c4_ c5_ f1
  obtain ⟨s0, s1, s2, s3, s4, s5, _⟩ := six HSB.out
  obtain ⟨c0_, c1_, c2_, c3_, c4_, c5_, _⟩ := six HCB.out
  have HSZ := Lib.hid HW.out.size
  have HRW := Lib.hid ((HA.out.below HW.out).c)
  go_wp2_with (at_builtin; refine app_bcopy rfl (.tmp 20) (.tmp 22) rfl w.heap.size s.chg rfl Ac nc cc HA.out.nc rfl HRW.out (by omega) HSZ.out ?_)
  intro u2 y2 ho hg
  have hb : Below X1.heap.size X1 y2 := Below.grown (Below.refl _ _) hg (Nat.le_refl _) (fun j e => by cases e)
  replace HCB := Lib.hid (keep HCB.out hb); replace HSB := Lib.hid (keep HSB.out hb); replace HZB := Lib.hid (keep HZB.out hb); replace HW := Lib.hid (step_below HW.out HW.out.size hb)
  replace HO1 := Lib.hid (own_below HO1.out hb)
  have HO2 : Hid (BOwn y2 w.heap.size u2 s.chg) := Lib.hid ho
  clear hb ho hg HSZ HRW s0 s1 s2 s3 s4 s5 c0_ c1_ c2_ c3_ c4_ c5_
  obtain ⟨D2, d2, rfl, _⟩ := HO2.out.form
  rw [HA.out.nc] at HO2 ⊢
  obtain ⟨X2, hX2⟩ : ∃ X, X = y2.setCell ⟨bc, 2, none⟩ (.slice D2 nc d2) := ⟨_, rfl⟩
  have ho : ∀ j, j ≠ bc → X2.heap[j]? = y2.heap[j]? := fun j hj => by rw [hX2]; exact set_other _ _ _ _ _ hj
  have hbn := HBC.out
  have hn0 := HN0.out
  replace HW : Hid (Below w.heap.size w X2) := Lib.hid (by rw [hX2]; exact HW.out.setCell (p := ⟨bc, 2, none⟩) (by show w.heap.size ≤ bc; omega) _)
  replace HSB := Lib.hid ((ho n0 (by omega)).trans HSB.out); replace HZB := Lib.hid ((ho (n0 + 1) (by omega)).trans HZB.out)
  obtain ⟨c0_, c1_, c2_, c3_, c4_, c5_, _⟩ := six HCB.out
  have f2 := warm HCB.out 2
  replace HO1 := Lib.hid (own_moved HO1.out HCB.out (by decide) ho)
  replace HO2 := Lib.hid (own_moved HO2.out HCB.out (by decide) ho)
  replace HCB : Hid (X2.heap[bc]? = some (.cells #[.int .i64 p, .slice D1 nv d1, .slice D2 nc d2, .slice none 0 0, .int .i64 sm, .int .i64 mo] 33 (0, 0))) := Lib.hid (by rw [hX2]; exact set_heap (i := 2) HCB.out _)
  clear ho hbn hn0
  go_upto_region 4 with fail
  rw [← hX2]
  clear hX2 c0_ c1_ c2_ c3_ c4_ c5_ f2
  obtain ⟨s0, s1, s2, s3, s4, s5, _⟩ := six HSB.out
  obtain ⟨c0_, c1_, c2_, c3_, c4_, c5_, _⟩ := six HCB.out
  have HSZ := Lib.hid HW.out.size
  have HRW := Lib.hid ((HA.out.below HW.out).i)
  go_wp2_with (at_builtin; refine app_kcopy rfl (.tmp 26) (.tmp 28) rfl w.heap.size s.inb rfl Ai ni ci HA.out.ni rfl HRW.out (by omega) HSZ.out ?_)
  intro u3 y3 ho hg
  have hb : Below X2.heap.size X2 y3 := Below.grown (Below.refl _ _) hg (Nat.le_refl _) (fun j e => by cases e)
  replace HCB := Lib.hid (keep HCB.out hb); replace HSB := Lib.hid (keep HSB.out hb); replace HZB := Lib.hid (keep HZB.out hb); replace HW := Lib.hid (step_below HW.out HW.out.size hb)
  replace HO1 := Lib.hid (own_below HO1.out hb)
  replace HO2 := Lib.hid (own_below HO2.out hb)
  have HO3 : Hid (KOwn y3 w.heap.size u3 s.inb) := Lib.hid ho
  clear hb ho hg HSZ HRW s0 s1 s2 s3 s4 s5 c0_ c1_ c2_ c3_ c4_ c5_
  obtain ⟨D3, d3, rfl, _⟩ := HO3.out.room
  rw [HA.out.ni] at HO3 ⊢
  obtain ⟨X3, hX3⟩ : ∃ X, X = y3.setCell ⟨bc, 3, none⟩ (.slice D3 ni d3) := ⟨_, rfl⟩
  have ho : ∀ j, j ≠ bc → X3.heap[j]? = y3.heap[j]? := fun j hj => by rw [hX3]; exact set_other _ _ _ _ _ hj
  have hbn := HBC.out
  have hn0 := HN0.out
  replace HW : Hid (Below w.heap.size w X3) := Lib.hid (by rw [hX3]; exact HW.out.setCell (p := ⟨bc, 3, none⟩) (by show w.heap.size ≤ bc; omega) _)
  replace HSB := Lib.hid ((ho n0 (by omega)).trans HSB.out); replace HZB := Lib.hid ((ho (n0 + 1) (by omega)).trans HZB.out)
  obtain ⟨c0_, c1_, c2_, c3_, c4_, c5_, _⟩ := six HCB.out
  have f3 := warm HCB.out 3
  replace HO1 := Lib.hid (own_moved HO1.out HCB.out (by decide) ho)
  replace HO2 := Lib.hid (own_moved HO2.out HCB.out (by decide) ho)
  replace HO3 := Lib.hid (own_moved HO3.out HCB.out (by decide) ho)
  replace HCB : Hid (X3.heap[bc]? = some (.cells #[.int .i64 p, .slice D1 nv d1, .slice D2 nc d2, .slice D3 ni d3, .int .i64 sm, .int .i64 mo] 33 (0, 0))) := Lib.hid (by rw [hX3]; exact set_heap (i := 3) HCB.out _)
  clear ho hbn hn0
  go_upto_region 5 with fail
  rw [← hX3]
  clear hX3 c0_ c1_ c2_ c3_ c4_ c5_ f3
  have hcs : c0 = 0 ∨ c0 = 1 ∨ c0 = 2 ∨ c0 = 3 ∨ c0 = 4 ∨ c0 = 5 ∨ c0 = 6 ∨ c0 = 7 ∨ c0 = 8 := by omega
  clear hc HSB
  rcases hcs with rfl | rfl | rfl | rfl | rfl | rfl | rfl | rfl | rfl
  · obtain ⟨x0, x1, x2, x3, x4, x5, xl⟩ := six HCB.out
    have fi := warm HCB.out 0
    obtain ⟨Y21, hY⟩ : ∃ Y, Y = X3.setCell ⟨bc, 0, none⟩ (.int .i64 2000) := ⟨_, rfl⟩
    have ho : ∀ j, j ≠ bc → Y21.heap[j]? = X3.heap[j]? := fun j hj => by rw [hY]; exact set_other _ _ _ _ _ hj
    replace HW : Hid (Below w.heap.size w Y21) := Lib.hid (by rw [hY]; exact HW.out.setCell (p := ⟨bc, 0, none⟩) (by show w.heap.size ≤ bc; have := HBC.out; have := HN0.out; omega) _)
    replace HZB := Lib.hid ((ho (n0 + 1) (by have := HBC.out; omega)).trans HZB.out)
    replace HO1 := Lib.hid (own_moved HO1.out HCB.out (by decide) ho); replace HO2 := Lib.hid (own_moved HO2.out HCB.out (by decide) ho); replace HO3 := Lib.hid (own_moved HO3.out HCB.out (by decide) ho)
    replace HCB : Hid (Y21.heap[bc]? = some (.cells #[.int .i64 2000, .slice D1 nv d1, .slice D2 nc d2, .slice D3 ni d3, .int .i64 sm, .int .i64 mo] 33 (0, 0))) := Lib.hid (by rw [hY]; exact set_heap (i := 0) HCB.out _)
    clear ho
    go_upto_region 21 with fail
    rw [← hY]
    clear hY x0 x1 x2 x3 x4 x5 xl fi
    obtain ⟨x0, x1, x2, x3, x4, x5, xl⟩ := six HCB.out
    obtain ⟨z0, z1, z2, z3, z4, z5, zl⟩ := six HZB.out
    have f0 := warm HZB.out 0; have f1_ := warm HZB.out 1; have f2_ := warm HZB.out 2; have f3_ := warm HZB.out 3; have f4 := warm HZB.out 4; have f5 := warm HZB.out 5
    by_cases hv0 : 0 < nv <;> by_cases hi0 : 0 < ni
    all_goals
      go_wp2
      have hX := put6_heap HZB.out (.int .i64 2000) (.slice D1 nv d1) (.slice D2 nc d2) (.slice D3 ni d3) (.int .i64 sm) (.int .i64 mo)
      have hBX := put6_below HW.out (b := n0 + 1) (by have := HN0.out; omega) (.int .i64 2000) (.slice D1 nv d1) (.slice D2 nc d2) (.slice D3 ni d3) (.int .i64 sm) (.int .i64 mo)
      have h1 := put6_moved HO1.out HZB.out (by decide) (.int .i64 2000) (.slice D1 nv d1) (.slice D2 nc d2) (.slice D3 ni d3) (.int .i64 sm) (.int .i64 mo)
      have h2 := put6_moved HO2.out HZB.out (by decide) (.int .i64 2000) (.slice D1 nv d1) (.slice D2 nc d2) (.slice D3 ni d3) (.int .i64 sm) (.int .i64 mo)
      have h3 := put6_moved HO3.out HZB.out (by decide) (.int .i64 2000) (.slice D1 nv d1) (.slice D2 nc d2) (.slice D3 ni d3) (.int .i64 sm) (.int .i64 mo)
      unfold put6 at hX hBX h1 h2 h3
      exact bodyPost_ret (v := .agg #[.int .i64 2000, .slice D1 nv d1, .slice D2 nc d2, .slice D3 ni d3, .int .i64 sm, .int .i64 mo]) (res_s _ _ _ _ _ _ _ _ _ _ _ Tryz.results31 rfl hX) rfl ⟨_, _, ⟨s.vals, s.chg, s.inb, sm, mo⟩, rfl, Lib.hid ⟨_, _, _, rfl, h1, h2, h3⟩, Lib.hid ⟨⟨by have := HF.out; have := HA.out.nv; simp; omega, by have := HF.out; have := HA.out.nc; simp; omega, by have := HF.out; have := HA.out.ni; simp; omega⟩, HI.out⟩, Lib.hid hBX⟩
  · obtain ⟨x0, x1, x2, x3, x4, x5, xl⟩ := six HCB.out
    have fi := warm HCB.out 0
    obtain ⟨Y21, hY⟩ : ∃ Y, Y = X3.setCell ⟨bc, 0, none⟩ (.int .i64 (-1)) := ⟨_, rfl⟩
    have ho : ∀ j, j ≠ bc → Y21.heap[j]? = X3.heap[j]? := fun j hj => by rw [hY]; exact set_other _ _ _ _ _ hj
    replace HW : Hid (Below w.heap.size w Y21) := Lib.hid (by rw [hY]; exact HW.out.setCell (p := ⟨bc, 0, none⟩) (by show w.heap.size ≤ bc; have := HBC.out; have := HN0.out; omega) _)
    replace HZB := Lib.hid ((ho (n0 + 1) (by have := HBC.out; omega)).trans HZB.out)
    replace HO1 := Lib.hid (own_moved HO1.out HCB.out (by decide) ho); replace HO2 := Lib.hid (own_moved HO2.out HCB.out (by decide) ho); replace HO3 := Lib.hid (own_moved HO3.out HCB.out (by decide) ho)
    replace HCB : Hid (Y21.heap[bc]? = some (.cells #[.int .i64 (-1), .slice D1 nv d1, .slice D2 nc d2, .slice D3 ni d3, .int .i64 sm, .int .i64 mo] 33 (0, 0))) := Lib.hid (by rw [hY]; exact set_heap (i := 0) HCB.out _)
    clear ho
    go_upto_region 21 with fail
    rw [← hY]
    clear hY x0 x1 x2 x3 x4 x5 xl fi
    obtain ⟨x0, x1, x2, x3, x4, x5, xl⟩ := six HCB.out
    obtain ⟨z0, z1, z2, z3, z4, z5, zl⟩ := six HZB.out
    have f0 := warm HZB.out 0; have f1_ := warm HZB.out 1; have f2_ := warm HZB.out 2; have f3_ := warm HZB.out 3; have f4 := warm HZB.out 4; have f5 := warm HZB.out 5
    by_cases hv0 : 0 < nv <;> by_cases hi0 : 0 < ni
    all_goals
      go_wp2
      have hX := put6_heap HZB.out (.int .i64 (-1)) (.slice D1 nv d1) (.slice D2 nc d2) (.slice D3 ni d3) (.int .i64 sm) (.int .i64 mo)
      have hBX := put6_below HW.out (b := n0 + 1) (by have := HN0.out; omega) (.int .i64 (-1)) (.slice D1 nv d1) (.slice D2 nc d2) (.slice D3 ni d3) (.int .i64 sm) (.int .i64 mo)
      have h1 := put6_moved HO1.out HZB.out (by decide) (.int .i64 (-1)) (.slice D1 nv d1) (.slice D2 nc d2) (.slice D3 ni d3) (.int .i64 sm) (.int .i64 mo)
      have h2 := put6_moved HO2.out HZB.out (by decide) (.int .i64 (-1)) (.slice D1 nv d1) (.slice D2 nc d2) (.slice D3 ni d3) (.int .i64 sm) (.int .i64 mo)
      have h3 := put6_moved HO3.out HZB.out (by decide) (.int .i64 (-1)) (.slice D1 nv d1) (.slice D2 nc d2) (.slice D3 ni d3) (.int .i64 sm) (.int .i64 mo)
      unfold put6 at hX hBX h1 h2 h3
      exact bodyPost_ret (v := .agg #[.int .i64 (-1), .slice D1 nv d1, .slice D2 nc d2, .slice D3 ni d3, .int .i64 sm, .int .i64 mo]) (res_s _ _ _ _ _ _ _ _ _ _ _ Tryz.results31 rfl hX) rfl ⟨_, _, ⟨s.vals, s.chg, s.inb, sm, mo⟩, rfl, Lib.hid ⟨_, _, _, rfl, h1, h2, h3⟩, Lib.hid ⟨⟨by have := HF.out; have := HA.out.nv; simp; omega, by have := HF.out; have := HA.out.nc; simp; omega, by have := HF.out; have := HA.out.ni; simp; omega⟩, HI.out⟩, Lib.hid hBX⟩
  · obtain ⟨x0, x1, x2, x3, x4, x5, xl⟩ := six HCB.out
    have hb9 : Below X3.heap.size X3 (X3.alloc (.cells #[.int .i64 1] 2)) := (Below.refl _ X3).alloc (Nat.le_refl _) _
    have HQ9 := Lib.hid (own_below HO1.out hb9)
    have HOA9 := Lib.hid (own_below HO2.out hb9); have HOB9 := Lib.hid (own_below HO3.out hb9)
    have HC9 := Lib.hid (keep HCB.out hb9); have HZ9 := Lib.hid (keep HZB.out hb9); have HW9 := Lib.hid (step_below HW.out HW.out.size hb9)
    have HN9 : Hid ((X3.alloc (.cells #[.int .i64 1] 2)).heap[X3.heap.size]? = some (.cells #[.int .i64 1] 2 (0, 0))) := Lib.hid (heap_alloc_new X3 _)
    have HS9 := Lib.hid HW9.out.size
    have HL9 : Hid ((s.vals).length < 1000000000) := Lib.hid (by have := HF.out; have := HA.out.nv; omega)
    clear hb9
    go_wp2_with (at_builtin; refine app_q rfl (.tmp 41) (.tmp 42) rfl w.heap.size _ _ _ rfl HQ9.out _ rfl HN9.out HL9.out HS9.out ?_)
    intro v10 w10 ho10 hg10
    have HC10 := Lib.hid (box_other HC9.out HQ9.out (by decide) hg10); have HZ10 := Lib.hid (box_other HZ9.out HQ9.out (by decide) hg10)
    have HA10 := Lib.hid (own_other HOA9.out HQ9.out (by decide) hg10); have HB10 := Lib.hid (own_other HOB9.out HQ9.out (by decide) hg10)
    have HW10 := Lib.hid (HW9.out.trans (own_grown HQ9.out hg10 (Nat.le_refl _) HW9.out.size))
    have HK10 : Hid (QOwn w10 w.heap.size v10 (s.vals ++ [(1 : Int)])) := Lib.hid ho10
    clear ho10 hg10 HQ9 HOA9 HOB9 HC9 HZ9 HW9 HN9 HS9 HL9 x0 x1 x2 x3 x4 x5 xl
    obtain ⟨E1, e1, rfl, _⟩ := HK10.out.form
    rw [show (s.vals ++ [(1 : Int)] : List Int).length = nv + 1 by have := HA.out.nv; simp; omega] at HK10 ⊢
    obtain ⟨x0, x1, x2, x3, x4, x5, xl⟩ := six HC10.out
    have fi := warm HC10.out 1
    obtain ⟨Y21, hY⟩ : ∃ Y, Y = w10.setCell ⟨bc, 1, none⟩ (.slice E1 (nv + 1) e1) := ⟨_, rfl⟩
    have ho : ∀ j, j ≠ bc → Y21.heap[j]? = w10.heap[j]? := fun j hj => by rw [hY]; exact set_other _ _ _ _ _ hj
    replace HW : Hid (Below w.heap.size w Y21) := Lib.hid (by rw [hY]; exact HW10.out.setCell (p := ⟨bc, 1, none⟩) (by show w.heap.size ≤ bc; have := HBC.out; have := HN0.out; omega) _)
    replace HZB := Lib.hid ((ho (n0 + 1) (by have := HBC.out; omega)).trans HZ10.out)
    replace HO2 := Lib.hid (own_moved HA10.out HC10.out (by decide) ho); replace HO3 := Lib.hid (own_moved HB10.out HC10.out (by decide) ho)
    replace HO1 := Lib.hid (own_moved HK10.out HC10.out (by decide) ho)
    replace HCB : Hid (Y21.heap[bc]? = some (.cells #[.int .i64 p, .slice E1 (nv + 1) e1, .slice D2 nc d2, .slice D3 ni d3, .int .i64 sm, .int .i64 mo] 33 (0, 0))) := Lib.hid (by rw [hY]; exact set_heap (i := 1) HC10.out _)
    clear ho HC10 HZ10 HA10 HB10 HW10 HK10
    go_upto_region 21 with fail
    rw [← hY]
    clear hY x0 x1 x2 x3 x4 x5 xl fi
    obtain ⟨x0, x1, x2, x3, x4, x5, xl⟩ := six HCB.out
    obtain ⟨z0, z1, z2, z3, z4, z5, zl⟩ := six HZB.out
    have f0 := warm HZB.out 0; have f1_ := warm HZB.out 1; have f2_ := warm HZB.out 2; have f3_ := warm HZB.out 3; have f4 := warm HZB.out 4; have f5 := warm HZB.out 5
    by_cases hv0 : 0 < nv <;> by_cases hi0 : 0 < ni
    all_goals
      go_wp2
      have hX := put6_heap HZB.out (.int .i64 p) (.slice E1 (nv + 1) e1) (.slice D2 nc d2) (.slice D3 ni d3) (.int .i64 sm) (.int .i64 mo)
      have hBX := put6_below HW.out (b := n0 + 1) (by have := HN0.out; omega) (.int .i64 p) (.slice E1 (nv + 1) e1) (.slice D2 nc d2) (.slice D3 ni d3) (.int .i64 sm) (.int .i64 mo)
      have h1 := put6_moved HO1.out HZB.out (by decide) (.int .i64 p) (.slice E1 (nv + 1) e1) (.slice D2 nc d2) (.slice D3 ni d3) (.int .i64 sm) (.int .i64 mo)
      have h2 := put6_moved HO2.out HZB.out (by decide) (.int .i64 p) (.slice E1 (nv + 1) e1) (.slice D2 nc d2) (.slice D3 ni d3) (.int .i64 sm) (.int .i64 mo)
      have h3 := put6_moved HO3.out HZB.out (by decide) (.int .i64 p) (.slice E1 (nv + 1) e1) (.slice D2 nc d2) (.slice D3 ni d3) (.int .i64 sm) (.int .i64 mo)
      unfold put6 at hX hBX h1 h2 h3
      exact bodyPost_ret (v := .agg #[.int .i64 p, .slice E1 (nv + 1) e1, .slice D2 nc d2, .slice D3 ni d3, .int .i64 sm, .int .i64 mo]) (res_s _ _ _ _ _ _ _ _ _ _ _ Tryz.results31 rfl hX) rfl ⟨_, _, ⟨s.vals ++ [1], s.chg, s.inb, sm, mo⟩, rfl, Lib.hid ⟨_, _, _, rfl, h1, h2, h3⟩, Lib.hid ⟨⟨by have := HF.out; have := HA.out.nv; simp; omega, by have := HF.out; have := HA.out.nc; simp; omega, by have := HF.out; have := HA.out.ni; simp; omega⟩, HI.out⟩, Lib.hid hBX⟩
  · obtain ⟨x0, x1, x2, x3, x4, x5, xl⟩ := six HCB.out
    have hb9 : Below X3.heap.size X3 (X3.alloc (.cells #[.bool true] 4)) := (Below.refl _ X3).alloc (Nat.le_refl _) _
    have HQ9 := Lib.hid (own_below HO2.out hb9)
    have HOA9 := Lib.hid (own_below HO1.out hb9); have HOB9 := Lib.hid (own_below HO3.out hb9)
    have HC9 := Lib.hid (keep HCB.out hb9); have HZ9 := Lib.hid (keep HZB.out hb9); have HW9 := Lib.hid (step_below HW.out HW.out.size hb9)
    have HN9 : Hid ((X3.alloc (.cells #[.bool true] 4)).heap[X3.heap.size]? = some (.cells #[.bool true] 4 (0, 0))) := Lib.hid (heap_alloc_new X3 _)
    have HS9 := Lib.hid HW9.out.size
    have HL9 : Hid ((s.chg).length < 1000000000) := Lib.hid (by have := HF.out; have := HA.out.nc; omega)
    clear hb9
    go_wp2_with (at_builtin; refine app_b rfl (.tmp 48) (.tmp 49) rfl w.heap.size _ _ _ rfl HQ9.out _ rfl HN9.out HL9.out HS9.out ?_)
    intro v10 w10 ho10 hg10
    have HC10 := Lib.hid (box_other HC9.out HQ9.out (by decide) hg10); have HZ10 := Lib.hid (box_other HZ9.out HQ9.out (by decide) hg10)
    have HA10 := Lib.hid (own_other HOA9.out HQ9.out (by decide) hg10); have HB10 := Lib.hid (own_other HOB9.out HQ9.out (by decide) hg10)
    have HW10 := Lib.hid (HW9.out.trans (own_grown HQ9.out hg10 (Nat.le_refl _) HW9.out.size))
    have HK10 : Hid (BOwn w10 w.heap.size v10 (s.chg ++ [true])) := Lib.hid ho10
    clear ho10 hg10 HQ9 HOA9 HOB9 HC9 HZ9 HW9 HN9 HS9 HL9 x0 x1 x2 x3 x4 x5 xl
    obtain ⟨E1, e1, rfl, _⟩ := HK10.out.form
    rw [show (s.chg ++ [true] : List Bool).length = nc + 1 by have := HA.out.nc; simp; omega] at HK10 ⊢
    obtain ⟨x0, x1, x2, x3, x4, x5, xl⟩ := six HC10.out
    have fi := warm HC10.out 2
    obtain ⟨Y21, hY⟩ : ∃ Y, Y = w10.setCell ⟨bc, 2, none⟩ (.slice E1 (nc + 1) e1) := ⟨_, rfl⟩
    have ho : ∀ j, j ≠ bc → Y21.heap[j]? = w10.heap[j]? := fun j hj => by rw [hY]; exact set_other _ _ _ _ _ hj
    replace HW : Hid (Below w.heap.size w Y21) := Lib.hid (by rw [hY]; exact HW10.out.setCell (p := ⟨bc, 2, none⟩) (by show w.heap.size ≤ bc; have := HBC.out; have := HN0.out; omega) _)
    replace HZB := Lib.hid ((ho (n0 + 1) (by have := HBC.out; omega)).trans HZ10.out)
    replace HO1 := Lib.hid (own_moved HA10.out HC10.out (by decide) ho); replace HO3 := Lib.hid (own_moved HB10.out HC10.out (by decide) ho)
    replace HO2 := Lib.hid (own_moved HK10.out HC10.out (by decide) ho)
    replace HCB : Hid (Y21.heap[bc]? = some (.cells #[.int .i64 p, .slice D1 nv d1, .slice E1 (nc + 1) e1, .slice D3 ni d3, .int .i64 sm, .int .i64 mo] 33 (0, 0))) := Lib.hid (by rw [hY]; exact set_heap (i := 2) HC10.out _)
    clear ho HC10 HZ10 HA10 HB10 HW10 HK10
    go_upto_region 21 with fail
    rw [← hY]
    clear hY x0 x1 x2 x3 x4 x5 xl fi
    obtain ⟨x0, x1, x2, x3, x4, x5, xl⟩ := six HCB.out
    obtain ⟨z0, z1, z2, z3, z4, z5, zl⟩ := six HZB.out
    have f0 := warm HZB.out 0; have f1_ := warm HZB.out 1; have f2_ := warm HZB.out 2; have f3_ := warm HZB.out 3; have f4 := warm HZB.out 4; have f5 := warm HZB.out 5
    by_cases hv0 : 0 < nv <;> by_cases hi0 : 0 < ni
    all_goals
      go_wp2
      have hX := put6_heap HZB.out (.int .i64 p) (.slice D1 nv d1) (.slice E1 (nc + 1) e1) (.slice D3 ni d3) (.int .i64 sm) (.int .i64 mo)
      have hBX := put6_below HW.out (b := n0 + 1) (by have := HN0.out; omega) (.int .i64 p) (.slice D1 nv d1) (.slice E1 (nc + 1) e1) (.slice D3 ni d3) (.int .i64 sm) (.int .i64 mo)
      have h1 := put6_moved HO1.out HZB.out (by decide) (.int .i64 p) (.slice D1 nv d1) (.slice E1 (nc + 1) e1) (.slice D3 ni d3) (.int .i64 sm) (.int .i64 mo)
      have h2 := put6_moved HO2.out HZB.out (by decide) (.int .i64 p) (.slice D1 nv d1) (.slice E1 (nc + 1) e1) (.slice D3 ni d3) (.int .i64 sm) (.int .i64 mo)
      have h3 := put6_moved HO3.out HZB.out (by decide) (.int .i64 p) (.slice D1 nv d1) (.slice E1 (nc + 1) e1) (.slice D3 ni d3) (.int .i64 sm) (.int .i64 mo)
      unfold put6 at hX hBX h1 h2 h3
      exact bodyPost_ret (v := .agg #[.int .i64 p, .slice D1 nv d1, .slice E1 (nc + 1) e1, .slice D3 ni d3, .int .i64 sm, .int .i64 mo]) (res_s _ _ _ _ _ _ _ _ _ _ _ Tryz.results31 rfl hX) rfl ⟨_, _, ⟨s.vals, s.chg ++ [true], s.inb, sm, mo⟩, rfl, Lib.hid ⟨_, _, _, rfl, h1, h2, h3⟩, Lib.hid ⟨⟨by have := HF.out; have := HA.out.nv; simp; omega, by have := HF.out; have := HA.out.nc; simp; omega, by have := HF.out; have := HA.out.ni; simp; omega⟩, HI.out⟩, Lib.hid hBX⟩
  · obtain ⟨x0, x1, x2, x3, x4, x5, xl⟩ := six HCB.out
    have fi := warm HCB.out 4
    obtain ⟨Y21, hY⟩ : ∃ Y, Y = X3.setCell ⟨bc, 4, none⟩ (.int .i64 4611686018427387905) := ⟨_, rfl⟩
    have ho : ∀ j, j ≠ bc → Y21.heap[j]? = X3.heap[j]? := fun j hj => by rw [hY]; exact set_other _ _ _ _ _ hj
    replace HW : Hid (Below w.heap.size w Y21) := Lib.hid (by rw [hY]; exact HW.out.setCell (p := ⟨bc, 4, none⟩) (by show w.heap.size ≤ bc; have := HBC.out; have := HN0.out; omega) _)
    replace HZB := Lib.hid ((ho (n0 + 1) (by have := HBC.out; omega)).trans HZB.out)
    replace HO1 := Lib.hid (own_moved HO1.out HCB.out (by decide) ho); replace HO2 := Lib.hid (own_moved HO2.out HCB.out (by decide) ho); replace HO3 := Lib.hid (own_moved HO3.out HCB.out (by decide) ho)
    replace HCB : Hid (Y21.heap[bc]? = some (.cells #[.int .i64 p, .slice D1 nv d1, .slice D2 nc d2, .slice D3 ni d3, .int .i64 4611686018427387905, .int .i64 mo] 33 (0, 0))) := Lib.hid (by rw [hY]; exact set_heap (i := 4) HCB.out _)
    clear ho
    go_upto_region 21 with fail
    rw [← hY]
    clear hY x0 x1 x2 x3 x4 x5 xl fi
    obtain ⟨x0, x1, x2, x3, x4, x5, xl⟩ := six HCB.out
    obtain ⟨z0, z1, z2, z3, z4, z5, zl⟩ := six HZB.out
    have f0 := warm HZB.out 0; have f1_ := warm HZB.out 1; have f2_ := warm HZB.out 2; have f3_ := warm HZB.out 3; have f4 := warm HZB.out 4; have f5 := warm HZB.out 5
    by_cases hv0 : 0 < nv <;> by_cases hi0 : 0 < ni
    all_goals
      go_wp2
      have hX := put6_heap HZB.out (.int .i64 p) (.slice D1 nv d1) (.slice D2 nc d2) (.slice D3 ni d3) (.int .i64 4611686018427387905) (.int .i64 mo)
      have hBX := put6_below HW.out (b := n0 + 1) (by have := HN0.out; omega) (.int .i64 p) (.slice D1 nv d1) (.slice D2 nc d2) (.slice D3 ni d3) (.int .i64 4611686018427387905) (.int .i64 mo)
      have h1 := put6_moved HO1.out HZB.out (by decide) (.int .i64 p) (.slice D1 nv d1) (.slice D2 nc d2) (.slice D3 ni d3) (.int .i64 4611686018427387905) (.int .i64 mo)
      have h2 := put6_moved HO2.out HZB.out (by decide) (.int .i64 p) (.slice D1 nv d1) (.slice D2 nc d2) (.slice D3 ni d3) (.int .i64 4611686018427387905) (.int .i64 mo)
      have h3 := put6_moved HO3.out HZB.out (by decide) (.int .i64 p) (.slice D1 nv d1) (.slice D2 nc d2) (.slice D3 ni d3) (.int .i64 4611686018427387905) (.int .i64 mo)
      unfold put6 at hX hBX h1 h2 h3
      exact bodyPost_ret (v := .agg #[.int .i64 p, .slice D1 nv d1, .slice D2 nc d2, .slice D3 ni d3, .int .i64 4611686018427387905, .int .i64 mo]) (res_s _ _ _ _ _ _ _ _ _ _ _ Tryz.results31 rfl hX) rfl ⟨_, _, ⟨s.vals, s.chg, s.inb, 4611686018427387905, mo⟩, rfl, Lib.hid ⟨_, _, _, rfl, h1, h2, h3⟩, Lib.hid ⟨⟨by have := HF.out; have := HA.out.nv; simp; omega, by have := HF.out; have := HA.out.nc; simp; omega, by have := HF.out; have := HA.out.ni; simp; omega⟩, HI.out⟩, Lib.hid hBX⟩
  · obtain ⟨x0, x1, x2, x3, x4, x5, xl⟩ := six HCB.out
    have fi := warm HCB.out 5
    obtain ⟨Y21, hY⟩ : ∃ Y, Y = X3.setCell ⟨bc, 5, none⟩ (.int .i64 (-1)) := ⟨_, rfl⟩
    have ho : ∀ j, j ≠ bc → Y21.heap[j]? = X3.heap[j]? := fun j hj => by rw [hY]; exact set_other _ _ _ _ _ hj
    replace HW : Hid (Below w.heap.size w Y21) := Lib.hid (by rw [hY]; exact HW.out.setCell (p := ⟨bc, 5, none⟩) (by show w.heap.size ≤ bc; have := HBC.out; have := HN0.out; omega) _)
    replace HZB := Lib.hid ((ho (n0 + 1) (by have := HBC.out; omega)).trans HZB.out)
    replace HO1 := Lib.hid (own_moved HO1.out HCB.out (by decide) ho); replace HO2 := Lib.hid (own_moved HO2.out HCB.out (by decide) ho); replace HO3 := Lib.hid (own_moved HO3.out HCB.out (by decide) ho)
    replace HCB : Hid (Y21.heap[bc]? = some (.cells #[.int .i64 p, .slice D1 nv d1, .slice D2 nc d2, .slice D3 ni d3, .int .i64 sm, .int .i64 (-1)] 33 (0, 0))) := Lib.hid (by rw [hY]; exact set_heap (i := 5) HCB.out _)
    clear ho
    go_upto_region 21 with fail
    rw [← hY]
    clear hY x0 x1 x2 x3 x4 x5 xl fi
    obtain ⟨x0, x1, x2, x3, x4, x5, xl⟩ := six HCB.out
    obtain ⟨z0, z1, z2, z3, z4, z5, zl⟩ := six HZB.out
    have f0 := warm HZB.out 0; have f1_ := warm HZB.out 1; have f2_ := warm HZB.out 2; have f3_ := warm HZB.out 3; have f4 := warm HZB.out 4; have f5 := warm HZB.out 5
    by_cases hv0 : 0 < nv <;> by_cases hi0 : 0 < ni
    all_goals
      go_wp2
      have hX := put6_heap HZB.out (.int .i64 p) (.slice D1 nv d1) (.slice D2 nc d2) (.slice D3 ni d3) (.int .i64 sm) (.int .i64 (-1))
      have hBX := put6_below HW.out (b := n0 + 1) (by have := HN0.out; omega) (.int .i64 p) (.slice D1 nv d1) (.slice D2 nc d2) (.slice D3 ni d3) (.int .i64 sm) (.int .i64 (-1))
      have h1 := put6_moved HO1.out HZB.out (by decide) (.int .i64 p) (.slice D1 nv d1) (.slice D2 nc d2) (.slice D3 ni d3) (.int .i64 sm) (.int .i64 (-1))
      have h2 := put6_moved HO2.out HZB.out (by decide) (.int .i64 p) (.slice D1 nv d1) (.slice D2 nc d2) (.slice D3 ni d3) (.int .i64 sm) (.int .i64 (-1))
      have h3 := put6_moved HO3.out HZB.out (by decide) (.int .i64 p) (.slice D1 nv d1) (.slice D2 nc d2) (.slice D3 ni d3) (.int .i64 sm) (.int .i64 (-1))
      unfold put6 at hX hBX h1 h2 h3
      exact bodyPost_ret (v := .agg #[.int .i64 p, .slice D1 nv d1, .slice D2 nc d2, .slice D3 ni d3, .int .i64 sm, .int .i64 (-1)]) (res_s _ _ _ _ _ _ _ _ _ _ _ Tryz.results31 rfl hX) rfl ⟨_, _, ⟨s.vals, s.chg, s.inb, sm, (-1)⟩, rfl, Lib.hid ⟨_, _, _, rfl, h1, h2, h3⟩, Lib.hid ⟨⟨by have := HF.out; have := HA.out.nv; simp; omega, by have := HF.out; have := HA.out.nc; simp; omega, by have := HF.out; have := HA.out.ni; simp; omega⟩, HI.out⟩, Lib.hid hBX⟩
  · obtain ⟨x0, x1, x2, x3, x4, x5, xl⟩ := six HCB.out
    have fi := warm HCB.out 0
    obtain ⟨Y20, hY⟩ : ∃ Y, Y = X3.setCell ⟨bc, 0, none⟩ (.int .i64 1999) := ⟨_, rfl⟩
    have ho : ∀ j, j ≠ bc → Y20.heap[j]? = X3.heap[j]? := fun j hj => by rw [hY]; exact set_other _ _ _ _ _ hj
    replace HW : Hid (Below w.heap.size w Y20) := Lib.hid (by rw [hY]; exact HW.out.setCell (p := ⟨bc, 0, none⟩) (by show w.heap.size ≤ bc; have := HBC.out; have := HN0.out; omega) _)
    replace HZB := Lib.hid ((ho (n0 + 1) (by have := HBC.out; omega)).trans HZB.out)
    replace HO1 := Lib.hid (own_moved HO1.out HCB.out (by decide) ho); replace HO2 := Lib.hid (own_moved HO2.out HCB.out (by decide) ho); replace HO3 := Lib.hid (own_moved HO3.out HCB.out (by decide) ho)
    replace HCB : Hid (Y20.heap[bc]? = some (.cells #[.int .i64 1999, .slice D1 nv d1, .slice D2 nc d2, .slice D3 ni d3, .int .i64 sm, .int .i64 mo] 33 (0, 0))) := Lib.hid (by rw [hY]; exact set_heap (i := 0) HCB.out _)
    clear ho
    go_upto_region 20 with fail
    rw [← hY]
    clear hY x0 x1 x2 x3 x4 x5 xl fi
    obtain ⟨x0, x1, x2, x3, x4, x5, xl⟩ := six HCB.out
    have fi := warm HCB.out 4
    obtain ⟨Y21, hY⟩ : ∃ Y, Y = Y20.setCell ⟨bc, 4, none⟩ (.int .i64 77) := ⟨_, rfl⟩
    have ho : ∀ j, j ≠ bc → Y21.heap[j]? = Y20.heap[j]? := fun j hj => by rw [hY]; exact set_other _ _ _ _ _ hj
    replace HW : Hid (Below w.heap.size w Y21) := Lib.hid (by rw [hY]; exact HW.out.setCell (p := ⟨bc, 4, none⟩) (by show w.heap.size ≤ bc; have := HBC.out; have := HN0.out; omega) _)
    replace HZB := Lib.hid ((ho (n0 + 1) (by have := HBC.out; omega)).trans HZB.out)
    replace HO1 := Lib.hid (own_moved HO1.out HCB.out (by decide) ho); replace HO2 := Lib.hid (own_moved HO2.out HCB.out (by decide) ho); replace HO3 := Lib.hid (own_moved HO3.out HCB.out (by decide) ho)
    replace HCB : Hid (Y21.heap[bc]? = some (.cells #[.int .i64 1999, .slice D1 nv d1, .slice D2 nc d2, .slice D3 ni d3, .int .i64 77, .int .i64 mo] 33 (0, 0))) := Lib.hid (by rw [hY]; exact set_heap (i := 4) HCB.out _)
    clear ho
    go_upto_region 21 with fail
    rw [← hY]
    clear hY x0 x1 x2 x3 x4 x5 xl fi
    obtain ⟨x0, x1, x2, x3, x4, x5, xl⟩ := six HCB.out
    obtain ⟨z0, z1, z2, z3, z4, z5, zl⟩ := six HZB.out
    have f0 := warm HZB.out 0; have f1_ := warm HZB.out 1; have f2_ := warm HZB.out 2; have f3_ := warm HZB.out 3; have f4 := warm HZB.out 4; have f5 := warm HZB.out 5
    by_cases hv0 : 0 < nv <;> by_cases hi0 : 0 < ni
    all_goals
      go_wp2
      have hX := put6_heap HZB.out (.int .i64 1999) (.slice D1 nv d1) (.slice D2 nc d2) (.slice D3 ni d3) (.int .i64 77) (.int .i64 mo)
      have hBX := put6_below HW.out (b := n0 + 1) (by have := HN0.out; omega) (.int .i64 1999) (.slice D1 nv d1) (.slice D2 nc d2) (.slice D3 ni d3) (.int .i64 77) (.int .i64 mo)
      have h1 := put6_moved HO1.out HZB.out (by decide) (.int .i64 1999) (.slice D1 nv d1) (.slice D2 nc d2) (.slice D3 ni d3) (.int .i64 77) (.int .i64 mo)
      have h2 := put6_moved HO2.out HZB.out (by decide) (.int .i64 1999) (.slice D1 nv d1) (.slice D2 nc d2) (.slice D3 ni d3) (.int .i64 77) (.int .i64 mo)
      have h3 := put6_moved HO3.out HZB.out (by decide) (.int .i64 1999) (.slice D1 nv d1) (.slice D2 nc d2) (.slice D3 ni d3) (.int .i64 77) (.int .i64 mo)
      unfold put6 at hX hBX h1 h2 h3
      exact bodyPost_ret (v := .agg #[.int .i64 1999, .slice D1 nv d1, .slice D2 nc d2, .slice D3 ni d3, .int .i64 77, .int .i64 mo]) (res_s _ _ _ _ _ _ _ _ _ _ _ Tryz.results31 rfl hX) rfl ⟨_, _, ⟨s.vals, s.chg, s.inb, 77, mo⟩, rfl, Lib.hid ⟨_, _, _, rfl, h1, h2, h3⟩, Lib.hid ⟨⟨by have := HF.out; have := HA.out.nv; simp; omega, by have := HF.out; have := HA.out.nc; simp; omega, by have := HF.out; have := HA.out.ni; simp; omega⟩, HI.out⟩, Lib.hid hBX⟩
  · by_cases hvi : 0 < nv ∧ 0 < ni
    · obtain ⟨hv0, hi0⟩ := hvi
      obtain ⟨g, hgA, hgB, cur, hcu, hcz⟩ := own_block HO1.out hv0
      subst hgA
      obtain ⟨u, hu⟩ : ∃ u, cur[0]? = some u := ⟨cur[0]'(by omega), Array.getElem?_eq_getElem (by omega)⟩
      have hcl : X3.cell? ⟨g, 0, none⟩ = some u := by rw [cell_of_row X3 g 0 _ 2 (0, 0) hcu]; exact hu
      have fg := warm hcu 0
      have hst := (World.ownsRow.stored (show X3.ownsRow w.heap.size 2 1 (.slice (some ⟨g, 0, none⟩) nv d1) nv (ints s.vals) from by have h := HO1.out; unfold QOwn at h; rw [HA.out.nv] at h; exact h) 0 (.int .i64 4611686018427387905))
      have HO1' := Lib.hid (QOwn.set HA.out.nv HO1.out 0 4611686018427387905)
      obtain ⟨Y, hY⟩ : ∃ Y, Y = X3.setCell ⟨g, 0, none⟩ (.int .i64 4611686018427387905) := ⟨_, rfl⟩
      rw [← hY] at hst HO1'
      have hgr : X3.grownBy Y (Value.ownBlock (.slice (some ⟨g, 0, none⟩) nv d1)) := hst.2
      have HC2 := Lib.hid (box_other HCB.out HO1.out (by decide) hgr); have HZ2 := Lib.hid (box_other HZB.out HO1.out (by decide) hgr)
      have HK2 := Lib.hid (own_other HO2.out HO1.out (by decide) hgr); have HK3 := Lib.hid (own_other HO3.out HO1.out (by decide) hgr)
      have HW2 := Lib.hid (HW.out.trans (own_grown HO1.out hgr (Nat.le_refl _) HW.out.size))
      obtain ⟨x0, x1, x2, x3, x4, x5, xl⟩ := six HCB.out
      clear hst hgr hcu hu hcz
      go_upto_region 23 with fail
      rw [← hY]
      clear hY x0 x1 x2 x3 x4 x5 xl hcl fg
      replace HCB := Lib.hid HC2.out; replace HZB := Lib.hid HZ2.out; replace HO1 := Lib.hid HO1'.out; replace HO2 := Lib.hid HK2.out; replace HO3 := Lib.hid HK3.out; replace HW := Lib.hid HW2.out
      clear HC2 HZ2 HO1' HK2 HK3 HW2
      obtain ⟨x0, x1, x2, x3, x4, x5, xl⟩ := six HCB.out
      obtain ⟨z0, z1, z2, z3, z4, z5, zl⟩ := six HZB.out
      have f0 := warm HZB.out 0; have f1_ := warm HZB.out 1; have f2_ := warm HZB.out 2; have f3_ := warm HZB.out 3; have f4 := warm HZB.out 4; have f5 := warm HZB.out 5
      go_wp2
      have hX := put6_heap HZB.out (.int .i64 p) (.slice (some ⟨g, 0, none⟩) nv d1) (.slice D2 nc d2) (.slice D3 ni d3) (.int .i64 sm) (.int .i64 mo)
      have hBX := put6_below HW.out (b := n0 + 1) (by have := HN0.out; omega) (.int .i64 p) (.slice (some ⟨g, 0, none⟩) nv d1) (.slice D2 nc d2) (.slice D3 ni d3) (.int .i64 sm) (.int .i64 mo)
      have h1 := put6_moved HO1.out HZB.out (by decide) (.int .i64 p) (.slice (some ⟨g, 0, none⟩) nv d1) (.slice D2 nc d2) (.slice D3 ni d3) (.int .i64 sm) (.int .i64 mo)
      have h2 := put6_moved HO2.out HZB.out (by decide) (.int .i64 p) (.slice (some ⟨g, 0, none⟩) nv d1) (.slice D2 nc d2) (.slice D3 ni d3) (.int .i64 sm) (.int .i64 mo)
      have h3 := put6_moved HO3.out HZB.out (by decide) (.int .i64 p) (.slice (some ⟨g, 0, none⟩) nv d1) (.slice D2 nc d2) (.slice D3 ni d3) (.int .i64 sm) (.int .i64 mo)
      unfold put6 at hX hBX h1 h2 h3
      exact bodyPost_ret (v := .agg #[.int .i64 p, .slice (some ⟨g, 0, none⟩) nv d1, .slice D2 nc d2, .slice D3 ni d3, .int .i64 sm, .int .i64 mo]) (res_s _ _ _ _ _ _ _ _ _ _ _ Tryz.results31 rfl hX) rfl ⟨_, _, ⟨s.vals.set 0 4611686018427387905, s.chg, s.inb, sm, mo⟩, rfl, Lib.hid ⟨_, _, _, rfl, h1, h2, h3⟩, Lib.hid ⟨⟨by have := HF.out; have := HA.out.nv; simp; omega, by have := HF.out; have := HA.out.nc; simp; omega, by have := HF.out; have := HA.out.ni; simp; omega⟩, HI.out⟩, Lib.hid hBX⟩
    · have hno : ¬ 0 < nv ∨ (0 < nv ∧ ¬ 0 < ni) := by omega
      clear hvi
      rcases hno with hv0 | ⟨hv0, hi0⟩
      all_goals
        obtain ⟨x0, x1, x2, x3, x4, x5, xl⟩ := six HCB.out
        obtain ⟨z0, z1, z2, z3, z4, z5, zl⟩ := six HZB.out
        have f0 := warm HZB.out 0; have f1_ := warm HZB.out 1; have f2_ := warm HZB.out 2; have f3_ := warm HZB.out 3; have f4 := warm HZB.out 4; have f5 := warm HZB.out 5
        go_wp2
        have hX := put6_heap HZB.out (.int .i64 p) (.slice D1 nv d1) (.slice D2 nc d2) (.slice D3 ni d3) (.int .i64 sm) (.int .i64 mo)
        have hBX := put6_below HW.out (b := n0 + 1) (by have := HN0.out; omega) (.int .i64 p) (.slice D1 nv d1) (.slice D2 nc d2) (.slice D3 ni d3) (.int .i64 sm) (.int .i64 mo)
        have h1 := put6_moved HO1.out HZB.out (by decide) (.int .i64 p) (.slice D1 nv d1) (.slice D2 nc d2) (.slice D3 ni d3) (.int .i64 sm) (.int .i64 mo)
        have h2 := put6_moved HO2.out HZB.out (by decide) (.int .i64 p) (.slice D1 nv d1) (.slice D2 nc d2) (.slice D3 ni d3) (.int .i64 sm) (.int .i64 mo)
        have h3 := put6_moved HO3.out HZB.out (by decide) (.int .i64 p) (.slice D1 nv d1) (.slice D2 nc d2) (.slice D3 ni d3) (.int .i64 sm) (.int .i64 mo)
        unfold put6 at hX hBX h1 h2 h3
        exact bodyPost_ret (v := .agg #[.int .i64 p, .slice D1 nv d1, .slice D2 nc d2, .slice D3 ni d3, .int .i64 sm, .int .i64 mo]) (res_s _ _ _ _ _ _ _ _ _ _ _ Tryz.results31 rfl hX) rfl ⟨_, _, ⟨s.vals, s.chg, s.inb, sm, mo⟩, rfl, Lib.hid ⟨_, _, _, rfl, h1, h2, h3⟩, Lib.hid ⟨⟨by have := HF.out; have := HA.out.nv; simp; omega, by have := HF.out; have := HA.out.nc; simp; omega, by have := HF.out; have := HA.out.ni; simp; omega⟩, HI.out⟩, Lib.hid hBX⟩
  · by_cases hvi : 0 < nv ∧ 0 < ni
    · obtain ⟨hv0, hi0⟩ := hvi
      have hrm := KOwn.room HO3.out
      rw [HA.out.ni] at hrm
      obtain ⟨A3, c3, e3, hk3, _, _, hh3⟩ := hrm
      cases e3
      obtain ⟨m, l0, hml⟩ : ∃ m l0, s.inb = m :: l0 := by
        have := HA.out.ni
        cases h : s.inb with
        | nil => rw [h] at this; exact absurd this (by simp; omega)
        | cons m l0 => exact ⟨m, l0, rfl⟩
      rcases hh3 with ⟨rfl, _⟩ | ⟨g3, rfl, hg3, hlt3, hfz⟩
      · exact absurd (kat_none hk3) (by rw [hml]; simp)
      obtain ⟨_, _, e4, c40, c41⟩ := hk3 0 m (by rw [hml]; rfl)
      cases e4
      rw [Nat.zero_mul, Nat.add_zero] at c40 c41
      obtain ⟨x0, x1, x2, x3, x4, x5, xl⟩ := six HCB.out
      have y3 := cell_regrown x3; have y4 := cell_regrown c40
      clear hk3 hlt3 hfz
      go_upto_region 24 with fail
      clear x0 x1 x2 x4 x5
      refine Tl.region_tail_below 9 mixed (by kernel_rfl) ?_
      simp only [List.take_succ_cons, List.take_zero, List.drop_succ_cons, List.drop_zero]
      repeat (go_big_quiet_step (fail))
      refine wpQuiet_nil ?_
      intro w12 hw12
      have hb12 : Below X3.heap.size X3 w12 := by obtain ⟨⟨dq, osq⟩, rfl⟩ := hw12; exact below_regrown X3 dq osq
      have d40 := (hb12.cell (block_lt_of_cell c40)).trans c40
      have d41 := (hb12.cell (block_lt_of_cell c41)).trans c41
      replace HCB := Lib.hid (keep HCB.out hb12); replace HZB := Lib.hid (keep HZB.out hb12); replace HW := Lib.hid (step_below HW.out HW.out.size hb12)
      replace HO1 := Lib.hid (own_below HO1.out hb12); replace HO2 := Lib.hid (own_below HO2.out hb12); replace HO3 := Lib.hid (own_below HO3.out hb12)
      clear hb12 hw12 y3 y4 x3 c40 c41 xl
      rw [hml] at HO3
      have hnl : (m :: l0).length = ni := by rw [← hml]; exact HA.out.ni
      have ho3 : w12.ownsRow w.heap.size 78 2 (.slice (some ⟨g3, 0, none⟩) ni d3) ni (kcs (m :: l0)) := by have h := HO3.out; unfold KOwn at h; rw [hnl] at h; exact h
      have ff : ∀ j, w12.frozen? ⟨g3, j, none⟩ = false := by
        rcases ho3.2 with ⟨h, _⟩ | ⟨g', cap', cur', h, _, hh, _⟩
        · cases h
        · cases h; exact fun j => warm hh j
      have ff0 := ff 0
      have ff1 := ff 1
      have hst := World.ownsRow.stored (World.ownsRow.stored ho3 0 (.bool m.1)).1 1 (.int .i64 (-1))
      have hst0 := (World.ownsRow.stored ho3 0 (.bool m.1)).2
      have HO3' := Lib.hid (KOwn.set0 hnl HO3.out m.1 (-1))
      obtain ⟨Y0, hY0⟩ : ∃ Y, Y = w12.setCell ⟨g3, 0, none⟩ (.bool m.1) := ⟨_, rfl⟩
      obtain ⟨Z, hZ⟩ : ∃ Z, Z = Y0.setCell ⟨g3, 1, none⟩ (.int .i64 (-1)) := ⟨_, rfl⟩
      rw [← hY0] at hst0
      rw [← hY0, ← hZ] at hst HO3'
      have hgr0 : w12.grownBy Y0 (Value.ownBlock (.slice (some ⟨g3, 0, none⟩) ni d3)) := hst0
      have ho4 := (World.ownsRow.stored ho3 0 (.bool m.1)).1
      rw [← hY0] at ho4
      have hgr : Y0.grownBy Z (Value.ownBlock (.slice (some ⟨g3, 0, none⟩) ni d3)) := hst.2
      have HC2 := Lib.hid (box_other (box_other HCB.out ho3 (by decide) hgr0) ho4 (by decide) hgr); have HZ2 := Lib.hid (box_other (box_other HZB.out ho3 (by decide) hgr0) ho4 (by decide) hgr)
      have HK1 := Lib.hid (own_other (own_other HO1.out ho3 (by decide) hgr0) ho4 (by decide) hgr); have HK2 := Lib.hid (own_other (own_other HO2.out ho3 (by decide) hgr0) ho4 (by decide) hgr)
      have HW2 := Lib.hid ((HW.out.trans (own_grown ho3 hgr0 (Nat.le_refl _) HW.out.size)).trans (own_grown ho4 hgr (Nat.le_refl _) (HW.out.trans (own_grown ho3 hgr0 (Nat.le_refl _) HW.out.size)).size))
      clear hst hst0 hgr hgr0 ho3 ho4
      go_upto_region 25 with fail
      rw [← hY0, ← hZ]
      clear hY0 hZ d40 d41 ff ff0 ff1
      replace HCB := Lib.hid HC2.out; replace HZB := Lib.hid HZ2.out; replace HO1 := Lib.hid HK1.out; replace HO2 := Lib.hid HK2.out; replace HO3 := Lib.hid HO3'.out; replace HW := Lib.hid HW2.out
      clear HC2 HZ2 HO3' HK1 HK2 HW2
      obtain ⟨g, hgA, hgB, cur, hcu, hcz⟩ := own_block HO1.out hv0
      subst hgA
      obtain ⟨u, hu⟩ : ∃ u, cur[0]? = some u := ⟨cur[0]'(by omega), Array.getElem?_eq_getElem (by omega)⟩
      have hcl : Z.cell? ⟨g, 0, none⟩ = some u := by rw [cell_of_row Z g 0 _ 2 (0, 0) hcu]; exact hu
      have fg := warm hcu 0
      have hst := (World.ownsRow.stored (show Z.ownsRow w.heap.size 2 1 (.slice (some ⟨g, 0, none⟩) nv d1) nv (ints s.vals) from by have h := HO1.out; unfold QOwn at h; rw [HA.out.nv] at h; exact h) 0 (.int .i64 4611686018427387904))
      have HO1' := Lib.hid (QOwn.set HA.out.nv HO1.out 0 4611686018427387904)
      obtain ⟨Y, hY⟩ : ∃ Y, Y = Z.setCell ⟨g, 0, none⟩ (.int .i64 4611686018427387904) := ⟨_, rfl⟩
      rw [← hY] at hst HO1'
      have hgr : Z.grownBy Y (Value.ownBlock (.slice (some ⟨g, 0, none⟩) nv d1)) := hst.2
      have HC2 := Lib.hid (box_other HCB.out HO1.out (by decide) hgr); have HZ2 := Lib.hid (box_other HZB.out HO1.out (by decide) hgr)
      have HK2 := Lib.hid (own_other HO2.out HO1.out (by decide) hgr); have HK3 := Lib.hid (own_other HO3.out HO1.out (by decide) hgr)
      have HW2 := Lib.hid (HW.out.trans (own_grown HO1.out hgr (Nat.le_refl _) HW.out.size))
      obtain ⟨x0, x1, x2, x3, x4, x5, xl⟩ := six HCB.out
      clear hst hgr hcu hu hcz
      go_upto_region 26 with fail
      rw [← hY]
      clear hY x0 x1 x2 x3 x4 x5 xl hcl fg
      replace HCB := Lib.hid HC2.out; replace HZB := Lib.hid HZ2.out; replace HO1 := Lib.hid HO1'.out; replace HO2 := Lib.hid HK2.out; replace HO3 := Lib.hid HK3.out; replace HW := Lib.hid HW2.out
      clear HC2 HZ2 HO1' HK2 HK3 HW2
      obtain ⟨x0, x1, x2, x3, x4, x5, xl⟩ := six HCB.out
      obtain ⟨z0, z1, z2, z3, z4, z5, zl⟩ := six HZB.out
      have f0 := warm HZB.out 0; have f1_ := warm HZB.out 1; have f2_ := warm HZB.out 2; have f3_ := warm HZB.out 3; have f4 := warm HZB.out 4; have f5 := warm HZB.out 5
      go_wp2
      have hX := put6_heap HZB.out (.int .i64 p) (.slice (some ⟨g, 0, none⟩) nv d1) (.slice D2 nc d2) (.slice (some ⟨g3, 0, none⟩) ni d3) (.int .i64 sm) (.int .i64 mo)
      have hBX := put6_below HW.out (b := n0 + 1) (by have := HN0.out; omega) (.int .i64 p) (.slice (some ⟨g, 0, none⟩) nv d1) (.slice D2 nc d2) (.slice (some ⟨g3, 0, none⟩) ni d3) (.int .i64 sm) (.int .i64 mo)
      have h1 := put6_moved HO1.out HZB.out (by decide) (.int .i64 p) (.slice (some ⟨g, 0, none⟩) nv d1) (.slice D2 nc d2) (.slice (some ⟨g3, 0, none⟩) ni d3) (.int .i64 sm) (.int .i64 mo)
      have h2 := put6_moved HO2.out HZB.out (by decide) (.int .i64 p) (.slice (some ⟨g, 0, none⟩) nv d1) (.slice D2 nc d2) (.slice (some ⟨g3, 0, none⟩) ni d3) (.int .i64 sm) (.int .i64 mo)
      have h3 := put6_moved HO3.out HZB.out (by decide) (.int .i64 p) (.slice (some ⟨g, 0, none⟩) nv d1) (.slice D2 nc d2) (.slice (some ⟨g3, 0, none⟩) ni d3) (.int .i64 sm) (.int .i64 mo)
      unfold put6 at hX hBX h1 h2 h3
      exact bodyPost_ret (v := .agg #[.int .i64 p, .slice (some ⟨g, 0, none⟩) nv d1, .slice D2 nc d2, .slice (some ⟨g3, 0, none⟩) ni d3, .int .i64 sm, .int .i64 mo]) (res_s _ _ _ _ _ _ _ _ _ _ _ Tryz.results31 rfl hX) rfl ⟨_, _, ⟨s.vals.set 0 4611686018427387904, s.chg, (m.1, -1) :: l0, sm, mo⟩, rfl, Lib.hid ⟨_, _, _, rfl, h1, h2, h3⟩, Lib.hid ⟨⟨by have := HF.out; have := HA.out.nv; simp; omega, by have := HF.out; have := HA.out.nc; simp; omega, by have := HF.out; have := hnl; simp at this ⊢; omega⟩, by intro x hx; simp only [List.mem_cons] at hx; exact hx.elim (fun e => by subst e; exact (show I63 (-1) from ⟨by decide, by decide⟩)) (fun hx => HI.out x (by rw [hml]; exact List.mem_cons_of_mem _ hx))⟩, Lib.hid hBX⟩
    · have hno : ¬ 0 < nv ∨ (0 < nv ∧ ¬ 0 < ni) := by omega
      clear hvi
      rcases hno with hv0 | ⟨hv0, hi0⟩
      all_goals
        obtain ⟨x0, x1, x2, x3, x4, x5, xl⟩ := six HCB.out
        obtain ⟨z0, z1, z2, z3, z4, z5, zl⟩ := six HZB.out
        have f0 := warm HZB.out 0; have f1_ := warm HZB.out 1; have f2_ := warm HZB.out 2; have f3_ := warm HZB.out 3; have f4 := warm HZB.out 4; have f5 := warm HZB.out 5
        go_wp2
        have hX := put6_heap HZB.out (.int .i64 p) (.slice D1 nv d1) (.slice D2 nc d2) (.slice D3 ni d3) (.int .i64 sm) (.int .i64 mo)
        have hBX := put6_below HW.out (b := n0 + 1) (by have := HN0.out; omega) (.int .i64 p) (.slice D1 nv d1) (.slice D2 nc d2) (.slice D3 ni d3) (.int .i64 sm) (.int .i64 mo)
        have h1 := put6_moved HO1.out HZB.out (by decide) (.int .i64 p) (.slice D1 nv d1) (.slice D2 nc d2) (.slice D3 ni d3) (.int .i64 sm) (.int .i64 mo)
        have h2 := put6_moved HO2.out HZB.out (by decide) (.int .i64 p) (.slice D1 nv d1) (.slice D2 nc d2) (.slice D3 ni d3) (.int .i64 sm) (.int .i64 mo)
        have h3 := put6_moved HO3.out HZB.out (by decide) (.int .i64 p) (.slice D1 nv d1) (.slice D2 nc d2) (.slice D3 ni d3) (.int .i64 sm) (.int .i64 mo)
        unfold put6 at hX hBX h1 h2 h3
        exact bodyPost_ret (v := .agg #[.int .i64 p, .slice D1 nv d1, .slice D2 nc d2, .slice D3 ni d3, .int .i64 sm, .int .i64 mo]) (res_s _ _ _ _ _ _ _ _ _ _ _ Tryz.results31 rfl hX) rfl ⟨_, _, ⟨s.vals, s.chg, s.inb, sm, mo⟩, rfl, Lib.hid ⟨_, _, _, rfl, h1, h2, h3⟩, Lib.hid ⟨⟨by have := HF.out; have := HA.out.nv; simp; omega, by have := HF.out; have := HA.out.nc; simp; omega, by have := HF.out; have := HA.out.ni; simp; omega⟩, HI.out⟩, Lib.hid hBX⟩

end Go.Proofs.YtbbmgandkmlojaaGreat.Sq

