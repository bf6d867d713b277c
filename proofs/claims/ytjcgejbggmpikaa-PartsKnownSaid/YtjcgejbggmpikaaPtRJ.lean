/-
  What is proved here: the contract of the document's own Join. Conditions: the list can be read; its rows hold at most 1000 edges each.
-/
import Derived.Test.YtjcgejbggmpikaaPtJ2
import Derived.Test.YtjcgejbggmpikaaPtR2
import Derived.Test.YtjcgejbggmpikaaPtJ4
namespace Go.Proofs.Ytjcgejbggmpikaa.Pt
open Go.RowKit Gr Wd Ws

/- Edges behind the call's own, at a step of a region that draws its order. -/
theorem step_more {ops : Array Oper} {o : Oper} {a : Act} {w : World} {K : Act → World → Prop} {Q : Exit → Act → World → Prop} {E : Prop} (hgd : o.guard = none) (s x : Operand)
    (ho : o.op = .call { callee := .builtin .append, args := #[s, x], argTypes := #[28, 28] }) (B : Nat) (v : Value) (M L : List Ed) (z : Nat) (hz : L.length = z) (hs : a.eval s = v) (hown : EOwn w B v M)
    (A : Option Addr) (c : Nat) (hx : a.eval x = .slice A z c) (hL : EAt w A L) (hn : M.length + z < 1000000000) (hB : B ≤ w.heap.size)
    (h : ∀ A' n' c' w', EOwn w' B (.slice A' n' c') (M ++ L) → w.grownBy w' v.ownBlock → K (a.put o.dst (.slice A' n' c')) w') :
    if Region.wanted o (yielded ops a.tmps) = true then Oper.wp Try.prog o a w K Q else E := by
  subst hz
  have hw : Region.wanted o (yielded ops a.tmps) = true := by simp [Region.wanted, hgd]
  rw [if_pos hw]
  obtain ⟨i0, hi, hz0, hz1, hz2⟩ := info_parts infoE
  have ht : Try.prog.underlying 28 = some (.slice 44) := Try.underlying28
  obtain ⟨v', w', hr, h2, h3⟩ : ∃ v' w', (Builtin.append_ #[28, 28] o.type #[v, .slice A L.length c]).run Try.prog w = .ok v' w' ∧ EOwn w' B v' (M ++ L) ∧ w.grownBy w' v.ownBlock := by
    cases A with
    | some ad =>
      obtain ⟨v', w', hr, h2, h3, _⟩ := run_append_own (P := Try.prog) w B 28 o.type 44 i0 _ 3 24 ht hi hz0 hz1 hz2 rfl (by decide) v M.length (ecs M) hown ad L.length c (ecs L) (ecs_len L) (eat_cells hL ad rfl) (ecs_one L) (by unfold maxLen; omega) (by omega) hB
      refine ⟨v', w', hr, ?_, h3⟩
      unfold EOwn
      rw [ecs_append, List.length_append]
      exact h2
    | none =>
      obtain rfl := eat_none hL
      refine ⟨v, w, ?_, by rw [List.append_nil]; exact hown, ⟨rfl, rfl, rfl, Nat.le_refl _, fun _ _ _ => rfl⟩⟩
      rcases hown.2 with ⟨rfl, _⟩ | ⟨g, cap, cur, rfl, _, _, hnc, _⟩
      · simp [Builtin.append_, run_underlying ht, sizeOf, typeInfo, hi, Builtin.lenOf, Builtin.firstCells]
      · simp [Builtin.append_, run_underlying ht, sizeOf, typeInfo, hi, Builtin.lenOf, Builtin.firstCells, hnc, storeCells]
  obtain ⟨A', c', rfl, _⟩ := h2.form
  unfold Oper.wp execOp
  simp only [ho, resolve, invoke, builtin, Sem.run_bind, Sem.run_pure, Result.andThen_ok, List.map_toArray, List.map_cons, List.map_nil, hs, hx, hr]
  exact h _ _ _ _ h2 h3

/- The result's box, the graph's box, its edges. -/
structure RjB (w wr : World) (V : Int) (s : Value) (es : List Ed) : Prop where
  bel : Below w.heap.size w wr
  res : wr.heap[w.heap.size]? = some (.cells #[.int .i64 0, .slice none 0 0] 30 (0, 0))
  box : wr.heap[w.heap.size + 1]? = some (.cells #[.int .i64 V, s] 30 (0, 0))
  own : EOwn wr (w.heap.size + 2) s es
theorem RjB.quiet {w wr w' : World} {V : Int} {s : Value} {es : List Ed} (h : RjB w wr V s es) (hb : Below wr.heap.size wr w') : RjB w w' V s es :=
  ⟨h.bel.trans (hb.mono h.bel.size), (hb.block _ (lt_of_block h.res)).trans h.res, (hb.block _ (lt_of_block h.box)).trans h.box, h.own.below hb⟩
theorem RjB.mid {w wr w' : World} {V : Int} {s : Value} {es : List Ed} (h : RjB w wr V s es) (hg : wr.grownBy w' s.ownBlock) : w'.heap[w.heap.size + 1]? = some (.cells #[.int .i64 V, s] 30 (0, 0)) :=
  (hg.block _ (lt_of_block h.box) (fun e => by have := (own_lt h.own _ e.symm).1; omega)).trans h.box
theorem RjB.app {w wr w' : World} {V : Int} {s s' : Value} {es es' : List Ed} (h : RjB w wr V s es) (ho : EOwn w' (w.heap.size + 2) s' es') (hg : wr.grownBy w' s.ownBlock) : RjB w (w'.setCell ⟨w.heap.size + 1, 1, none⟩ s') V s' es' := by
  have hb := own_lt h.own
  have keep : ∀ (b : Nat) (o : Obj), wr.heap[b]? = some o → b < w.heap.size + 2 → w'.heap[b]? = some o := fun b o hh hT =>
    (hg.block b (lt_of_block hh) (fun e => by have := (hb b e.symm).1; omega)).trans hh
  have h1 := keep _ _ h.box (by omega)
  refine ⟨(Below.grown h.bel hg h.bel.size (fun j e => by have := (hb j e).1; omega)).setCell (p := ⟨w.heap.size + 1, 1, none⟩) (by show w.heap.size ≤ w.heap.size + 1; omega) _, ?_, ?_, ?_⟩
  · exact (Below.heap_setCell w' ⟨w.heap.size + 1, 1, none⟩ s' w.heap.size (by show w.heap.size ≠ w.heap.size + 1; omega)).trans (keep _ _ h.res (by omega))
  · have := heap_setCell_same w' (w.heap.size + 1) 1 _ _ s' h1
    exact this
  · exact ownsRow_setCell_below ho (a := ⟨w.heap.size + 1, 1, none⟩) (by show w.heap.size + 1 < _; omega) _
theorem rj_start (w wq : World) (V : Int) (h : Below w.heap.size w wq) (hs : wq.heap.size = w.heap.size + 1) (hr : wq.heap[w.heap.size]? = some (.cells #[.int .i64 0, .slice none 0 0] 30 (0, 0))) : RjB w (wq.alloc (.cells #[.int .i64 V, .slice none 0 0] 30)) V (.slice none 0 0) [] := by
  refine ⟨h.alloc h.size _, ?_, ?_, EOwn.none_ _ _⟩
  · rw [Below.heap_alloc _ _ _ (by omega)]; exact hr
  · rw [← hs]; exact heap_alloc_new wq _

def RjRel (w : World) (V : Int) (l : List Pt) (g : Nat) (i : Value) (wr : World) : Prop :=
  ∃ (j : Nat) (es : List Ed) (s : Value), j + g = V.toNat ∧ i = .int .i64 (j : Int) ∧ es.length ≤ 9192 ∧ Hid (RjB w wr V s es) ∧ Hid (rGo l V.toNat 0 [] = rGo l g j es)
def RiRel (w : World) (V : Int) (P : Pt) (v : Int) (R : List Ed) (n g : Nat) (i : Value) (wr : World) : Prop :=
  ∃ (q : Nat) (es : List Ed) (s : Value), q + g = n ∧ i = .int .i64 (q : Int) ∧ es.length ≤ 9192 ∧ Hid (RjB w wr V s es) ∧ Hid (R = rRow v (P.own.drop q) (P.out.drop q) es)
def RkRel (w : World) (V : Int) (l : List Pt) (es : List Ed) (s : Value) (n g : Nat) (i : Value) (wr : World) : Prop :=
  ∃ (q : Nat), q + g = n ∧ i = .int .i64 (q : Int) ∧ Hid (RjB w wr V s es) ∧ Hid (Cuts l V es q) ∧ Hid (0 < q → chk V es = 0)
theorem rrow_nil1 (v : Int) (out : List (List Ed)) (es : List Ed) : rRow v [] out es = es := by cases out <;> rfl
theorem rrow_nil2 (v : Int) (own : List Int) (es : List Ed) : rRow v own [] es = es := by cases own <;> rfl

attribute [local irreducible] Calls in
set_option maxRecDepth 100000 in
set_option maxHeartbeats 4000000 in
theorem rJoin_any (A : Option Addr) (c : Nat) (l : List Pt) (w : World) (hA : LAt w A l) (hm : l.length ≤ 9223372036854775807) (hsm : ∀ Q ∈ l, Sm Q) (hrow : ∀ Q ∈ l, ∀ r ∈ Q.out, r.length ≤ 1000) :
    Calls Try.prog 22 #[.slice A l.length c] w fun e w' => JoRes w w' (joinB l) e ∧ Below w.heap.size w w' := by
  have mixed := mixedP
  have HA := Lib.hid hA; have HS2 := Lib.hid hsm; have HRW := Lib.hid hrow; clear hA hsm hrow
  obtain ⟨k, hk⟩ : ∃ k, k = l.length := ⟨_, rfl⟩
  rw [← hk] at hm ⊢
  have HK := Lib.hid hk; clear hk
  have HZ : Hid (Below w.heap.size w (w.alloc (.cells #[.int .i64 0, .slice none 0 0] 30))) := Lib.hid ((Below.refl _ w).alloc (Nat.le_refl _) _)
  have HN1 := Lib.hid (heap_alloc_new w (.cells #[.int .i64 0, .slice none 0 0] 30))
  have HNO : Hid (joinB l = (0, [], 2) → JoRes w (w.alloc (.cells #[.int .i64 0, .slice none 0 0] 30)) (joinB l) (.returned (.tuple #[.agg #[.int .i64 0, .slice none 0 0], .int .i64 2])) ∧ Below w.heap.size w (w.alloc (.cells #[.int .i64 0, .slice none 0 0] 30))) :=
    Lib.hid fun h => ⟨by rw [h]; exact ⟨_, rfl, EOwn.none_ _ _⟩, HZ.out⟩
  obtain ⟨r0, r1, r2, r3, r4⟩ := two HN1.out
  by_cases hk1 : k < 1
  · have hn : joinB l = (0, [], 2) := by unfold joinB; rw [if_neg]; rintro ⟨h1, _⟩; rw [← HK.out] at h1; omega
    have HNN := Lib.hid hn; clear hn
    go_enter Try.func22, Try.ntmps22
    go_wp2_with fail
    exact bodyPost_ret (v := .tuple #[.agg #[.int .i64 0, .slice none 0 0], .int .i64 2]) (res2_g _ _ _ _ _ _ _ _ _ Try.results22 rfl rfl HN1.out) rfl (HNO.out HNN.out)
  · by_cases hk2 : 64 < k
    · have hn : joinB l = (0, [], 2) := by unfold joinB; rw [if_neg]; rintro ⟨_, h1, _⟩; rw [← HK.out] at h1; omega
      have HNN := Lib.hid hn; clear hn
      go_enter Try.func22, Try.ntmps22
      go_wp2_with fail
      exact bodyPost_ret (v := .tuple #[.agg #[.int .i64 0, .slice none 0 0], .int .i64 2]) (res2_g _ _ _ _ _ _ _ _ _ Try.results22 rfl rfl HN1.out) rfl (HNO.out HNN.out)
    · obtain ⟨P0, hP0⟩ := at_lt l 0 (by rw [← HK.out]; omega)
      obtain ⟨bk, o, A1, A2, A3, c1, c2, c3, rfl, hP⟩ := HA.out 0 P0 hP0
      rw [Nat.zero_mul, Nat.add_zero] at hP
      have hhd : hd l = P0.n := by unfold hd; rw [hP0]
      obtain ⟨V, hV⟩ : ∃ V, P0.n = V := ⟨_, rfl⟩
      rw [hV] at hhd
      have f2 := (HZ.out.cell (block_lt_of_cell hP.f2)).trans hP.f2
      rw [hV] at f2
      have HH := Lib.hid hhd
      clear hP hhd hV hP0
      by_cases hV1 : V < 1
      · have hn : joinB l = (0, [], 2) := by unfold joinB; rw [if_neg]; rintro ⟨_, _, h1, _⟩; rw [HH.out] at h1; omega
        have HNN := Lib.hid hn; clear hn
        go_enter Try.func22, Try.ntmps22
        go_wp2_with fail
        exact bodyPost_ret (v := .tuple #[.agg #[.int .i64 0, .slice none 0 0], .int .i64 2]) (res2_g _ _ _ _ _ _ _ _ _ Try.results22 rfl rfl HN1.out) rfl (HNO.out HNN.out)
      · by_cases hV2 : 512 < V
        · have hn : joinB l = (0, [], 2) := by unfold joinB; rw [if_neg]; rintro ⟨_, _, _, h1⟩; rw [HH.out] at h1; omega
          have HNN := Lib.hid hn; clear hn
          go_enter Try.func22, Try.ntmps22
          go_wp2_with fail
          exact bodyPost_ret (v := .tuple #[.agg #[.int .i64 0, .slice none 0 0], .int .i64 2]) (res2_g _ _ _ _ _ _ _ _ _ Try.results22 rfl rfl HN1.out) rfl (HNO.out HNN.out)
        · have hjb : joinB l = if Cuts l V (rGo l V.toNat 0 []) l.length ∧ chk V (rGo l V.toNat 0 []) = 0 then (V, rGo l V.toNat 0 [], 0) else (0, [], 2) := by
            unfold joinB; rw [HH.out, if_pos ⟨by rw [← HK.out]; omega, by rw [← HK.out]; omega, by omega, by omega⟩]
          have HJB := Lib.hid hjb; clear hjb HNO
          go_enter Try.func22, Try.ntmps22
          go_wp2_with fail
          go_loopg [5] V.toNat (fun g i wr => RjRel w V l g i wr)
          case atStart => exact ⟨0, [], _, by omega, rfl, by simp, Lib.hid (rj_start w _ V HZ.out (by simp) HN1.out), Lib.hid rfl⟩
          case round =>
            clear f2 r0 r1 r2 r3 r4
            obtain ⟨j, es, s, hj, rfl, hes, HB, HG⟩ := hrel
            obtain ⟨b0, b1, b2, b3, b4⟩ := two HB.out.box
            by_cases hlt : (j : Int) < V
            · obtain ⟨q, hq⟩ : ∃ q : Nat, ofI (j : Int) (k : Int) = (q : Int) := ⟨(ofI j k).toNat, by have := (ofI_range (v := j) (k := k) (by omega) (by omega) (by omega) (by omega)).1; omega⟩
              have hqk : q < k := by have := (ofI_range (v := j) (k := k) (by omega) (by omega) (by omega) (by omega)).2; omega
              have HO := Lib.hid (fun W => rof_any (j : Int) (k : Int) W)
              rw [hq] at HO
              obtain ⟨P, hP⟩ := at_lt l q (by rw [← HK.out]; exact hqk)
              obtain ⟨bk', o', B1, B2, B3, d1, d2, d3, e1, hC⟩ := (HA.out.below HB.out.bel) q P hP
              obtain ⟨rfl, rfl⟩ : bk = bk' ∧ o = o' := by simpa using e1
              have hPm : P ∈ l := List.mem_of_getElem? hP
              have hso := (HS2.out P hPm).own; have hsu := (HS2.out P hPm).out
              have HRP := Lib.hid (HRW.out P hPm)
              obtain ⟨n1, hn1⟩ : ∃ n, P.own.length = n := ⟨_, rfl⟩
              obtain ⟨n2, hn2⟩ : ∃ n, P.out.length = n := ⟨_, rfl⟩
              rw [hn1] at hso; rw [hn2] at hsu
              obtain ⟨G, hG⟩ : ∃ G, gk = G + 1 := ⟨gk - 1, by omega⟩
              have hstep : rGo l V.toNat 0 [] = rGo l G (j + 1) (rRow j P.own P.out es) := by
                rw [HG.out, hG, rGo, ← HK.out, hq, Int.toNat_natCast, hP]
              have HS := Lib.hid hstep; have HPQ := Lib.hid hP
              have HM1 := Lib.hid hn1; have HM2 := Lib.hid hn2
              clear hC e1 hP hPm hstep hn1 hn2 hq
              go_wp2_with fail
              refine (HO.out _).mono ?_
              rintro e w' ⟨rfl, rfl⟩
              go_wp2_with fail
              obtain ⟨wo, rfl⟩ : ∃ wo : World, wo = wr := ⟨_, rfl⟩
              obtain ⟨Go, rfl⟩ : ∃ Go : Nat, Go = gk := ⟨_, rfl⟩
              go_loopg [7] (min n1 n2) (fun g i wr => RiRel w V P j (rRow j P.own P.out es) (min n1 n2) g i wr)
              case atStart => exact ⟨0, es, s, by omega, rfl, hes, HB, Lib.hid rfl⟩
              case round =>
                clear b0 b1 b2 b3 b4
                obtain ⟨i, fs, t, hi, rfl, hfs, HC, HR⟩ := hrel
                obtain ⟨b0, b1, b2, b3, b4⟩ := two HC.out.box
                obtain ⟨bk', o', B1, B2, B3, d1, d2, d3, e1, hC⟩ := (HA.out.below HC.out.bel) q P HPQ.out
                obtain ⟨rfl, rfl⟩ : bk = bk' ∧ o = o' := by simpa using e1
                have p3 := hC.f3; have p4 := hC.f4
                rw [HM1.out] at p3; rw [HM2.out] at p4
                have HO1 := Lib.hid hC.own; have HO2 := Lib.hid hC.out
                clear hC e1
                by_cases h1 : i < n1
                · by_cases h2 : i < n2
                  · obtain ⟨a, ha⟩ := at_lt P.own i (by rw [HM1.out]; exact h1)
                    obtain ⟨row, hrow⟩ := at_lt P.out i (by rw [HM2.out]; exact h2)
                    have hda := drop_at ha; have hdr := drop_at hrow
                    have hR : rRow j P.own P.out es = rRow j (P.own.drop (i + 1)) (P.out.drop (i + 1)) (if a = j ∧ fs.length ≤ 8192 then fs ++ row else fs) := by
                      rw [HR.out, hda, hdr]; rfl
                    have hrl := HRP.out row (List.mem_of_getElem? hrow)
                    obtain ⟨y1, z1, rfl, q0⟩ := HO1.out i a ha
                    obtain ⟨y2, z2, X, cx, rfl, q1, hre⟩ := HO2.out i row hrow
                    obtain ⟨z, hz⟩ : ∃ z, row.length = z := ⟨_, rfl⟩
                    rw [hz] at q1 hrl
                    obtain ⟨A5, c5, rfl, _⟩ := HC.out.own.form
                    obtain ⟨ne, hne⟩ : ∃ n, fs.length = n := ⟨_, rfl⟩
                    rw [hne] at HC b1 hfs hR
                    have HNE := Lib.hid hne; have HZL := Lib.hid hz; have HRE := Lib.hid hre
                    have HRR := Lib.hid hR
                    clear hda hdr ha hrow hne hz hre hR
                    by_cases h3 : a = (j : Int)
                    · subst h3
                      by_cases h4 : ne ≤ 8192
                      · rw [if_pos ⟨rfl, h4⟩] at HRR
                        have BD := below_drewN (Below.refl wr.heap.size wr) 1
                        have HCd : Hid (RjB w wr.drew V (.slice A5 ne c5) fs) := Lib.hid (HC.out.quiet (Below.refl _ wr).drew)
                        have HREd : Hid (EAt wr.drew X row) := Lib.hid (HRE.out.below (Below.refl _ wr).drew)
                        clear BD
                        go_wp2_with fail
                        go_region_law (refine step_more rfl (.tmp 86) (.tmp 94) rfl (w.heap.size + 2) _ fs row z HZL.out (by simp [Act.eval]) HCd.out.own X cx (by simp [Act.eval]) HREd.out (by rw [HNE.out]; omega) (by have := lt_of_block HCd.out.box; omega) ?_; intro A6 n6 c6 w2 ho2 hg2; have HC2 := Lib.hid (HCd.out.app ho2 hg2); have hmd := HCd.out.mid hg2; obtain ⟨m0, m1, m2, m3, m4⟩ := two hmd; clear ho2 hg2 hmd)
                        all_goals
                          clear m0 m1 m2 m3 m4
                          go_wp2
                          go_roundg (gk - 1)
                          case measure => omega
                          case rel => exact ⟨i + 1, fs ++ row, _, by omega, by go_num, by rw [List.length_append, HNE.out, HZL.out]; omega, HC2, HRR⟩
                      · rw [if_neg (fun h => h4 h.2)] at HRR
                        go_wp2
                        go_roundg (gk - 1)
                        case measure => omega
                        case rel => exact ⟨i + 1, fs, _, by omega, by go_num, by rw [HNE.out]; exact hfs, HC, HRR⟩
                    · rw [if_neg (fun h => h3 h.1)] at HRR
                      go_wp2
                      go_roundg (gk - 1)
                      case measure => omega
                      case rel => exact ⟨i + 1, fs, _, by omega, by go_num, by rw [HNE.out]; exact hfs, HC, HRR⟩
                  · have hfin : rRow j P.own P.out es = fs := by rw [HR.out, (List.drop_eq_nil_of_le (by rw [HM2.out]; omega) : P.out.drop i = []), rrow_nil2]
                    have HF := Lib.hid hfin; clear hfin
                    go_wp2
                    go_roundg (Go - 1)
                    case measure => omega
                    case rel => exact ⟨j + 1, fs, t, by omega, by go_num, hfs, HC, Lib.hid (by rw [HS.out, HF.out, show Go - 1 = G by omega])⟩
                · have hfin : rRow j P.own P.out es = fs := by rw [HR.out, (List.drop_eq_nil_of_le (by rw [HM1.out]; omega) : P.own.drop i = []), rrow_nil1]
                  have HF := Lib.hid hfin; clear hfin
                  go_wp2
                  go_roundg (Go - 1)
                  case measure => omega
                  case rel => exact ⟨j + 1, fs, t, by omega, by go_num, hfs, HC, Lib.hid (by rw [HS.out, HF.out, show Go - 1 = G by omega])⟩
            · have hes' : rGo l V.toNat 0 [] = es := by rw [HG.out, show gk = 0 by omega, rGo]
              rw [hes'] at HJB
              clear HG
              obtain ⟨A5, c5, rfl, _⟩ := HB.out.own.form
              obtain ⟨ne, hne⟩ : ∃ n, es.length = n := ⟨_, rfl⟩
              rw [hne] at HB b1 hes
              have HNE := Lib.hid hne
              clear hne hes'
              go_wp2_with fail
              go_loopg [8] k (fun g i wr => RkRel w V l es (.slice A5 ne c5) k g i wr)
              case atStart => exact ⟨0, by omega, rfl, HB, Lib.hid (fun i hi => absurd hi (by omega)), Lib.hid (fun h => absurd h (by omega))⟩
              case round =>
                clear b0 b1 b2 b3 b4 HB
                obtain ⟨q, hq, rfl, HB, HCU, HCH⟩ := hrel
                obtain ⟨b0, b1, b2, b3, b4⟩ := two HB.out.box
                by_cases hqk : q < k
                · have hE := HB.out.own
                  obtain ⟨_, _, e1, hEA, _⟩ := hE.form
                  rw [HNE.out] at e1
                  cases e1
                  have hcut := rCut_any V (k : Int) (q : Int) A5 c5 es wr hEA (by rw [HNE.out]; omega)
                  rw [HNE.out] at hcut
                  obtain ⟨E, hEE⟩ : ∃ E, chk V es = E := ⟨_, rfl⟩
                  obtain ⟨Q, hQ⟩ := at_lt l q (by rw [← HK.out]; exact hqk)
                  have HQ := Lib.hid hQ; have HE := Lib.hid hEE
                  clear hEA hE hQ
                  by_cases hE0 : E = 0
                  · subst hE0
                    have hca : cutA V es k q = (cutP V es k q, 0) := by unfold cutA; rw [if_neg (by rw [HE.out]; simp), if_pos (by omega)]
                    obtain ⟨P, hP⟩ : ∃ P, cutP V es k q = P := ⟨_, rfl⟩
                    rw [hca, hP] at hcut
                    have hsp : Sm P := by rw [← hP]; exact cutP_sm _ _ _ _ (by rw [HNE.out]; omega)
                    have HC := Lib.hid hcut; have HP := Lib.hid hP; have HSP := Lib.hid hsp
                    clear hcut hca hP hsp hEE
                    go_wp2_with fail
                    refine HC.out.mono ?_
                    rintro e w4 ⟨⟨v4, rfl, hv4⟩, hb4⟩
                    obtain ⟨X1, x1, X2, x2, X3, x3, rfl, g1, g2, g3⟩ := hv4.ptv
                    have HY4 : Hid (PtV w4 _ P) := Lib.hid ⟨X1, x1, X2, x2, X3, x3, rfl, g1, g2, g3⟩
                    clear hv4 g1 g2 g3 HC b0 b1 b2 b3 b4
                    obtain ⟨w5, hw5⟩ : ∃ w5, w5 = w4.alloc (.cells #[.int .i64 P.w, .int .i64 P.k, .int .i64 P.n, .slice X1 P.own.length x1, .slice X2 P.out.length x2, .slice X3 P.back.length x3] 38) := ⟨_, rfl⟩
                    have hb5 : Below w4.heap.size w4 w5 := by rw [hw5]; exact (Below.refl _ w4).alloc (Nat.le_refl _) _
                    have hn5 : w5.heap[w4.heap.size]? = some (.cells #[.int .i64 P.w, .int .i64 P.k, .int .i64 P.n, .slice X1 P.own.length x1, .slice X2 P.out.length x2, .slice X3 P.back.length x3] 38 (0, 0)) := by rw [hw5]; exact heap_alloc_new w4 _
                    have HB5 := Lib.hid (HB.out.quiet (hb4.trans (hb5.mono hb4.size)))
                    have HY5 := Lib.hid (HY4.out.below hb5)
                    obtain ⟨bk', o', B1, B2, B3, d1, d2, d3, e2, hC⟩ := (HA.out.below HB5.out.bel) q Q HQ.out
                    obtain ⟨rfl, rfl⟩ : bk = bk' ∧ o = o' := by simpa using e2
                    have hyq := hC.ptv
                    have HW5 := Lib.hid hw5
                    clear hw5 hb5 hb4 e2
                    go_wp2_with fail
                    rw [← HW5.out]
                    obtain ⟨R, hR⟩ : ∃ R, decide (P = Q) = R := ⟨_, rfl⟩
                    have c1' := regr fun W (h : Below w5.heap.size w5 W) => rsameP_any _ _ _ _ W (HY5.out.below h) (hyq.below h) HSP.out (HS2.out Q (List.mem_of_getElem? HQ.out))
                    rw [hR] at c1'
                    have C1 := Lib.hid c1'
                    have HR := Lib.hid hR
                    clear c1' hyq hR
                    obtain ⟨y0, y1, y2, y3, y4, y5, _⟩ := six hn5
                    have Y0 := cell_regrown y0; have Y1 := cell_regrown y1; have Y2 := cell_regrown y2; have Y3 := cell_regrown y3; have Y4 := cell_regrown y4; have Y5 := cell_regrown y5
                    have Z0 := cell_regrown hC.f0; have Z1 := cell_regrown hC.f1; have Z2 := cell_regrown hC.f2; have Z3 := cell_regrown hC.f3; have Z4 := cell_regrown hC.f4; have Z5 := cell_regrown hC.f5
                    clear y0 y1 y2 y3 y4 y5 hn5 hC
                    refine wp_region_quiet_below mixed (by kernel_rfl) ?_
                    repeat (go_big_quiet_step ((with_reducible exact C1.out _ _)))
                    refine wpQuiet_nil ?_
                    intro _ hw'
                    obtain ⟨⟨dq, osq⟩, hw''⟩ := hw'
                    subst hw''
                    have HB6 := Lib.hid (HB5.out.quiet (below_regrown w5 dq osq))
                    clear Y0 Y1 Y2 Y3 Y4 Y5 Z0 Z1 Z2 Z3 Z4 Z5 C1
                    cases R with
                    | true =>
                      have hPQ : P = Q := of_decide_eq_true HR.out
                      go_wp2
                      go_roundg (gk - 1)
                      case measure => omega
                      case rel =>
                        refine ⟨q + 1, by omega, by go_num, HB6, Lib.hid (fun i hi => ?_), Lib.hid (fun _ => HE.out)⟩
                        rcases Nat.lt_or_ge i q with hh | hh
                        · exact HCU.out i hh
                        · have hiq : i = q := by omega
                          rw [hiq, HQ.out, ← hPQ, ← HP.out, ← HK.out]
                    | false =>
                      have hPQ : P ≠ Q := of_decide_eq_false HR.out
                      have hj : joinB l = (0, [], 2) := by
                        rw [HJB.out, if_neg]
                        rintro ⟨h1, _⟩
                        have h2 := h1 q (by rw [← HK.out]; exact hqk)
                        rw [HQ.out, ← HK.out, HP.out] at h2
                        exact hPQ (Option.some.inj h2).symm
                      have HJ := Lib.hid hj; clear hj
                      obtain ⟨r0, r1, r2, r3, r4⟩ := two HB6.out.res
                      go_wp2_with fail
                      have h1 := put2_heap HB6.out.res (.int .i64 0) (.slice none 0 0)
                      have h3 := put2_below HB6.out.bel (b := w.heap.size) (Nat.le_refl _) (.int .i64 0) (.slice none 0 0)
                      unfold put2 at h1 h3
                      exact bodyPost_ret (v := .tuple #[.agg #[.int .i64 0, .slice none 0 0], .int .i64 2]) (res2_g _ _ _ _ _ _ _ _ _ Try.results22 rfl rfl h1) rfl ⟨by rw [HJ.out]; exact ⟨_, rfl, EOwn.none_ _ _⟩, h3⟩
                  · have hca : cutA V es k q = (noP, E) := by unfold cutA; rw [if_pos (by rw [HE.out]; exact hE0), HE.out]
                    obtain ⟨P, hP⟩ : ∃ P, noP = P := ⟨_, rfl⟩
                    rw [hca, hP] at hcut
                    have HC := Lib.hid hcut
                    have hb0 : (E != 0) = true := by simpa using hE0
                    have hj : joinB l = (0, [], 2) := by
                      rw [HJB.out, if_neg]
                      rintro ⟨_, h1⟩
                      exact hE0 (by rw [← HE.out]; exact h1)
                    have HJ := Lib.hid hj; clear hj
                    clear hcut hca hP hEE
                    go_wp2_with fail
                    refine HC.out.mono ?_
                    rintro e w4 ⟨⟨v4, rfl, hv4⟩, hb4⟩
                    obtain ⟨X1, x1, X2, x2, X3, x3, rfl, g1, g2, g3⟩ := hv4.ptv
                    clear hv4 g1 g2 g3 HC b0 b1 b2 b3 b4
                    obtain ⟨w5, hw5⟩ : ∃ w5, w5 = w4.alloc (.cells #[.int .i64 P.w, .int .i64 P.k, .int .i64 P.n, .slice X1 P.own.length x1, .slice X2 P.out.length x2, .slice X3 P.back.length x3] 38) := ⟨_, rfl⟩
                    have hb5 : Below w4.heap.size w4 w5 := by rw [hw5]; exact (Below.refl _ w4).alloc (Nat.le_refl _) _
                    have HB5 := Lib.hid (HB.out.quiet (hb4.trans (hb5.mono hb4.size)))
                    have HW5 := Lib.hid hw5
                    clear hw5 hb5 hb4
                    go_wp2_with fail
                    rw [← HW5.out]
                    go_quiet (fail)
                    have HB6 := Lib.hid (HB5.out.quiet (below_drewN (Below.refl _ w5) nq))
                    obtain ⟨w6, hw6⟩ : ∃ w6, w6 = w5.drewN nq := ⟨_, rfl⟩
                    rw [← hw6] at HB6 ⊢
                    clear hw6
                    obtain ⟨r0, r1, r2, r3, r4⟩ := two HB6.out.res
                    go_wp2_with fail
                    have h1 := put2_heap HB6.out.res (.int .i64 0) (.slice none 0 0)
                    have h3 := put2_below HB6.out.bel (b := w.heap.size) (Nat.le_refl _) (.int .i64 0) (.slice none 0 0)
                    unfold put2 at h1 h3
                    exact bodyPost_ret (v := .tuple #[.agg #[.int .i64 0, .slice none 0 0], .int .i64 2]) (res2_g _ _ _ _ _ _ _ _ _ Try.results22 rfl rfl h1) rfl ⟨by rw [HJ.out]; exact ⟨_, rfl, EOwn.none_ _ _⟩, h3⟩
                · have hqe : q = k := by omega
                  have hj : joinB l = (V, es, 0) := by
                    rw [HJB.out, if_pos ⟨by rw [← HK.out, ← hqe]; exact HCU.out, HCH.out (by omega)⟩]
                  have HJ := Lib.hid hj; clear hj
                  obtain ⟨r0, r1, r2, r3, r4⟩ := two HB.out.res
                  go_wp2_with fail
                  have h1 := put2_heap HB.out.res (.int .i64 V) (.slice A5 ne c5)
                  have h2 := EOwn.put2 HB.out.own (b := w.heap.size) (by omega) (.int .i64 V) (.slice A5 ne c5)
                  have h3 := put2_below HB.out.bel (b := w.heap.size) (Nat.le_refl _) (.int .i64 V) (.slice A5 ne c5)
                  unfold put2 at h1 h2 h3
                  exact bodyPost_ret (v := .tuple #[.agg #[.int .i64 V, .slice A5 ne c5], .int .i64 0]) (res2_g _ _ _ _ _ _ _ _ _ Try.results22 rfl rfl h1) rfl ⟨by rw [HJ.out]; exact ⟨_, rfl, own_mono h2 (by omega)⟩, h3⟩

end Go.Proofs.Ytjcgejbggmpikaa.Pt
