/-
  What is proved here: the texts SqIo SqKn1 SqKno SqKnownC of this seat, laid together (each says itself what it proves; no condition beyond theirs).
-/
import Derived.Test.YtbbmgandkmlojaaGreatAlMem
import Derived.Test.YtbbmgandkmlojaaGreatSqG7
import Derived.Test.YtbbmgandkmlojaaGreatSqG8
import Derived.ProofKit
import Derived.LaidMore
import Derived.OpenShut
import Derived.SizedLaws
import Derived.Carry
import Derived.ChangeSlices
import Derived.Deep.Slices
import Derived.Deep.Fields
import Derived.Deep.AppendLies
import Derived.Deep.RegionLaw
import Derived.Laws.AppendOwnNone
import Derived.Laws.OwnMore
import Derived.BigQuiet
import Derived.Deep.RegionHeld3
import Derived.Deep.CutRange
/-
  What is proved here: a call that returns true and leaves every block that was there as it was meets the law's specification. No condition.
-/
namespace Go.Proofs.YtbbmgandkmlojaaGreat.Al
open Go.ChangeShapes Go.WideShapes Go.ChangeAt Go.RowKit Go.Deep Gr Wd Ws Lb
theorem own : ownKnob Tryz.prog.godebug = none := by kernel_rfl
theorem law_post {H : Type} {enc : TypeId × Value → H} {f : Func} {s : ChangeSpec} {apart : Bool} {W W' : World} {args : Array Value} {ds : List (DataW H)} {before : List MemPlace}
    (hW : DataW.Whole enc Tryz.prog f.params.toList s.vars apart W args.toList ds [] before) (hb : Below W.heap.size W W')
    (ht : f.resultTypes = #[4]) (hr : (s.fn H (ds ++ [])).results = [.lit (.bool true)]) (hv : s.vars = []) (hg : (s.fn H (ds ++ [])).vars = [])
    (hargs : DataW.TrodAll enc Tryz.prog W' 0 (fun b => decide (b < W.heap.size)) true f.params.toList args.toList (s.fn H (ds ++ [])).args before) :
    s.post enc Tryz.prog f apart true false false W args (.bool true) W' := by
  have hres : ∀ (b : Nat) (sp : Nat → Bool) (hd : Bool), DataW.TrodAll enc Tryz.prog W' b sp hd f.resultTypes.toList ((Value.bool true).resultList f.resultTypes.size) (s.fn H (ds ++ [])).results [] := by
    intro b sp hd
    rw [hr, ht]
    exact trodAll_cons_mk (shut_bool Tryz.underlying4 _) trodAll_mk0
  have hvars : ∀ sp : Nat → Bool, DataW.TrodVars enc Tryz.prog W' sp s.vars (s.fn H (ds ++ [])).vars [] := by
    intro sp; rw [hv, hg]; rfl
  exact ⟨ds, [], before, [], before, [], hW, hres _ _ _, hargs, hvars _, hb.frame _, fun h => absurd h (by simp)⟩
end Go.Proofs.YtbbmgandkmlojaaGreat.Al

/-
  What is proved here: what the walk of SeqKnown leans on: the kit's ring and mill, the law's graphs and jobs in their blocks, and the laws where that law calls them. Condition: a ring of at most 1000 vertices.
-/
namespace Go.Proofs.YtbbmgandkmlojaaGreat.Kn
open Go.RowKit Go.Shelf Gr Wd Ws Fx Rk Lb Al In Sq

/- A graph's two cells. -/
theorem rtwo {w : World} {b : Nat} {T : TypeId} {a0 a1 : Value} (h : w.heap[b]? = some (.cells #[a0, a1] T (0, 0))) :
    w.cell? ⟨b, 0, none⟩ = some a0 ∧ w.cell? ⟨b, 1, none⟩ = some a1 ∧ w.frozen? ⟨b, 0, none⟩ = false ∧ w.frozen? ⟨b, 1, none⟩ = false ∧ b < w.heap.size :=
  ⟨by rw [Lib.cell_of_heap h]; rfl, by rw [Lib.cell_of_heap h]; rfl, Lib.frozen_of_heap h _, Lib.frozen_of_heap h _, lt_of_block h⟩
def put2 (w : World) (b : Nat) (u0 u1 : Value) : World := (w.setCell ⟨b, 0, none⟩ u0).setCell ⟨b, 1, none⟩ u1
theorem put2_heap {w : World} {b : Nat} {T : TypeId} {a0 a1 : Value} (h : w.heap[b]? = some (.cells #[a0, a1] T (0, 0))) (u0 u1 : Value) : (put2 w b u0 u1).heap[b]? = some (.cells #[u0, u1] T (0, 0)) := by
  have e0 := heap_setCell_same w b 0 _ _ u0 h
  have e1 := heap_setCell_same _ b 1 _ _ u1 e0
  exact e1
theorem put2_below {B : Nat} {a w : World} (h : Below B a w) {b : Nat} (hb : B ≤ b) (u0 u1 : Value) : Below B a (put2 w b u0 u1) := (h.setCell (p := ⟨b, 0, none⟩) hb u0).setCell (p := ⟨b, 1, none⟩) hb u1
theorem eown_put2 {w : World} {B : Nat} {v : Value} {L : List Ed} (h : EOwn w B v L) {b : Nat} (hb : b < B) (u0 u1 : Value) : EOwn (put2 w b u0 u1) B v L :=
  ownsRow_setCell_below (ownsRow_setCell_below h (a := ⟨b, 0, none⟩) hb u0) (a := ⟨b, 1, none⟩) hb u1

/- Edges behind the call's own, at a step of a region that draws its order. -/
theorem step_more {ops : Array Oper} {o : Oper} {a : Act} {w : World} {K : Act → World → Prop} {Q : Exit → Act → World → Prop} {E : Prop} (hgd : o.guard = none) (s x : Operand)
    (ho : o.op = .call { callee := .builtin .append, args := #[s, x], argTypes := #[22, 22] }) (B : Nat) (v : Value) (M L : List Ed) (z : Nat) (hz : L.length = z) (hs : a.eval s = v) (hown : EOwn w B v M)
    (A : Option Addr) (c : Nat) (hx : a.eval x = .slice A z c) (hL : EAt w A L) (hn : M.length + z < 1000000000) (hB : B ≤ w.heap.size)
    (h : ∀ A' n' c' w', EOwn w' B (.slice A' n' c') (M ++ L) → w.grownBy w' v.ownBlock → K (a.put o.dst (.slice A' n' c')) w') :
    if Region.wanted o (yielded ops a.tmps) = true then Oper.wp Tryz.prog o a w K Q else E := by
  subst hz
  have hw : Region.wanted o (yielded ops a.tmps) = true := by simp [Region.wanted, hgd]
  rw [if_pos hw]
  obtain ⟨i0, hi, hz0, hz1, hz2⟩ := info_parts infoE
  have ht : Tryz.prog.underlying 22 = some (.slice 58) := Tryz.underlying22
  obtain ⟨v', w', hr, h2, h3⟩ : ∃ v' w', (Builtin.append_ #[22, 22] o.type #[v, .slice A L.length c]).run Tryz.prog w = .ok v' w' ∧ EOwn w' B v' (M ++ L) ∧ w.grownBy w' v.ownBlock := by
    cases A with
    | some ad =>
      obtain ⟨v', w', hr, h2, h3, _⟩ := run_append_own (P := Tryz.prog) w B 22 o.type 58 i0 _ 3 24 ht hi hz0 hz1 hz2 rfl (by decide) v M.length (ecs M) hown ad L.length c (ecs L) (ecs_len L) (eat_cells hL ad rfl) (ecs_one L) (by unfold maxLen; omega) (by omega) hB
      refine ⟨v', w', hr, ?_, h3⟩
      unfold EOwn
      rw [ecs_append, List.length_append]
      exact h2
    | none =>
      obtain rfl := eat_none hL
      refine ⟨v, w, ?_, by rw [List.append_nil]; exact hown, ⟨rfl, rfl, rfl, Nat.le_refl _, fun _ _ _ => rfl⟩⟩
      rcases hown.2 with ⟨rfl, _⟩ | ⟨g, cap, cur, rfl, _, _, hnc, _⟩
      · simp [Builtin.append_, run_underlying ht, sizeOf, typeInfo, hi, Builtin.lenOf, Builtin.firstCells]
      · simp [Builtin.append_, run_underlying ht, sizeOf, typeInfo, hi, Builtin.lenOf, Builtin.firstCells, hnc, storeCells]
  obtain ⟨A', c', rfl, _⟩ := h2.form
  unfold Oper.wp execOp
  simp only [ho, resolve, invoke, builtin, Sem.run_bind, Sem.run_pure, Result.andThen_ok, List.map_toArray, List.map_cons, List.map_nil, hs, hx, hr]
  exact h _ _ _ _ h2 h3

/- The result's box, the graph's box, its edges. -/
structure RjB (w wr : World) (V : Int) (s : Value) (es : List Ed) : Prop where
  bel : Below w.heap.size w wr
  res : wr.heap[w.heap.size]? = some (.cells #[.int .i64 0, .slice none 0 0] 24 (0, 0))
  box : wr.heap[w.heap.size + 1]? = some (.cells #[.int .i64 V, s] 24 (0, 0))
  own : EOwn wr (w.heap.size + 2) s es
theorem RjB.quiet {w wr w' : World} {V : Int} {s : Value} {es : List Ed} (h : RjB w wr V s es) (hb : Below wr.heap.size wr w') : RjB w w' V s es :=
  ⟨h.bel.trans (hb.mono h.bel.size), (hb.block _ (lt_of_block h.res)).trans h.res, (hb.block _ (lt_of_block h.box)).trans h.box, h.own.below hb⟩
theorem RjB.mid {w wr w' : World} {V : Int} {s : Value} {es : List Ed} (h : RjB w wr V s es) (hg : wr.grownBy w' s.ownBlock) : w'.heap[w.heap.size + 1]? = some (.cells #[.int .i64 V, s] 24 (0, 0)) :=
  (hg.block _ (lt_of_block h.box) (fun e => by have := (own_lt h.own _ e.symm).1; omega)).trans h.box
theorem RjB.app {w wr w' : World} {V : Int} {s s' : Value} {es es' : List Ed} (h : RjB w wr V s es) (ho : EOwn w' (w.heap.size + 2) s' es') (hg : wr.grownBy w' s.ownBlock) : RjB w (w'.setCell ⟨w.heap.size + 1, 1, none⟩ s') V s' es' := by
  have hb := own_lt h.own
  have keep : ∀ (b : Nat) (o : Obj), wr.heap[b]? = some o → b < w.heap.size + 2 → w'.heap[b]? = some o := fun b o hh hT =>
    (hg.block b (lt_of_block hh) (fun e => by have := (hb b e.symm).1; omega)).trans hh
  have h1 := keep _ _ h.box (by omega)
  refine ⟨(Below.grown h.bel hg h.bel.size (fun j e => by have := (hb j e).1; omega)).setCell (p := ⟨w.heap.size + 1, 1, none⟩) (by show w.heap.size ≤ w.heap.size + 1; omega) _, ?_, ?_, ?_⟩
  · exact (Below.heap_setCell w' ⟨w.heap.size + 1, 1, none⟩ s' w.heap.size (by show w.heap.size ≠ w.heap.size + 1; omega)).trans (keep _ _ h.res (by omega))
  · have := heap_setCell_same w' (w.heap.size + 1) 1 _ _ s' h1
    exact this
  · exact ownsRow_setCell_below ho (a := ⟨w.heap.size + 1, 1, none⟩) (by show w.heap.size + 1 < _; omega) _
theorem rj_start (w wq : World) (V : Int) (h : Below w.heap.size w wq) (hs : wq.heap.size = w.heap.size + 1) (hr : wq.heap[w.heap.size]? = some (.cells #[.int .i64 0, .slice none 0 0] 24 (0, 0))) : RjB w (wq.alloc (.cells #[.int .i64 V, .slice none 0 0] 24)) V (.slice none 0 0) [] := by
  refine ⟨h.alloc h.size _, ?_, ?_, EOwn.none_ _ _⟩
  · rw [Below.heap_alloc _ _ _ (by omega)]; exact hr
  · rw [← hs]; exact heap_alloc_new wq _

def ringL (n : Nat) (j : Nat) : List Ed := (List.range j).map fun (i : Nat) => ((i : Int), (((i + 1) % n : Nat) : Int), ((i + 1 : Nat) : Int))
theorem ringL_len (n j : Nat) : (ringL n j).length = j := by simp [ringL]
theorem ringL_succ (n j : Nat) : ringL n (j + 1) = ringL n j ++ [((j : Int), (((j + 1) % n : Nat) : Int), ((j + 1 : Nat) : Int))] := by simp [ringL, List.range_succ]
set_option maxRecDepth 100000 in
theorem res1_g (fn : Func) (c : Nat) (tmps : Array Value) (w : World) (b : Nat) (a0 a1 : Value) (hr : fn.results = #[.cell c 24]) (ht : tmps.getD c undef = .pointer (some ⟨b, 0, none⟩)) (hh : w.heap[b]? = some (.cells #[a0, a1] 24 (0, 0))) :
    (results fn tmps).run Tryz.prog w = .ok (.agg #[a0, a1]) w := by
  obtain ⟨f0, f1, _⟩ := rtwo hh
  have ht' : tmps[c]?.getD undef = .pointer (some ⟨b, 0, none⟩) := by simpa using ht
  simp [results, hr, ht', go_sem, f0, f1]
theorem eat_one (w : World) (x y z : Int) : EAt (w.alloc (.cells #[.int .i64 x, .int .i64 y, .int .i64 z] 58)) (some ⟨w.heap.size, 0, none⟩) [(x, y, z)] := by
  have h := heap_alloc_new w (.cells #[.int .i64 x, .int .i64 y, .int .i64 z] 58)
  intro k e hk
  rcases k with _ | k
  · simp at hk; subst hk
    exact ⟨_, _, rfl, by rw [Lib.cell_of_heap h]; rfl, by rw [Lib.cell_of_heap h]; rfl, by rw [Lib.cell_of_heap h]; rfl⟩
  · simp at hk
theorem rjb_two {w wr : World} {V : Int} {s : Value} {es : List Ed} (h : RjB w wr V s es) : w.heap.size + 2 ≤ wr.heap.size := by have := lt_of_block h.box; omega
def RgRel (w : World) (n g : Nat) (i : Value) (wr : World) : Prop := ∃ (j : Nat) (s : Value), j + g = n ∧ i = .int .i64 (j : Int) ∧ Hid (RjB w wr n s (ringL n j))

set_option maxRecDepth 100000 in
set_option maxHeartbeats 2000000 in
theorem ring_any (n : Nat) (hn : n ≤ 1000) (w : World) : Calls Tryz.prog 30 #[.int .i64 (n : Int)] w fun e w' => (∃ A c, e = .returned (.agg #[.int .i64 (n : Int), .slice A n c]) ∧ Hid (EAt w' A (ringL n n))) ∧ Hid (Below w.heap.size w w') := by
  have mixed := mixedP
  have HN1 := Lib.hid (heap_alloc_new w (.cells #[.int .i64 0, .slice none 0 0] 24))
  have HZ : Hid (Below w.heap.size w (w.alloc (.cells #[.int .i64 0, .slice none 0 0] 24))) := Lib.hid ((Below.refl _ w).alloc (Nat.le_refl _) _)
  go_enter Tryz.func30, Tryz.ntmps30
  go_wp2_with fail
  go_loopg [4] n (fun g i wr => RgRel w n g i wr)
  case atStart => exact ⟨0, _, by omega, rfl, Lib.hid (rj_start w _ n HZ.out (by simp) HN1.out)⟩
  case round =>
    obtain ⟨j, s, hj, rfl, HB⟩ := hrel
    obtain ⟨b0, b1, b2, b3, b4⟩ := rtwo HB.out.box
    obtain ⟨A5, c5, rfl, _⟩ := HB.out.own.form
    by_cases hlt : j < n
    · have hw1 : IntKind.i64.wrap ((j : Int) + 1) = ((j + 1 : Nat) : Int) := by rw [IntWalk.i64_in _ (by omega)]; omega
      have hw2 : (((j + 1 : Nat) : Int)).tmod (n : Int) = (((j + 1) % n : Nat) : Int) := by rw [Int.tmod_eq_emod_of_nonneg (by omega)]; omega
      have hw3 : IntKind.i64.wrap (((j + 1) % n : Nat) : Int) = (((j + 1) % n : Nat) : Int) := IntWalk.i64_in _ (by have := Nat.mod_lt (j + 1) (show 0 < n by omega); omega)
      obtain ⟨t, ht⟩ : ∃ t, (j + 1) % n = t := ⟨_, rfl⟩
      obtain ⟨m, hm⟩ : ∃ m, j + 1 = m := ⟨_, rfl⟩
      rw [ht] at hw2 hw3
      rw [hm] at hw1 hw2
      have HCd : Hid (RjB w wr.drew n (.slice A5 (ringL n j).length c5) (ringL n j)) := Lib.hid (HB.out.quiet (Below.refl _ wr).drew)
      have HCa : Hid (RjB w (wr.drew.alloc (.cells #[.int .i64 (j : Int), .int .i64 (t : Int), .int .i64 (m : Int)] 58)) n (.slice A5 (ringL n j).length c5) (ringL n j)) := Lib.hid (HCd.out.quiet ((Below.refl _ wr.drew).alloc (Nat.le_refl _) _))
      have HE1 := Lib.hid (eat_one wr.drew j t m)
      have HL : Hid (ringL n (j + 1) = ringL n j ++ [((j : Int), (t : Int), (m : Int))]) := Lib.hid (by rw [ringL_succ, ht, hm])
      rw [ringL_len] at HCd HCa b1
      clear ht
      have hn0 : ¬ n = 0 := by omega
      go_wp2_with fail
      go_region_law (refine step_more rfl (.tmp 13) (.tmp 22) rfl (w.heap.size + 2) _ (ringL n j) [((j : Int), (t : Int), (m : Int))] 1 rfl (by simp [Act.eval]) HCa.out.own _ 1 (by simp [Act.eval]) HE1.out (by rw [ringL_len]; omega) (rjb_two HCa.out) ?_; intro A6 n6 c6 w2 ho2 hg2; have HC2 := Lib.hid (HCa.out.app ho2 hg2); have hmd := HCa.out.mid hg2; obtain ⟨m0, m1, m2, m3, m4⟩ := rtwo hmd; clear ho2 hg2 hmd)
      all_goals
        clear m0 m1 m2 m3 m4
        go_wp2
        go_roundg (gk - 1)
        case measure => omega
        case rel => exact ⟨j + 1, _, by omega, by go_num, Lib.hid (by rw [HL.out]; exact HC2.out)⟩
    · obtain rfl : j = n := by omega
      obtain ⟨r0, r1, r2, r3, r4⟩ := rtwo HB.out.res
      have HEA : Hid (RjB w wr (j : Int) (.slice A5 j c5) (ringL j j)) := Lib.hid (by have := HB.out; rw [ringL_len] at this; exact this)
      rw [ringL_len] at b1
      go_wp2_with fail
      have h1 := put2_heap HEA.out.res (.int .i64 (j : Int)) (.slice A5 j c5)
      have h2 := eown_put2 HEA.out.own (b := w.heap.size) (by omega) (.int .i64 (j : Int)) (.slice A5 j c5)
      have h3 := put2_below HEA.out.bel (b := w.heap.size) (Nat.le_refl _) (.int .i64 (j : Int)) (.slice A5 j c5)
      unfold put2 at h1 h2 h3
      refine bodyPost_ret (v := .agg #[.int .i64 (j : Int), .slice A5 j c5]) (res1_g _ _ _ _ _ _ _ Tryz.results30 rfl h1) rfl ⟨?_, Lib.hid h3⟩
      obtain ⟨A', c', e, h4, _⟩ := h2.form
      rw [ringL_len] at e
      cases e
      exact ⟨_, _, rfl, Lib.hid h4⟩

theorem eat_block {w : World} {g : Nat} {L : List Ed} (h : w.heap[g]? = some (.cells (ecs L).toArray 58 (0, 0))) : EAt w (some ⟨g, 0, none⟩) L := by
  intro k e hx
  obtain ⟨a0, a1, a2⟩ := ecs_at L k e hx
  refine ⟨g, 0, rfl, ?_, ?_, ?_⟩
  · rw [Nat.zero_add, cell_of_row w g _ _ 58 (0, 0) h, List.getElem?_toArray]; exact a0
  · rw [Nat.zero_add, cell_of_row w g _ _ 58 (0, 0) h, List.getElem?_toArray]; exact a1
  · rw [Nat.zero_add, cell_of_row w g _ _ 58 (0, 0) h, List.getElem?_toArray]; exact a2
set_option maxRecDepth 100000 in
set_option maxHeartbeats 1000000 in
theorem kno_mill (w : World) : Calls Tryz.prog 29 #[] w fun e w' => (∃ g, e = .returned (.agg #[.int .i64 6, .slice (some ⟨g, 0, none⟩) 5 5]) ∧ Hid (EAt w' (some ⟨g, 0, none⟩) millL)) ∧ Hid (Below w.heap.size w w') := by
  have mixed := mixedP
  go_enter Tryz.func29, Tryz.ntmps29
  go_wp2
  obtain ⟨W1, hW1⟩ : ∃ W1, W1 = w.alloc (.cells #[.int .i64 6, .slice (some ⟨w.heap.size + 1, 0, none⟩) 5 5] 24) := ⟨_, rfl⟩
  have s1 : W1.heap.size = w.heap.size + 1 := by rw [hW1]; simp
  have y0 : W1.heap[w.heap.size]? = some (.cells #[.int .i64 6, .slice (some ⟨w.heap.size + 1, 0, none⟩) 5 5] 24 (0, 0)) := by rw [hW1]; exact heap_alloc_new w _
  have b1 : Below w.heap.size w W1 := by rw [hW1]; exact (Below.refl _ w).alloc (Nat.le_refl _) _
  rw [← hW1]
  clear hW1
  obtain ⟨C, hC⟩ : ∃ C : Array Value, C = #[.int .i64 0, .int .i64 1, .int .i64 4, .int .i64 0, .int .i64 2, .int .i64 1, .int .i64 1, .int .i64 3, .int .i64 5, .int .i64 2, .int .i64 1, .int .i64 2, .int .i64 4, .int .i64 4, .int .i64 7] := ⟨_, rfl⟩
  rw [← hC]
  obtain ⟨W2, hW2⟩ : ∃ W2, W2 = W1.alloc (.cells C 58) := ⟨_, rfl⟩
  have b2 : Below W1.heap.size W1 W2 := by rw [hW2]; exact (Below.refl _ W1).alloc (Nat.le_refl _) _
  have y1 := (b2.block _ (lt_of_block y0)).trans y0
  have y2 : W2.heap[w.heap.size + 1]? = some (.cells C 58 (0, 0)) := by rw [hW2, ← s1]; exact heap_alloc_new W1 _
  rw [← hW2]
  have k0 : W2.cell? ⟨w.heap.size, 0, none⟩ = some (.int .i64 6) := by rw [Lib.cell_of_heap y1]; rfl
  have k1 : W2.cell? ⟨w.heap.size, 1, none⟩ = some (.slice (some ⟨w.heap.size + 1, 0, none⟩) 5 5) := by rw [Lib.cell_of_heap y1]; rfl
  refine bodyPost_ret (v := .agg #[.int .i64 6, .slice (some ⟨w.heap.size + 1, 0, none⟩) 5 5]) (by simp [results, Tryz.results29, go_sem, k0, k1]) rfl ⟨⟨_, rfl, Lib.hid ?_⟩, Lib.hid (b1.trans (b2.mono (by omega)))⟩
  intro k e hk
  rcases k with _ | _ | _ | _ | _ | k
  all_goals (first | (simp [millL] at hk; done) | (simp only [millL, List.getElem?_cons_zero, List.getElem?_cons_succ, Option.some.injEq] at hk; subst hk; exact ⟨_, _, rfl, by rw [Lib.cell_of_heap y2, hC]; rfl, by rw [Lib.cell_of_heap y2, hC]; rfl, by rw [Lib.cell_of_heap y2, hC]; rfl⟩))

/- The graphs in their block, the jobs in theirs. -/
def Grs (W : World) (gb : Nat) : Prop := ∃ arr, W.heap[gb]? = some (.cells arr 24 (0, 0)) ∧ ∀ i, i < 5 → ∃ V A n c L, arr[i * 2]? = some (.int .i64 V) ∧ arr[i * 2 + 1]? = some (.slice A n c) ∧ EAt W A L ∧ L.length = n ∧ n ≤ 80
def Jbs (W : World) (nb : Nat) : Prop := ∃ arr, W.heap[nb]? = some (.cells arr 26 (0, 0)) ∧ ∀ i, i < 9 → ∃ k st so dm ep, arr[i * 5]? = some (.int .u8 k) ∧ arr[i * 5 + 1]? = some (.int .i64 st) ∧ arr[i * 5 + 2]? = some (.int .i64 so) ∧ arr[i * 5 + 3]? = some (.int .i64 dm) ∧ arr[i * 5 + 4]? = some (.int .i64 ep)
theorem Grs.below {W W' : World} {b : Nat} (h : Grs W b) (hb : Below W.heap.size W W') : Grs W' b := by
  obtain ⟨arr, h1, h2⟩ := h
  refine ⟨arr, keep h1 hb, fun i hi => ?_⟩
  obtain ⟨V, A, n, c, L, a0, a1, a2, a3, a4⟩ := h2 i hi
  exact ⟨V, A, n, c, L, a0, a1, a2.below hb, a3, a4⟩
theorem Jbs.below {W W' : World} {b : Nat} (h : Jbs W b) (hb : Below W.heap.size W W') : Jbs W' b := by
  obtain ⟨arr, h1, h2⟩ := h
  exact ⟨arr, keep h1 hb, h2⟩
theorem jobs_laid (w : World) : Jbs (w.alloc (.cells #[.int .u8 1, .int .i64 6, .int .i64 0, .int .i64 3650722201, .int .i64 0, .int .u8 1, .int .i64 9, .int .i64 0, .int .i64 4294967296, .int .i64 5, .int .u8 1, .int .i64 3, .int .i64 0, .int .i64 0, .int .i64 0, .int .u8 2, .int .i64 9, .int .i64 0, .int .i64 0, .int .i64 0, .int .u8 2, .int .i64 0, .int .i64 0, .int .i64 0, .int .i64 0, .int .u8 3, .int .i64 9, .int .i64 0, .int .i64 0, .int .i64 0, .int .u8 3, .int .i64 2, .int .i64 2, .int .i64 0, .int .i64 0, .int .u8 0, .int .i64 0, .int .i64 0, .int .i64 0, .int .i64 0, .int .u8 3, .int .i64 0, .int .i64 9, .int .i64 0, .int .i64 0] 26)) w.heap.size := by
  refine ⟨_, heap_alloc_new w _, fun i hi => ?_⟩
  rcases (show i = 0 ∨ i = 1 ∨ i = 2 ∨ i = 3 ∨ i = 4 ∨ i = 5 ∨ i = 6 ∨ i = 7 ∨ i = 8 by omega) with rfl | rfl | rfl | rfl | rfl | rfl | rfl | rfl | rfl <;> exact ⟨_, _, _, _, _, rfl, rfl, rfl, rfl, rfl⟩
theorem graphs_laid (w : World) (A0 A1 A2 : Option Addr) (c0 c1 c2 : Nat) (h0 : EAt w A0 millL) (h1 : EAt w A1 (ringL 5 5)) (h2 : EAt w A2 (ringL 1 1)) :
    Grs (w.alloc (.cells #[.int .i64 6, .slice A0 5 c0, .int .i64 5, .slice A1 5 c1, .int .i64 1, .slice A2 1 c2, .int .i64 3, .slice none 0 0, .int .i64 0, .slice none 0 0] 24)) w.heap.size := by
  have hb : Below w.heap.size w (w.alloc (.cells #[.int .i64 6, .slice A0 5 c0, .int .i64 5, .slice A1 5 c1, .int .i64 1, .slice A2 1 c2, .int .i64 3, .slice none 0 0, .int .i64 0, .slice none 0 0] 24)) := (Below.refl _ w).alloc (Nat.le_refl _) _
  refine ⟨_, heap_alloc_new w _, fun i hi => ?_⟩
  rcases (show i = 0 ∨ i = 1 ∨ i = 2 ∨ i = 3 ∨ i = 4 by omega) with rfl | rfl | rfl | rfl | rfl
  · exact ⟨_, _, _, _, millL, rfl, rfl, h0.below hb, rfl, by decide⟩
  · exact ⟨_, _, _, _, ringL 5 5, rfl, rfl, h1.below hb, rfl, by decide⟩
  · exact ⟨_, _, _, _, ringL 1 1, rfl, rfl, h2.below hb, rfl, by decide⟩
  · exact ⟨_, _, _, _, [], rfl, rfl, EAt.nil _ _, rfl, by decide⟩
  · exact ⟨_, _, _, _, [], rfl, rfl, EAt.nil _ _, rfl, by decide⟩
/- What stays all the while. -/
structure KSt (w W : World) (nb gb : Nat) : Prop where
  below : Below w.heap.size w W
  jobs : Jbs W nb
  graphs : Grs W gb
theorem KSt.step {w W W' : World} {nb gb : Nat} (h : KSt w W nb gb) (hb : Below W.heap.size W W') : KSt w W' nb gb := ⟨step_below h.below h.below.size hb, h.jobs.below hb, h.graphs.below hb⟩
theorem KSt.job {w W : World} {nb gb : Nat} (h : KSt w W nb gb) (i : Nat) (hi : i < 9) : ∃ k st so dm ep : Int, W.cell? ⟨nb, i * 5, none⟩ = some (.int .u8 k) ∧ W.cell? ⟨nb, i * 5 + 1, none⟩ = some (.int .i64 st) ∧ W.cell? ⟨nb, i * 5 + 2, none⟩ = some (.int .i64 so) ∧ W.cell? ⟨nb, i * 5 + 3, none⟩ = some (.int .i64 dm) ∧ W.cell? ⟨nb, i * 5 + 4, none⟩ = some (.int .i64 ep) := by
  obtain ⟨arr, h1, h2⟩ := h.jobs
  obtain ⟨k, st, so, dm, ep, a0, a1, a2, a3, a4⟩ := h2 i hi
  exact ⟨k, st, so, dm, ep, by rw [cell_of_row W nb _ _ _ (0, 0) h1]; exact a0, by rw [cell_of_row W nb _ _ _ (0, 0) h1]; exact a1, by rw [cell_of_row W nb _ _ _ (0, 0) h1]; exact a2, by rw [cell_of_row W nb _ _ _ (0, 0) h1]; exact a3, by rw [cell_of_row W nb _ _ _ (0, 0) h1]; exact a4⟩
theorem KSt.graph {w W : World} {nb gb : Nat} (h : KSt w W nb gb) (i : Nat) (hi : i < 5) : ∃ V A n c L, W.cell? ⟨gb, i * 2, none⟩ = some (.int .i64 V) ∧ W.cell? ⟨gb, i * 2 + 1, none⟩ = some (.slice A n c) ∧ EAt W A L ∧ L.length = n ∧ n ≤ 80 := by
  obtain ⟨arr, h1, h2⟩ := h.graphs
  obtain ⟨V, A, n, c, L, a0, a1, a2⟩ := h2 i hi
  exact ⟨V, A, n, c, L, by rw [cell_of_row W gb _ _ _ (0, 0) h1]; exact a0, by rw [cell_of_row W gb _ _ _ (0, 0) h1]; exact a1, a2⟩
/- A graph in the loop's own box, too. -/
structure KSg (w W : World) (nb gb b : Nat) (V : Int) (A : Option Addr) (n c : Nat) (L : List Ed) : Prop where
  st : KSt w W nb gb
  gbx : W.heap[b]? = some (.cells #[.int .i64 V, .slice A n c] 24 (0, 0))
  row : EAt W A L
theorem KSg.step {w W W' : World} {nb gb b : Nat} {V : Int} {A : Option Addr} {n c : Nat} {L : List Ed} (h : KSg w W nb gb b V A n c L) (hb : Below W.heap.size W W') : KSg w W' nb gb b V A n c L := ⟨h.st.step hb, keep h.gbx hb, h.row.below hb⟩
/- A state in its box, too. -/
structure KSs (w W : World) (nb gb b : Nat) (V : Int) (A : Option Addr) (n c : Nat) (L : List Ed) (bs : Nat) (p : Int) (S : Sq) (Av Ac Ai : Option Addr) (nv nc ni cv cc ci : Nat) : Prop where
  g : KSg w W nb gb b V A n c L
  sbx : W.heap[bs]? = some (.cells #[.int .i64 p, .slice Av nv cv, .slice Ac nc cc, .slice Ai ni ci, .int .i64 S.sum, .int .i64 S.most] 33 (0, 0))
  s : SAt W Av Ac Ai nv nc ni S
theorem KSs.step {w W W' : World} {nb gb b : Nat} {V : Int} {A : Option Addr} {n c : Nat} {L : List Ed} {bs : Nat} {p : Int} {S : Sq} {Av Ac Ai : Option Addr} {nv nc ni cv cc ci : Nat} (h : KSs w W nb gb b V A n c L bs p S Av Ac Ai nv nc ni cv cc ci) (hb : Below W.heap.size W W') : KSs w W' nb gb b V A n c L bs p S Av Ac Ai nv nc ni cv cc ci := ⟨h.g.step hb, keep h.sbx hb, h.s.below hb⟩

/- The laws, in every world that has grown. -/
abbrev Rg1 (f : FuncId) (args : Array Value) (w : World) : Prop := ∀ (d : Nat) (os : Array Obj), Calls Tryz.prog f args (Sort.grow (redrawn w d) os) fun e w'' => e = .returned (.bool true) ∧ ∃ p : Regrown, w'' = Sort.grow (redrawn w p.d) p.os
section
variable (k st so dm ep V : Int) (A : Option Addr) (n c : Nat) (L : List Ed) {w : World} (h : EAt w A L) (hn : L.length = n) (hm : n ≤ 80)
include h hn hm
theorem kn_start : Rg1 3 #[.agg #[.int .i64 V, .slice A n c], .agg #[.int .u8 k, .int .i64 st, .int .i64 so, .int .i64 dm, .int .i64 ep]] w :=
  regr fun W hb => law_start k st so dm ep V A n c L W (h.below hb) hn (by omega)
theorem kn_run : Rg1 6 #[.agg #[.int .i64 V, .slice A n c], .agg #[.int .u8 k, .int .i64 st, .int .i64 so, .int .i64 dm, .int .i64 ep]] w :=
  regr fun W hb => law_run k st so dm ep V A n c L W (h.below hb) hn (by omega)
theorem kn_goes : Rg1 8 #[.agg #[.int .i64 V, .slice A n c], .agg #[.int .u8 k, .int .i64 st, .int .i64 so, .int .i64 dm, .int .i64 ep]] w :=
  regr fun W hb => law_goes k st so dm ep V A n c L W (h.below hb) hn (by omega)
theorem kn_at (x : Int) : Rg1 5 #[.agg #[.int .i64 V, .slice A n c], .agg #[.int .u8 k, .int .i64 st, .int .i64 so, .int .i64 dm, .int .i64 ep], .int .i64 x] w :=
  regr fun W hb => law_at k st so dm ep V A n c L x W (h.below hb) hn (by omega)
theorem kn_step (p : Int) (s : Sq) (Av Ac Ai : Option Addr) (nv nc ni cv cc ci : Nat) (ha : SAt w Av Ac Ai nv nc ni s) (hi : ∀ m ∈ s.inb, I63 m.2) (h1 : nv ≤ 1000) (h2 : nc ≤ 1000) (h3 : ni ≤ 1000) :
    Rg1 4 #[.agg #[.int .i64 V, .slice A n c], .agg #[.int .u8 k, .int .i64 st, .int .i64 so, .int .i64 dm, .int .i64 ep], .agg #[.int .i64 p, .slice Av nv cv, .slice Ac nc cc, .slice Ai ni ci, .int .i64 s.sum, .int .i64 s.most]] w :=
  regr fun W hb => law_step k st so dm ep V p A n c L s Av Ac Ai nv nc ni cv cc ci W (h.below hb) hn (by omega) (ha.below hb) hi (by omega) (by omega) (by omega)
end
theorem start_mail (k st so dm ep V : Int) (L : List Ed) : ∀ m ∈ (startR k st so dm ep V L).2.1.inb, I63 m.2 := by
  unfold startR
  split
  · rename_i h
    obtain ⟨hz, hst0, hst1, hk, hd0, hd1⟩ := chkJ_zero h
    obtain ⟨Vn, rfl, hV1, hV2, hfit⟩ := chk_facts hz
    have hg : GoS k Vn L (stS k so dm Vn L 0) := go_all hz (fun _ => ⟨hd0, hd1⟩) 0
    exact (fit_go hg).i
  · intro m hm; simp [zS] at hm

/- A call and an allocation may come up; a store alone. -/
theorem headX_cv {P : Program} {md : Region.Mode} {S : World → Prop} {Q : Exit → Act → World → Prop} {n p g : Nat} {r : List Oper} {o oj : Oper} {f : Nat} {listed : Array Bool} {a : Act} {w : World} {R : Value → World → Prop} (i j : Nat) (fn : FuncId) (args : Array Value) (vj : Value) (wj : World) (hi : r[i]? = some o) (hj : r[j]? = some oj) (hin : i < n) (hjn : j < n) (hr : Region.ready md r.toArray listed = [i, j])
    (hw : Region.wanted o (yielded r.toArray a.tmps) = true) (hwj : Region.wanted oj (yielded r.toArray a.tmps) = true)
    (he : (execOp a.eval o).run P w = .ok (.enter fn args) w) (hej : (execOp a.eval oj).run P w = .ok (.value vj) wj) (hc : Calls P fn args w fun e w' => ∃ v, e = .returned v ∧ R v w') (hsj : S wj)
    (h : ∀ v w', R v w' → S w' ∧ Tl.headX P md r.toArray Q S n p g f (listed.setIfInBounds i true) (a.put o.dst v) w') (h2 : Tl.headX P md r.toArray Q S n p g f (listed.setIfInBounds j true) (a.put oj.dst vj) wj) : Tl.headX P md r.toArray Q S n p g (f + 1) listed a w := by
  intro _
  refine ⟨by rw [hr]; simp, fun k hk => ?_⟩
  rw [hr] at hk
  have hk2 : k = i ∨ k = j := by simpa using hk
  rcases hk2 with rfl | rfl
  · refine ⟨hin, ?_⟩
    unfold wpOp
    simp only [show r.toArray[k]? = some o by simpa using hi, hw, if_true]
    refine .inl ?_
    show o.upon P a _ Q _
    rw [he, Oper.upon_enter]
    refine hc.mono ?_
    rintro e w2 ⟨v, rfl, h3⟩
    exact h v w2 h3
  · refine ⟨hjn, ?_⟩
    unfold wpOp
    simp only [show r.toArray[k]? = some oj by simpa using hj, hwj, if_true]
    refine .inl ?_
    show oj.upon P a _ Q _
    rw [hej]
    exact ⟨hsj, h2⟩
theorem headX_sk {P : Program} {md : Region.Mode} {S : World → Prop} {Q : Exit → Act → World → Prop} {n p g : Nat} {r : List Oper} {o : Oper} {f : Nat} {listed : Array Bool} {a : Act} {w : World} (i : Nat) (w' : World) (hi : r[i]? = some o) (hin : i < n) (hr : Region.ready md r.toArray listed = [i]) (hw : Region.wanted o (yielded r.toArray a.tmps) = true)
    (he : (execOp a.eval o).run P w = .ok .skip w') (hS : S w') (h : Tl.headX P md r.toArray Q S n p g f (listed.setIfInBounds i true) (a.put o.dst undef) w') : Tl.headX P md r.toArray Q S n p g (f + 1) listed a w :=
  Tl.headX_one (by simpa using hi) hin hr hw fun K hK => by
    show o.upon P a K Q _
    rw [he]
    exact hK _ _ hS h

end Go.Proofs.YtbbmgandkmlojaaGreat.Kn

/-
  What is proved here: the law SeqKnown walked: it returns true, and no block that was there has changed. No condition.
-/
namespace Go.Proofs.YtbbmgandkmlojaaGreat.Kn
open Go.RowKit Go.Shelf Gr Wd Ws Fx Rk Lb Al In Sq

def JJ (W : World) (b i : Nat) (k st so dm ep : Int) : Prop := W.cell? ⟨b, i * 5, none⟩ = some (.int .u8 k) ∧ W.cell? ⟨b, i * 5 + 1, none⟩ = some (.int .i64 st) ∧ W.cell? ⟨b, i * 5 + 2, none⟩ = some (.int .i64 so) ∧ W.cell? ⟨b, i * 5 + 3, none⟩ = some (.int .i64 dm) ∧ W.cell? ⟨b, i * 5 + 4, none⟩ = some (.int .i64 ep)
def JA (W : World) (b i : Nat) (k st so dm ep : Int) : Prop := ∀ W', Below W.heap.size W W' → JJ W' b i k st so dm ep
theorem JA.step {W W' : World} {b i : Nat} {k st so dm ep : Int} (h : JA W b i k st so dm ep) (hb : Below W.heap.size W W') : JA W' b i k st so dm ep := fun X hX => h X (step_below hb hb.size hX)
theorem kn_job {w W : World} {nb gb : Nat} (h : KSt w W nb gb) (i : Nat) (hi : i < 9) : ∃ k st so dm ep : Int, JA W nb i k st so dm ep := by
  obtain ⟨arr, h1, h2⟩ := h.jobs
  obtain ⟨k, st, so, dm, ep, a0, a1, a2, a3, a4⟩ := h2 i hi
  refine ⟨k, st, so, dm, ep, fun W' hb => ?_⟩
  have h3 := keep h1 hb
  exact ⟨by rw [cell_of_row W' nb _ _ _ (0, 0) h3]; exact a0, by rw [cell_of_row W' nb _ _ _ (0, 0) h3]; exact a1, by rw [cell_of_row W' nb _ _ _ (0, 0) h3]; exact a2, by rw [cell_of_row W' nb _ _ _ (0, 0) h3]; exact a3, by rw [cell_of_row W' nb _ _ _ (0, 0) h3]; exact a4⟩
/- What spoilt gives. -/
def SpX (W : World) (v : Value) (w' : World) : Prop := ∃ (p : Int) (s : Sq) (Av Ac Ai : Option Addr) (nv nc ni cv cc ci : Nat), v = .agg #[.int .i64 p, .slice Av nv cv, .slice Ac nc cc, .slice Ai ni ci, .int .i64 s.sum, .int .i64 s.most] ∧ SAt w' Av Ac Ai nv nc ni s ∧ (∀ m ∈ s.inb, I63 m.2) ∧ (nv ≤ 1000 ∧ nc ≤ 1000 ∧ ni ≤ 1000) ∧ Below W.heap.size W w'
theorem SpX.below {W w' : World} {v : Value} (h : SpX W v w') : Below W.heap.size W w' := by
  obtain ⟨p, s, Av, Ac, Ai, nv, nc, ni, cv, cc, ci, rfl, ha, hi, _, hb⟩ := h
  exact hb
theorem kn_spoilt (x : Nat) (p : Int) (s : Sq) (Av Ac Ai : Option Addr) (nv nc ni cv cc ci : Nat) (W : World) (ha : SAt W Av Ac Ai nv nc ni s) (hi : ∀ m ∈ s.inb, I63 m.2) (hf : nv ≤ 512 ∧ nc ≤ 512 ∧ ni ≤ 512) (hx : x < 9) :
    Calls Tryz.prog 31 #[.agg #[.int .i64 p, .slice Av nv cv, .slice Ac nc cc, .slice Ai ni ci, .int .i64 s.sum, .int .i64 s.most], .int .i64 (x : Int)] W fun e w' => ∃ v, e = .returned v ∧ SpX W v w' := by
  refine (spoilt_any (x : Int) p s Av Ac Ai nv nc ni cv cc ci W ha hi hf ⟨by omega, by omega⟩).mono ?_
  rintro e w' ⟨v, q, t, rfl, h1, h2, h3⟩
  obtain ⟨Bv, dv, Bc, dc, Bi, di, rfl, h4, _⟩ := h1.out.at
  obtain ⟨⟨l1, l2, l3⟩, h5⟩ := h2.out
  exact ⟨_, rfl, q, t, Bv, Bc, Bi, _, _, _, dv, dc, di, rfl, h4, h5, ⟨by omega, by omega, by omega⟩, h3.out⟩
theorem kn_step2 (k st so dm ep V : Int) (A : Option Addr) (n c : Nat) (L : List Ed) {W w : World} {v : Value} (h : EAt w A L) (hn : L.length = n) (hm : n ≤ 80) (hv : SpX W v w) :
    Calls Tryz.prog 4 #[.agg #[.int .i64 V, .slice A n c], .agg #[.int .u8 k, .int .i64 st, .int .i64 so, .int .i64 dm, .int .i64 ep], v] w fun e w' => ∃ r, e = .returned r ∧ (r = .bool true ∧ Below w.heap.size w w') := by
  obtain ⟨p, s, Av, Ac, Ai, nv, nc, ni, cv, cc, ci, rfl, ha, hi, ⟨l1, l2, l3⟩, _⟩ := hv
  exact (law_step k st so dm ep V p A n c L s Av Ac Ai nv nc ni cv cc ci w h hn (by omega) ha hi (by omega) (by omega) (by omega)).mono fun e w' q => ⟨_, q.1, rfl, q.2⟩
theorem kn_same2 (p : Int) (a : Sq) (Av Ac Ai : Option Addr) (nv nc ni cv cc ci : Nat) {W w : World} {v : Value} (ha : SAt w Av Ac Ai nv nc ni a) (h1 : nv ≤ 512 ∧ nc ≤ 512 ∧ ni ≤ 512) (hv : SpX W v w) :
    Calls Tryz.prog 7 #[.agg #[.int .i64 p, .slice Av nv cv, .slice Ac nc cc, .slice Ai ni ci, .int .i64 a.sum, .int .i64 a.most], v] w fun e w' => ∃ r, e = .returned r ∧ (r = .bool true ∧ Below w.heap.size w w') := by
  obtain ⟨q, s, Bv, Bc, Bi, mv, mc, mi, dv, dc, di, rfl, hb, _, ⟨l1, l2, l3⟩, _⟩ := hv
  exact (law_same p q a s Av Ac Ai Bv Bc Bi nv nc ni cv cc ci mv mc mi dv dc di w ha hb (by omega) (by omega) (by omega) (by omega) (by omega) (by omega)).mono fun e w' q => ⟨_, q.1, rfl, q.2⟩
theorem ring5 (w : World) : Calls Tryz.prog 30 #[.int .i64 5] w fun e w' => (∃ A c, e = .returned (.agg #[.int .i64 5, .slice A 5 c]) ∧ Hid (EAt w' A (ringL 5 5))) ∧ Hid (Below w.heap.size w w') := ring_any 5 (by decide) w
theorem ring1 (w : World) : Calls Tryz.prog 30 #[.int .i64 1] w fun e w' => (∃ A c, e = .returned (.agg #[.int .i64 1, .slice A 1 c]) ∧ Hid (EAt w' A (ringL 1 1))) ∧ Hid (Below w.heap.size w w') := ring_any 1 (by decide) w
/- The last of 2000 steps. -/
theorem last_at : ∃ S, atR 2 0 0 0 0 1 [] 2000 = (2000, S, 0) ∧ Few S ∧ ∀ m ∈ S.inb, I63 m.2 := by
  have h : chkJ 2 0 0 0 0 1 [] = 0 := by decide
  refine ⟨stS 2 0 0 1 [] 2000, ?_, ?_, ?_⟩
  · unfold atR
    rw [if_pos h, if_pos ⟨by omega, by omega⟩]
    rfl
  · exact few_st h 2000
  · obtain ⟨hz, hst0, hst1, hk, hd0, hd1⟩ := chkJ_zero h
    have hg : GoS 2 1 [] (stS 2 0 0 1 [] 2000) := go_all (V := 1) hz (fun _ => ⟨hd0, hd1⟩) 2000
    exact (fit_go hg).i
theorem step_at (S : Sq) : stepR 2 0 0 0 0 1 [] 2000 S = (0, zS, 4) := by
  unfold stepR
  rw [if_pos (by decide), if_neg (by rintro ⟨_, h⟩; omega)]
def K1Rel (w : World) (nb gb : Nat) (gk : Nat) (i : Value) (wr : World) : Prop := ∃ k : Nat, k + gk = 5 ∧ i = .int .i64 (k : Int) ∧ Hid (KSt w wr nb gb)
def K2Rel (w : World) (nb gb b : Nat) (V : Int) (A : Option Addr) (n c : Nat) (L : List Ed) (gk : Nat) (i : Value) (wr : World) : Prop := ∃ k : Nat, k + gk = 9 ∧ i = .int .i64 (k : Int) ∧ Hid (KSg w wr nb gb b V A n c L)
def K3Rel (w : World) (nb gb b : Nat) (V : Int) (A : Option Addr) (n c : Nat) (L : List Ed) (bs : Nat) (p : Int) (S : Sq) (Av Ac Ai : Option Addr) (nv nc ni cv cc ci : Nat) (i2 : Nat) (k st so dm ep : Int) (gk : Nat) (i : Value) (wr : World) : Prop := ∃ x : Nat, x + gk = 9 ∧ i = .int .i64 (x : Int) ∧ Hid (JA wr nb i2 k st so dm ep) ∧ Hid (KSs w wr nb gb b V A n c L bs p S Av Ac Ai nv nc ni cv cc ci)

set_option maxRecDepth 100000 in
set_option maxHeartbeats 8000000 in
theorem law_known (w : World) : Calls Tryz.prog 9 #[] w fun e w' => e = .returned (.bool true) ∧ Below w.heap.size w w' := by
  have mixed := mixedI
  obtain ⟨W1, hW1⟩ : ∃ W1, W1 = w.alloc (.cells #[.int .u8 1, .int .i64 6, .int .i64 0, .int .i64 3650722201, .int .i64 0, .int .u8 1, .int .i64 9, .int .i64 0, .int .i64 4294967296, .int .i64 5, .int .u8 1, .int .i64 3, .int .i64 0, .int .i64 0, .int .i64 0, .int .u8 2, .int .i64 9, .int .i64 0, .int .i64 0, .int .i64 0, .int .u8 2, .int .i64 0, .int .i64 0, .int .i64 0, .int .i64 0, .int .u8 3, .int .i64 9, .int .i64 0, .int .i64 0, .int .i64 0, .int .u8 3, .int .i64 2, .int .i64 2, .int .i64 0, .int .i64 0, .int .u8 0, .int .i64 0, .int .i64 0, .int .i64 0, .int .i64 0, .int .u8 3, .int .i64 0, .int .i64 9, .int .i64 0, .int .i64 0] 26) := ⟨_, rfl⟩
  obtain ⟨nb, hnb⟩ : ∃ nb, nb = w.heap.size := ⟨_, rfl⟩
  have HB1 : Hid (Below w.heap.size w W1) := Lib.hid (by rw [hW1]; exact (Below.refl _ w).alloc (Nat.le_refl _) _)
  have HJ1 : Hid (Jbs W1 nb) := Lib.hid (by rw [hW1, hnb]; exact jobs_laid w)
  go_enter Tryz.func9, Tryz.ntmps9
  go_upto_region 2 with fail
  rw [← hW1, show w.heap.size = nb from hnb.symm]
  clear hW1 hnb
  go_wp2_with fail
  refine (kno_mill _).mono ?_
  rintro e w2 ⟨⟨g, rfl, hA⟩, hb⟩
  have HA := Lib.hid hA.out
  replace HB1 := Lib.hid (step_below HB1.out HB1.out.size hb.out); replace HJ1 := Lib.hid (HJ1.out.below hb.out)
  clear hA hb
  go_wp2_with fail
  refine (ring5 _).mono ?_
  rintro e w3 ⟨⟨A5, c5, rfl, h5⟩, hb⟩
  replace HB1 := Lib.hid (step_below HB1.out HB1.out.size hb.out); replace HJ1 := Lib.hid (HJ1.out.below hb.out); replace HA := Lib.hid (HA.out.below hb.out)
  have H5 := Lib.hid h5.out
  clear h5 hb
  go_wp2_with fail
  refine (ring1 _).mono ?_
  rintro e w4 ⟨⟨A1, c1, rfl, h1⟩, hb⟩
  replace HB1 := Lib.hid (step_below HB1.out HB1.out.size hb.out); replace HJ1 := Lib.hid (HJ1.out.below hb.out); replace HA := Lib.hid (HA.out.below hb.out); replace H5 := Lib.hid (H5.out.below hb.out)
  have H1 := Lib.hid h1.out
  clear h1 hb
  have HS : Hid (KSt w (w4.alloc (.cells #[.int .i64 6, .slice (some ⟨g, 0, none⟩) 5 5, .int .i64 5, .slice A5 5 c5, .int .i64 1, .slice A1 1 c1, .int .i64 3, .slice none 0 0, .int .i64 0, .slice none 0 0] 24)) nb w4.heap.size) := Lib.hid (by
    have hb : Below w4.heap.size w4 (w4.alloc (.cells #[.int .i64 6, .slice (some ⟨g, 0, none⟩) 5 5, .int .i64 5, .slice A5 5 c5, .int .i64 1, .slice A1 1 c1, .int .i64 3, .slice none 0 0, .int .i64 0, .slice none 0 0] 24)) := (Below.refl _ w4).alloc (Nat.le_refl _) _
    exact ⟨step_below HB1.out HB1.out.size hb, HJ1.out.below hb, graphs_laid w4 _ _ _ _ _ _ HA.out H5.out H1.out⟩)
  clear HB1 HJ1 HA H5 H1
  go_wp2_with fail
  obtain ⟨gb, hgb⟩ : ∃ gb, gb = w4.heap.size := ⟨_, rfl⟩
  rw [← hgb] at HS ⊢
  clear hgb
  go_loopg [29] 5 (fun gk i wr => K1Rel w nb gb gk i wr)
  case atStart => exact ⟨0, rfl, rfl, HS⟩
  case round =>
    clear HS
    obtain ⟨i1, hi1, rfl, HS⟩ := hrel
    by_cases h5 : i1 < 5
    · have tk : decide ((i1 : Int) < 5) = true := by simp; omega
      have tg : (i1 : Int) < 5 := by omega
      obtain ⟨V, A, n, c, L, a0, a1, hL, hn, hm⟩ := HS.out.graph i1 h5
      have HN := Lib.hid hn; have HM := Lib.hid hm
      go_upto_region 5 with fail
      obtain ⟨W4, hW4⟩ : ∃ W4, W4 = wr.alloc (.cells #[.int .i64 V, .slice A n c] 24) := ⟨_, rfl⟩
      obtain ⟨b, hb⟩ : ∃ b, b = wr.heap.size := ⟨_, rfl⟩
      have HG : Hid (KSg w W4 nb gb b V A n c L) := Lib.hid (by
        have h4 : Below wr.heap.size wr W4 := by rw [hW4]; exact (Below.refl _ wr).alloc (Nat.le_refl _) _
        exact ⟨HS.out.step h4, by rw [hW4, hb]; exact heap_alloc_new wr _, hL.below h4⟩)
      rw [← hW4, ← hb]
      clear hW4 hb a0 a1 hL hn hm HS tk tg
      go_wp2_with fail
      obtain ⟨G0, rfl⟩ : ∃ G0 : Nat, G0 = gk := ⟨_, rfl⟩
      go_loopg [4] 9 (fun gk i wr => K2Rel w nb gb b V A n c L gk i wr)
      case atStart => exact ⟨0, rfl, rfl, HG⟩
      case round =>
        clear HG
        obtain ⟨i2, hi2, rfl, HG⟩ := hrel
        by_cases h9 : i2 < 9
        · have tk : decide ((i2 : Int) < 9) = true := by simp; omega
          have tg : (i2 : Int) < 9 := by omega
          obtain ⟨k, st, so, dm, ep, hJ⟩ := kn_job HG.out.st i2 h9
          have HJ := Lib.hid hJ
          clear hJ
          obtain ⟨r, hr⟩ : ∃ r, startR k st so dm ep V L = r := ⟨_, rfl⟩
          obtain ⟨p, S, E⟩ := r
          have hfw : Few S := by have := few_start k st so dm ep V L; rw [hr] at this; exact this
          have HML : Hid (∀ m ∈ S.inb, I63 m.2) := Lib.hid (by have := start_mail k st so dm ep V L; rw [hr] at this; exact this)
          have HC : Hid (∀ W : World, Hid (Below wr.heap.size wr W) → Calls Tryz.prog 13 #[.agg #[.int .i64 V, .slice A n c], .agg #[.int .u8 k, .int .i64 st, .int .i64 so, .int .i64 dm, .int .i64 ep]] W fun e w' => Res W w' e (p, S, E)) := Lib.hid (fun W hW => by
            have h := rstart_any' k st so dm ep V A n c L W (HG.out.row.below hW.out) HN.out (by have := HM.out; omega)
            rw [hr] at h; exact h)
          have HFW := Lib.hid hfw
          clear hr hfw
          obtain ⟨j0, j1, j2, j3, j4⟩ := HJ.out wr (Below.refl _ _)
          obtain ⟨g0, g1, _⟩ := two HG.out.gbx
          go_wp2_with fail
          go_cut [5, 6] from 39 to 47 (fun x y W => ∃ bs Av cv Ac cc Ai ci, ∃ nv nc ni : Nat, x = .pointer (some ⟨bs, 0, none⟩) ∧ y = .int .i64 E ∧ Hid (KSs w W nb gb b V A n c L bs p S Av Ac Ai nv nc ni cv cc ci) ∧ Hid (nv ≤ 512 ∧ nc ≤ 512 ∧ ni ≤ 512) ∧ Hid (Below wr.heap.size wr W))
          case first =>
            have HSW : Hid (∀ W, Below wr.heap.size wr W → (fun w' : World => w'.cell? ⟨b, 0, none⟩ = some (.int .i64 V) ∧ w'.cell? ⟨b, 1, none⟩ = some (.slice A n c) ∧ w'.cell? ⟨nb, i2 * 5, none⟩ = some (.int .u8 k) ∧ w'.cell? ⟨nb, i2 * 5 + 1, none⟩ = some (.int .i64 st) ∧ w'.cell? ⟨nb, i2 * 5 + 2, none⟩ = some (.int .i64 so) ∧ w'.cell? ⟨nb, i2 * 5 + 3, none⟩ = some (.int .i64 dm) ∧ w'.cell? ⟨nb, i2 * 5 + 4, none⟩ = some (.int .i64 ep)) W) := Lib.hid (fun W hb => by
              obtain ⟨j0, j1, j2, j3, j4⟩ := HJ.out W hb
              obtain ⟨g0, g1, _⟩ := two (HG.out.step hb).gbx
              exact ⟨g0, g1, j0, j1, j2, j3, j4⟩)
            have HD : Hid (Below wr.heap.size wr wr.drew) := Lib.hid ((Below.refl _ wr).drew)
            have HZ : Hid (Below wr.heap.size wr (wr.drew.alloc (.cells #[.int .i64 0, .slice none 0 0, .slice none 0 0, .slice none 0 0, .int .i64 0, .int .i64 0] 33))) := Lib.hid (HD.out.alloc HD.out.size _)
            clear j0 j1 j2 j3 j4 g0 g1
            have hS := HSW.out _ HD.out
            refine Tl.headX_region (S := (fun w' : World => w'.cell? ⟨b, 0, none⟩ = some (.int .i64 V) ∧ w'.cell? ⟨b, 1, none⟩ = some (.slice A n c) ∧ w'.cell? ⟨nb, i2 * 5, none⟩ = some (.int .u8 k) ∧ w'.cell? ⟨nb, i2 * 5 + 1, none⟩ = some (.int .i64 st) ∧ w'.cell? ⟨nb, i2 * 5 + 2, none⟩ = some (.int .i64 so) ∧ w'.cell? ⟨nb, i2 * 5 + 3, none⟩ = some (.int .i64 dm) ∧ w'.cell? ⟨nb, i2 * 5 + 4, none⟩ = some (.int .i64 ep))) 11 mixed (by decide) ?_
            try dsimp only
            refine Tl.headX_tk 0 ?v0_1 rfl (by kernel_rfl) (by decide) (by kernel_rfl) (by kernel_rfl) (by kernel_rfl) (fun _ _ _ h => h) (by rfl) (fun W hSw => ?hy0_1) hS ?_
            case hy0_1 => ((try dsimp only at hSw); go_simp; try with_reducible rfl)
            simp only [Act.put, List.setIfInBounds_toArray, List.set_cons_zero, List.set_cons_succ]
            refine Tl.headX_tk 1 ?v1_2 rfl (by kernel_rfl) (by decide) (by kernel_rfl) (by kernel_rfl) (by kernel_rfl) (fun _ _ _ h => h) (by rfl) (fun W hSw => ?hy1_2) hS ?_
            case hy1_2 => ((try dsimp only at hSw); go_simp; try with_reducible rfl)
            simp only [Act.put, List.setIfInBounds_toArray, List.set_cons_zero, List.set_cons_succ]
            refine Tl.headX_tk 2 ?v2_3 rfl (by kernel_rfl) (by decide) (by kernel_rfl) (by kernel_rfl) (by kernel_rfl) (fun _ _ _ h => h) (by rfl) (fun W hSw => ?hy2_3) hS ?_
            case hy2_3 => ((try dsimp only at hSw); go_simp; try with_reducible rfl)
            simp only [Act.put, List.setIfInBounds_toArray, List.set_cons_zero, List.set_cons_succ]
            refine Tl.headX_tk 3 ?v3_4 rfl (by kernel_rfl) (by decide) (by kernel_rfl) (by kernel_rfl) (by kernel_rfl) (fun _ _ _ h => h) (by rfl) (fun W hSw => ?hy3_4) hS ?_
            case hy3_4 => ((try dsimp only at hSw); go_simp; try with_reducible rfl)
            simp only [Act.put, List.setIfInBounds_toArray, List.set_cons_zero, List.set_cons_succ]
            refine Tl.headX_tk 4 ?v4_5 rfl (by kernel_rfl) (by decide) (by kernel_rfl) (by kernel_rfl) (by kernel_rfl) (fun _ _ _ h => h) (by rfl) (fun W hSw => ?hy4_5) hS ?_
            case hy4_5 => ((try dsimp only at hSw); go_simp; try with_reducible rfl)
            simp only [Act.put, List.setIfInBounds_toArray, List.set_cons_zero, List.set_cons_succ]
            refine headX_cv (R := fun v w' => Res wr.drew w' (.returned v) (p, S, E)) 5 9 _ _ ?v9 ?w9 rfl rfl (by decide) (by decide) (by kernel_rfl) (by rfl) (by rfl) ?he5 ?he9 ((HC.out _ HD).mono (fun e w' h => ?hr5)) ?hs9 ?first5 ?first9
            case he5 => (go_simp; try with_reducible rfl)
            case he9 => (go_simp; first | (constructor <;> with_reducible rfl) | with_reducible rfl)
            case hr5 =>
              obtain ⟨v, rfl, hr⟩ := h
              exact ⟨_, rfl, v, rfl, hr⟩
            case hs9 => exact HSW.out _ HZ.out
            case first5 =>
              rintro v w5 ⟨x, hv, hs, hb⟩
              cases hv
              obtain ⟨Av, cv, Ac, cc, Ai, ci, rfl, hat, _⟩ := hs.out.at
              have HB5 : Hid (Below wr.heap.size wr w5) := Lib.hid (step_below HD.out HD.out.size hb.out)
              have HB6 : Hid (Below wr.heap.size wr (w5.alloc (.cells #[.int .i64 0, .slice none 0 0, .slice none 0 0, .slice none 0 0, .int .i64 0, .int .i64 0] 33))) := Lib.hid (HB5.out.alloc HB5.out.size _)
              have HB7 : Hid (Below wr.heap.size wr (w5.alloc (.cells #[.int .i64 p, .slice Av S.vals.length cv, .slice Ac S.chg.length cc, .slice Ai S.inb.length ci, .int .i64 S.sum, .int .i64 S.most] 33))) := Lib.hid (HB5.out.alloc HB5.out.size _)
              have HA7 : Hid (SAt (w5.alloc (.cells #[.int .i64 p, .slice Av S.vals.length cv, .slice Ac S.chg.length cc, .slice Ai S.inb.length ci, .int .i64 S.sum, .int .i64 S.most] 33)) Av Ac Ai S.vals.length S.chg.length S.inb.length S) := Lib.hid (hat.below ((Below.refl _ w5).alloc (Nat.le_refl _) _))
              clear hS hs hat hb
              have hS := HSW.out _ HB5.out
              refine ⟨hS, ?_⟩
              simp only [Act.put, List.setIfInBounds_toArray, List.set_cons_zero, List.set_cons_succ]
              refine Tl.headX_tk 6 ?v6_6 rfl (by kernel_rfl) (by decide) (by kernel_rfl) (by kernel_rfl) (by kernel_rfl) (fun _ _ _ h => h) (by rfl) (fun W hSw => ?hy6_6) hS ?_
              case hy6_6 => ((try dsimp only at hSw); go_simp; try with_reducible rfl)
              simp only [Act.put, List.setIfInBounds_toArray, List.set_cons_zero, List.set_cons_succ]
              refine Tl.headX_tk 7 ?v7_7 rfl (by kernel_rfl) (by decide) (by kernel_rfl) (by kernel_rfl) (by kernel_rfl) (fun _ _ _ h => h) (by rfl) (fun W hSw => ?hy7_7) hS ?_
              case hy7_7 => ((try dsimp only at hSw); go_simp; try with_reducible rfl)
              simp only [Act.put, List.setIfInBounds_toArray, List.set_cons_zero, List.set_cons_succ]
              refine Tl.headX_tk 8 ?v8_8 rfl (by kernel_rfl) (by decide) (by kernel_rfl) (by kernel_rfl) (by kernel_rfl) (fun _ _ _ h => h) (by rfl) (fun W hSw => ?hy8_8) hS ?_
              case hy8_8 => ((try dsimp only at hSw); go_simp; try with_reducible rfl)
              simp only [Act.put, List.setIfInBounds_toArray, List.set_cons_zero, List.set_cons_succ]
              refine Tl.headX_vl 9 ?v9_25 ?w9_25 rfl (by decide) (by kernel_rfl) (by rfl) ?hy9_25 ?hs9_25 ?_
              case hy9_25 => (go_simp; first | (constructor <;> with_reducible rfl) | with_reducible rfl)
              case hs9_25 => exact HSW.out _ HB6.out
              simp only [Act.put, List.setIfInBounds_toArray, List.set_cons_zero, List.set_cons_succ]
              clear hS
              have hS := HSW.out _ HB7.out
              refine headX_sk 10 ?w10 rfl (by decide) (by kernel_rfl) (by rfl) ?he10 ?hs10 ?_
              case he10 => (go_simp; try with_reducible rfl)
              case hs10 => exact hS
              simp only [Act.put]
              refine Tl.headX_rest (by kernel_rfl) ?_
              simp only [List.drop_succ_cons, List.drop_zero]
              clear hS
              go_wp2_with fail
              go_meet
              exact ⟨_, _, _, _, _, _, _, _, _, _, rfl, rfl, Lib.hid ⟨HG.out.step HB7.out, heap_alloc_new w5 _, HA7.out⟩, HFW, HB7⟩
            case first9 =>
              have HZ2 : Hid (Below wr.heap.size wr (wr.alloc (.cells #[.int .i64 0, .slice none 0 0, .slice none 0 0, .slice none 0 0, .int .i64 0, .int .i64 0] 33)).drew) := Lib.hid (((Below.refl _ wr).alloc (Nat.le_refl _) _).drew)
              have HZB : Hid ((wr.alloc (.cells #[.int .i64 0, .slice none 0 0, .slice none 0 0, .slice none 0 0, .int .i64 0, .int .i64 0] 33)).drew.heap[wr.heap.size]? = some (.cells #[.int .i64 0, .slice none 0 0, .slice none 0 0, .slice none 0 0, .int .i64 0, .int .i64 0] 33 (0, 0))) := Lib.hid (heap_alloc_new wr _)
              clear hS
              have hS := HSW.out _ HZ2.out
              simp only [Act.put, List.setIfInBounds_toArray, List.set_cons_zero, List.set_cons_succ]
              refine Tl.headX_cl (R := fun v w' => Res (wr.alloc (.cells #[.int .i64 0, .slice none 0 0, .slice none 0 0, .slice none 0 0, .int .i64 0, .int .i64 0] 33)).drew w' (.returned v) (p, S, E)) 5 _ _ rfl (by decide) (by kernel_rfl) (by rfl) ?he55 ((HC.out _ HZ2).mono (fun e w' h => ?hr55)) ?_
              case he55 => (go_simp; try with_reducible rfl)
              case hr55 =>
                obtain ⟨v, rfl, hr⟩ := h
                exact ⟨_, rfl, v, rfl, hr⟩
              rintro v w5 ⟨x, hv, hs, hb⟩
              cases hv
              have HB5 : Hid (Below wr.heap.size wr w5) := Lib.hid (step_below HZ2.out HZ2.out.size hb.out)
              have HZ5 := Lib.hid (keep HZB.out hb.out)
              obtain ⟨Av, cv, Ac, cc, Ai, ci, rfl, _⟩ := hs.out.at
              have HS5 := Lib.hid hs.out
              clear hS hs hb
              have hS := HSW.out _ HB5.out
              refine ⟨hS, ?_⟩
              simp only [Act.put, List.setIfInBounds_toArray, List.set_cons_zero, List.set_cons_succ]
              refine Tl.headX_tk 6 ?v6_9 rfl (by kernel_rfl) (by decide) (by kernel_rfl) (by kernel_rfl) (by kernel_rfl) (fun _ _ _ h => h) (by rfl) (fun W hSw => ?hy6_9) hS ?_
              case hy6_9 => ((try dsimp only at hSw); go_simp; try with_reducible rfl)
              simp only [Act.put, List.setIfInBounds_toArray, List.set_cons_zero, List.set_cons_succ]
              refine Tl.headX_tk 7 ?v7_10 rfl (by kernel_rfl) (by decide) (by kernel_rfl) (by kernel_rfl) (by kernel_rfl) (fun _ _ _ h => h) (by rfl) (fun W hSw => ?hy7_10) hS ?_
              case hy7_10 => ((try dsimp only at hSw); go_simp; try with_reducible rfl)
              simp only [Act.put, List.setIfInBounds_toArray, List.set_cons_zero, List.set_cons_succ]
              refine Tl.headX_tk 8 ?v8_11 rfl (by kernel_rfl) (by decide) (by kernel_rfl) (by kernel_rfl) (by kernel_rfl) (fun _ _ _ h => h) (by rfl) (fun W hSw => ?hy8_11) hS ?_
              case hy8_11 => ((try dsimp only at hSw); go_simp; try with_reducible rfl)
              simp only [Act.put, List.setIfInBounds_toArray, List.set_cons_zero, List.set_cons_succ]
              have HX7 := Lib.hid (put6_heap HZ5.out (.int .i64 p) (.slice Av S.vals.length cv) (.slice Ac S.chg.length cc) (.slice Ai S.inb.length ci) (.int .i64 S.sum) (.int .i64 S.most))
              have HB7 := Lib.hid (put6_below HB5.out (b := wr.heap.size) (Nat.le_refl _) (.int .i64 p) (.slice Av S.vals.length cv) (.slice Ac S.chg.length cc) (.slice Ai S.inb.length ci) (.int .i64 S.sum) (.int .i64 S.most))
              have HS7 := Lib.hid (HS5.out.moved HZ5.out (fun k hk => put6_other _ _ _ (.int .i64 p) (.slice Av S.vals.length cv) (.slice Ac S.chg.length cc) (.slice Ai S.inb.length ci) (.int .i64 S.sum) (.int .i64 S.most) hk))
              clear hS
              have hS := HSW.out _ HB7.out
              obtain ⟨W7, hW7⟩ : ∃ W7, W7 = put6 w5 wr.heap.size (.int .i64 p) (.slice Av S.vals.length cv) (.slice Ac S.chg.length cc) (.slice Ai S.inb.length ci) (.int .i64 S.sum) (.int .i64 S.most) := ⟨_, rfl⟩
              rw [← hW7] at HX7 HB7 HS7 hS
              refine headX_sk 10 W7 rfl (by decide) (by kernel_rfl) (by rfl) ?he110 hS ?_
              case he110 =>
                obtain ⟨x0, x1, x2, x3, x4, x5, xl⟩ := six HZ5.out
                have f0 := warm HZ5.out 0; have f1 := warm HZ5.out 1; have f2 := warm HZ5.out 2; have f3 := warm HZ5.out 3; have f4 := warm HZ5.out 4; have f5 := warm HZ5.out 5
                rw [hW7]
                unfold put6
                go_simp
                try with_reducible rfl
              clear hW7
              simp only [Act.put]
              refine Tl.headX_rest (by kernel_rfl) ?_
              simp only [List.drop_succ_cons, List.drop_zero]
              clear hS
              go_wp2_with fail
              go_meet
              obtain ⟨Bv, dv, Bc, dc, Bi, di, he, hat, _⟩ := HS7.out.at
              cases he
              exact ⟨_, _, _, _, _, _, _, _, _, _, rfl, rfl, Lib.hid ⟨HG.out.step HB7.out, HX7.out, hat⟩, HFW, HB7⟩
          case rest =>
            clear HC j0 j1 j2 j3 j4 g0 g1
            obtain ⟨bs, Av, cv, Ac, cc, Ai, ci, nv, nc, ni, rfl, rfl, hks, hf, hb⟩ := hcut
            have HS := hks; have HF := hf; replace HJ := Lib.hid (HJ.out.step hb.out)
            clear hks hf hb HG
            have C1 := Lib.hid (kn_start k st so dm ep V A n c L HS.out.g.row HN.out HM.out)
            have C2 := Lib.hid (kn_run k st so dm ep V A n c L HS.out.g.row HN.out HM.out)
            have C3 := Lib.hid (kn_goes k st so dm ep V A n c L HS.out.g.row HN.out HM.out)
            have C4 := Lib.hid (kn_at k st so dm ep V A n c L HS.out.g.row HN.out HM.out (i2 : Int))
            have C5 := Lib.hid (kn_at k st so dm ep V A n c L HS.out.g.row HN.out HM.out (-1))
            have C6 := Lib.hid (kn_at k st so dm ep V A n c L HS.out.g.row HN.out HM.out 2001)
            have C7 := Lib.hid (kn_step k st so dm ep V A n c L HS.out.g.row HN.out HM.out p S Av Ac Ai nv nc ni cv cc ci HS.out.s HML.out (by have := HF.out; omega) (by have := HF.out; omega) (by have := HF.out; omega))
            unfold Rg1 at C1 C2 C3 C4 C5 C6 C7
            obtain ⟨j0, j1, j2, j3, j4⟩ := HJ.out wc (Below.refl _ _)
            obtain ⟨g0, g1, _⟩ := two HS.out.g.gbx
            obtain ⟨s0, s1, s2, s3, s4, s5, _⟩ := six HS.out.sbx
            have q0 := cell_regrown j0; have q1 := cell_regrown j1; have q2 := cell_regrown j2; have q3 := cell_regrown j3; have q4 := cell_regrown j4
            have k0 := cell_regrown g0; have k1 := cell_regrown g1
            have z0 := cell_regrown s0; have z1 := cell_regrown s1; have z2 := cell_regrown s2; have z3 := cell_regrown s3; have z4 := cell_regrown s4; have z5 := cell_regrown s5
            clear j0 j1 j2 j3 j4 g0 g1 s0 s1 s2 s3 s4 s5
            go_upto_region 9 with fail
            refine wp_region_quiet_below mixed (by kernel_rfl) ?_
            try dsimp only [List.append]
            repeat (go_big_quiet_step ((with_reducible first | exact C1.out _ _ | exact C2.out _ _ | exact C3.out _ _ | exact C4.out _ _ | exact C5.out _ _ | exact C6.out _ _ | exact C7.out _ _)))
            refine wpQuiet_nil ?_
            intro _ hw'
            obtain ⟨⟨dq, osq⟩, hw''⟩ := hw'
            subst hw''
            replace HJ := Lib.hid (HJ.out.step (below_regrown wc dq osq))
            replace HS := Lib.hid (HS.out.step (below_regrown wc dq osq))
            clear q0 q1 q2 q3 q4 k0 k1 z0 z1 z2 z3 z4 z5 C1 C2 C3 C4 C5 C6 C7
            go_wp2_with fail
            obtain ⟨G1, rfl⟩ : ∃ G1 : Nat, G1 = gk := ⟨_, rfl⟩
            go_loopg [7] 9 (fun gk i wr => K3Rel w nb gb b V A n c L bs p S Av Ac Ai nv nc ni cv cc ci i2 k st so dm ep gk i wr)
            case atStart => exact ⟨0, rfl, rfl, HJ, HS⟩
            case round =>
              clear HS HJ
              obtain ⟨x, hx, rfl, HJ, HS⟩ := hrel
              by_cases hx9 : x < 9
              · have tk3 : decide ((x : Int) < 9) = true := by simp; omega
                go_upto_region 14 with fail
                clear tk3
                have HSW : Hid (∀ W, Below wr.heap.size wr W → (fun w' : World => w'.cell? ⟨b, 0, none⟩ = some (.int .i64 V) ∧ w'.cell? ⟨b, 1, none⟩ = some (.slice A n c) ∧ w'.cell? ⟨nb, i2 * 5, none⟩ = some (.int .u8 k) ∧ w'.cell? ⟨nb, i2 * 5 + 1, none⟩ = some (.int .i64 st) ∧ w'.cell? ⟨nb, i2 * 5 + 2, none⟩ = some (.int .i64 so) ∧ w'.cell? ⟨nb, i2 * 5 + 3, none⟩ = some (.int .i64 dm) ∧ w'.cell? ⟨nb, i2 * 5 + 4, none⟩ = some (.int .i64 ep) ∧ w'.cell? ⟨bs, 0, none⟩ = some (.int .i64 p) ∧ w'.cell? ⟨bs, 1, none⟩ = some (.slice Av nv cv) ∧ w'.cell? ⟨bs, 2, none⟩ = some (.slice Ac nc cc) ∧ w'.cell? ⟨bs, 3, none⟩ = some (.slice Ai ni ci) ∧ w'.cell? ⟨bs, 4, none⟩ = some (.int .i64 S.sum) ∧ w'.cell? ⟨bs, 5, none⟩ = some (.int .i64 S.most)) W) := Lib.hid (fun W hb => by
                  obtain ⟨j0, j1, j2, j3, j4⟩ := HJ.out W hb
                  obtain ⟨g0, g1, _⟩ := two (HS.out.step hb).g.gbx
                  obtain ⟨s0, s1, s2, s3, s4, s5, _⟩ := six (HS.out.step hb).sbx
                  exact ⟨g0, g1, j0, j1, j2, j3, j4, s0, s1, s2, s3, s4, s5⟩)
                have HD : Hid (Below wr.heap.size wr wr.drew) := Lib.hid ((Below.refl _ wr).drew)
                have hS := HSW.out _ HD.out
                refine Tl.headX_region (S := (fun w' : World => w'.cell? ⟨b, 0, none⟩ = some (.int .i64 V) ∧ w'.cell? ⟨b, 1, none⟩ = some (.slice A n c) ∧ w'.cell? ⟨nb, i2 * 5, none⟩ = some (.int .u8 k) ∧ w'.cell? ⟨nb, i2 * 5 + 1, none⟩ = some (.int .i64 st) ∧ w'.cell? ⟨nb, i2 * 5 + 2, none⟩ = some (.int .i64 so) ∧ w'.cell? ⟨nb, i2 * 5 + 3, none⟩ = some (.int .i64 dm) ∧ w'.cell? ⟨nb, i2 * 5 + 4, none⟩ = some (.int .i64 ep) ∧ w'.cell? ⟨bs, 0, none⟩ = some (.int .i64 p) ∧ w'.cell? ⟨bs, 1, none⟩ = some (.slice Av nv cv) ∧ w'.cell? ⟨bs, 2, none⟩ = some (.slice Ac nc cc) ∧ w'.cell? ⟨bs, 3, none⟩ = some (.slice Ai ni ci) ∧ w'.cell? ⟨bs, 4, none⟩ = some (.int .i64 S.sum) ∧ w'.cell? ⟨bs, 5, none⟩ = some (.int .i64 S.most))) 17 mixed (by decide) ?_
                try dsimp only
                refine Tl.headX_tk 0 ?v0_12 rfl (by kernel_rfl) (by decide) (by kernel_rfl) (by kernel_rfl) (by kernel_rfl) (fun _ _ _ h => h) (by rfl) (fun W hSw => ?hy0_12) hS ?_
                case hy0_12 => ((try dsimp only at hSw); go_simp; try with_reducible rfl)
                simp only [Act.put, List.setIfInBounds_toArray, List.set_cons_zero, List.set_cons_succ]
                refine Tl.headX_tk 1 ?v1_13 rfl (by kernel_rfl) (by decide) (by kernel_rfl) (by kernel_rfl) (by kernel_rfl) (fun _ _ _ h => h) (by rfl) (fun W hSw => ?hy1_13) hS ?_
                case hy1_13 => ((try dsimp only at hSw); go_simp; try with_reducible rfl)
                simp only [Act.put, List.setIfInBounds_toArray, List.set_cons_zero, List.set_cons_succ]
                refine Tl.headX_tk 2 ?v2_14 rfl (by kernel_rfl) (by decide) (by kernel_rfl) (by kernel_rfl) (by kernel_rfl) (fun _ _ _ h => h) (by rfl) (fun W hSw => ?hy2_14) hS ?_
                case hy2_14 => ((try dsimp only at hSw); go_simp; try with_reducible rfl)
                simp only [Act.put, List.setIfInBounds_toArray, List.set_cons_zero, List.set_cons_succ]
                refine Tl.headX_tk 3 ?v3_15 rfl (by kernel_rfl) (by decide) (by kernel_rfl) (by kernel_rfl) (by kernel_rfl) (fun _ _ _ h => h) (by rfl) (fun W hSw => ?hy3_15) hS ?_
                case hy3_15 => ((try dsimp only at hSw); go_simp; try with_reducible rfl)
                simp only [Act.put, List.setIfInBounds_toArray, List.set_cons_zero, List.set_cons_succ]
                refine Tl.headX_tk 4 ?v4_16 rfl (by kernel_rfl) (by decide) (by kernel_rfl) (by kernel_rfl) (by kernel_rfl) (fun _ _ _ h => h) (by rfl) (fun W hSw => ?hy4_16) hS ?_
                case hy4_16 => ((try dsimp only at hSw); go_simp; try with_reducible rfl)
                simp only [Act.put, List.setIfInBounds_toArray, List.set_cons_zero, List.set_cons_succ]
                refine Tl.headX_tk 5 ?v5_17 rfl (by kernel_rfl) (by decide) (by kernel_rfl) (by kernel_rfl) (by kernel_rfl) (fun _ _ _ h => h) (by rfl) (fun W hSw => ?hy5_17) hS ?_
                case hy5_17 => ((try dsimp only at hSw); go_simp; try with_reducible rfl)
                simp only [Act.put, List.setIfInBounds_toArray, List.set_cons_zero, List.set_cons_succ]
                refine Tl.headX_tk 6 ?v6_18 rfl (by kernel_rfl) (by decide) (by kernel_rfl) (by kernel_rfl) (by kernel_rfl) (fun _ _ _ h => h) (by rfl) (fun W hSw => ?hy6_18) hS ?_
                case hy6_18 => ((try dsimp only at hSw); go_simp; try with_reducible rfl)
                simp only [Act.put, List.setIfInBounds_toArray, List.set_cons_zero, List.set_cons_succ]
                refine Tl.headX_cl (R := fun v w' => SpX wr.drew v w') 7 _ _ rfl (by decide) (by kernel_rfl) (by rfl) ?he7 (kn_spoilt x p S Av Ac Ai nv nc ni cv cc ci wr.drew (HS.out.s.below HD.out) HML.out HF.out hx9) ?_
                case he7 => (go_simp; try with_reducible rfl)
                intro v1 w5 hv1
                have HV1 := Lib.hid hv1
                have HB5 : Hid (Below wr.heap.size wr w5) := Lib.hid (step_below HD.out HD.out.size hv1.below)
                clear hv1 hS
                have hS := HSW.out _ HB5.out
                refine ⟨hS, ?_⟩
                simp only [Act.put, List.setIfInBounds_toArray, List.set_cons_zero, List.set_cons_succ]
                refine Tl.headX_cl (R := fun r w' => r = .bool true ∧ Below w5.heap.size w5 w') 8 _ _ rfl (by decide) (by kernel_rfl) (by rfl) ?he8 (kn_step2 k st so dm ep V A n c L (HS.out.g.row.below HB5.out) HN.out HM.out HV1.out) ?_
                case he8 => (go_simp; try with_reducible rfl)
                rintro _ w6 ⟨rfl, hb6⟩
                have HB6 : Hid (Below wr.heap.size wr w6) := Lib.hid (step_below HB5.out HB5.out.size hb6)
                clear hb6 hS HV1
                have hS := HSW.out _ HB6.out
                refine ⟨hS, ?_⟩
                simp only [Act.put, List.setIfInBounds_toArray, List.set_cons_zero, List.set_cons_succ]
                refine Tl.headX_tk 9 ?v9_19 rfl (by kernel_rfl) (by decide) (by kernel_rfl) (by kernel_rfl) (by kernel_rfl) (fun _ _ _ h => h) (by rfl) (fun W hSw => ?hy9_19) hS ?_
                case hy9_19 => ((try dsimp only at hSw); go_simp; try with_reducible rfl)
                simp only [Act.put, List.setIfInBounds_toArray, List.set_cons_zero, List.set_cons_succ]
                refine Tl.headX_tk 10 ?v10_20 rfl (by kernel_rfl) (by decide) (by kernel_rfl) (by kernel_rfl) (by kernel_rfl) (fun _ _ _ h => h) (by rfl) (fun W hSw => ?hy10_20) hS ?_
                case hy10_20 => ((try dsimp only at hSw); go_simp; try with_reducible rfl)
                simp only [Act.put, List.setIfInBounds_toArray, List.set_cons_zero, List.set_cons_succ]
                refine Tl.headX_tk 11 ?v11_21 rfl (by kernel_rfl) (by decide) (by kernel_rfl) (by kernel_rfl) (by kernel_rfl) (fun _ _ _ h => h) (by rfl) (fun W hSw => ?hy11_21) hS ?_
                case hy11_21 => ((try dsimp only at hSw); go_simp; try with_reducible rfl)
                simp only [Act.put, List.setIfInBounds_toArray, List.set_cons_zero, List.set_cons_succ]
                refine Tl.headX_tk 12 ?v12_22 rfl (by kernel_rfl) (by decide) (by kernel_rfl) (by kernel_rfl) (by kernel_rfl) (fun _ _ _ h => h) (by rfl) (fun W hSw => ?hy12_22) hS ?_
                case hy12_22 => ((try dsimp only at hSw); go_simp; try with_reducible rfl)
                simp only [Act.put, List.setIfInBounds_toArray, List.set_cons_zero, List.set_cons_succ]
                refine Tl.headX_tk 13 ?v13_23 rfl (by kernel_rfl) (by decide) (by kernel_rfl) (by kernel_rfl) (by kernel_rfl) (fun _ _ _ h => h) (by rfl) (fun W hSw => ?hy13_23) hS ?_
                case hy13_23 => ((try dsimp only at hSw); go_simp; try with_reducible rfl)
                simp only [Act.put, List.setIfInBounds_toArray, List.set_cons_zero, List.set_cons_succ]
                refine Tl.headX_cl (R := fun v w' => SpX w6 v w') 14 _ _ rfl (by decide) (by kernel_rfl) (by rfl) ?he14 (kn_spoilt x p S Av Ac Ai nv nc ni cv cc ci w6 (HS.out.s.below HB6.out) HML.out HF.out hx9) ?_
                case he14 => (go_simp; try with_reducible rfl)
                intro v2 w7 hv2
                have HV2 := Lib.hid hv2
                have HB7 : Hid (Below wr.heap.size wr w7) := Lib.hid (step_below HB6.out HB6.out.size hv2.below)
                clear hv2 hS
                have hS := HSW.out _ HB7.out
                refine ⟨hS, ?_⟩
                simp only [Act.put, List.setIfInBounds_toArray, List.set_cons_zero, List.set_cons_succ]
                refine Tl.headX_cl (R := fun r w' => r = .bool true ∧ Below w7.heap.size w7 w') 15 _ _ rfl (by decide) (by kernel_rfl) (by rfl) ?he15 (kn_same2 p S Av Ac Ai nv nc ni cv cc ci (HS.out.s.below HB7.out) HF.out HV2.out) ?_
                case he15 => (go_simp; try with_reducible rfl)
                rintro _ w8 ⟨rfl, hb8⟩
                have HB8 : Hid (Below wr.heap.size wr w8) := Lib.hid (step_below HB7.out HB7.out.size hb8)
                clear hb8 hS HV2
                have hS := HSW.out _ HB8.out
                refine ⟨hS, ?_⟩
                simp only [Act.put, List.setIfInBounds_toArray, List.set_cons_zero, List.set_cons_succ]
                refine Tl.headX_tk 16 ?v16_24 rfl (by kernel_rfl) (by decide) (by kernel_rfl) (by kernel_rfl) (by kernel_rfl) (fun _ _ _ h => h) (by rfl) (fun W hSw => ?hy16_24) hS ?_
                case hy16_24 => ((try dsimp only at hSw); go_simp; try with_reducible rfl)
                simp only [Act.put, List.setIfInBounds_toArray, List.set_cons_zero, List.set_cons_succ]
                refine Tl.headX_rest (by kernel_rfl) ?_
                simp only [List.drop_succ_cons, List.drop_zero]
                have HJ8 := Lib.hid (HJ.out.step HB8.out); have HS8 := Lib.hid (HS.out.step HB8.out)
                clear hS HSW HD HB5 HB6 HB7 HB8 HS HJ
                go_wp2
                go_roundg (gk - 1)
                case measure => omega
                case rel => exact ⟨x + 1, by omega, by go_num, HJ8, HS8⟩
              · obtain rfl : x = 9 := by omega
                clear hx9
                go_wp2
                go_roundg (G1 - 1)
                case measure => omega
                case rel => exact ⟨i2 + 1, by omega, by go_num, Lib.hid HS.out.g⟩
        · obtain rfl : i2 = 9 := by omega
          go_wp2
          go_roundg (G0 - 1)
          case measure => omega
          case rel => exact ⟨i1 + 1, by omega, by go_num, Lib.hid HG.out.st⟩
    · obtain rfl : i1 = 5 := by omega
      clear h5
      obtain ⟨S, hat, hfw, hml⟩ := last_at
      have HC1 : Hid (∀ W : World, Calls Tryz.prog 19 #[.agg #[.int .i64 1, .slice none 0 0], .agg #[.int .u8 2, .int .i64 0, .int .i64 0, .int .i64 0, .int .i64 0], .int .i64 2000] W fun e w' => SRes W w' e 2000 S 0) := Lib.hid (fun W => (seqAt_any 2 0 0 0 0 1 none 0 0 [] 2000 W (EAt.nil _ _) rfl (by decide)).mono fun _ _ h => sres_of h hat hfw)
      have HML := Lib.hid hml
      clear hat hfw hml
      go_wp2_with fail
      refine (HC1.out _).mono ?_
      rintro e v1 ⟨Av, a1, Ac, a2, Ai, a3, n1, n2, n3, rfl, hs1, hf1, hb1⟩
      obtain ⟨X1, hX1⟩ : ∃ X, X = v1.alloc (.cells #[.int .i64 2000, .slice Av n1 a1, .slice Ac n2 a2, .slice Ai n3 a3, .int .i64 S.sum, .int .i64 S.most] 33) := ⟨_, rfl⟩
      obtain ⟨bl, ebl⟩ : ∃ b, b = v1.heap.size := ⟨_, rfl⟩
      have hb : Below wr.heap.size wr X1 := by rw [hX1]; exact hb1.out.alloc hb1.out.size _
      have HBX := Lib.hid (step_below HS.out.below HS.out.below.size hb)
      have HSX : Hid (SAt X1 Av Ac Ai n1 n2 n3 S) := Lib.hid (by rw [hX1]; exact hs1.out.below ((Below.refl _ v1).alloc (Nat.le_refl _) _))
      have HXB : Hid (X1.heap[bl]? = some (.cells #[.int .i64 2000, .slice Av n1 a1, .slice Ac n2 a2, .slice Ai n3 a3, .int .i64 S.sum, .int .i64 S.most] 33 (0, 0))) := Lib.hid (by rw [hX1, ebl]; exact heap_alloc_new v1 _)
      have HC2 : Hid (∀ W : World, Below X1.heap.size X1 W → Calls Tryz.prog 17 #[.agg #[.int .i64 1, .slice none 0 0], .agg #[.int .u8 2, .int .i64 0, .int .i64 0, .int .i64 0, .int .i64 0], .agg #[.int .i64 2000, .slice Av n1 a1, .slice Ac n2 a2, .slice Ai n3 a3, .int .i64 S.sum, .int .i64 S.most]] W fun e w' => SRes W w' e 0 zS 4) := Lib.hid (fun W hW => (seqStep_any 2 0 0 0 0 1 2000 none 0 0 [] S Av Ac Ai n1 n2 n3 a1 a2 a3 W (EAt.nil _ _) rfl (by decide) (HSX.out.below hW) HML.out (by have := hf1.out; omega) (by have := hf1.out; omega) (by have := hf1.out; omega)).mono fun _ _ h => sres_of h (step_at S) few_z)
      clear hs1 hb1 hf1 hb HC1 HS
      go_upto_region 18 with fail
      rw [← hX1, show v1.heap.size = bl from ebl.symm]
      clear hX1 ebl
      obtain ⟨s0, s1, s2, s3, s4, s5, _⟩ := six HXB.out
      go_wp2_with fail
      refine (HC2.out X1 (Below.refl _ _)).mono ?_
      rintro e v2 ⟨Bv, d1, Bc, d2, Bi, d3, m1, m2, m3, rfl, hs2, hf2, hb2⟩
      obtain ⟨X2, hX2⟩ : ∃ X, X = v2.alloc (.cells #[.int .i64 0, .slice Bv m1 d1, .slice Bc m2 d2, .slice Bi m3 d3, .int .i64 zS.sum, .int .i64 zS.most] 33) := ⟨_, rfl⟩
      have hb : Below X1.heap.size X1 X2 := by rw [hX2]; exact hb2.out.alloc hb2.out.size _
      have HBY := Lib.hid (step_below HBX.out HBX.out.size hb)
      have HXY := Lib.hid (keep HXB.out hb)
      clear hb hb2 hs2 hf2 HC2 HSX HXB HBX s0 s1 s2 s3 s4 s5 HML
      go_upto_region 19 with fail
      rw [← hX2]
      clear hX2
      obtain ⟨s0, s1, s2, s3, s4, s5, _⟩ := six HXY.out
      go_wp2_with fail
      refine (works_any _).mono ?_
      rintro e w9 ⟨rfl, hb⟩
      have HBZ := Lib.hid (step_below HBY.out HBY.out.size hb)
      clear hb HBY HXY s0 s1 s2 s3 s4 s5
      go_wp2
      go_ret
      exact ⟨rfl, HBZ.out⟩

end Go.Proofs.YtbbmgandkmlojaaGreat.Kn

/-
  What is proved here: Rows.SeqKnownSaid: the law's function SeqKnown returns true (the examples hold), and no block that was there has changed. No condition.
-/
namespace Go.Proofs.YtbbmgandkmlojaaGreat
open Go.ChangeShapes Go.WideShapes Go.ChangeAt Go.RowKit Gr Lb Al Sq Kn

set_option maxRecDepth 100000 in
theorem seqKnown_lifted (os : Os) (started : os.Started) (H : Type) (enc : TypeId × Value → H) :
    ReturnsInHanded {} Tryz.checked os 9 .any (Rows.seqKnownSpec.pre6 enc Tryz.prog Tryz.f9 Rows.seqKnownRow.domain false) (Rows.seqKnownSpec.post enc Tryz.prog Tryz.f9 false true false false) := by
  refine returnsInHanded_of_change (C := Tryz.checked) own started (by kernel_rfl) Tryz.func9
    (ChangeSpec.witness6 (enc := enc) (C := Tryz.checked) false ⟨#[], #[], []⟩ 8 (by kernel_rfl) (by kernel_rfl) (by kernel_rfl) (by kernel_rfl)) ?_
  intro W base args ds gs before hval0 hW hcnd _
  have hval : ∀ (j : Nat) t v, Tryz.f9.params[j]? = some t → args[j]? = some v → Value.okWide Tryz.prog W .any base t v := hval0
  have hW' := hW
  obtain ⟨p, q, hA0, hV, rfl, hfz, hnd⟩ := hW
  have hA : DataW.TrodAll enc Tryz.prog W 0 (fun _ => true) true Tryz.f9.params.toList args.toList ds p := hA0
  rw [Tryz.params9] at hA
  obtain ⟨hargs, rfl, rfl⟩ := trodAll_nil hA
  obtain rfl : args = #[] := by cases args; simp_all
  obtain ⟨rfl, rfl⟩ := trodVars_none hV
  clear hA0 hval0
  simp only [List.append_nil] at hW'
  refine (law_known W).mono fun e W' ⟨he, hg⟩ => ?_
  subst he
  exact ⟨_, rfl, law_post hW' hg rfl rfl rfl rfl trodAll_mk0⟩

theorem seqKnown_holds : Rows.SeqKnownSaid :=
  OpenClaim.holds_of_wide 9 Tryz.f9 rfl rfl rfl rfl rfl rfl rfl ⟨rfl, rfl, rfl, rfl, rfl⟩ rfl rfl rfl rfl rfl (by kernel_rfl) Tryz.func9 (by kernel_rfl)
    (of_decide_eq_true (by kernel_rfl)) (by unfold Func.isWrapper; first | (rw [if_pos (by decide +kernel)]; kernel_rfl) | (rw [if_neg (by decide +kernel)]; exact ⟨rfl, rfl⟩))
    (fun os started H enc _ => seqKnown_lifted os started H enc)
#print axioms seqKnown_holds

end Go.Proofs.YtbbmgandkmlojaaGreat

