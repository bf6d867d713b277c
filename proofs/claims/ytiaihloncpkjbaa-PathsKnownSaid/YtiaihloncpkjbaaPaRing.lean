/-
  What is proved here: the kit's ring; a literal's block reads as a list. Condition: at most 1000 vertices.
-/
import Derived.Test.YtiaihloncpkjbaaPaMem
import Derived.Deep.AppendLies
import Derived.Deep.RegionLaw
import Derived.Laws.AppendOwnNone
import Derived.Laws.OwnMore
namespace Go.Proofs.Ytiaihloncpkjbaa.Pa
open Go.RowKit Gr Wd Ws Lb

/- A graph's two cells. -/
theorem two {w : World} {b : Nat} {T : TypeId} {a0 a1 : Value} (h : w.heap[b]? = some (.cells #[a0, a1] T (0, 0))) :
    w.cell? ⟨b, 0, none⟩ = some a0 ∧ w.cell? ⟨b, 1, none⟩ = some a1 ∧ w.frozen? ⟨b, 0, none⟩ = false ∧ w.frozen? ⟨b, 1, none⟩ = false ∧ b < w.heap.size :=
  ⟨by rw [Lib.cell_of_heap h]; rfl, by rw [Lib.cell_of_heap h]; rfl, Lib.frozen_of_heap h _, Lib.frozen_of_heap h _, lt_of_block h⟩
def put2 (w : World) (b : Nat) (u0 u1 : Value) : World := (w.setCell ⟨b, 0, none⟩ u0).setCell ⟨b, 1, none⟩ u1
theorem put2_heap {w : World} {b : Nat} {T : TypeId} {a0 a1 : Value} (h : w.heap[b]? = some (.cells #[a0, a1] T (0, 0))) (u0 u1 : Value) : (put2 w b u0 u1).heap[b]? = some (.cells #[u0, u1] T (0, 0)) := by
  have e0 := heap_setCell_same w b 0 _ _ u0 h
  have e1 := heap_setCell_same _ b 1 _ _ u1 e0
  exact e1
theorem put2_below {B : Nat} {a w : World} (h : Below B a w) {b : Nat} (hb : B ≤ b) (u0 u1 : Value) : Below B a (put2 w b u0 u1) := (h.setCell (p := ⟨b, 0, none⟩) hb u0).setCell (p := ⟨b, 1, none⟩) hb u1
theorem eown_put2 {w : World} {B : Nat} {v : Value} {L : List Ed} (h : EOwn w B v L) {b : Nat} (hb : b < B) (u0 u1 : Value) : EOwn (put2 w b u0 u1) B v L :=
  ownsRow_setCell_below (ownsRow_setCell_below h (a := ⟨b, 0, none⟩) hb u0) (a := ⟨b, 1, none⟩) hb u1

/- Edges behind the call's own, at a step of a region that draws its order. -/
theorem step_more {ops : Array Oper} {o : Oper} {a : Act} {w : World} {K : Act → World → Prop} {Q : Exit → Act → World → Prop} {E : Prop} (hgd : o.guard = none) (s x : Operand)
    (ho : o.op = .call { callee := .builtin .append, args := #[s, x], argTypes := #[33, 33] }) (B : Nat) (v : Value) (M L : List Ed) (z : Nat) (hz : L.length = z) (hs : a.eval s = v) (hown : EOwn w B v M)
    (A : Option Addr) (c : Nat) (hx : a.eval x = .slice A z c) (hL : EAt w A L) (hn : M.length + z < 1000000000) (hB : B ≤ w.heap.size)
    (h : ∀ A' n' c' w', EOwn w' B (.slice A' n' c') (M ++ L) → w.grownBy w' v.ownBlock → K (a.put o.dst (.slice A' n' c')) w') :
    if Region.wanted o (yielded ops a.tmps) = true then Oper.wp Try.prog o a w K Q else E := by
  subst hz
  have hw : Region.wanted o (yielded ops a.tmps) = true := by simp [Region.wanted, hgd]
  rw [if_pos hw]
  obtain ⟨i0, hi, hz0, hz1, hz2⟩ := info_parts infoE
  have ht : Try.prog.underlying 33 = some (.slice 23) := Try.underlying33
  obtain ⟨v', w', hr, h2, h3⟩ : ∃ v' w', (Builtin.append_ #[33, 33] o.type #[v, .slice A L.length c]).run Try.prog w = .ok v' w' ∧ EOwn w' B v' (M ++ L) ∧ w.grownBy w' v.ownBlock := by
    cases A with
    | some ad =>
      obtain ⟨v', w', hr, h2, h3, _⟩ := run_append_own (P := Try.prog) w B 33 o.type 23 i0 _ 3 24 ht hi hz0 hz1 hz2 rfl (by decide) v M.length (ecs M) hown ad L.length c (ecs L) (ecs_len L) (eat_cells hL ad rfl) (ecs_one L) (by unfold maxLen; omega) (by omega) hB
      refine ⟨v', w', hr, ?_, h3⟩
      unfold EOwn
      rw [ecs_append, List.length_append]
      exact h2
    | none =>
      obtain rfl := eat_none hL
      refine ⟨v, w, ?_, by rw [List.append_nil]; exact hown, ⟨rfl, rfl, rfl, Nat.le_refl _, fun _ _ _ => rfl⟩⟩
      rcases hown.2 with ⟨rfl, _⟩ | ⟨g, cap, cur, rfl, _, _, hnc, _⟩
      · simp [Builtin.append_, run_underlying ht, sizeOf, typeInfo, hi, Builtin.lenOf, Builtin.firstCells]
      · simp [Builtin.append_, run_underlying ht, sizeOf, typeInfo, hi, Builtin.lenOf, Builtin.firstCells, hnc, storeCells]
  obtain ⟨A', c', rfl, _⟩ := h2.form
  unfold Oper.wp execOp
  simp only [ho, resolve, invoke, builtin, Sem.run_bind, Sem.run_pure, Result.andThen_ok, List.map_toArray, List.map_cons, List.map_nil, hs, hx, hr]
  exact h _ _ _ _ h2 h3

/- The result's box, the graph's box, its edges. -/
structure RjB (w wr : World) (V : Int) (s : Value) (es : List Ed) : Prop where
  bel : Below w.heap.size w wr
  res : wr.heap[w.heap.size]? = some (.cells #[.int .i64 0, .slice none 0 0] 35 (0, 0))
  box : wr.heap[w.heap.size + 1]? = some (.cells #[.int .i64 V, s] 35 (0, 0))
  own : EOwn wr (w.heap.size + 2) s es
theorem RjB.quiet {w wr w' : World} {V : Int} {s : Value} {es : List Ed} (h : RjB w wr V s es) (hb : Below wr.heap.size wr w') : RjB w w' V s es :=
  ⟨h.bel.trans (hb.mono h.bel.size), (hb.block _ (lt_of_block h.res)).trans h.res, (hb.block _ (lt_of_block h.box)).trans h.box, h.own.below hb⟩
theorem RjB.mid {w wr w' : World} {V : Int} {s : Value} {es : List Ed} (h : RjB w wr V s es) (hg : wr.grownBy w' s.ownBlock) : w'.heap[w.heap.size + 1]? = some (.cells #[.int .i64 V, s] 35 (0, 0)) :=
  (hg.block _ (lt_of_block h.box) (fun e => by have := (own_lt h.own _ e.symm).1; omega)).trans h.box
theorem RjB.app {w wr w' : World} {V : Int} {s s' : Value} {es es' : List Ed} (h : RjB w wr V s es) (ho : EOwn w' (w.heap.size + 2) s' es') (hg : wr.grownBy w' s.ownBlock) : RjB w (w'.setCell ⟨w.heap.size + 1, 1, none⟩ s') V s' es' := by
  have hb := own_lt h.own
  have keep : ∀ (b : Nat) (o : Obj), wr.heap[b]? = some o → b < w.heap.size + 2 → w'.heap[b]? = some o := fun b o hh hT =>
    (hg.block b (lt_of_block hh) (fun e => by have := (hb b e.symm).1; omega)).trans hh
  have h1 := keep _ _ h.box (by omega)
  refine ⟨(Below.grown h.bel hg h.bel.size (fun j e => by have := (hb j e).1; omega)).setCell (p := ⟨w.heap.size + 1, 1, none⟩) (by show w.heap.size ≤ w.heap.size + 1; omega) _, ?_, ?_, ?_⟩
  · exact (Below.heap_setCell w' ⟨w.heap.size + 1, 1, none⟩ s' w.heap.size (by show w.heap.size ≠ w.heap.size + 1; omega)).trans (keep _ _ h.res (by omega))
  · have := heap_setCell_same w' (w.heap.size + 1) 1 _ _ s' h1
    exact this
  · exact ownsRow_setCell_below ho (a := ⟨w.heap.size + 1, 1, none⟩) (by show w.heap.size + 1 < _; omega) _
theorem rj_start (w wq : World) (V : Int) (h : Below w.heap.size w wq) (hs : wq.heap.size = w.heap.size + 1) (hr : wq.heap[w.heap.size]? = some (.cells #[.int .i64 0, .slice none 0 0] 35 (0, 0))) : RjB w (wq.alloc (.cells #[.int .i64 V, .slice none 0 0] 35)) V (.slice none 0 0) [] := by
  refine ⟨h.alloc h.size _, ?_, ?_, EOwn.none_ _ _⟩
  · rw [Below.heap_alloc _ _ _ (by omega)]; exact hr
  · rw [← hs]; exact heap_alloc_new wq _

def ringL (n : Nat) (j : Nat) : List Ed := (List.range j).map fun (i : Nat) => ((i : Int), (((i + 1) % n : Nat) : Int), ((i + 1 : Nat) : Int))
theorem ringL_len (n j : Nat) : (ringL n j).length = j := by simp [ringL]
theorem ringL_succ (n j : Nat) : ringL n (j + 1) = ringL n j ++ [((j : Int), (((j + 1) % n : Nat) : Int), ((j + 1 : Nat) : Int))] := by simp [ringL, List.range_succ]
set_option maxRecDepth 100000 in
theorem res1_g (fn : Func) (c : Nat) (tmps : Array Value) (w : World) (b : Nat) (a0 a1 : Value) (hr : fn.results = #[.cell c 35]) (ht : tmps.getD c undef = .pointer (some ⟨b, 0, none⟩)) (hh : w.heap[b]? = some (.cells #[a0, a1] 35 (0, 0))) :
    (results fn tmps).run Try.prog w = .ok (.agg #[a0, a1]) w := by
  obtain ⟨f0, f1, _⟩ := two hh
  have ht' : tmps[c]?.getD undef = .pointer (some ⟨b, 0, none⟩) := by simpa using ht
  simp [results, hr, ht', go_sem, f0, f1]
theorem eat_one (w : World) (x y z : Int) : EAt (w.alloc (.cells #[.int .i64 x, .int .i64 y, .int .i64 z] 23)) (some ⟨w.heap.size, 0, none⟩) [(x, y, z)] := by
  have h := heap_alloc_new w (.cells #[.int .i64 x, .int .i64 y, .int .i64 z] 23)
  intro k e hk
  rcases k with _ | k
  · simp at hk; subst hk
    exact ⟨_, _, rfl, by rw [Lib.cell_of_heap h]; rfl, by rw [Lib.cell_of_heap h]; rfl, by rw [Lib.cell_of_heap h]; rfl⟩
  · simp at hk
theorem rjb_two {w wr : World} {V : Int} {s : Value} {es : List Ed} (h : RjB w wr V s es) : w.heap.size + 2 ≤ wr.heap.size := by have := lt_of_block h.box; omega
def RgRel (w : World) (n g : Nat) (i : Value) (wr : World) : Prop := ∃ (j : Nat) (s : Value), j + g = n ∧ i = .int .i64 (j : Int) ∧ Hid (RjB w wr n s (ringL n j))

set_option maxRecDepth 100000 in
set_option maxHeartbeats 2000000 in
theorem ring_any (n : Nat) (hn : n ≤ 1000) (w : World) : Calls Try.prog 23 #[.int .i64 (n : Int)] w fun e w' => (∃ A c, e = .returned (.agg #[.int .i64 (n : Int), .slice A n c]) ∧ Hid (EAt w' A (ringL n n))) ∧ Hid (Below w.heap.size w w') := by
  have mixed := mixedP
  have HN1 := Lib.hid (heap_alloc_new w (.cells #[.int .i64 0, .slice none 0 0] 35))
  have HZ : Hid (Below w.heap.size w (w.alloc (.cells #[.int .i64 0, .slice none 0 0] 35))) := Lib.hid ((Below.refl _ w).alloc (Nat.le_refl _) _)
  go_enter Try.func23, Try.ntmps23
  go_wp2_with fail
  go_loopg [4] n (fun g i wr => RgRel w n g i wr)
  case atStart => exact ⟨0, _, by omega, rfl, Lib.hid (rj_start w _ n HZ.out (by simp) HN1.out)⟩
  case round =>
    obtain ⟨j, s, hj, rfl, HB⟩ := hrel
    obtain ⟨b0, b1, b2, b3, b4⟩ := two HB.out.box
    obtain ⟨A5, c5, rfl, _⟩ := HB.out.own.form
    by_cases hlt : j < n
    · have hw1 : IntKind.i64.wrap ((j : Int) + 1) = ((j + 1 : Nat) : Int) := by rw [IntWalk.i64_in _ (by omega)]; omega
      have hw2 : (((j + 1 : Nat) : Int)).tmod (n : Int) = (((j + 1) % n : Nat) : Int) := by rw [Int.tmod_eq_emod_of_nonneg (by omega)]; omega
      have hw3 : IntKind.i64.wrap (((j + 1) % n : Nat) : Int) = (((j + 1) % n : Nat) : Int) := IntWalk.i64_in _ (by have := Nat.mod_lt (j + 1) (show 0 < n by omega); omega)
      obtain ⟨t, ht⟩ : ∃ t, (j + 1) % n = t := ⟨_, rfl⟩
      obtain ⟨m, hm⟩ : ∃ m, j + 1 = m := ⟨_, rfl⟩
      rw [ht] at hw2 hw3
      rw [hm] at hw1 hw2
      have HCd : Hid (RjB w wr.drew n (.slice A5 (ringL n j).length c5) (ringL n j)) := Lib.hid (HB.out.quiet (Below.refl _ wr).drew)
      have HCa : Hid (RjB w (wr.drew.alloc (.cells #[.int .i64 (j : Int), .int .i64 (t : Int), .int .i64 (m : Int)] 23)) n (.slice A5 (ringL n j).length c5) (ringL n j)) := Lib.hid (HCd.out.quiet ((Below.refl _ wr.drew).alloc (Nat.le_refl _) _))
      have HE1 := Lib.hid (eat_one wr.drew j t m)
      have HL : Hid (ringL n (j + 1) = ringL n j ++ [((j : Int), (t : Int), (m : Int))]) := Lib.hid (by rw [ringL_succ, ht, hm])
      rw [ringL_len] at HCd HCa b1
      clear ht
      have hn0 : ¬ n = 0 := by omega
      go_wp2_with fail
      go_region_law (refine step_more rfl (.tmp 13) (.tmp 22) rfl (w.heap.size + 2) _ (ringL n j) [((j : Int), (t : Int), (m : Int))] 1 rfl (by simp [Act.eval]) HCa.out.own _ 1 (by simp [Act.eval]) HE1.out (by rw [ringL_len]; omega) (rjb_two HCa.out) ?_; intro A6 n6 c6 w2 ho2 hg2; have HC2 := Lib.hid (HCa.out.app ho2 hg2); have hmd := HCa.out.mid hg2; obtain ⟨m0, m1, m2, m3, m4⟩ := two hmd; clear ho2 hg2 hmd)
      all_goals
        clear m0 m1 m2 m3 m4
        go_wp2
        go_roundg (gk - 1)
        case measure => omega
        case rel => exact ⟨j + 1, _, by omega, by go_num, Lib.hid (by rw [HL.out]; exact HC2.out)⟩
    · obtain rfl : j = n := by omega
      obtain ⟨r0, r1, r2, r3, r4⟩ := two HB.out.res
      have HEA : Hid (RjB w wr (j : Int) (.slice A5 j c5) (ringL j j)) := Lib.hid (by have := HB.out; rw [ringL_len] at this; exact this)
      rw [ringL_len] at b1
      go_wp2_with fail
      have h1 := put2_heap HEA.out.res (.int .i64 (j : Int)) (.slice A5 j c5)
      have h2 := eown_put2 HEA.out.own (b := w.heap.size) (by omega) (.int .i64 (j : Int)) (.slice A5 j c5)
      have h3 := put2_below HEA.out.bel (b := w.heap.size) (Nat.le_refl _) (.int .i64 (j : Int)) (.slice A5 j c5)
      unfold put2 at h1 h2 h3
      refine bodyPost_ret (v := .agg #[.int .i64 (j : Int), .slice A5 j c5]) (res1_g _ _ _ _ _ _ _ Try.results23 rfl h1) rfl ⟨?_, Lib.hid h3⟩
      obtain ⟨A', c', e, h4, _⟩ := h2.form
      rw [ringL_len] at e
      cases e
      exact ⟨_, _, rfl, Lib.hid h4⟩

theorem eat_block {w : World} {g : Nat} {L : List Ed} (h : w.heap[g]? = some (.cells (ecs L).toArray 23 (0, 0))) : EAt w (some ⟨g, 0, none⟩) L := by
  intro k e hx
  obtain ⟨a0, a1, a2⟩ := ecs_at L k e hx
  refine ⟨g, 0, rfl, ?_, ?_, ?_⟩
  · rw [Nat.zero_add, cell_of_row w g _ _ 23 (0, 0) h, List.getElem?_toArray]; exact a0
  · rw [Nat.zero_add, cell_of_row w g _ _ 23 (0, 0) h, List.getElem?_toArray]; exact a1
  · rw [Nat.zero_add, cell_of_row w g _ _ 23 (0, 0) h, List.getElem?_toArray]; exact a2
theorem iat_block {w : World} {g : Nat} {t : TypeId} {l : List Int} (h : w.heap[g]? = some (.cells (ints l).toArray t (0, 0))) : IAt w (some ⟨g, 0, none⟩) l := by
  intro k x hx
  refine ⟨g, 0, rfl, ?_⟩
  rw [Nat.zero_add, cell_of_row w g _ _ t (0, 0) h, List.getElem?_toArray, ints_at, hx]; rfl

end Go.Proofs.Ytiaihloncpkjbaa.Pa
