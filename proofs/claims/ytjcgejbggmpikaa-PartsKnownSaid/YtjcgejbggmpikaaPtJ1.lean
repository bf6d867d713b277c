/-
  What is proved here: words for lists of parts in memory, and for what gather has gathered. No condition.
-/
import Derived.Test.YtjcgejbggmpikaaPtApp
import Derived.Test.YtjcgejbggmpikaaPtR1
import Derived.Laws.AppendOwnNone
namespace Go.Proofs.Ytjcgejbggmpikaa.Pt
open Go.RowKit Gr Wd Ws

/- A slice of parts reads as a list. -/
structure PCells (w : World) (bk o : Nat) (P : Pt) (A1 A2 A3 : Option Addr) (c1 c2 c3 : Nat) : Prop where
  f0 : w.cell? ⟨bk, o, none⟩ = some (.int .i64 P.w)
  f1 : w.cell? ⟨bk, o + 1, none⟩ = some (.int .i64 P.k)
  f2 : w.cell? ⟨bk, o + 2, none⟩ = some (.int .i64 P.n)
  f3 : w.cell? ⟨bk, o + 3, none⟩ = some (.slice A1 P.own.length c1)
  f4 : w.cell? ⟨bk, o + 4, none⟩ = some (.slice A2 P.out.length c2)
  f5 : w.cell? ⟨bk, o + 5, none⟩ = some (.slice A3 P.back.length c3)
  own : IAt w A1 P.own
  out : RAt w A2 P.out
  back : RAt w A3 P.back
theorem PCells.kept {w w' : World} {bk o : Nat} {P : Pt} {A1 A2 A3 : Option Addr} {c1 c2 c3 : Nat} (h : PCells w bk o P A1 A2 A3 c1 c2 c3) (hb : Below w.heap.size w w') : PCells w' bk o P A1 A2 A3 c1 c2 c3 :=
  ⟨(hb.cell (block_lt_of_cell h.f0)).trans h.f0, (hb.cell (block_lt_of_cell h.f1)).trans h.f1, (hb.cell (block_lt_of_cell h.f2)).trans h.f2, (hb.cell (block_lt_of_cell h.f3)).trans h.f3, (hb.cell (block_lt_of_cell h.f4)).trans h.f4, (hb.cell (block_lt_of_cell h.f5)).trans h.f5, h.own.below hb, h.out.below hb, h.back.below hb⟩
def LAt (w : World) (A : Option Addr) (l : List Pt) : Prop := ∀ (k : Nat) (P : Pt), l[k]? = some P → ∃ bk o A1 A2 A3 c1 c2 c3, A = some ⟨bk, o, none⟩ ∧ PCells w bk (o + k * 6) P A1 A2 A3 c1 c2 c3
theorem LAt.below {w w' : World} {A : Option Addr} {l : List Pt} (h : LAt w A l) (hb : Below w.heap.size w w') : LAt w' A l := by
  intro k P hk
  obtain ⟨bk, o, A1, A2, A3, c1, c2, c3, e, h⟩ := h k P hk
  exact ⟨bk, o, A1, A2, A3, c1, c2, c3, e, h.kept hb⟩
theorem PCells.ptv {w : World} {bk o : Nat} {P : Pt} {A1 A2 A3 : Option Addr} {c1 c2 c3 : Nat} (h : PCells w bk o P A1 A2 A3 c1 c2 c3) : PtV w (.agg #[.int .i64 P.w, .int .i64 P.k, .int .i64 P.n, .slice A1 P.own.length c1, .slice A2 P.out.length c2, .slice A3 P.back.length c3]) P :=
  ⟨A1, c1, A2, c2, A3, c3, rfl, h.own, h.out, h.back⟩

/- Edges behind the call's own, whoever's they are. -/
theorem app_more {w : World} {ops : Array Oper} {rest : List Oper} {o : Oper} {a : Act} {Q : Exit → Act → World → Prop} (hgd : o.guard = none) (s x : Operand)
    (ho : o.op = .call { callee := .builtin .append, args := #[s, x], argTypes := #[28, 28] }) (B : Nat) (v : Value) (M L : List Ed) (hs : a.eval s = v) (hown : EOwn w B v M)
    (A : Option Addr) (c : Nat) (hx : a.eval x = .slice A L.length c) (hL : EAt w A L) (hn : M.length + L.length < 1000000000) (hB : B ≤ w.heap.size)
    (h : ∀ v' w', EOwn w' B v' (M ++ L) → w.grownBy w' v.ownBlock → wpList Try.prog ops Q rest (a.put o.dst v') w') : wpList Try.prog ops Q (o :: rest) a w := by
  cases A with
  | some ad => exact app_all hgd s x ho B v M L hs hown ad c hx hL (by omega) hB h
  | none =>
    obtain rfl := eat_none hL
    obtain ⟨i0, hi, _⟩ := info_parts infoE
    have ht : Try.prog.underlying 28 = some (.slice 44) := Try.underlying28
    have hr : (Builtin.append_ #[28, 28] o.type #[v, .slice none 0 c]).run Try.prog w = .ok v w := by
      rcases hown.2 with ⟨rfl, _⟩ | ⟨g, cap, cur, rfl, _, _, hnc, _⟩
      · simp [Builtin.append_, run_underlying ht, sizeOf, typeInfo, hi, Builtin.lenOf, Builtin.firstCells]
      · simp [Builtin.append_, run_underlying ht, sizeOf, typeInfo, hi, Builtin.lenOf, Builtin.firstCells, hnc, storeCells]
    refine wpList_plain hgd fun _ hK => ?_
    unfold Oper.wp execOp
    simp only [ho, resolve, invoke, builtin, Sem.run_bind, Sem.run_pure, Result.andThen_ok, List.map_toArray, List.map_cons, List.map_nil, hs, hx, hr, List.length_nil]
    exact hK _ _ (h _ _ (by rw [List.append_nil]; exact hown) ⟨rfl, rfl, rfl, Nat.le_refl _, fun _ _ _ => rfl⟩)

/- A row of 64 counts. -/
def cnts (t : List Nat) : List Value := t.map fun (n : Nat) => Value.int .i64 (n : Int)
structure GtB (w wr : World) (V : Int) (s : Value) (t : List Nat) (es : List Ed) : Prop where
  bel : Below w.heap.size w wr
  res : wr.heap[w.heap.size]? = some (.cells #[.int .i64 0, .slice none 0 0] 30 (0, 0))
  box : wr.heap[w.heap.size + 1]? = some (.cells #[.int .i64 V, s] 30 (0, 0))
  tk : wr.heap[w.heap.size + 2]? = some (.cells (cnts t).toArray 82 (0, 0))
  own : EOwn wr (w.heap.size + 3) s es
theorem GtB.count {w wr : World} {V : Int} {s : Value} {t : List Nat} {es : List Ed} (h : GtB w wr V s t es) {k : Nat} (hk : k < t.length) : wr.cell? ⟨w.heap.size + 2, k, none⟩ = some (.int .i64 ((t.getD k 0 : Nat) : Int)) := by
  rw [cell_of_row wr _ k _ 82 (0, 0) h.tk, List.getElem?_toArray]
  unfold cnts
  rw [List.getElem?_map, List.getD_eq_getElem?_getD, List.getElem?_eq_getElem hk]; rfl
theorem GtB.quiet {w wr w' : World} {V : Int} {s : Value} {t : List Nat} {es : List Ed} (h : GtB w wr V s t es) (hb : Below wr.heap.size wr w') : GtB w w' V s t es :=
  ⟨h.bel.trans (hb.mono h.bel.size), (hb.block _ (lt_of_block h.res)).trans h.res, (hb.block _ (lt_of_block h.box)).trans h.box, (hb.block _ (lt_of_block h.tk)).trans h.tk, h.own.below hb⟩
/- Edges more, the box written, a count written. -/
theorem GtB.app {w wr w' : World} {V : Int} {s s' : Value} {t : List Nat} {es es' : List Ed} (h : GtB w wr V s t es) (ho : EOwn w' (w.heap.size + 3) s' es') (hg : wr.grownBy w' s.ownBlock) : GtB w (w'.setCell ⟨w.heap.size + 1, 1, none⟩ s') V s' t es' := by
  have hb := own_lt h.own
  have keep : ∀ (b : Nat) (o : Obj), wr.heap[b]? = some o → b < w.heap.size + 3 → w'.heap[b]? = some o := fun b o hh hT =>
    (hg.block b (lt_of_block hh) (fun e => by have := (hb b e.symm).1; omega)).trans hh
  have keep2 : ∀ (b : Nat) (o : Obj), w'.heap[b]? = some o → b ≠ w.heap.size + 1 → (w'.setCell ⟨w.heap.size + 1, 1, none⟩ s').heap[b]? = some o := fun b o hh hT =>
    (Below.heap_setCell w' ⟨w.heap.size + 1, 1, none⟩ s' b hT).trans hh
  have h1 := keep _ _ h.box (by omega)
  refine ⟨(Below.grown h.bel hg h.bel.size (fun j e => by have := (hb j e).1; omega)).setCell (p := ⟨w.heap.size + 1, 1, none⟩) (by show w.heap.size ≤ w.heap.size + 1; omega) _, keep2 _ _ (keep _ _ h.res (by omega)) (by omega), ?_, keep2 _ _ (keep _ _ h.tk (by omega)) (by omega), ?_⟩
  · have := heap_setCell_same w' (w.heap.size + 1) 1 _ _ s' h1
    exact this
  · exact ownsRow_setCell_below ho (a := ⟨w.heap.size + 1, 1, none⟩) (by show w.heap.size + 1 < _; omega) _
theorem cnts_set (t : List Nat) (k n : Nat) : (cnts t).toArray.setIfInBounds k (.int .i64 (n : Int)) = (cnts (t.set k n)).toArray := by
  simp [cnts, List.map_set]
theorem GtB.count_set {w wr : World} {V : Int} {s : Value} {t : List Nat} {es : List Ed} (h : GtB w wr V s t es) (k n : Nat) : GtB w (wr.setCell ⟨w.heap.size + 2, k, none⟩ (.int .i64 (n : Int))) V s (t.set k n) es := by
  have keep2 : ∀ (b : Nat) (o : Obj), wr.heap[b]? = some o → b ≠ w.heap.size + 2 → (wr.setCell ⟨w.heap.size + 2, k, none⟩ (.int .i64 (n : Int))).heap[b]? = some o := fun b o hh hT =>
    (Below.heap_setCell wr ⟨w.heap.size + 2, k, none⟩ _ b hT).trans hh
  refine ⟨h.bel.setCell (p := ⟨w.heap.size + 2, k, none⟩) (by show w.heap.size ≤ w.heap.size + 2; omega) _, keep2 _ _ h.res (by omega), keep2 _ _ h.box (by omega), ?_, ownsRow_setCell_below h.own (a := ⟨w.heap.size + 2, k, none⟩) (by show w.heap.size + 2 < _; omega) _⟩
  have := heap_setCell_same wr (w.heap.size + 2) k _ _ (.int .i64 (n : Int)) h.tk
  rw [cnts_set] at this
  exact this
theorem GtB.frozen {w wr : World} {V : Int} {s : Value} {t : List Nat} {es : List Ed} (h : GtB w wr V s t es) (b : Nat) (hb : b = 0 ∨ b = 1 ∨ b = 2) (j : Nat) : wr.frozen? ⟨w.heap.size + b, j, none⟩ = false := by
  rcases hb with rfl | rfl | rfl
  · exact Lib.frozen_of_heap h.res j
  · exact Lib.frozen_of_heap h.box j
  · exact Lib.frozen_of_heap h.tk j

end Go.Proofs.Ytjcgejbggmpikaa.Pt
