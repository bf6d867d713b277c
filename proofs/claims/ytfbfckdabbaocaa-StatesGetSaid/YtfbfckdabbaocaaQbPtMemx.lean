/-
  What is proved here: words for edges in memory: a slice of edges that can be read, and one that the call made. No condition. What is proved here: contracts of graph.isVertex, edgeMayBe, isAhead, turned, of the document's own fits and ahead, and of the kit's Light. Conditions: numbers fit an int. What is proved here: words for numbers, rows and parts in memory. No condition.
-/
import Derived.Test.YtfbfckdabbaocaaQbPtMathx
import Derived.Laws.StructEq
import Derived.Shelf.SlSortCmp.QuietGrown
namespace Go.Proofs.Ytfbfckdabbaocaa.Gr
open Go.RowKit Wd Ws
def ec (e : Ed) : List Value := [.int .i64 e.1, .int .i64 e.2.1, .int .i64 e.2.2]
def EAt (w : World) (A : Option Addr) (L : List Ed) : Prop := ∀ (k : Nat) (e : Ed), L[k]? = some e → ∃ bk o, A = some ⟨bk, o, none⟩ ∧
  w.cell? ⟨bk, o + k * 3, none⟩ = some (.int .i64 e.1) ∧ w.cell? ⟨bk, o + k * 3 + 1, none⟩ = some (.int .i64 e.2.1) ∧ w.cell? ⟨bk, o + k * 3 + 2, none⟩ = some (.int .i64 e.2.2)
theorem EAt.kept {w w' : World} {A : Option Addr} {L : List Ed} (h : EAt w A L) (hk : ∀ p : Addr, p.block < w.heap.size → w'.cell? p = w.cell? p) : EAt w' A L := by
  intro k e hx
  obtain ⟨bk, o, hA, c0, c1, c2⟩ := h k e hx
  exact ⟨bk, o, hA, (hk _ (block_lt_of_cell c0)).trans c0, (hk _ (block_lt_of_cell c1)).trans c1, (hk _ (block_lt_of_cell c2)).trans c2⟩
theorem EAt.below {w w' : World} {A : Option Addr} {L : List Ed} (h : EAt w A L) (hb : Below w.heap.size w w') : EAt w' A L := h.kept fun _ hp => hb.cell hp
theorem EAt.nil (w : World) (A : Option Addr) : EAt w A [] := fun k e h => by simp at h
def Egs (w : World) (v : Value) (L : List Ed) : Prop := ∃ (A : Option Addr) (c : Nat), v = .slice A L.length c ∧ EAt w A L
theorem Egs.below {w w' : World} {v : Value} {L : List Ed} (h : Egs w v L) (hb : Below w.heap.size w w') : Egs w' v L := by
  obtain ⟨A, c, e, h⟩ := h
  exact ⟨A, c, e, h.below hb⟩
theorem lt_at {α : Type} {L : List α} {k : Nat} {x : α} (h : L[k]? = some x) : k < L.length := by
  rcases Nat.lt_or_ge k L.length with hh | hh
  · exact hh
  · rw [List.getElem?_eq_none hh] at h; cases h
theorem at_lt {α : Type} (L : List α) (k : Nat) (h : k < L.length) : ∃ x, L[k]? = some x := ⟨_, List.getElem?_eq_getElem h⟩
theorem drop_at {α : Type} {L : List α} {k : Nat} {x : α} (h : L[k]? = some x) : L.drop k = x :: L.drop (k + 1) := by
  obtain ⟨h1, h2⟩ := List.getElem?_eq_some_iff.1 h
  rw [List.drop_eq_getElem_cons h1, h2]
theorem take_at {α : Type} {L : List α} {k : Nat} {x : α} (h : L[k]? = some x) : L.take (k + 1) = L.take k ++ [x] := by
  obtain ⟨h1, h2⟩ := List.getElem?_eq_some_iff.1 h
  rw [List.take_succ_eq_append_getElem h1, h2]
end Go.Proofs.Ytfbfckdabbaocaa.Gr
namespace Go.Proofs.Ytfbfckdabbaocaa.Gr
open Go.RowKit Wd Ws
def Grw (w w' : World) : Prop := ∃ (q : Nat) (os : Array Obj), w' = Sort.grow (w.drewN q) os
theorem Grw.refl (w : World) : Grw w w := ⟨0, #[], by rw [Sort.grow_empty]; rfl⟩
theorem Grw.alloc {w w' : World} (h : Grw w w') (o : Obj) : Grw w (w'.alloc o) := by
  obtain ⟨q, os, rfl⟩ := h
  exact ⟨q, os ++ #[o], by rw [Sort.alloc_eq_grow, Sort.grow_grow]⟩
theorem Grw.drew {w w' : World} (h : Grw w w') : Grw w w'.drew := by
  obtain ⟨q, os, rfl⟩ := h
  exact ⟨q + 1, os, by rw [Sort.drew_grow]; rfl⟩
theorem Grw.trans {a b c : World} (h : Grw a b) (k : Grw b c) : Grw a c := by
  obtain ⟨q, os, rfl⟩ := h
  obtain ⟨r, os', rfl⟩ := k
  refine ⟨q + r, os ++ os', ?_⟩
  show Sort.grow (Sort.grow ((a.drewN q).drewN r) os) os' = _
  rw [Sort.grow_grow, World.drewN_drewN]
theorem Grw.below {w w' : World} (h : Grw w w') : Below w.heap.size w w' := by
  obtain ⟨q, os, rfl⟩ := h
  exact below_grow w q os
theorem step_below {B : Nat} {a b c : World} (h : Below B a b) (hB : B ≤ b.heap.size) (k : Below b.heap.size b c) : Below B a c := h.trans (k.mono hB)
theorem ret_b {a b : Bool} (h : a = b) : Ending.returned (.bool a) = .returned (.bool b) := by rw [h]
end Go.Proofs.Ytfbfckdabbaocaa.Gr
namespace Go.Proofs.Ytfbfckdabbaocaa.Pt
open Go.RowKit Gr Wd Ws
def ints (l : List Int) : List Value := l.map fun x => Value.int .i64 x
theorem ints_at (l : List Int) (k : Nat) : (ints l)[k]? = (l[k]?).map fun x => Value.int .i64 x := by simp [ints]
def IAt (w : World) (A : Option Addr) (l : List Int) : Prop := ∀ (k : Nat) (x : Int), l[k]? = some x → ∃ bk o, A = some ⟨bk, o, none⟩ ∧ w.cell? ⟨bk, o + k, none⟩ = some (.int .i64 x)
theorem IAt.below {w w' : World} {A : Option Addr} {l : List Int} (h : IAt w A l) (hb : Below w.heap.size w w') : IAt w' A l := by
  intro k x hx
  obtain ⟨bk, o, hA, c⟩ := h k x hx
  exact ⟨bk, o, hA, (hb.cell (block_lt_of_cell c)).trans c⟩
theorem IAt.nil (w : World) (A : Option Addr) : IAt w A [] := fun k x h => by simp at h
def IOwn (w : World) (B : Nat) (v : Value) (l : List Int) : Prop := w.ownsRow B 3 1 v l.length (ints l)
theorem IOwn.none_ (w : World) (B : Nat) : IOwn w B (.slice none 0 0) [] := World.ownsRow_nil _ _ _ _
theorem IOwn.below {w w' : World} {B : Nat} {v : Value} {l : List Int} (h : IOwn w B v l) (hb : Below w.heap.size w w') : IOwn w' B v l := own_below h hb
theorem IOwn.alloc {w : World} {B : Nat} {v : Value} {l : List Int} (h : IOwn w B v l) (o : Obj) : IOwn (w.alloc o) B v l := World.ownsRow.alloc h o
theorem IOwn.form {w : World} {B : Nat} {v : Value} {l : List Int} (h : IOwn w B v l) : ∃ (A : Option Addr) (c : Nat), v = .slice A l.length c ∧ IAt w A l := by
  obtain ⟨h0, h1 | ⟨g, cap, cur, h1, h2, h3, h4, h5, h6, h7⟩⟩ := h
  · have : l = [] := List.eq_nil_of_length_eq_zero h1.2
    subst this
    exact ⟨none, 0, h1.1, IAt.nil _ _⟩
  · refine ⟨some ⟨g, 0, none⟩, cap, h1, fun k x hx => ⟨g, 0, rfl, ?_⟩⟩
    have hk := lt_at hx
    rw [Nat.zero_add, cell_of_row w g k _ 3 (0, 0) h3]
    have e1 : cur[k]? = (cur.toList.take (l.length * 1))[k]? := by
      rw [List.getElem?_take, if_pos (by omega), Array.getElem?_toList]
    rw [e1, h7, ints_at, hx]; rfl
theorem infoI : (Try.prog.info? 3).map (fun i => (i.zero, i.size, i.bytes)) = some (some (.int .i64 0), 1, 8) := by kernel_rfl
theorem app_i {w : World} {ops : Array Oper} {rest : List Oper} {o : Oper} {a : Act} {Q : Exit → Act → World → Prop} (hgd : o.guard = none) (s x : Operand)
    (ho : o.op = .call { callee := .builtin .append, args := #[s, x], argTypes := #[22, 22] }) (B : Nat) (v : Value) (l : List Int) (y : Int) (hs : a.eval s = v) (hown : IOwn w B v l)
    (g : Nat) (hx : a.eval x = .slice (some ⟨g, 0, none⟩) 1 1) (hg : w.heap[g]? = some (.cells #[.int .i64 y] 3 (0, 0))) (hn : l.length < 1000000000) (hB : B ≤ w.heap.size)
    (h : ∀ v' w', IOwn w' B v' (l ++ [y]) → w.grownBy w' v.ownBlock → wpList Try.prog ops Q rest (a.put o.dst v') w') : wpList Try.prog ops Q (o :: rest) a w := by
  obtain ⟨i0, hi, hz0, hz1, hz2⟩ := info_parts infoI
  refine wpList_append_own w hgd s x 22 ho B 3 i0 _ 1 8 Try.underlying22 hi hz0 hz1 hz2 rfl (by decide) v l.length (ints l) hs hown ⟨g, 0, none⟩ 1 1 [.int .i64 y] hx rfl ?_ ?_ ?_ ?_ hB ?_
  · intro j u hu
    rw [add_plain, Lib.cell_of_heap hg]
    rcases j with _ | j
    · simpa using hu
    · simp at hu
  · intro u hu
    simp only [List.mem_cons, List.not_mem_nil, or_false] at hu
    rw [hu]; rfl
  · unfold maxLen; omega
  · omega
  · intro v' w' h1 h2 _
    refine h v' w' ?_ h2
    unfold IOwn
    rw [show ints (l ++ [y]) = ints l ++ [.int .i64 y] by simp [ints], List.length_append]; exact h1
def RAt (w : World) (A : Option Addr) (Ls : List (List Ed)) : Prop := ∀ (k : Nat) (L : List Ed), Ls[k]? = some L → ∃ bk o A' c', A = some ⟨bk, o, none⟩ ∧ w.cell? ⟨bk, o + k, none⟩ = some (.slice A' L.length c') ∧ EAt w A' L
theorem RAt.below {w w' : World} {A : Option Addr} {Ls : List (List Ed)} (h : RAt w A Ls) (hb : Below w.heap.size w w') : RAt w' A Ls := by
  intro k L hx
  obtain ⟨bk, o, A', c', hA, c, e⟩ := h k L hx
  exact ⟨bk, o, A', c', hA, (hb.cell (block_lt_of_cell c)).trans c, e.below hb⟩
theorem RAt.nil (w : World) (A : Option Addr) : RAt w A [] := fun k x h => by simp at h
end Go.Proofs.Ytfbfckdabbaocaa.Pt
