/-
  What is proved here: words for edges in memory: a slice of edges that can be read, and one that the call made. No condition. What is proved here: contracts of graph.isVertex, edgeMayBe, isAhead, turned, of the document's own fits and ahead, and of the kit's Light. Conditions: numbers fit an int.
-/
import Derived.Test.YtfbfckdabbaocaaQaPtGmx
import Derived.Laws.StructEq
import Derived.Shelf.SlSortCmp.QuietGrown
namespace Go.Proofs.Ytfbfckdabbaocaa.Gr
open Go.RowKit Wd Ws
def ec (e : Ed) : List Value := [.int .i64 e.1, .int .i64 e.2.1, .int .i64 e.2.2]
def EAt (w : World) (A : Option Addr) (L : List Ed) : Prop := ∀ (k : Nat) (e : Ed), L[k]? = some e → ∃ bk o, A = some ⟨bk, o, none⟩ ∧
  w.cell? ⟨bk, o + k * 3, none⟩ = some (.int .i64 e.1) ∧ w.cell? ⟨bk, o + k * 3 + 1, none⟩ = some (.int .i64 e.2.1) ∧ w.cell? ⟨bk, o + k * 3 + 2, none⟩ = some (.int .i64 e.2.2)
theorem EAt.kept {w w' : World} {A : Option Addr} {L : List Ed} (h : EAt w A L) (hk : ∀ p : Addr, p.block < w.heap.size → w'.cell? p = w.cell? p) : EAt w' A L := by
  intro k e hx
  obtain ⟨bk, o, hA, c0, c1, c2⟩ := h k e hx
  exact ⟨bk, o, hA, (hk _ (block_lt_of_cell c0)).trans c0, (hk _ (block_lt_of_cell c1)).trans c1, (hk _ (block_lt_of_cell c2)).trans c2⟩
theorem EAt.below {w w' : World} {A : Option Addr} {L : List Ed} (h : EAt w A L) (hb : Below w.heap.size w w') : EAt w' A L := h.kept fun _ hp => hb.cell hp
theorem EAt.nil (w : World) (A : Option Addr) : EAt w A [] := fun k e h => by simp at h
def Egs (w : World) (v : Value) (L : List Ed) : Prop := ∃ (A : Option Addr) (c : Nat), v = .slice A L.length c ∧ EAt w A L
theorem Egs.below {w w' : World} {v : Value} {L : List Ed} (h : Egs w v L) (hb : Below w.heap.size w w') : Egs w' v L := by
  obtain ⟨A, c, e, h⟩ := h
  exact ⟨A, c, e, h.below hb⟩
theorem lt_at {α : Type} {L : List α} {k : Nat} {x : α} (h : L[k]? = some x) : k < L.length := by
  rcases Nat.lt_or_ge k L.length with hh | hh
  · exact hh
  · rw [List.getElem?_eq_none hh] at h; cases h
theorem at_lt {α : Type} (L : List α) (k : Nat) (h : k < L.length) : ∃ x, L[k]? = some x := ⟨_, List.getElem?_eq_getElem h⟩
theorem drop_at {α : Type} {L : List α} {k : Nat} {x : α} (h : L[k]? = some x) : L.drop k = x :: L.drop (k + 1) := by
  obtain ⟨h1, h2⟩ := List.getElem?_eq_some_iff.1 h
  rw [List.drop_eq_getElem_cons h1, h2]
theorem take_at {α : Type} {L : List α} {k : Nat} {x : α} (h : L[k]? = some x) : L.take (k + 1) = L.take k ++ [x] := by
  obtain ⟨h1, h2⟩ := List.getElem?_eq_some_iff.1 h
  rw [List.take_succ_eq_append_getElem h1, h2]
end Go.Proofs.Ytfbfckdabbaocaa.Gr
namespace Go.Proofs.Ytfbfckdabbaocaa.Gr
open Go.RowKit Wd Ws
def Grw (w w' : World) : Prop := ∃ (q : Nat) (os : Array Obj), w' = Sort.grow (w.drewN q) os
theorem Grw.refl (w : World) : Grw w w := ⟨0, #[], by rw [Sort.grow_empty]; rfl⟩
theorem Grw.alloc {w w' : World} (h : Grw w w') (o : Obj) : Grw w (w'.alloc o) := by
  obtain ⟨q, os, rfl⟩ := h
  exact ⟨q, os ++ #[o], by rw [Sort.alloc_eq_grow, Sort.grow_grow]⟩
theorem Grw.drew {w w' : World} (h : Grw w w') : Grw w w'.drew := by
  obtain ⟨q, os, rfl⟩ := h
  exact ⟨q + 1, os, by rw [Sort.drew_grow]; rfl⟩
theorem Grw.trans {a b c : World} (h : Grw a b) (k : Grw b c) : Grw a c := by
  obtain ⟨q, os, rfl⟩ := h
  obtain ⟨r, os', rfl⟩ := k
  refine ⟨q + r, os ++ os', ?_⟩
  show Sort.grow (Sort.grow ((a.drewN q).drewN r) os) os' = _
  rw [Sort.grow_grow, World.drewN_drewN]
theorem Grw.below {w w' : World} (h : Grw w w') : Below w.heap.size w w' := by
  obtain ⟨q, os, rfl⟩ := h
  exact below_grow w q os
theorem step_below {B : Nat} {a b c : World} (h : Below B a b) (hB : B ≤ b.heap.size) (k : Below b.heap.size b c) : Below B a c := h.trans (k.mono hB)
theorem ret_b {a b : Bool} (h : a = b) : Ending.returned (.bool a) = .returned (.bool b) := by rw [h]
end Go.Proofs.Ytfbfckdabbaocaa.Gr
