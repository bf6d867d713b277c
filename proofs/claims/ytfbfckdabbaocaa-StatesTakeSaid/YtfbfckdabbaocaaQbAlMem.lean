/-
  What is proved here: words for numbers in memory; edges put behind one another in one go; contracts of what holds rows against one another, of the kit's mill. Conditions: counts fit an int.
-/
import Derived.Test.YtfbfckdabbaocaaQbPtMemx
import Derived.Outline
import Derived.Test.YtfbfckdabbaocaaQbPtMathx
import Derived.Lib.SlicesCompact
import Derived.IntWalk
import Derived.Lib.QuietBelow
namespace Go.Proofs.Ytfbfckdabbaocaa.Gr
open Go.RowKit Wd Ws
end Go.Proofs.Ytfbfckdabbaocaa.Gr
namespace Go.Proofs.Ytfbfckdabbaocaa.Lb
open Go.RowKit Gr Wd Ws
def ints (l : List Int) : List Value := l.map fun x => Value.int .i64 x
theorem ints_at (l : List Int) (k : Nat) : (ints l)[k]? = (l[k]?).map fun x => Value.int .i64 x := by simp [ints]
def IAt (w : World) (A : Option Addr) (l : List Int) : Prop := ∀ (k : Nat) (x : Int), l[k]? = some x → ∃ bk o, A = some ⟨bk, o, none⟩ ∧ w.cell? ⟨bk, o + k, none⟩ = some (.int .i64 x)
theorem IAt.below {w w' : World} {A : Option Addr} {l : List Int} (h : IAt w A l) (hb : Below w.heap.size w w') : IAt w' A l := by
  intro k x hx
  obtain ⟨bk, o, hA, c⟩ := h k x hx
  exact ⟨bk, o, hA, (hb.cell (block_lt_of_cell c)).trans c⟩
theorem IAt.nil (w : World) (A : Option Addr) : IAt w A [] := fun k x h => by simp at h
def IOwn (w : World) (B : Nat) (v : Value) (l : List Int) : Prop := w.ownsRow B 3 1 v l.length (ints l)
theorem IOwn.none_ (w : World) (B : Nat) : IOwn w B (.slice none 0 0) [] := World.ownsRow_nil _ _ _ _
theorem IOwn.below {w w' : World} {B : Nat} {v : Value} {l : List Int} (h : IOwn w B v l) (hb : Below w.heap.size w w') : IOwn w' B v l := own_below h hb
theorem IOwn.alloc {w : World} {B : Nat} {v : Value} {l : List Int} (h : IOwn w B v l) (o : Obj) : IOwn (w.alloc o) B v l := World.ownsRow.alloc h o
theorem IOwn.form {w : World} {B : Nat} {v : Value} {l : List Int} (h : IOwn w B v l) : ∃ (A : Option Addr) (c : Nat), v = .slice A l.length c ∧ IAt w A l := by
  obtain ⟨h0, h1 | ⟨g, cap, cur, h1, h2, h3, h4, h5, h6, h7⟩⟩ := h
  · have : l = [] := List.eq_nil_of_length_eq_zero h1.2
    subst this
    exact ⟨none, 0, h1.1, IAt.nil _ _⟩
  · refine ⟨some ⟨g, 0, none⟩, cap, h1, fun k x hx => ⟨g, 0, rfl, ?_⟩⟩
    have hk := lt_at hx
    rw [Nat.zero_add, cell_of_row w g k _ 3 (0, 0) h3]
    have e1 : cur[k]? = (cur.toList.take (l.length * 1))[k]? := by
      rw [List.getElem?_take, if_pos (by omega), Array.getElem?_toList]
    rw [e1, h7, ints_at, hx]; rfl
theorem infoI : (Try.prog.info? 3).map (fun i => (i.zero, i.size, i.bytes)) = some (some (.int .i64 0), 1, 8) := by kernel_rfl
theorem app_i {w : World} {ops : Array Oper} {rest : List Oper} {o : Oper} {a : Act} {Q : Exit → Act → World → Prop} (hgd : o.guard = none) (s x : Operand)
    (ho : o.op = .call { callee := .builtin .append, args := #[s, x], argTypes := #[22, 22] }) (B : Nat) (v : Value) (l : List Int) (y : Int) (hs : a.eval s = v) (hown : IOwn w B v l)
    (g : Nat) (hx : a.eval x = .slice (some ⟨g, 0, none⟩) 1 1) (hg : w.heap[g]? = some (.cells #[.int .i64 y] 3 (0, 0))) (hn : l.length < 1000000000) (hB : B ≤ w.heap.size)
    (h : ∀ v' w', IOwn w' B v' (l ++ [y]) → w.grownBy w' v.ownBlock → wpList Try.prog ops Q rest (a.put o.dst v') w') : wpList Try.prog ops Q (o :: rest) a w := by
  obtain ⟨i0, hi, hz0, hz1, hz2⟩ := info_parts infoI
  refine wpList_append_own w hgd s x 22 ho B 3 i0 _ 1 8 Try.underlying22 hi hz0 hz1 hz2 rfl (by decide) v l.length (ints l) hs hown ⟨g, 0, none⟩ 1 1 [.int .i64 y] hx rfl ?_ ?_ ?_ ?_ hB ?_
  · intro j u hu
    rw [add_plain, Lib.cell_of_heap hg]
    rcases j with _ | j
    · simpa using hu
    · simp at hu
  · intro u hu
    simp only [List.mem_cons, List.not_mem_nil, or_false] at hu
    rw [hu]; rfl
  · unfold maxLen; omega
  · omega
  · intro v' w' h1 h2 _
    refine h v' w' ?_ h2
    unfold IOwn
    rw [show ints (l ++ [y]) = ints l ++ [.int .i64 y] by simp [ints], List.length_append]; exact h1
end Go.Proofs.Ytfbfckdabbaocaa.Lb
