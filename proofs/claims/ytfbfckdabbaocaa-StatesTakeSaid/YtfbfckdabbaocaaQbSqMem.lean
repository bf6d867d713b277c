/-
  What is proved here: words for a state in memory: rows of values, of marks, of mail, of rows of messages, of vertices' edges; append of one to each. No condition.
-/
import Derived.Test.YtfbfckdabbaocaaQbPtMemx
import Derived.Outline
import Derived.Test.YtfbfckdabbaocaaQbInR1
import Derived.Test.YtfbfckdabbaocaaQbSqMathx
namespace Go.Proofs.Ytfbfckdabbaocaa.Sq
open Go.RowKit Gr Wd Ws Fx Rk Lb Al In
theorem own_other {w w' : World} {B B' : Nat} {T T' : TypeId} {s s' n n' : Nat} {z v : Value} {xs ys : List Value} (hz : w.ownsRow B T s z n xs) (hv : w.ownsRow B' T' s' v n' ys) (hT : T ≠ T') (hg : w.grownBy w' v.ownBlock) : w'.ownsRow B T s z n xs :=
  own_kept hz fun b c fz hb hc => hg.block b (lt_of_block hc) (fun e => by
    obtain ⟨_, c1, hc1⟩ := own_lt hv b e.symm
    rw [hc1] at hc; injection hc with hc; injection hc with _ hc _
    exact hT hc.symm)
theorem box_other {w w' : World} {B' b : Nat} {T T' : TypeId} {s' n' : Nat} {v : Value} {ys : List Value} {c : Array Value} {fz : Nat × Nat} (hb : w.heap[b]? = some (.cells c T fz)) (hv : w.ownsRow B' T' s' v n' ys) (hT : T ≠ T') (hg : w.grownBy w' v.ownBlock) : w'.heap[b]? = some (.cells c T fz) :=
  (hg.block b (lt_of_block hb) (fun e => by
    obtain ⟨_, c1, hc1⟩ := own_lt hv b e.symm
    rw [hc1] at hb; injection hb with hb; injection hb with _ hb _
    exact hT hb.symm)).trans hb
theorem own_grown {w w' : World} {B B' : Nat} {T' : TypeId} {s' n' : Nat} {v : Value} {ys : List Value} (hv : w.ownsRow B' T' s' v n' ys) (hg : w.grownBy w' v.ownBlock) (h : B ≤ B') (hs : B ≤ w.heap.size) : Below B w w' :=
  Below.grown (Below.refl _ _) hg hs (fun j e => Nat.le_trans h (own_lt hv j e).1)
def QOwn (w : World) (B : Nat) (v : Value) (l : List Int) : Prop := w.ownsRow B 2 1 v l.length (ints l)
theorem QOwn.none_ (w : World) (B : Nat) : QOwn w B (.slice none 0 0) [] := World.ownsRow_nil _ _ _ _
theorem QOwn.below {w w' : World} {B : Nat} {v : Value} {l : List Int} (h : QOwn w B v l) (hb : Below w.heap.size w w') : QOwn w' B v l := own_below h hb
theorem QOwn.mono {w : World} {B B' : Nat} {v : Value} {l : List Int} (h : QOwn w B v l) (hb : B' ≤ B) : QOwn w B' v l := own_mono h hb
theorem QOwn.form {w : World} {B : Nat} {v : Value} {l : List Int} (h : QOwn w B v l) : ∃ (A : Option Addr) (c : Nat), v = .slice A l.length c ∧ IAt w A l := by
  obtain ⟨h0, h1 | ⟨g, cap, cur, h1, h2, h3, h4, h5, h6, h7⟩⟩ := h
  · have : l = [] := List.eq_nil_of_length_eq_zero h1.2
    subst this
    exact ⟨none, 0, h1.1, IAt.nil _ _⟩
  · refine ⟨some ⟨g, 0, none⟩, cap, h1, fun k x hx => ⟨g, 0, rfl, ?_⟩⟩
    have hk := lt_at hx
    rw [Nat.zero_add, cell_of_row w g k _ 2 (0, 0) h3]
    have e1 : cur[k]? = (cur.toList.take (l.length * 1))[k]? := by
      rw [List.getElem?_take, if_pos (by omega), Array.getElem?_toList]
    rw [e1, h7, ints_at, hx]; rfl
theorem infoQ : (Try.prog.info? 2).map (fun i => (i.zero, i.size, i.bytes)) = some (some (.int .i64 0), 1, 8) := by kernel_rfl
theorem app_q {w : World} {ops : Array Oper} {rest : List Oper} {o : Oper} {a : Act} {Q : Exit → Act → World → Prop} (hgd : o.guard = none) (s x : Operand)
    (ho : o.op = .call { callee := .builtin .append, args := #[s, x], argTypes := #[23, 23] }) (B : Nat) (v : Value) (l : List Int) (y : Int) (hs : a.eval s = v) (hown : QOwn w B v l)
    (g : Nat) (hx : a.eval x = .slice (some ⟨g, 0, none⟩) 1 1) (hg : w.heap[g]? = some (.cells #[.int .i64 y] 2 (0, 0))) (hn : l.length < 1000000000) (hB : B ≤ w.heap.size)
    (h : ∀ v' w', QOwn w' B v' (l ++ [y]) → w.grownBy w' v.ownBlock → wpList Try.prog ops Q rest (a.put o.dst v') w') : wpList Try.prog ops Q (o :: rest) a w := by
  obtain ⟨i0, hi, hz0, hz1, hz2⟩ := info_parts infoQ
  refine wpList_append_own w hgd s x 23 ho B 2 i0 _ 1 8 Try.underlying23 hi hz0 hz1 hz2 rfl (by decide) v l.length (ints l) hs hown ⟨g, 0, none⟩ 1 1 [.int .i64 y] hx rfl ?_ ?_ ?_ ?_ hB ?_
  · intro j u hu
    rw [add_plain, Lib.cell_of_heap hg]
    rcases j with _ | j
    · simpa using hu
    · simp at hu
  · intro u hu
    simp only [List.mem_cons, List.not_mem_nil, or_false] at hu
    rw [hu]; rfl
  · unfold maxLen; omega
  · omega
  · intro v' w' h1 h2 _
    refine h v' w' ?_ h2
    unfold QOwn
    rw [show ints (l ++ [y]) = ints l ++ [.int .i64 y] by simp [ints], List.length_append]; exact h1
def bls (l : List Bool) : List Value := l.map Value.bool
theorem bls_at (l : List Bool) (k : Nat) : (bls l)[k]? = (l[k]?).map Value.bool := by simp [bls]
def BAt (w : World) (A : Option Addr) (l : List Bool) : Prop := ∀ (k : Nat) (x : Bool), l[k]? = some x → ∃ bk o, A = some ⟨bk, o, none⟩ ∧ w.cell? ⟨bk, o + k, none⟩ = some (.bool x)
theorem BAt.below {w w' : World} {A : Option Addr} {l : List Bool} (h : BAt w A l) (hb : Below w.heap.size w w') : BAt w' A l := by
  intro k x hx
  obtain ⟨bk, o, hA, c⟩ := h k x hx
  exact ⟨bk, o, hA, (hb.cell (block_lt_of_cell c)).trans c⟩
theorem BAt.nil (w : World) (A : Option Addr) : BAt w A [] := fun k x h => by simp at h
def BOwn (w : World) (B : Nat) (v : Value) (l : List Bool) : Prop := w.ownsRow B 4 1 v l.length (bls l)
theorem BOwn.none_ (w : World) (B : Nat) : BOwn w B (.slice none 0 0) [] := World.ownsRow_nil _ _ _ _
theorem BOwn.below {w w' : World} {B : Nat} {v : Value} {l : List Bool} (h : BOwn w B v l) (hb : Below w.heap.size w w') : BOwn w' B v l := own_below h hb
theorem BOwn.mono {w : World} {B B' : Nat} {v : Value} {l : List Bool} (h : BOwn w B v l) (hb : B' ≤ B) : BOwn w B' v l := own_mono h hb
theorem BOwn.form {w : World} {B : Nat} {v : Value} {l : List Bool} (h : BOwn w B v l) : ∃ (A : Option Addr) (c : Nat), v = .slice A l.length c ∧ BAt w A l := by
  obtain ⟨h0, h1 | ⟨g, cap, cur, h1, h2, h3, h4, h5, h6, h7⟩⟩ := h
  · have : l = [] := List.eq_nil_of_length_eq_zero h1.2
    subst this
    exact ⟨none, 0, h1.1, BAt.nil _ _⟩
  · refine ⟨some ⟨g, 0, none⟩, cap, h1, fun k x hx => ⟨g, 0, rfl, ?_⟩⟩
    have hk := lt_at hx
    rw [Nat.zero_add, cell_of_row w g k _ 4 (0, 0) h3]
    have e1 : cur[k]? = (cur.toList.take (l.length * 1))[k]? := by
      rw [List.getElem?_take, if_pos (by omega), Array.getElem?_toList]
    rw [e1, h7, bls_at, hx]; rfl
theorem infoB : (Try.prog.info? 4).map (fun i => (i.zero, i.size, i.bytes)) = some (some (.bool false), 1, 1) := by kernel_rfl
theorem app_b {w : World} {ops : Array Oper} {rest : List Oper} {o : Oper} {a : Act} {Q : Exit → Act → World → Prop} (hgd : o.guard = none) (s x : Operand)
    (ho : o.op = .call { callee := .builtin .append, args := #[s, x], argTypes := #[24, 24] }) (B : Nat) (v : Value) (l : List Bool) (y : Bool) (hs : a.eval s = v) (hown : BOwn w B v l)
    (g : Nat) (hx : a.eval x = .slice (some ⟨g, 0, none⟩) 1 1) (hg : w.heap[g]? = some (.cells #[.bool y] 4 (0, 0))) (hn : l.length < 1000000000) (hB : B ≤ w.heap.size)
    (h : ∀ v' w', BOwn w' B v' (l ++ [y]) → w.grownBy w' v.ownBlock → wpList Try.prog ops Q rest (a.put o.dst v') w') : wpList Try.prog ops Q (o :: rest) a w := by
  obtain ⟨i0, hi, hz0, hz1, hz2⟩ := info_parts infoB
  refine wpList_append_own w hgd s x 24 ho B 4 i0 _ 1 1 Try.underlying24 hi hz0 hz1 hz2 rfl (by decide) v l.length (bls l) hs hown ⟨g, 0, none⟩ 1 1 [.bool y] hx rfl ?_ ?_ ?_ ?_ hB ?_
  · intro j u hu
    rw [add_plain, Lib.cell_of_heap hg]
    rcases j with _ | j
    · simpa using hu
    · simp at hu
  · intro u hu
    simp only [List.mem_cons, List.not_mem_nil, or_false] at hu
    rw [hu]; rfl
  · unfold maxLen; omega
  · omega
  · intro v' w' h1 h2 _
    refine h v' w' ?_ h2
    unfold BOwn
    rw [show bls (l ++ [y]) = bls l ++ [.bool y] by simp [bls], List.length_append]; exact h1
abbrev Eg := List Ed × List Ed
def WAt (w : World) (A : Option Addr) (Ls : List Eg) : Prop := ∀ (k : Nat) (L : Eg), Ls[k]? = some L → ∃ bk o A1 c1 A2 c2, A = some ⟨bk, o, none⟩ ∧ w.cell? ⟨bk, o + k * 2, none⟩ = some (.slice A1 L.1.length c1) ∧ w.cell? ⟨bk, o + k * 2 + 1, none⟩ = some (.slice A2 L.2.length c2) ∧ EAt w A1 L.1 ∧ EAt w A2 L.2
theorem WAt.below {w w' : World} {A : Option Addr} {Ls : List Eg} (h : WAt w A Ls) (hb : Below w.heap.size w w') : WAt w' A Ls := by
  intro k L hx
  obtain ⟨bk, o, A1, c1, A2, c2, hA, e1, e2, g1, g2⟩ := h k L hx
  exact ⟨bk, o, A1, c1, A2, c2, hA, (hb.cell (block_lt_of_cell e1)).trans e1, (hb.cell (block_lt_of_cell e2)).trans e2, g1.below hb, g2.below hb⟩
theorem WAt.nil (w : World) (A : Option Addr) : WAt w A [] := fun k x h => by simp at h
end Go.Proofs.Ytfbfckdabbaocaa.Sq
