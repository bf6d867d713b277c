/-
  What is proved here: words for rows of bytes that a call made, append of one byte and of a whole row; words for a part of a state in memory. Condition: fewer than 10^9 bytes. What is proved here: append of one number, one mark, one mail, in a region that draws its order. Condition: fewer than 10^9 of them. What is proved here: a contract of the document's own Same of two states. Conditions: counts fit an int.
-/
import Derived.Test.YtfbfckdabbaocaaQbFMem
import Derived.Test.YtfbfckdabbaocaaQbPtMemx
import Derived.Test.YtfbfckdabbaocaaQbSqEqx
import Derived.Test.YtfbfckdabbaocaaQbStRgtx
import Derived.Test.YtfbfckdabbaocaaQbStRead
namespace Go.Proofs.Ytfbfckdabbaocaa.St
open Go.RowKit Gr Wd Ws Fx Rk Lb Al In
open Sq (BAt BOwn QOwn bls)
def UOwn (w : World) (B : Nat) (v : Value) (l : List Nat) : Prop := w.ownsRow B 5 1 v l.length (Fd.vals l) ∧ ∀ x ∈ l, x < 256
theorem UOwn.none_ (w : World) (B : Nat) : UOwn w B (.slice none 0 0) [] := ⟨World.ownsRow_nil _ _ _ _, by simp⟩
theorem UOwn.below {w w' : World} {B : Nat} {v : Value} {l : List Nat} (h : UOwn w B v l) (hb : Below w.heap.size w w') : UOwn w' B v l := ⟨own_below h.1 hb, h.2⟩
theorem UOwn.alloc {w : World} {B : Nat} {v : Value} {l : List Nat} (h : UOwn w B v l) (o : Obj) : UOwn (w.alloc o) B v l := ⟨World.ownsRow.alloc h.1 o, h.2⟩
theorem UOwn.mono {w : World} {B B' : Nat} {v : Value} {l : List Nat} (h : UOwn w B v l) (hb : B' ≤ B) : UOwn w B' v l := ⟨own_mono h.1 hb, h.2⟩
theorem UOwn.form {w : World} {B : Nat} {v : Value} {l : List Nat} (h : UOwn w B v l) : ∃ (A : Option Addr) (c : Nat), v = .slice A l.length c ∧ Fd.At w A l := by
  obtain ⟨⟨h0, h1 | ⟨g, cap, cur, h1, h2, h3, h4, h5, h6, h7⟩⟩, hs⟩ := h
  · have : l = [] := List.eq_nil_of_length_eq_zero h1.2
    subst this
    exact ⟨none, 0, h1.1, Fd.At.nil_⟩
  · refine ⟨some ⟨g, 0, none⟩, cap, h1, fun k x hx => ⟨hs x (List.mem_of_getElem? hx), _, rfl, ?_⟩⟩
    have hk := lt_at hx
    rw [Fd.add_plain, Nat.zero_add, cell_of_row w g k _ 5 (0, 0) h3]
    have e1 : cur[k]? = (cur.toList.take (l.length * 1))[k]? := by
      rw [List.getElem?_take, if_pos (by omega), Array.getElem?_toList]
    rw [e1, h7, Fd.vals_at, hx]; rfl
structure PAt (w : World) (Ao Av Ac Ai : Option Addr) (no nv nc ni : Nat) (p : Pr) : Prop where
  o : IAt w Ao p.own
  v : IAt w Av p.vals
  c : BAt w Ac p.chg
  i : KAt w Ai p.inb
  no : p.own.length = no
  nv : p.vals.length = nv
  nc : p.chg.length = nc
  ni : p.inb.length = ni
theorem PAt.below {w w' : World} {Ao Av Ac Ai : Option Addr} {no nv nc ni : Nat} {p : Pr} (h : PAt w Ao Av Ac Ai no nv nc ni p) (hb : Below w.heap.size w w') : PAt w' Ao Av Ac Ai no nv nc ni p := ⟨h.o.below hb, h.v.below hb, h.c.below hb, h.i.below hb, h.no, h.nv, h.nc, h.ni⟩
def POwn (w : World) (B : Nat) (x : Value) (p : Pr) : Prop := ∃ vo vv vc vi, x = .agg #[.int .i64 p.st, vo, vv, vc, vi] ∧ IOwn w B vo p.own ∧ QOwn w B vv p.vals ∧ BOwn w B vc p.chg ∧ KOwn w B vi p.inb
theorem POwn.below {w w' : World} {B : Nat} {x : Value} {p : Pr} (h : POwn w B x p) (hb : Below w.heap.size w w') : POwn w' B x p := by
  obtain ⟨vo, vv, vc, vi, e, h1, h2, h3, h4⟩ := h
  exact ⟨vo, vv, vc, vi, e, h1.below hb, h2.below hb, h3.below hb, h4.below hb⟩
theorem POwn.at {w : World} {B : Nat} {x : Value} {p : Pr} (h : POwn w B x p) : ∃ Ao co Av cv Ac cc Ai ci, x = .agg #[.int .i64 p.st, .slice Ao p.own.length co, .slice Av p.vals.length cv, .slice Ac p.chg.length cc, .slice Ai p.inb.length ci] ∧ PAt w Ao Av Ac Ai p.own.length p.vals.length p.chg.length p.inb.length p := by
  obtain ⟨vo, vv, vc, vi, e, h1, h2, h3, h4⟩ := h
  obtain ⟨Ao, co, rfl, g1⟩ := h1.form
  obtain ⟨Av, cv, rfl, g2⟩ := h2.form
  obtain ⟨Ac, cc, rfl, g3⟩ := h3.form
  obtain ⟨Ai, ci, rfl, g4, _⟩ := h4.room
  exact ⟨Ao, co, Av, cv, Ac, cc, Ai, ci, e, g1, g2, g3, g4, rfl, rfl, rfl, rfl⟩
def noneP : Pr := ⟨0, [], [], [], []⟩
theorem POwn.zero (w : World) (B : Nat) : POwn w B (.agg #[.int .i64 0, .slice none 0 0, .slice none 0 0, .slice none 0 0, .slice none 0 0]) noneP := ⟨_, _, _, _, rfl, IOwn.none_ _ _, QOwn.none_ _ _, BOwn.none_ _ _, KOwn.none_ _ _⟩
end Go.Proofs.Ytfbfckdabbaocaa.St
namespace Go.Proofs.Ytfbfckdabbaocaa.St
open Go.RowKit Gr Wd Ws Fx Rk Lb Al In
open Sq (BAt BOwn QOwn bls infoQ infoB)
theorem xapp_q {w : World} {o : Oper} {a : Act} {K : Act → World → Prop} {Q : Exit → Act → World → Prop} (s x : Operand)
    (ho : o.op = .call { callee := .builtin .append, args := #[s, x], argTypes := #[23, 23] }) (B : Nat) (v : Value) (l : List Int) (y : Int) (hs : a.eval s = v) (hown : QOwn w B v l)
    (g : Nat) (hx : a.eval x = .slice (some ⟨g, 0, none⟩) 1 1) (hg : w.heap[g]? = some (.cells #[.int .i64 y] 2 (0, 0))) (hn : l.length < 1000000000) (hB : B ≤ w.heap.size)
    (h : ∀ v' w', QOwn w' B v' (l ++ [y]) → w.grownBy w' v.ownBlock → K (a.put o.dst v') w') : o.wp Try.prog a w K Q := by
  obtain ⟨i0, hi, hz0, hz1, hz2⟩ := info_parts infoQ
  refine wp_append_own w s x 23 ho B 2 i0 _ 1 8 Try.underlying23 hi hz0 hz1 hz2 rfl (by decide) v l.length (ints l) hs hown ⟨g, 0, none⟩ 1 1 [.int .i64 y] hx rfl ?_ ?_ ?_ ?_ hB ?_
  · intro j u hu
    rw [add_plain, Lib.cell_of_heap hg]
    rcases j with _ | j
    · simpa using hu
    · simp at hu
  · intro u hu
    simp only [List.mem_cons, List.not_mem_nil, or_false] at hu
    rw [hu]; rfl
  · unfold maxLen; omega
  · omega
  · intro v' w' h1 h2 _
    refine h v' w' ?_ h2
    unfold QOwn
    rw [show ints (l ++ [y]) = ints l ++ [.int .i64 y] by simp [ints], List.length_append]; exact h1
theorem xapp_b {w : World} {o : Oper} {a : Act} {K : Act → World → Prop} {Q : Exit → Act → World → Prop} (s x : Operand)
    (ho : o.op = .call { callee := .builtin .append, args := #[s, x], argTypes := #[24, 24] }) (B : Nat) (v : Value) (l : List Bool) (y : Bool) (hs : a.eval s = v) (hown : BOwn w B v l)
    (g : Nat) (hx : a.eval x = .slice (some ⟨g, 0, none⟩) 1 1) (hg : w.heap[g]? = some (.cells #[.bool y] 4 (0, 0))) (hn : l.length < 1000000000) (hB : B ≤ w.heap.size)
    (h : ∀ v' w', BOwn w' B v' (l ++ [y]) → w.grownBy w' v.ownBlock → K (a.put o.dst v') w') : o.wp Try.prog a w K Q := by
  obtain ⟨i0, hi, hz0, hz1, hz2⟩ := info_parts infoB
  refine wp_append_own w s x 24 ho B 4 i0 _ 1 1 Try.underlying24 hi hz0 hz1 hz2 rfl (by decide) v l.length (bls l) hs hown ⟨g, 0, none⟩ 1 1 [.bool y] hx rfl ?_ ?_ ?_ ?_ hB ?_
  · intro j u hu
    rw [add_plain, Lib.cell_of_heap hg]
    rcases j with _ | j
    · simpa using hu
    · simp at hu
  · intro u hu
    simp only [List.mem_cons, List.not_mem_nil, or_false] at hu
    rw [hu]; rfl
  · unfold maxLen; omega
  · omega
  · intro v' w' h1 h2 _
    refine h v' w' ?_ h2
    unfold BOwn
    rw [show bls (l ++ [y]) = bls l ++ [.bool y] by simp [bls], List.length_append]; exact h1
theorem xapp_k {w : World} {o : Oper} {a : Act} {K : Act → World → Prop} {Q : Exit → Act → World → Prop} (s x : Operand)
    (ho : o.op = .call { callee := .builtin .append, args := #[s, x], argTypes := #[25, 25] }) (B : Nat) (v : Value) (L : List Ml) (e0 : Bool) (e1 : Int) (hs : a.eval s = v) (hown : KOwn w B v L)
    (g : Nat) (hx : a.eval x = .slice (some ⟨g, 0, none⟩) 1 1) (hg : w.heap[g]? = some (.cells #[.bool e0, .int .i64 e1] 61 (0, 0))) (hn : L.length < 1000000000) (hB : B ≤ w.heap.size)
    (h : ∀ v' w', KOwn w' B v' (L ++ [(e0, e1)]) → w.grownBy w' v.ownBlock → K (a.put o.dst v') w') : o.wp Try.prog a w K Q := by
  obtain ⟨i0, hi, hz0, hz1, hz2⟩ := info_parts infoK
  refine wp_append_own w s x 25 ho B 61 i0 _ 2 16 Try.underlying25 hi hz0 hz1 hz2 rfl (by decide) v L.length (kcs L) hs hown ⟨g, 0, none⟩ 1 1 (kc (e0, e1)) hx rfl ?_ ?_ ?_ ?_ hB ?_
  · intro j u hu
    rw [add_plain, Lib.cell_of_heap hg]
    rcases j with _ | _ | j
    · simpa [kc] using hu
    · simpa [kc] using hu
    · simp [kc] at hu
  · intro u hu
    simp only [kc, List.mem_cons, List.not_mem_nil, or_false] at hu
    rcases hu with rfl | rfl <;> rfl
  · unfold maxLen; omega
  · omega
  · intro v' w' h1 h2 _
    refine h v' w' ?_ h2
    unfold KOwn
    rw [kcs_append, List.length_append]
    have : kcs [(e0, e1)] = kc (e0, e1) := by simp [kcs]
    rw [this]; exact h1
end Go.Proofs.Ytfbfckdabbaocaa.St
namespace Go.Proofs.Ytfbfckdabbaocaa.Sq
open Go.RowKit Gr Wd Ws Fx Rk Lb Al In
def RqRel {α : Type} [DecidableEq α] (w : World) (L M : List α) (g : Nat) (i : Value) (wr : World) : Prop :=
  ∃ k : Nat, k + g = L.length ∧ i = .int .i64 (k : Int) ∧ Hid (Below w.heap.size w wr) ∧ Hid (decide (L = M) = decide (L.drop k = M.drop k))
end Go.Proofs.Ytfbfckdabbaocaa.Sq
