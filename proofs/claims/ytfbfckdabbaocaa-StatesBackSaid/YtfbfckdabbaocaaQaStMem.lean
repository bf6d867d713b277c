/-
  What is proved here: words for rows of bytes that a call made, append of one byte and of a whole row; words for a part of a state in memory. Condition: fewer than 10^9 bytes.
-/
import Derived.Test.YtfbfckdabbaocaaQaFMem
import Derived.Test.YtfbfckdabbaocaaQaPtMem
import Derived.Test.YtfbfckdabbaocaaQaSqEq
import Derived.Test.YtfbfckdabbaocaaQaStRgt
import Derived.Test.YtfbfckdabbaocaaQaStJoin
import Derived.Test.YtfbfckdabbaocaaQaStRead
namespace Go.Proofs.Ytfbfckdabbaocaa.St
open Go.RowKit Gr Wd Ws Fx Rk Lb Al In
open Sq (BAt BOwn QOwn bls)
def UOwn (w : World) (B : Nat) (v : Value) (l : List Nat) : Prop := w.ownsRow B 5 1 v l.length (Fd.vals l) ∧ ∀ x ∈ l, x < 256
theorem UOwn.none_ (w : World) (B : Nat) : UOwn w B (.slice none 0 0) [] := ⟨World.ownsRow_nil _ _ _ _, by simp⟩
theorem UOwn.below {w w' : World} {B : Nat} {v : Value} {l : List Nat} (h : UOwn w B v l) (hb : Below w.heap.size w w') : UOwn w' B v l := ⟨own_below h.1 hb, h.2⟩
theorem UOwn.alloc {w : World} {B : Nat} {v : Value} {l : List Nat} (h : UOwn w B v l) (o : Obj) : UOwn (w.alloc o) B v l := ⟨World.ownsRow.alloc h.1 o, h.2⟩
theorem UOwn.mono {w : World} {B B' : Nat} {v : Value} {l : List Nat} (h : UOwn w B v l) (hb : B' ≤ B) : UOwn w B' v l := ⟨own_mono h.1 hb, h.2⟩
theorem UOwn.form {w : World} {B : Nat} {v : Value} {l : List Nat} (h : UOwn w B v l) : ∃ (A : Option Addr) (c : Nat), v = .slice A l.length c ∧ Fd.At w A l := by
  obtain ⟨⟨h0, h1 | ⟨g, cap, cur, h1, h2, h3, h4, h5, h6, h7⟩⟩, hs⟩ := h
  · have : l = [] := List.eq_nil_of_length_eq_zero h1.2
    subst this
    exact ⟨none, 0, h1.1, Fd.At.nil_⟩
  · refine ⟨some ⟨g, 0, none⟩, cap, h1, fun k x hx => ⟨hs x (List.mem_of_getElem? hx), _, rfl, ?_⟩⟩
    have hk := lt_at hx
    rw [Fd.add_plain, Nat.zero_add, cell_of_row w g k _ 5 (0, 0) h3]
    have e1 : cur[k]? = (cur.toList.take (l.length * 1))[k]? := by
      rw [List.getElem?_take, if_pos (by omega), Array.getElem?_toList]
    rw [e1, h7, Fd.vals_at, hx]; rfl
theorem infoU : (Try.prog.info? 5).map (fun i => (i.zero, i.size, i.bytes)) = some (some (.int .u8 0), 1, 1) := by kernel_rfl
theorem app_u {w : World} {ops : Array Oper} {rest : List Oper} {o : Oper} {a : Act} {Q : Exit → Act → World → Prop} (hgd : o.guard = none) (s x : Operand)
    (ho : o.op = .call { callee := .builtin .append, args := #[s, x], argTypes := #[30, 30] }) (B : Nat) (v : Value) (l : List Nat) (y : Nat) (hs : a.eval s = v) (hown : UOwn w B v l) (hy : y < 256)
    (g : Nat) (hx : a.eval x = .slice (some ⟨g, 0, none⟩) 1 1) (hg : w.heap[g]? = some (.cells #[.int .u8 (y : Int)] 5 (0, 0))) (hn : l.length < 1000000000) (hB : B ≤ w.heap.size)
    (h : ∀ v' w', UOwn w' B v' (l ++ [y]) → w.grownBy w' v.ownBlock → wpList Try.prog ops Q rest (a.put o.dst v') w') : wpList Try.prog ops Q (o :: rest) a w := by
  obtain ⟨i0, hi, hz0, hz1, hz2⟩ := info_parts infoU
  refine wpList_append_own w hgd s x 30 ho B 5 i0 _ 1 1 Try.underlying30 hi hz0 hz1 hz2 rfl (by decide) v l.length (Fd.vals l) hs hown.1 ⟨g, 0, none⟩ 1 1 [.int .u8 (y : Int)] hx rfl ?_ ?_ ?_ ?_ hB ?_
  · intro j u hu
    rw [Fd.add_plain, Lib.cell_of_heap hg]
    rcases j with _ | j
    · simpa using hu
    · simp at hu
  · intro u hu
    simp only [List.mem_cons, List.not_mem_nil, or_false] at hu
    rw [hu]; rfl
  · unfold maxLen; omega
  · omega
  · intro v' w' h1 h2 _
    refine h v' w' ⟨?_, ?_⟩ h2
    · rw [show Fd.vals (l ++ [y]) = Fd.vals l ++ [.int .u8 (y : Int)] by simp [Fd.vals], List.length_append]; exact h1
    · intro z hz
      rcases List.mem_append.1 hz with hz | hz
      · exact hown.2 z hz
      · simp at hz; omega
theorem app_ucopy {w : World} {ops : Array Oper} {rest : List Oper} {o : Oper} {a : Act} {Q : Exit → Act → World → Prop} (hgd : o.guard = none) (s x : Operand)
    (ho : o.op = .call { callee := .builtin .append, args := #[s, x], argTypes := #[30, 30] }) (B : Nat) (v : Value) (l m : List Nat) (hs : a.eval s = v) (hown : UOwn w B v l)
    (A : Option Addr) (z c : Nat) (hz : m.length = z) (hx : a.eval x = .slice A z c) (hL : Fd.At w A m) (hn : l.length + z < 1000000000) (hB : B ≤ w.heap.size)
    (h : ∀ v' w', UOwn w' B v' (l ++ m) → w.grownBy w' v.ownBlock → wpList Try.prog ops Q rest (a.put o.dst v') w') : wpList Try.prog ops Q (o :: rest) a w := by
  subst hz
  obtain ⟨i0, hi, hz0, hz1, hz2⟩ := info_parts infoU
  have ht : Try.prog.underlying 30 = some (.slice 5) := Try.underlying30
  cases A with
  | some ad =>
    refine wpList_append_own w hgd s x 30 ho B 5 i0 _ 1 1 ht hi hz0 hz1 hz2 rfl (by decide) v l.length (Fd.vals l) hs hown.1 ad m.length c (Fd.vals m) hx (by simp [Fd.vals]) hL.vals (Fd.vals_one m) ?_ ?_ hB ?_
    · unfold maxLen; omega
    · omega
    · intro v' w' h1 h2 _
      refine h v' w' ⟨?_, ?_⟩ h2
      · rw [Fd.vals_append, List.length_append]; exact h1
      · intro z hz
        rcases List.mem_append.1 hz with hz | hz
        · exact hown.2 z hz
        · exact hL.small z hz
  | none =>
    obtain rfl := hL.none_
    have hr : (Builtin.append_ #[30, 30] o.type #[v, .slice none 0 c]).run Try.prog w = .ok v w := by
      rcases hown.1.2 with ⟨rfl, _⟩ | ⟨g, cap, cur, rfl, _, _, hnc, _⟩
      · simp [Builtin.append_, run_underlying ht, sizeOf, typeInfo, hi, Builtin.lenOf, Builtin.firstCells]
      · simp [Builtin.append_, run_underlying ht, sizeOf, typeInfo, hi, Builtin.lenOf, Builtin.firstCells, hnc, storeCells]
    refine wpList_plain hgd fun _ hK => ?_
    unfold Oper.wp execOp
    simp only [ho, resolve, invoke, builtin, Sem.run_bind, Sem.run_pure, Result.andThen_ok, List.map_toArray, List.map_cons, List.map_nil, hs, hx, hr, List.length_nil]
    exact hK _ _ (h _ _ (by rw [List.append_nil]; exact hown) ⟨rfl, rfl, rfl, Nat.le_refl _, fun _ _ _ => rfl⟩)
structure PAt (w : World) (Ao Av Ac Ai : Option Addr) (no nv nc ni : Nat) (p : Pr) : Prop where
  o : IAt w Ao p.own
  v : IAt w Av p.vals
  c : BAt w Ac p.chg
  i : KAt w Ai p.inb
  no : p.own.length = no
  nv : p.vals.length = nv
  nc : p.chg.length = nc
  ni : p.inb.length = ni
theorem PAt.below {w w' : World} {Ao Av Ac Ai : Option Addr} {no nv nc ni : Nat} {p : Pr} (h : PAt w Ao Av Ac Ai no nv nc ni p) (hb : Below w.heap.size w w') : PAt w' Ao Av Ac Ai no nv nc ni p := ⟨h.o.below hb, h.v.below hb, h.c.below hb, h.i.below hb, h.no, h.nv, h.nc, h.ni⟩
def POwn (w : World) (B : Nat) (x : Value) (p : Pr) : Prop := ∃ vo vv vc vi, x = .agg #[.int .i64 p.st, vo, vv, vc, vi] ∧ IOwn w B vo p.own ∧ QOwn w B vv p.vals ∧ BOwn w B vc p.chg ∧ KOwn w B vi p.inb
theorem POwn.below {w w' : World} {B : Nat} {x : Value} {p : Pr} (h : POwn w B x p) (hb : Below w.heap.size w w') : POwn w' B x p := by
  obtain ⟨vo, vv, vc, vi, e, h1, h2, h3, h4⟩ := h
  exact ⟨vo, vv, vc, vi, e, h1.below hb, h2.below hb, h3.below hb, h4.below hb⟩
theorem POwn.at {w : World} {B : Nat} {x : Value} {p : Pr} (h : POwn w B x p) : ∃ Ao co Av cv Ac cc Ai ci, x = .agg #[.int .i64 p.st, .slice Ao p.own.length co, .slice Av p.vals.length cv, .slice Ac p.chg.length cc, .slice Ai p.inb.length ci] ∧ PAt w Ao Av Ac Ai p.own.length p.vals.length p.chg.length p.inb.length p := by
  obtain ⟨vo, vv, vc, vi, e, h1, h2, h3, h4⟩ := h
  obtain ⟨Ao, co, rfl, g1⟩ := h1.form
  obtain ⟨Av, cv, rfl, g2⟩ := h2.form
  obtain ⟨Ac, cc, rfl, g3⟩ := h3.form
  obtain ⟨Ai, ci, rfl, g4, _⟩ := h4.room
  exact ⟨Ao, co, Av, cv, Ac, cc, Ai, ci, e, g1, g2, g3, g4, rfl, rfl, rfl, rfl⟩
def noneP : Pr := ⟨0, [], [], [], []⟩
theorem POwn.zero (w : World) (B : Nat) : POwn w B (.agg #[.int .i64 0, .slice none 0 0, .slice none 0 0, .slice none 0 0, .slice none 0 0]) noneP := ⟨_, _, _, _, rfl, IOwn.none_ _ _, QOwn.none_ _ _, BOwn.none_ _ _, KOwn.none_ _ _⟩
end Go.Proofs.Ytfbfckdabbaocaa.St
