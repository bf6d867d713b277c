/-
  What is proved here: words for numbers in memory; edges put behind one another in one go; contracts of what holds rows against one another, of the kit's mill. Conditions: counts fit an int.
-/
import Derived.Test.YtgkmmjlhphinhaaPtG2
import Derived.Test.YtgkmmjlhphinhaaLbMath
import Derived.IntWalk
import Derived.Outline
import Derived.Lib.QuietBelow
namespace Go.Proofs.Ytgkmmjlhphinhaa.Gr
open Go.RowKit Wd Ws

theorem eat_cells {w : World} {A : Option Addr} {L : List Ed} (h : EAt w A L) (a : Addr) (hA : A = some a) : ∀ j u, (ecs L)[j]? = some u → w.cell? (a.add j) = some u := by
  intro j u hu
  have hj : j < L.length * 3 := by have := lt_at hu; rwa [ecs_len] at this
  obtain ⟨e, he⟩ := at_lt L (j / 3) (by omega)
  obtain ⟨bk, o, hb, c0, c1, c2⟩ := h (j / 3) e he
  obtain ⟨a0, a1, a2⟩ := ecs_at L (j / 3) e he
  rw [hA] at hb
  obtain rfl := Option.some.inj hb
  rw [Ws.add_plain]
  have h3 : j % 3 = 0 ∨ j % 3 = 1 ∨ j % 3 = 2 := by omega
  rcases h3 with h3 | h3 | h3
  · rw [show j / 3 * 3 = j by omega] at a0 c0; rw [a0] at hu; rw [← hu]; exact c0
  · rw [show j / 3 * 3 + 1 = j by omega] at a1; rw [show o + j / 3 * 3 + 1 = o + j by omega] at c1; rw [a1] at hu; rw [← hu]; exact c1
  · rw [show j / 3 * 3 + 2 = j by omega] at a2; rw [show o + j / 3 * 3 + 2 = o + j by omega] at c2; rw [a2] at hu; rw [← hu]; exact c2
theorem app_all {w : World} {ops : Array Oper} {rest : List Oper} {o : Oper} {a : Act} {Q : Exit → Act → World → Prop} (hgd : o.guard = none) (s x : Operand)
    (ho : o.op = .call { callee := .builtin .append, args := #[s, x], argTypes := #[118, 118] }) (B : Nat) (v : Value) (K L : List Ed) (hs : a.eval s = v) (hown : EOwn w B v K)
    (ad : Addr) (c : Nat) (hx : a.eval x = .slice (some ad) L.length c) (hL : EAt w (some ad) L) (hn : K.length + L.length < 1000000000) (hB : B ≤ w.heap.size)
    (h : ∀ v' w', EOwn w' B v' (K ++ L) → w.grownBy w' v.ownBlock → wpList Try.prog ops Q rest (a.put o.dst v') w') : wpList Try.prog ops Q (o :: rest) a w := by
  obtain ⟨i0, hi, hz0, hz1, hz2⟩ := info_parts infoE
  refine wpList_append_own w hgd s x 118 ho B 120 i0 _ 3 24 Try.underlying118 hi hz0 hz1 hz2 rfl (by decide) v K.length (ecs K) hs hown ad L.length c (ecs L) hx (ecs_len L) (eat_cells hL ad rfl) (ecs_one L) ?_ ?_ hB ?_
  · unfold maxLen; omega
  · omega
  · intro v' w' h1 h2 _
    refine h v' w' ?_ h2
    unfold EOwn
    rw [ecs_append, List.length_append]
    exact h1

theorem eat_none {w : World} {L : List Ed} (h : EAt w none L) : L = [] := by
  cases L with
  | nil => rfl
  | cons e L => obtain ⟨_, _, h0, _⟩ := h 0 e rfl; cases h0
theorem app_copy {w : World} {ops : Array Oper} {rest : List Oper} {o : Oper} {a : Act} {Q : Exit → Act → World → Prop} (hgd : o.guard = none) (s x : Operand)
    (ho : o.op = .call { callee := .builtin .append, args := #[s, x], argTypes := #[118, 118] }) (B : Nat) (L : List Ed) (hs : a.eval s = .slice none 0 0)
    (A : Option Addr) (c : Nat) (hx : a.eval x = .slice A L.length c) (hL : EAt w A L) (hn : L.length < 1000000000) (hB : B ≤ w.heap.size)
    (h : ∀ v' w', EOwn w' B v' L → w.grownBy w' none → wpList Try.prog ops Q rest (a.put o.dst v') w') : wpList Try.prog ops Q (o :: rest) a w := by
  cases A with
  | some ad => exact app_all hgd s x ho B _ [] L hs (EOwn.none_ _ _) ad c hx hL (by simp; omega) hB h
  | none =>
    obtain rfl := eat_none hL
    obtain ⟨i0, hi, _⟩ := info_parts infoE
    have u22 := run_underlying Try.underlying118
    have hr : (Builtin.append_ #[118, 118] o.type #[.slice none 0 0, .slice none 0 c]).run Try.prog w = .ok (.slice none 0 0) w := by
      simp [Builtin.append_, Builtin.lenOf, Builtin.firstCells, u22, sizeOf, typeInfo, hi]
    refine wpList_plain hgd fun _ hK => ?_
    unfold Oper.wp execOp
    simp only [ho, resolve, invoke, builtin, Sem.run_bind, Sem.run_pure, Result.andThen_ok, List.map_toArray, List.map_cons, List.map_nil, hs, hx, hr, List.length_nil]
    exact hK _ _ (h _ _ (EOwn.none_ _ _) ⟨rfl, rfl, rfl, Nat.le_refl _, fun _ _ _ => rfl⟩)

theorem eq_e (a0 a1 a2 b0 b1 b2 : Int) (r : Bool) (hr : Hid (decide (((a0, a1, a2) : Ed) = (b0, b1, b2)) = r)) (w : World) :
    Sem.run Try.prog (binOp .neq 120 (.agg #[.int .i64 a0, .int .i64 a1, .int .i64 a2]) (.agg #[.int .i64 b0, .int .i64 b1, .int .i64 b2])) w = .ok (.bool (!r)) w := by
  have u2 := Try.underlying2
  have a2' := Try.isAgg2
  have z2 := Try.sizeOf2
  have u3 := Try.underlying3
  have a3 := Try.isAgg3
  have z3 := Try.sizeOf3
  have hS : Try.prog.underlying 120 = some (.struct (Try.prog.fieldsOf 120)) := by kernel_rfl
  have hp : Try.prog.stoodInHeld 120 = false := by kernel_rfl
  rw [run_neq_struct, show (10000 : Nat) = 9999 + 1 from rfl, run_equalIn_agg w 9999 120 _ _ hS hp]
  simp only [Program.fieldsOf, Try.underlying120]
  go_simp
  have hr' := hr.out
  by_cases h1 : a0 = b0 <;> by_cases h2 : a1 = b1 <;> by_cases h3 : a2 = b2 <;> subst hr' <;> simp [h1, h2, h3]

def SmRel (w : World) (L M : List Ed) (g : Nat) (i : Value) (wr : World) : Prop :=
  ∃ k : Nat, k + g = L.length ∧ i = .int .i64 (k : Int) ∧ Below w.heap.size w wr ∧ decide (L = M) = decide (L.drop k = M.drop k)

end Go.Proofs.Ytgkmmjlhphinhaa.Gr
namespace Go.Proofs.Ytgkmmjlhphinhaa.Lb
open Go.RowKit Gr Wd Ws

theorem mixedP : Try.prog.follows .mixedOrders = true := by kernel_rfl
theorem regr {P : Program} {f : FuncId} {args : Array Value} {w : World} {v : Value} (h : ∀ W, Below w.heap.size w W → Calls P f args W fun e w' => e = .returned v ∧ Below W.heap.size W w') (d : Nat) (os : Array Obj) :
    Calls P f args (Sort.grow (redrawn w d) os) fun e w'' => e = .returned v ∧ ∃ p : Regrown, w'' = Sort.grow (redrawn w p.d) p.os := Calls.regrown_of (h _ (below_regrown w d os))
/- A slice of numbers reads as a list. -/
def ints (l : List Int) : List Value := l.map fun x => Value.int .i64 x
theorem ints_len (l : List Int) : (ints l).length = l.length := by simp [ints]
theorem ints_at (l : List Int) (k : Nat) : (ints l)[k]? = (l[k]?).map fun x => Value.int .i64 x := by simp [ints]
def IAt (w : World) (A : Option Addr) (l : List Int) : Prop := ∀ (k : Nat) (x : Int), l[k]? = some x → ∃ bk o, A = some ⟨bk, o, none⟩ ∧ w.cell? ⟨bk, o + k, none⟩ = some (.int .i64 x)
theorem IAt.below {w w' : World} {A : Option Addr} {l : List Int} (h : IAt w A l) (hb : Below w.heap.size w w') : IAt w' A l := by
  intro k x hx
  obtain ⟨bk, o, hA, c⟩ := h k x hx
  exact ⟨bk, o, hA, (hb.cell (block_lt_of_cell c)).trans c⟩
theorem IAt.nil (w : World) (A : Option Addr) : IAt w A [] := fun k x h => by simp at h
def IOwn (w : World) (B : Nat) (v : Value) (l : List Int) : Prop := w.ownsRow B 3 1 v l.length (ints l)
theorem IOwn.none_ (w : World) (B : Nat) : IOwn w B (.slice none 0 0) [] := World.ownsRow_nil _ _ _ _
theorem IOwn.below {w w' : World} {B : Nat} {v : Value} {l : List Int} (h : IOwn w B v l) (hb : Below w.heap.size w w') : IOwn w' B v l := own_below h hb
theorem IOwn.alloc {w : World} {B : Nat} {v : Value} {l : List Int} (h : IOwn w B v l) (o : Obj) : IOwn (w.alloc o) B v l := World.ownsRow.alloc h o
theorem IOwn.form {w : World} {B : Nat} {v : Value} {l : List Int} (h : IOwn w B v l) : ∃ (A : Option Addr) (c : Nat), v = .slice A l.length c ∧ IAt w A l := by
  obtain ⟨h0, h1 | ⟨g, cap, cur, h1, h2, h3, h4, h5, h6, h7⟩⟩ := h
  · have : l = [] := List.eq_nil_of_length_eq_zero h1.2
    subst this
    exact ⟨none, 0, h1.1, IAt.nil _ _⟩
  · refine ⟨some ⟨g, 0, none⟩, cap, h1, fun k x hx => ⟨g, 0, rfl, ?_⟩⟩
    have hk := lt_at hx
    rw [Nat.zero_add, cell_of_row w g k _ 3 (0, 0) h3]
    have e1 : cur[k]? = (cur.toList.take (l.length * 1))[k]? := by
      rw [List.getElem?_take, if_pos (by omega), Array.getElem?_toList]
    rw [e1, h7, ints_at, hx]; rfl
theorem infoI : (Try.prog.info? 3).map (fun i => (i.zero, i.size, i.bytes)) = some (some (.int .i64 0), 1, 8) := by kernel_rfl
/- One number more. -/
theorem app_i {w : World} {ops : Array Oper} {rest : List Oper} {o : Oper} {a : Act} {Q : Exit → Act → World → Prop} (hgd : o.guard = none) (s x : Operand)
    (ho : o.op = .call { callee := .builtin .append, args := #[s, x], argTypes := #[34, 34] }) (B : Nat) (v : Value) (l : List Int) (y : Int) (hs : a.eval s = v) (hown : IOwn w B v l)
    (g : Nat) (hx : a.eval x = .slice (some ⟨g, 0, none⟩) 1 1) (hg : w.heap[g]? = some (.cells #[.int .i64 y] 3 (0, 0))) (hn : l.length < 1000000000) (hB : B ≤ w.heap.size)
    (h : ∀ v' w', IOwn w' B v' (l ++ [y]) → w.grownBy w' v.ownBlock → wpList Try.prog ops Q rest (a.put o.dst v') w') : wpList Try.prog ops Q (o :: rest) a w := by
  obtain ⟨i0, hi, hz0, hz1, hz2⟩ := info_parts infoI
  refine wpList_append_own w hgd s x 34 ho B 3 i0 _ 1 8 Try.underlying34 hi hz0 hz1 hz2 rfl (by decide) v l.length (ints l) hs hown ⟨g, 0, none⟩ 1 1 [.int .i64 y] hx rfl ?_ ?_ ?_ ?_ hB ?_
  · intro j u hu
    rw [add_plain, Lib.cell_of_heap hg]
    rcases j with _ | j
    · simpa using hu
    · simp at hu
  · intro u hu
    simp only [List.mem_cons, List.not_mem_nil, or_false] at hu
    rw [hu]; rfl
  · unfold maxLen; omega
  · omega
  · intro v' w' h1 h2 _
    refine h v' w' ?_ h2
    unfold IOwn
    rw [show ints (l ++ [y]) = ints l ++ [.int .i64 y] by simp [ints], List.length_append]; exact h1

def millL : List Ed := [(0, 1, 4), (0, 2, 1), (1, 3, 5), (2, 1, 2), (4, 4, 7)]

end Go.Proofs.Ytgkmmjlhphinhaa.Lb
