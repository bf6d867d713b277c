/-
  What is proved here: words for edges in memory: a slice of edges that can be read, and one that the call made. No condition.
-/
import Derived.Test.YtkbmmlombigkmaaGreatQbPtGmx
import Derived.Laws.StructEq
namespace Go.Proofs.YtkbmmlombigkmaaGreat.Gr
open Go.RowKit Wd Ws
def ec (e : Ed) : List Value := [.int .i64 e.1, .int .i64 e.2.1, .int .i64 e.2.2]
def ecs (L : List Ed) : List Value := L.flatMap ec
theorem ec_len (e : Ed) : (ec e).length = 3 := rfl
theorem ecs_append (a b : List Ed) : ecs (a ++ b) = ecs a ++ ecs b := by simp [ecs]
theorem ecs_at : ∀ (L : List Ed) (k : Nat) (e : Ed), L[k]? = some e → (ecs L)[k * 3]? = some (.int .i64 e.1) ∧ (ecs L)[k * 3 + 1]? = some (.int .i64 e.2.1) ∧ (ecs L)[k * 3 + 2]? = some (.int .i64 e.2.2)
  | [], k, e, h => by simp at h
  | x :: L, 0, e, h => by
    simp at h; subst h
    exact ⟨rfl, rfl, rfl⟩
  | x :: L, k + 1, e, h => by
    have h' : L[k]? = some e := by simpa using h
    obtain ⟨h0, h1, h2⟩ := ecs_at L k e h'
    have key : ∀ j, (ecs (x :: L))[j + 3]? = (ecs L)[j]? := fun j => by
      show (ec x ++ ecs L)[j + 3]? = _
      rw [List.getElem?_append_right (by rw [ec_len]; omega), ec_len]; congr 1
    refine ⟨?_, ?_, ?_⟩
    · rw [show (k + 1) * 3 = k * 3 + 3 by omega, key]; exact h0
    · rw [show (k + 1) * 3 + 1 = k * 3 + 1 + 3 by omega, key]; exact h1
    · rw [show (k + 1) * 3 + 2 = k * 3 + 2 + 3 by omega, key]; exact h2
def EAt (w : World) (A : Option Addr) (L : List Ed) : Prop := ∀ (k : Nat) (e : Ed), L[k]? = some e → ∃ bk o, A = some ⟨bk, o, none⟩ ∧
  w.cell? ⟨bk, o + k * 3, none⟩ = some (.int .i64 e.1) ∧ w.cell? ⟨bk, o + k * 3 + 1, none⟩ = some (.int .i64 e.2.1) ∧ w.cell? ⟨bk, o + k * 3 + 2, none⟩ = some (.int .i64 e.2.2)
theorem EAt.kept {w w' : World} {A : Option Addr} {L : List Ed} (h : EAt w A L) (hk : ∀ p : Addr, p.block < w.heap.size → w'.cell? p = w.cell? p) : EAt w' A L := by
  intro k e hx
  obtain ⟨bk, o, hA, c0, c1, c2⟩ := h k e hx
  exact ⟨bk, o, hA, (hk _ (block_lt_of_cell c0)).trans c0, (hk _ (block_lt_of_cell c1)).trans c1, (hk _ (block_lt_of_cell c2)).trans c2⟩
theorem EAt.below {w w' : World} {A : Option Addr} {L : List Ed} (h : EAt w A L) (hb : Below w.heap.size w w') : EAt w' A L := h.kept fun _ hp => hb.cell hp
theorem EAt.nil (w : World) (A : Option Addr) : EAt w A [] := fun k e h => by simp at h
def In64 (L : List Ed) : Prop := ∀ e ∈ L, (-9223372036854775808 ≤ e.1 ∧ e.1 ≤ 9223372036854775807) ∧ (-9223372036854775808 ≤ e.2.1 ∧ e.2.1 ≤ 9223372036854775807) ∧ (-9223372036854775808 ≤ e.2.2 ∧ e.2.2 ≤ 9223372036854775807)
def EOwn (w : World) (B : Nat) (v : Value) (L : List Ed) : Prop := w.ownsRow B 33 3 v L.length (ecs L)
theorem EOwn.none_ (w : World) (B : Nat) : EOwn w B (.slice none 0 0) [] := World.ownsRow_nil _ _ _ _
theorem EOwn.below {w w' : World} {B : Nat} {v : Value} {L : List Ed} (h : EOwn w B v L) (hb : Below w.heap.size w w') : EOwn w' B v L := own_below h hb
theorem EOwn.alloc {w : World} {B : Nat} {v : Value} {L : List Ed} (h : EOwn w B v L) (o : Obj) : EOwn (w.alloc o) B v L := World.ownsRow.alloc h o
theorem EOwn.form {w : World} {B : Nat} {v : Value} {L : List Ed} (h : EOwn w B v L) : ∃ (A : Option Addr) (c : Nat), v = .slice A L.length c ∧ EAt w A L ∧ (A = none ∨ ∃ g, A = some ⟨g, 0, none⟩ ∧ B ≤ g ∧ g < w.heap.size ∧ ∀ j, w.frozen? ⟨g, j, none⟩ = false) ∧ (A = none → c = 0) := by
  obtain ⟨h0, h1 | ⟨g, cap, cur, h1, h2, h3, h4, h5, h6, h7⟩⟩ := h
  · have : L = [] := List.eq_nil_of_length_eq_zero h1.2
    subst this
    exact ⟨none, 0, h1.1, EAt.nil _ _, Or.inl rfl, fun _ => rfl⟩
  · refine ⟨some ⟨g, 0, none⟩, cap, h1, fun k e hx => ?_, Or.inr ⟨g, rfl, h2, lt_of_block h3, fun j => Lib.frozen_of_heap h3 j⟩, fun hh => by cases hh⟩
    have hk : k < L.length := by
      rcases Nat.lt_or_ge k L.length with hh | hh
      · exact hh
      · rw [List.getElem?_eq_none hh] at hx; cases hx
    have key : ∀ j, j < L.length * 3 → w.cell? ⟨g, 0 + j, none⟩ = (ecs L)[j]? := fun j hj => by
      rw [Nat.zero_add, cell_of_row w g j _ 33 (0, 0) h3]
      have e1 : cur[j]? = (cur.toList.take (L.length * 3))[j]? := by
        rw [List.getElem?_take, if_pos hj, Array.getElem?_toList]
      rw [e1, h7]
    obtain ⟨a0, a1, a2⟩ := ecs_at L k e hx
    refine ⟨g, 0, rfl, ?_, ?_, ?_⟩
    · rw [key _ (by omega)]; exact a0
    · rw [Nat.add_assoc, key _ (by omega)]; exact a1
    · rw [Nat.add_assoc, key _ (by omega)]; exact a2
def Egs (w : World) (v : Value) (L : List Ed) : Prop := ∃ (A : Option Addr) (c : Nat), v = .slice A L.length c ∧ EAt w A L
theorem Egs.below {w w' : World} {v : Value} {L : List Ed} (h : Egs w v L) (hb : Below w.heap.size w w') : Egs w' v L := by
  obtain ⟨A, c, e, h⟩ := h
  exact ⟨A, c, e, h.below hb⟩
theorem infoE : (Tryz.prog.info? 33).map (fun i => (i.zero, i.size, i.bytes)) = some (some (.agg #[.int .i64 0, .int .i64 0, .int .i64 0]), 3, 24) := by kernel_rfl
theorem app_e {w : World} {ops : Array Oper} {rest : List Oper} {o : Oper} {a : Act} {Q : Exit → Act → World → Prop} (hgd : o.guard = none) (s x : Operand)
    (ho : o.op = .call { callee := .builtin .append, args := #[s, x], argTypes := #[22, 22] }) (B : Nat) (v : Value) (L : List Ed) (e0 e1 e2 : Int) (hs : a.eval s = v) (hown : EOwn w B v L)
    (g : Nat) (hx : a.eval x = .slice (some ⟨g, 0, none⟩) 1 1) (hg : w.heap[g]? = some (.cells #[.int .i64 e0, .int .i64 e1, .int .i64 e2] 33 (0, 0))) (hn : L.length < 1000000000) (hB : B ≤ w.heap.size)
    (h : ∀ v' w', EOwn w' B v' (L ++ [(e0, e1, e2)]) → w.grownBy w' v.ownBlock → wpList Tryz.prog ops Q rest (a.put o.dst v') w') : wpList Tryz.prog ops Q (o :: rest) a w := by
  obtain ⟨i0, hi, hz0, hz1, hz2⟩ := info_parts infoE
  refine wpList_append_own w hgd s x 22 ho B 33 i0 _ 3 24 Tryz.underlying22 hi hz0 hz1 hz2 rfl (by decide) v L.length (ecs L) hs hown ⟨g, 0, none⟩ 1 1 (ec (e0, e1, e2)) hx rfl ?_ ?_ ?_ ?_ hB ?_
  · intro j u hu
    rw [add_plain, Lib.cell_of_heap hg]
    rcases j with _ | _ | _ | j
    · simpa [ec] using hu
    · simpa [ec] using hu
    · simpa [ec] using hu
    · simp [ec] at hu
  · intro u hu
    simp only [ec, List.mem_cons, List.not_mem_nil, or_false] at hu
    rcases hu with rfl | rfl | rfl <;> rfl
  · unfold maxLen; omega
  · omega
  · intro v' w' h1 h2 _
    refine h v' w' ?_ h2
    unfold EOwn
    rw [ecs_append, List.length_append]
    have : ecs [(e0, e1, e2)] = ec (e0, e1, e2) := by simp [ecs]
    rw [this]; exact h1
theorem lt_at {α : Type} {L : List α} {k : Nat} {x : α} (h : L[k]? = some x) : k < L.length := by
  rcases Nat.lt_or_ge k L.length with hh | hh
  · exact hh
  · rw [List.getElem?_eq_none hh] at h; cases h
theorem at_lt {α : Type} (L : List α) (k : Nat) (h : k < L.length) : ∃ x, L[k]? = some x := ⟨_, List.getElem?_eq_getElem h⟩
theorem drop_at {α : Type} {L : List α} {k : Nat} {x : α} (h : L[k]? = some x) : L.drop k = x :: L.drop (k + 1) := by
  obtain ⟨h1, h2⟩ := List.getElem?_eq_some_iff.1 h
  rw [List.drop_eq_getElem_cons h1, h2]
theorem take_at {α : Type} {L : List α} {k : Nat} {x : α} (h : L[k]? = some x) : L.take (k + 1) = L.take k ++ [x] := by
  obtain ⟨h1, h2⟩ := List.getElem?_eq_some_iff.1 h
  rw [List.take_succ_eq_append_getElem h1, h2]
end Go.Proofs.YtkbmmlombigkmaaGreat.Gr
