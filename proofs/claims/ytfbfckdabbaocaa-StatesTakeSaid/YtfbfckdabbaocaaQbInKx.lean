/-
  What is proved here: contracts of algos.Combine, of the document's own Combine and Add. Conditions: the row that Add is handed is one that the call has made, of fewer than 1000000 messages. What is proved here: the map of what came to whom, in memory: what a lookup tells, what a store leaves. Conditions: vertices fit an int, fewer than 10^9 messages came. What is proved here: words for mail in memory: a slice of mail that can be read, and one that the call made; append of one. No condition.
-/
import Derived.Test.YtfbfckdabbaocaaQbAlM
import Derived.Test.YtfbfckdabbaocaaQbAlMem
import Derived.Test.YtfbfckdabbaocaaQbFxMath
import Derived.WalkKit
import Derived.WalkSpells
import Derived.Deep.LoopGhost
import Derived.Lib.Hide
import Derived.Deep.CutRange
import Derived.Deep.Fields
import Derived.Deep.RegionLaw
import Derived.Deep.AppendLies
import Derived.Laws.OwnMore
import Derived.Laws.StructEq
import Derived.Test.YtfbfckdabbaocaaQbSqMathx
import Derived.Maps.OwnSet
import Derived.Maps.Views
namespace Go.Proofs.Ytfbfckdabbaocaa.Al
open Go.RowKit Go.Sort Gr Wd Ws Fx Rk Lb
def Low (l : List Ms) (t : Int) (q : Nat) : Prop := ∀ (j : Nat) (x : Ms), j < q → l[j]? = some x → x.1 < t
theorem Low.step {l : List Ms} {t : Int} {q : Nat} {x : Ms} (h : Low l t q) (hx : l[q]? = some x) (e : x.1 < t) : Low l t (q + 1) := by
  intro j z hj hz
  by_cases he : j = q
  · subst he; rw [hx] at hz; cases hz; exact e
  · exact h j z (by omega) hz
theorem at_alloc {w : World} {i : Nat} {x : Obj} (h : w.heap[i]? = some x) (o : Obj) : (w.alloc o).heap[i]? = some x := (((Below.refl _ w).alloc (Nat.le_refl _) o).block i (lt_of_block h)).trans h
theorem al2 (w : World) (a b : Obj) : ((w.alloc a).alloc b).heap[w.heap.size]? = some a ∧ ((w.alloc a).alloc b).heap[w.heap.size + 1]? = some b ∧ Below w.heap.size w ((w.alloc a).alloc b) := by
  refine ⟨at_alloc (heap_alloc_new w a) b, ?_, ((Below.refl _ w).alloc (Nat.le_refl _) a).alloc (by simp) b⟩
  have := heap_alloc_new (w.alloc a) b
  rw [show (w.alloc a).heap.size = w.heap.size + 1 by simp] at this; exact this
theorem keep {w w' : World} {i : Nat} {o : Obj} (h : w.heap[i]? = some o) (hb : Below w.heap.size w w') : w'.heap[i]? = some o := (hb.block i (lt_of_block h)).trans h
end Go.Proofs.Ytfbfckdabbaocaa.Al
namespace Go.Proofs.Ytfbfckdabbaocaa.In
open Go.RowKit Go.Maps Gr Wd Ws Fx Rk Lb Al
def mlD (m : Ml) : DataW Unit := .agg [.lit (.bool m.1), .lit (.int .i64 m.2)]
def mlElem : Value → Option (DataW Unit × List MemPlace)
  | .agg a => match a.toList with
    | [.bool h, .int .i64 x] => some (mlD (h, x), [])
    | _ => none
  | _ => none
structure CMd (D : DataW Unit) (k : Int) (L : List Ms) : Prop where
  has_ : ∀ v : Int, has D (.int .i64 v) = (mailM k v L).isSome
  at_ : ∀ (v y : Int), mailM k v L = some y → ∀ z, D.atKey (.int .i64 v) z = mlD (true, y)
def CM (w : World) (M : Nat) (k : Int) (L : List Ms) : Prop := ∃ D : DataW Unit, w.ownsMap Try.prog 3 mlElem M L.length D ∧ CMd D k L
theorem CM.made (w : World) (k : Int) : CM (w.alloc (.map #[] 0)) w.heap.size k [] := ⟨.map [], World.ownsMap_made _ _ _ _, ⟨fun _ => rfl, fun v y h => by cases h⟩⟩
theorem CM.lt {w : World} {M : Nat} {k : Int} {L : List Ms} (h : CM w M k L) : M < w.heap.size := by
  obtain ⟨D, h1, _⟩ := h; exact h1.lt
theorem CM.kept {w w' : World} {M : Nat} {k : Int} {L : List Ms} (h : CM w M k L) (hk : w'.heap[M]? = w.heap[M]?) : CM w' M k L := by
  obtain ⟨D, ⟨es, clock, h1, h2⟩, h3⟩ := h
  exact ⟨D, ⟨es, clock, hk.trans h1, h2⟩, h3⟩
theorem CM.below {w w' : World} {M : Nat} {k : Int} {L : List Ms} (h : CM w M k L) (hb : Below w.heap.size w w') : CM w' M k L := h.kept (hb.block M h.lt)
end Go.Proofs.Ytfbfckdabbaocaa.In
namespace Go.Proofs.Ytfbfckdabbaocaa.In
open Go.RowKit Go.Sort Gr Wd Ws Lb Al
def kc (m : Ml) : List Value := [.bool m.1, .int .i64 m.2]
theorem kc_len (m : Ml) : (kc m).length = 2 := rfl
def kcs (L : List Ml) : List Value := L.flatMap kc
theorem kcs_append (a b : List Ml) : kcs (a ++ b) = kcs a ++ kcs b := by simp [kcs]
theorem kcs_at : ∀ (L : List Ml) (k : Nat) (e : Ml), L[k]? = some e → (kcs L)[k * 2]? = some (.bool e.1) ∧ (kcs L)[k * 2 + 1]? = some (.int .i64 e.2)
  | [], k, e, h => by simp at h
  | x :: L, 0, e, h => by
    simp at h; subst h
    exact ⟨rfl, rfl⟩
  | x :: L, k + 1, e, h => by
    have h' : L[k]? = some e := by simpa using h
    obtain ⟨h0, h1⟩ := kcs_at L k e h'
    have key : ∀ j, (kcs (x :: L))[j + 2]? = (kcs L)[j]? := fun j => by
      show (kc x ++ kcs L)[j + 2]? = _
      rw [List.getElem?_append_right (by rw [kc_len]; omega), kc_len]; congr 1
    refine ⟨?_, ?_⟩
    · rw [show (k + 1) * 2 = k * 2 + 2 by omega, key]; exact h0
    · rw [show (k + 1) * 2 + 1 = k * 2 + 1 + 2 by omega, key]; exact h1
def KAt (w : World) (A : Option Addr) (L : List Ml) : Prop := ∀ (k : Nat) (e : Ml), L[k]? = some e → ∃ bk o, A = some ⟨bk, o, none⟩ ∧
  w.cell? ⟨bk, o + k * 2, none⟩ = some (.bool e.1) ∧ w.cell? ⟨bk, o + k * 2 + 1, none⟩ = some (.int .i64 e.2)
theorem KAt.below {w w' : World} {A : Option Addr} {L : List Ml} (h : KAt w A L) (hb : Below w.heap.size w w') : KAt w' A L := by
  intro k e hx
  obtain ⟨bk, o, hA, c0, c1⟩ := h k e hx
  exact ⟨bk, o, hA, (hb.cell (block_lt_of_cell c0)).trans c0, (hb.cell (block_lt_of_cell c1)).trans c1⟩
theorem KAt.nil (w : World) (A : Option Addr) : KAt w A [] := fun k e h => by simp at h
theorem KAt.take {w : World} {A : Option Addr} {L : List Ml} (h : KAt w A L) (k : Nat) : KAt w A (L.take k) := fun i e hi => h i e (by
  rw [List.getElem?_take] at hi; split at hi
  · exact hi
  · cases hi)
theorem KAt.drop {w : World} {g o : Nat} {L : List Ml} (h : KAt w (some ⟨g, o, none⟩) L) (k : Nat) : KAt w (some ⟨g, o + k * 2, none⟩) (L.drop k) := fun i e hi => by
  rw [List.getElem?_drop] at hi
  obtain ⟨bk, o', e1, c0, c1⟩ := h (k + i) e hi
  cases e1
  rw [Nat.add_mul, ← Nat.add_assoc] at c0 c1
  exact ⟨g, o + k * 2, rfl, c0, c1⟩
def KOwn (w : World) (B : Nat) (v : Value) (L : List Ml) : Prop := w.ownsRow B 61 2 v L.length (kcs L)
theorem KOwn.none_ (w : World) (B : Nat) : KOwn w B (.slice none 0 0) [] := World.ownsRow_nil _ _ _ _
theorem KOwn.below {w w' : World} {B : Nat} {v : Value} {L : List Ml} (h : KOwn w B v L) (hb : Below w.heap.size w w') : KOwn w' B v L := own_below h hb
theorem KOwn.alloc {w : World} {B : Nat} {v : Value} {L : List Ml} (h : KOwn w B v L) (o : Obj) : KOwn (w.alloc o) B v L := World.ownsRow.alloc h o
theorem KOwn.mono {w : World} {B B' : Nat} {v : Value} {L : List Ml} (h : KOwn w B v L) (hb : B' ≤ B) : KOwn w B' v L := own_mono h hb
theorem KOwn.room {w : World} {B : Nat} {v : Value} {L : List Ml} (h : KOwn w B v L) : ∃ A c, v = .slice A L.length c ∧ KAt w A L ∧ L.length ≤ c ∧ c ≤ maxLen ∧ ((A = none ∧ c = 0) ∨ ∃ g, A = some ⟨g, 0, none⟩ ∧ B ≤ g ∧ g < w.heap.size ∧ ∀ j, w.frozen? ⟨g, j, none⟩ = false) := by
  obtain ⟨h0, h1 | ⟨g, cap, cur, h1, h2, h3, h4, h5, h6, h7⟩⟩ := h
  · have : L = [] := List.eq_nil_of_length_eq_zero h1.2
    subst this
    exact ⟨none, 0, h1.1, KAt.nil _ _, Nat.le_refl _, Nat.zero_le _, Or.inl ⟨rfl, rfl⟩⟩
  · refine ⟨some ⟨g, 0, none⟩, cap, h1, fun k e hx => ?_, h4, h5, Or.inr ⟨g, rfl, h2, lt_of_block h3, fun j => Lib.frozen_of_heap h3 j⟩⟩
    have hk := lt_at hx
    have key : ∀ j, j < L.length * 2 → w.cell? ⟨g, 0 + j, none⟩ = (kcs L)[j]? := fun j hj => by
      rw [Nat.zero_add, cell_of_row w g j _ 61 (0, 0) h3]
      have e1 : cur[j]? = (cur.toList.take (L.length * 2))[j]? := by
        rw [List.getElem?_take, if_pos hj, Array.getElem?_toList]
      rw [e1, h7]
    obtain ⟨a0, a1⟩ := kcs_at L k e hx
    refine ⟨g, 0, rfl, ?_, ?_⟩
    · rw [key _ (by omega)]; exact a0
    · rw [Nat.add_assoc, key _ (by omega)]; exact a1
theorem KOwn.lt {w : World} {B : Nat} {v : Value} {L : List Ml} (h : KOwn w B v L) (j : Nat) (e : v.ownBlock = some j) : B ≤ j := (own_lt h j e).1
theorem infoK : (Try.prog.info? 61).map (fun i => (i.zero, i.size, i.bytes)) = some (some (.agg #[.bool false, .int .i64 0]), 2, 16) := by kernel_rfl
theorem app_k {w : World} {ops : Array Oper} {rest : List Oper} {o : Oper} {a : Act} {Q : Exit → Act → World → Prop} (hgd : o.guard = none) (s x : Operand)
    (ho : o.op = .call { callee := .builtin .append, args := #[s, x], argTypes := #[25, 25] }) (B : Nat) (v : Value) (L : List Ml) (e0 : Bool) (e1 : Int) (hs : a.eval s = v) (hown : KOwn w B v L)
    (g : Nat) (hx : a.eval x = .slice (some ⟨g, 0, none⟩) 1 1) (hg : w.heap[g]? = some (.cells #[.bool e0, .int .i64 e1] 61 (0, 0))) (hn : L.length < 1000000000) (hB : B ≤ w.heap.size)
    (h : ∀ v' w', KOwn w' B v' (L ++ [(e0, e1)]) → w.grownBy w' v.ownBlock → wpList Try.prog ops Q rest (a.put o.dst v') w') : wpList Try.prog ops Q (o :: rest) a w := by
  obtain ⟨i0, hi, hz0, hz1, hz2⟩ := info_parts infoK
  refine wpList_append_own w hgd s x 25 ho B 61 i0 _ 2 16 Try.underlying25 hi hz0 hz1 hz2 rfl (by decide) v L.length (kcs L) hs hown ⟨g, 0, none⟩ 1 1 (kc (e0, e1)) hx rfl ?_ ?_ ?_ ?_ hB ?_
  · intro j u hu
    rw [add_plain, Lib.cell_of_heap hg]
    rcases j with _ | _ | j
    · simpa [kc] using hu
    · simpa [kc] using hu
    · simp [kc] at hu
  · intro u hu
    simp only [kc, List.mem_cons, List.not_mem_nil, or_false] at hu
    rcases hu with rfl | rfl <;> rfl
  · unfold maxLen; omega
  · omega
  · intro v' w' h1 h2 _
    refine h v' w' ?_ h2
    unfold KOwn
    rw [kcs_append, List.length_append]
    have : kcs [(e0, e1)] = kc (e0, e1) := by simp [kcs]
    rw [this]; exact h1
end Go.Proofs.Ytfbfckdabbaocaa.In
