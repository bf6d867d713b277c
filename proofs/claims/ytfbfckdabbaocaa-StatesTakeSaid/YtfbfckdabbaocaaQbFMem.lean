/-
  What is proved here: words for the memory that the program's writers and readers make: rows of bytes, a writer's chain of pieces, a reader's rest, and that they stay where other blocks change. No condition.
-/
import Derived.Test.YtfbfckdabbaocaaRows
import Derived.Test.YtfbfckdabbaocaaQbFMath
import Derived.WalkKit
import Derived.WalkSpells
import Derived.Deep.LoopGhost
import Derived.Lib.Hide
import Derived.Laws.CopyOwn
import Derived.Deep.OwnRows
namespace Go.Proofs.Ytfbfckdabbaocaa.Fd
open Go.RowKit
theorem info5 : (Try.prog.info? 5).map (fun i => (i.zero, i.size, i.bytes)) = some (some (.int .u8 0), 1, 1) := by kernel_rfl
theorem size5 : (Try.prog.info? 5).map (·.size) = some 1 := by kernel_rfl
def vals (l : List Nat) : List Value := l.map fun (x : Nat) => Value.int .u8 (x : Int)
theorem vals_length (l : List Nat) : (vals l).length = l.length := by simp [vals]
theorem vals_append (a b : List Nat) : vals (a ++ b) = vals a ++ vals b := by simp [vals]
theorem vals_one (l : List Nat) : ∀ u ∈ vals l, u.oneCell' = true := by
  intro u hu
  simp only [vals, List.mem_map] at hu
  obtain ⟨x, _, rfl⟩ := hu
  rfl
theorem vals_at (l : List Nat) (k : Nat) : (vals l)[k]? = (l[k]?).map fun (x : Nat) => Value.int .u8 (x : Int) := by simp [vals]
theorem vals_set (l : List Nat) (k x : Nat) : (vals l).set k (.int .u8 (x : Int)) = vals (l.set k x) := by
  unfold vals; rw [List.map_set]
theorem made_eq (n : Nat) : madeCells #[Value.int .u8 0] n = (vals (List.replicate n 0)).toArray := by
  unfold madeCells vals
  apply Array.ext
  · simp
  · intro i h1 h2; simp [Nat.mod_one]
theorem add_plain (g o k : Nat) : (⟨g, o, none⟩ : Addr).add k = ⟨g, o + k, none⟩ := by unfold Addr.add; split <;> simp_all
theorem add_block (a : Addr) (n : Nat) : (a.add n).block = a.block := by unfold Addr.add; split <;> rfl
def Row (w : World) (g : Nat) (l : List Nat) : Prop := w.heap[g]? = some (.cells (vals l).toArray 5 (0, 0))
theorem Row.lt {w : World} {g : Nat} {l : List Nat} (h : Row w g l) : g < w.heap.size := lt_of_block h
theorem Row.cell {w : World} {g : Nat} {l : List Nat} (h : Row w g l) (k x : Nat) (hx : l[k]? = some x) : w.cell? ⟨g, k, none⟩ = some (.int .u8 (x : Int)) := by
  rw [cell_of_row w g k _ 5 (0, 0) h, List.getElem?_toArray, vals_at, hx]; rfl
theorem Row.free {w : World} {g : Nat} {l : List Nat} (h : Row w g l) (k : Nat) : w.frozen? ⟨g, k, none⟩ = false := frozen_of_row w g k _ 5 h
theorem Row.set {w : World} {g : Nat} {l : List Nat} (h : Row w g l) (k x : Nat) : Row (w.setCell ⟨g, k, none⟩ (.int .u8 (x : Int))) g (l.set k x) := by
  have := heap_setCell_same w g k _ 5 (.int .u8 (x : Int)) h
  unfold Row
  rw [this, List.setIfInBounds_toArray, vals_set]
theorem Row.made (w : World) (n : Nat) : Row (w.alloc (.cells (madeCells #[.int .u8 0] n) 5)) w.heap.size (List.replicate n 0) := by
  unfold Row; rw [heap_alloc_new, made_eq]
theorem Row.kept {w w' : World} {g : Nat} {l : List Nat} (h : Row w g l) (e : w'.heap[g]? = w.heap[g]?) : Row w' g l := e.trans h
theorem Row.below {w w' : World} {g : Nat} {l : List Nat} (h : Row w g l) {B : Nat} (hb : Below B w w') (hg : g < B) : Row w' g l := h.kept (hb.block g hg)
def At (w : World) (A : Option Addr) (l : List Nat) : Prop := ∀ (k x : Nat), l[k]? = some x → x < 256 ∧ ∃ ad, A = some ad ∧ w.cell? (ad.add k) = some (.int .u8 (x : Int))
def Bytes (w : World) (v : Value) (l : List Nat) : Prop := ∃ (A : Option Addr) (c : Nat), v = .slice A l.length c ∧ At w A l
theorem At.kept {w w' : World} {A : Option Addr} {l : List Nat} (h : At w A l) (hk : ∀ p : Addr, p.block < w.heap.size → w'.cell? p = w.cell? p) : At w' A l := by
  intro k x hx
  obtain ⟨h1, ad, e, h2⟩ := h k x hx
  exact ⟨h1, ad, e, (hk _ (block_lt_of_cell h2)).trans h2⟩
theorem At.below {w w' : World} {A : Option Addr} {l : List Nat} (h : At w A l) (hb : Below w.heap.size w w') : At w' A l := h.kept fun _ hp => hb.cell hp
theorem Bytes.kept {w w' : World} {v : Value} {l : List Nat} (h : Bytes w v l) (hk : ∀ p : Addr, p.block < w.heap.size → w'.cell? p = w.cell? p) : Bytes w' v l := by
  obtain ⟨A, c, e, ha⟩ := h
  exact ⟨A, c, e, ha.kept hk⟩
theorem Bytes.below {w w' : World} {v : Value} {l : List Nat} (h : Bytes w v l) (hb : Below w.heap.size w w') : Bytes w' v l := h.kept fun _ hp => hb.cell hp
theorem At.nil_ {w : World} {A : Option Addr} : At w A [] := fun k x hx => by simp at hx
theorem At.none_ {w : World} {l : List Nat} (h : At w none l) : l = [] := by
  cases l with
  | nil => rfl
  | cons x l => obtain ⟨_, bd, e, _⟩ := h 0 x rfl; cases e
theorem At.small {w : World} {A : Option Addr} {l : List Nat} (h : At w A l) : ∀ x ∈ l, x < 256 := by
  intro x hx
  obtain ⟨k, hk⟩ := List.getElem?_of_mem hx
  exact (h k x hk).1
theorem Bytes.small {w : World} {v : Value} {l : List Nat} (h : Bytes w v l) : ∀ x ∈ l, x < 256 := by
  obtain ⟨A, c, _, ha⟩ := h
  exact ha.small
theorem At.vals {w : World} {B : Addr} {l : List Nat} (h : At w (some B) l) : ∀ (j : Nat) (u : Value), (vals l)[j]? = some u → w.cell? (B.add j) = some u := by
  intro j u hu
  rw [vals_at] at hu
  cases hx : l[j]? with
  | none => rw [hx] at hu; cases hu
  | some x =>
    rw [hx] at hu
    obtain ⟨_, bd, e, hc⟩ := h j x hx
    cases e
    simp at hu
    rw [← hu]; exact hc
theorem Row.at_ {w : World} {g : Nat} {l : List Nat} (h : Row w g l) (hs : ∀ x ∈ l, x < 256) : At w (some ⟨g, 0, none⟩) l := by
  intro k x hx
  refine ⟨hs x (List.mem_of_getElem? hx), _, rfl, ?_⟩
  rw [add_plain, Nat.zero_add]
  exact h.cell k x hx
theorem At.take {w : World} {A : Option Addr} {l : List Nat} (h : At w A l) (n : Nat) : At w A (l.take n) := by
  intro k x hx
  rw [List.getElem?_take] at hx
  split at hx
  · exact h k x hx
  · cases hx
theorem At.drop {w : World} {g o : Nat} {l : List Nat} (h : At w (some ⟨g, o, none⟩) l) (n : Nat) : At w (some ⟨g, o + n, none⟩) (l.drop n) := by
  intro k x hx
  rw [List.getElem?_drop] at hx
  obtain ⟨h1, ad, e, h2⟩ := h _ x hx
  cases e
  rw [add_plain, ← Nat.add_assoc] at h2
  exact ⟨h1, _, rfl, by rw [add_plain]; exact h2⟩
theorem only_of_below {a w : World} (h : Below a.heap.size a w) (row : Option Nat) : a.grownBy w row := ⟨h.os, h.tape, h.output, h.size, fun i hi _ => h.block i hi⟩
theorem only_trans {a b c : World} {g : Nat} (h : a.grownBy b (some g)) (k : b.grownBy c (some g)) : a.grownBy c (some g) :=
  ⟨k.os.trans h.os, k.tape.trans h.tape, k.output.trans h.output, Nat.le_trans h.size k.size, fun i hi hne => (k.block i (Nat.lt_of_lt_of_le hi h.size) hne).trans (h.block i hi hne)⟩
theorem only_set {a w : World} {g : Nat} (h : a.grownBy w (some g)) (i : Nat) (u : Value) : a.grownBy (w.setCell ⟨g, i, none⟩ u) (some g) :=
  ⟨h.os, h.tape, h.output, by simpa [World.setCell] using h.size, fun k hk hne => (Below.heap_setCell w _ u k (fun e => hne (by rw [e]))).trans (h.block k hk hne)⟩
theorem only_alloc {a w : World} {row : Option Nat} (h : a.grownBy w row) (o : Obj) : a.grownBy (w.alloc o) row :=
  ⟨h.os, h.tape, h.output, Nat.le_trans h.size (by simp), fun i hi hne => (Below.heap_alloc w o i (Nat.lt_of_lt_of_le hi h.size)).trans (h.block i hi hne)⟩
theorem only_refl (w : World) (row : Option Nat) : w.grownBy w row := ⟨rfl, rfl, rfl, Nat.le_refl _, fun _ _ _ => rfl⟩
theorem only_cell {a w : World} {g : Nat} (h : a.grownBy w (some g)) {p : Addr} (hp : p.block < a.heap.size) (hne : p.block ≠ g) : w.cell? p = a.cell? p :=
  World.cell?_of_block (h.block p.block hp (fun e => hne (by injection e)))
def spell : List (List Nat) → List Nat
  | [] => []
  | x :: xs => spell xs ++ x
def Chain (w : World) (lo : Nat) : Value → List (List Nat) → Prop
  | p, [] => p = .pointer none
  | p, x :: xs => ∃ (b g : Nat) (ahead : Value), p = .pointer (some ⟨b, 0, none⟩) ∧ lo ≤ b ∧ lo ≤ g ∧ w.heap[b]? = some (.cells #[ahead, .slice (some ⟨g, 0, none⟩) x.length x.length, .int .i64 (((spell (x :: xs)).length : Nat) : Int)] 105 (0, 0)) ∧ Row w g x ∧ (∀ y ∈ x, y < 256) ∧ Chain w lo ahead xs
theorem Chain.kept {w w' : World} {lo : Nat} : ∀ {ps : List (List Nat)} {p : Value}, Chain w lo p ps → (∀ k, lo ≤ k → k < w.heap.size → w'.heap[k]? = w.heap[k]?) → Chain w' lo p ps
  | [], _, h, _ => h
  | x :: xs, p, h, hk => by
    obtain ⟨b, g, ahead, e, h1, h2, h3, h4, h5, h6⟩ := h
    exact ⟨b, g, ahead, e, h1, h2, (hk b h1 (lt_of_block h3)).trans h3, h4.kept (hk g h2 h4.lt), h5, h6.kept hk⟩
theorem Chain.small {w : World} {lo : Nat} : ∀ {ps : List (List Nat)} {p : Value}, Chain w lo p ps → ∀ x ∈ spell ps, x < 256
  | [], _, _ => fun x hx => by cases hx
  | y :: ys, p, h => by
    obtain ⟨b, g, ahead, e, h1, h2, h3, h4, h5, h6⟩ := h
    intro x hx
    simp only [spell, List.mem_append] at hx
    rcases hx with hx | hx
    · exact h6.small x hx
    · exact h5 x hx
def Wr (w : World) (lo b : Nat) (l : List Nat) : Prop := b < lo ∧ ∃ (p : Value) (ps : List (List Nat)), w.heap[b]? = some (.cells #[p] 64 (0, 0)) ∧ Chain w lo p ps ∧ spell ps = l
theorem Wr.kept {w w' : World} {lo b : Nat} {l : List Nat} (h : Wr w lo b l) (hk : ∀ k, k = b ∨ lo ≤ k → k < w.heap.size → w'.heap[k]? = w.heap[k]?) : Wr w' lo b l := by
  obtain ⟨h0, p, ps, h1, h2, h3⟩ := h
  exact ⟨h0, p, ps, (hk b (Or.inl rfl) (lt_of_block h1)).trans h1, h2.kept (fun k h h' => hk k (Or.inr h) h'), h3⟩
theorem Wr.below {w w' : World} {lo b : Nat} {l : List Nat} (h : Wr w lo b l) (hb : Below w.heap.size w w') : Wr w' lo b l := h.kept fun k _ hk => hb.block k hk
theorem Wr.lt {w : World} {lo b : Nat} {l : List Nat} (h : Wr w lo b l) : b < w.heap.size := by
  obtain ⟨_, p, ps, h1, _⟩ := h
  exact lt_of_block h1
theorem Wr.small {w : World} {lo b : Nat} {l : List Nat} (h : Wr w lo b l) : ∀ x ∈ l, x < 256 := by
  obtain ⟨_, p, ps, _, h2, rfl⟩ := h
  exact h2.small
theorem Wr.new (w : World) (lo b : Nat) (h : w.heap[b]? = some (.cells #[.pointer none] 64 (0, 0))) (hb : b < lo) : Wr w lo b [] := ⟨hb, _, [], h, rfl, rfl⟩
def Rd (w : World) (lo b : Nat) (l : List Nat) (bad : Bool) : Prop :=
  lo ≤ b ∧ (l.length ≤ 9223372036854775807) ∧ ((l = [] ∧ w.heap[b]? = some (.cells #[.slice none 0 0, .bool bad] 110 (0, 0))) ∨
    ∃ g o : Nat, lo ≤ g ∧ g < b ∧ w.heap[b]? = some (.cells #[.slice (some ⟨g, o, none⟩) l.length l.length, .bool bad] 110 (0, 0)) ∧ At w (some ⟨g, o, none⟩) l)
theorem Rd.kept {w w' : World} {lo b : Nat} {l : List Nat} {bad : Bool} (h : Rd w lo b l bad) (hk : ∀ k, lo ≤ k → k ≤ b → w'.heap[k]? = w.heap[k]?) : Rd w' lo b l bad := by
  obtain ⟨h0, h1, h2 | ⟨g, o, h3, h4, h5, h6⟩⟩ := h
  · exact ⟨h0, h1, Or.inl ⟨h2.1, (hk b h0 (Nat.le_refl _)).trans h2.2⟩⟩
  · refine ⟨h0, h1, Or.inr ⟨g, o, h3, h4, (hk b h0 (Nat.le_refl _)).trans h5, ?_⟩⟩
    intro k x hx
    obtain ⟨q1, ad, q2, q3⟩ := h6 k x hx
    cases q2
    refine ⟨q1, _, rfl, ?_⟩
    rw [World.cell?_of_block (w := w) (by rw [add_block]; exact hk g h3 (Nat.le_of_lt h4))]
    exact q3
theorem Rd.lt {w : World} {lo b : Nat} {l : List Nat} {bad : Bool} (h : Rd w lo b l bad) : b < w.heap.size := by
  obtain ⟨_, _, h2 | ⟨g, o, _, _, h5, _⟩⟩ := h
  · exact lt_of_block h2.2
  · exact lt_of_block h5
theorem Rd.below {w w' : World} {lo b : Nat} {l : List Nat} {bad : Bool} (h : Rd w lo b l bad) (hb : Below w.heap.size w w') : Rd w' lo b l bad :=
  h.kept fun k _ hk => hb.block k (Nat.lt_of_le_of_lt hk h.lt)
theorem Rd.small {w : World} {lo b : Nat} {l : List Nat} {bad : Bool} (h : Rd w lo b l bad) : ∀ x ∈ l, x < 256 := by
  obtain ⟨_, _, h2 | ⟨g, o, _, _, _, h6⟩⟩ := h
  · rw [h2.1]; intro x hx; cases hx
  · exact h6.small
end Go.Proofs.Ytfbfckdabbaocaa.Fd
