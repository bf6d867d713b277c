/-
  What is proved here: plain facts on rows of numbers: a row that is put in order and compacted is the row into which each number was put in its place; what is taken of mail; which labels may be. No program. What is proved here: plain facts on messages: put into a row one after another, or sorted and put together, they are one row; how values and totals are put together. No program. What is proved here: plain facts on mail: what all messages of a row come to at a vertex, in whatever order, however cut, folded ahead or not, split by workers or not. No program.
-/
import Derived.Test.YtkbmmlombigkmaaGreatQbPtGmx
import Derived.Lib.SlicesCompact
import Derived.Test.YtkbmmlombigkmaaGreatQbRkMathx
import Derived.Test.YtkbmmlombigkmaaGreatQbPtMathx
namespace Go.Proofs.YtkbmmlombigkmaaGreat.Lb
open Go Go.Lib Gr
def ins (n : Int) : List Int → List Int
  | [] => [n]
  | x :: l => if x < n then x :: ins n l else if x = n then x :: l else n :: x :: l
def Up (l : List Int) : Prop := l.Pairwise fun a b => a < b
theorem mem_ins {n y : Int} : ∀ {l : List Int}, y ∈ ins n l ↔ y = n ∨ y ∈ l
  | [] => by simp [ins]
  | x :: l => by
    unfold ins
    by_cases h1 : x < n
    · rw [if_pos h1, List.mem_cons, mem_ins, List.mem_cons]
      constructor
      · rintro (h | h | h)
        · exact Or.inr (Or.inl h)
        · exact Or.inl h
        · exact Or.inr (Or.inr h)
      · rintro (h | h | h)
        · exact Or.inr (Or.inl h)
        · exact Or.inl h
        · exact Or.inr (Or.inr h)
    · rw [if_neg h1]
      by_cases h2 : x = n
      · rw [if_pos h2]; subst h2; simp
      · rw [if_neg h2]; simp
theorem up_ins {n : Int} : ∀ {l : List Int}, Up l → Up (ins n l)
  | [], _ => by simp [ins, Up]
  | x :: l, h => by
    obtain ⟨h1, h2⟩ := List.pairwise_cons.1 h
    unfold ins
    by_cases g1 : x < n
    · rw [if_pos g1]
      refine List.pairwise_cons.2 ⟨fun y hy => ?_, up_ins h2⟩
      rcases mem_ins.1 hy with rfl | hy
      · exact g1
      · exact h1 y hy
    · rw [if_neg g1]
      by_cases g2 : x = n
      · rw [if_pos g2]; exact h
      · rw [if_neg g2]
        refine List.pairwise_cons.2 ⟨fun y hy => ?_, h⟩
        rcases List.mem_cons.1 hy with rfl | hy
        · omega
        · have := h1 y hy; omega
def putAll (l xs : List Int) : List Int := xs.foldl (fun l n => ins n l) l
theorem putAll_up : ∀ (xs l : List Int), Up l → Up (putAll l xs)
  | [], _, h => h
  | x :: xs, l, h => putAll_up xs (ins x l) (up_ins h)
theorem mem_putAll {y : Int} : ∀ (xs l : List Int), y ∈ putAll l xs ↔ y ∈ l ∨ y ∈ xs
  | [], l => by simp [putAll]
  | x :: xs, l => by
    have : putAll l (x :: xs) = putAll (ins x l) xs := rfl
    rw [this, mem_putAll xs, mem_ins, List.mem_cons]
    constructor
    · rintro ((h | h) | h)
      · exact Or.inr (Or.inl h)
      · exact Or.inl h
      · exact Or.inr (Or.inr h)
    · rintro (h | h | h)
      · exact Or.inl (Or.inr h)
      · exact Or.inl (Or.inl h)
      · exact Or.inr h
theorem up_one : ∀ {l m : List Int}, Up l → Up m → (∀ y, y ∈ l ↔ y ∈ m) → l = m
  | [], [], _, _, _ => rfl
  | [], b :: m, _, _, h => by have := (h b).2 (by simp); simp at this
  | a :: l, [], _, _, h => by have := (h a).1 (by simp); simp at this
  | a :: l, b :: m, hl, hm, h => by
    obtain ⟨l1, l2⟩ := List.pairwise_cons.1 hl
    obtain ⟨m1, m2⟩ := List.pairwise_cons.1 hm
    have e : a = b := by
      rcases List.mem_cons.1 ((h a).1 List.mem_cons_self) with g | g
      · exact g
      · rcases List.mem_cons.1 ((h b).2 List.mem_cons_self) with k | k
        · exact k.symm
        · have := l1 b k; have := m1 a g; omega
    subst e
    congr 1
    refine up_one l2 m2 fun y => ?_
    constructor
    · intro hy
      rcases List.mem_cons.1 ((h y).1 (List.mem_cons_of_mem _ hy)) with g | g
      · have := l1 y hy; omega
      · exact g
    · intro hy
      rcases List.mem_cons.1 ((h y).2 (List.mem_cons_of_mem _ hy)) with g | g
      · have := m1 y hy; omega
      · exact g
theorem comp_up (d : Array Int) (hs : ∀ i j, i < j → j < d.size → d[i]! ≤ d[j]!) : ∀ m, m ≤ d.size → Up (compactUpTo d m) ∧ ∀ y, y ∈ compactUpTo d m ↔ ∃ j, j < m ∧ y = d[j]!
  | 0, _ => by
    refine ⟨by simp [compactUpTo, Up], fun y => ?_⟩
    simp [compactUpTo]
  | m + 1, hm => by
    obtain ⟨h1, h2⟩ := comp_up d hs m (by omega)
    rw [compactUpTo_succ]
    cases hk : keeps d m with
    | true =>
      simp only [if_true]
      have hne : m = 0 ∨ d[m]! ≠ d[m - 1]! := by simpa [keeps] using hk
      refine ⟨List.pairwise_append.2 ⟨h1, by simp, fun x hx y hy => ?_⟩, fun y => ?_⟩
      · simp at hy; subst hy
        obtain ⟨j, hj, rfl⟩ := (h2 x).1 hx
        rcases hne with h0 | hne
        · omega
        · have a1 := hs (m - 1) m (by omega) (by omega)
          rcases Nat.lt_or_ge j (m - 1) with hlt | hge
          · have a2 := hs j (m - 1) hlt (by omega); omega
          · have : j = m - 1 := by omega
            subst this; omega
      · rw [List.mem_append, h2]
        constructor
        · rintro (⟨j, hj, rfl⟩ | hy)
          · exact ⟨j, by omega, rfl⟩
          · simp at hy; exact ⟨m, by omega, hy⟩
        · rintro ⟨j, hj, rfl⟩
          rcases Nat.lt_or_ge j m with hlt | hge
          · exact Or.inl ⟨j, hlt, rfl⟩
          · have : j = m := by omega
            subst this; right; simp
    | false =>
      simp only [Bool.false_eq_true, if_false, List.append_nil]
      have hne : m ≠ 0 ∧ d[m]! = d[m - 1]! := by simpa [keeps] using hk
      refine ⟨h1, fun y => ?_⟩
      rw [h2]
      constructor
      · rintro ⟨j, hj, rfl⟩; exact ⟨j, by omega, rfl⟩
      · rintro ⟨j, hj, rfl⟩
        rcases Nat.lt_or_ge j m with hlt | hge
        · exact ⟨j, hlt, rfl⟩
        · have : j = m := by omega
          subst this
          exact ⟨j - 1, by omega, hne.2⟩
def srt (l : List Int) : List Int := l.mergeSort fun x y => decide (x ≤ y)
theorem srt_len (l : List Int) : (srt l).length = l.length := List.length_mergeSort l
theorem srt_up (l : List Int) : (srt l).Pairwise fun a b => a ≤ b := by
  have := List.pairwise_mergeSort (le := fun x y : Int => decide (x ≤ y)) (fun a b c h1 h2 => by simp at *; omega) (fun a b => by simp; omega) l
  exact this.imp fun h => by simpa using h
theorem comp_srt (l : List Int) : compact (srt l) = putAll [] l := by
  have hs : ∀ i j, i < j → j < (srt l).toArray.size → (srt l).toArray[i]! ≤ (srt l).toArray[j]! := by
    intro i j hij hj
    have hj' : j < (srt l).length := by simpa using hj
    rw [getElem!_pos _ i (by simp; omega), getElem!_pos _ j (by simp; omega)]
    simp only [List.getElem_toArray]
    exact (List.pairwise_iff_getElem.1 (srt_up l)) i j (by omega) hj' hij
  obtain ⟨h1, h2⟩ := comp_up (srt l).toArray hs (srt l).length (by simp)
  refine up_one h1 (putAll_up l [] (by simp [Up])) fun y => ?_
  show y ∈ compactUpTo (srt l).toArray (srt l).length ↔ _
  have hm : y ∈ srt l ↔ y ∈ l := List.mem_mergeSort
  rw [h2, mem_putAll, ← hm]
  simp only [List.not_mem_nil, false_or]
  constructor
  · rintro ⟨j, hj, rfl⟩
    rw [getElem!_pos _ j (by simpa using hj)]
    simp
  · intro hy
    obtain ⟨j, hj, rfl⟩ := List.mem_iff_getElem.1 hy
    exact ⟨j, hj, by rw [getElem!_pos _ j (by simpa using hj)]; simp⟩
def tos (v : Int) (L : List Ed) : List Int := (L.map fun e => e.2.1).filter fun x => decide (x ≠ v)
def froms (v : Int) (L : List Ed) : List Int := (L.map fun e => e.1).filter fun x => decide (x ≠ v)
def nearL (v : Int) (L M : List Ed) : List Int := putAll [] (tos v L ++ froms v M)
theorem tos_len (v : Int) (L : List Ed) : (tos v L).length ≤ L.length := by
  have := List.length_filter_le (fun x => decide (x ≠ v)) (L.map fun e => e.2.1); simpa [tos] using this
theorem froms_len (v : Int) (L : List Ed) : (froms v L).length ≤ L.length := by
  have := List.length_filter_le (fun x => decide (x ≠ v)) (L.map fun e => e.1); simpa [froms] using this
theorem tos_snoc (v : Int) (L : List Ed) (e : Ed) : tos v (L ++ [e]) = if e.2.1 = v then tos v L else tos v L ++ [e.2.1] := by
  unfold tos
  rw [List.map_append, List.filter_append]
  by_cases h : e.2.1 = v <;> simp [h]
theorem froms_snoc (v : Int) (L : List Ed) (e : Ed) : froms v (L ++ [e]) = if e.1 = v then froms v L else froms v L ++ [e.1] := by
  unfold froms
  rw [List.map_append, List.filter_append]
  by_cases h : e.1 = v <;> simp [h]
def takM (v : Int) (has : Bool) (x : Int) : Int := if has = true ∧ x < v then x else v
def takB (v : Int) (has : Bool) (x : Int) : Bool := has && decide (x < v)
def labOk (l : List Int) (k : Nat) : Bool := match l[k]? with | some x => decide (0 ≤ x) && decide (x ≤ (k : Int)) && decide (l[x.toNat]? = some x) | none => false
def mne (l : List Int) (k : Nat) : Bool := decide (l[k]? = some (k : Int))
def mrkF (l : List Int) : Nat → Nat → Nat → Int × Bool
  | 0, _, m => ((m : Int), true)
  | g + 1, k, m => if labOk l k then mrkF l g (k + 1) (if mne l k then m + 1 else m) else (0, false)
def mrk (l : List Int) : Int × Bool := mrkF l l.length 0 0
end Go.Proofs.YtkbmmlombigkmaaGreat.Lb
namespace Go.Proofs.YtkbmmlombigkmaaGreat.Al
open Gr Fx Rk Lb
abbrev Ms := Int × Int
def comb (k a b : Int) : Int := if k = 1 then addI a b else if k = 2 ∨ k = 3 then min a b else 0
def insM (k : Int) : List Ms → Ms → List Ms
  | [], m => [m]
  | x :: l, m => if x.1 < m.1 then x :: insM k l m else if x.1 = m.1 then (m.1, comb k x.2 m.2) :: l else m :: x :: l
def putM (k : Int) (l xs : List Ms) : List Ms := xs.foldl (insM k) l
def sentR (v : Int) (n : Nat) (L : List Ed) : List Ms := L.map fun e => (e.2.1, giveI v n)
def sentL (v : Int) (L : List Int) : List Ms := L.map fun u => (u, v)
def sentP (v : Int) (L : List Ed) : List Ms := L.map fun e => (e.2.1, addI v e.2.2)
def rawM (k v x : Int) (ch : Bool) (L M : List Ed) : List Ms :=
  if k = 1 then sentR x L.length L else if ch = true then (if k = 2 then sentL x (nearL v L M) else if k = 3 then sentP x L else []) else []
def sendM (k v x : Int) (ch : Bool) (L M : List Ed) : List Ms := putM k [] (rawM k v x ch L M)
end Go.Proofs.YtkbmmlombigkmaaGreat.Al
namespace Go.Proofs.YtkbmmlombigkmaaGreat.In
open Gr Fx Rk Lb Al Pt
def mst (k v : Int) (o : Option Int) (x : Ms) : Option Int := if x.1 = v then (match o with | none => some x.2 | some y => some (comb k y x.2)) else o
def mailM (k v : Int) (l : List Ms) : Option Int := l.foldl (mst k v) none
theorem mailM_snoc (k v : Int) (l : List Ms) (x : Ms) : mailM k v (l ++ [x]) = mst k v (mailM k v l) x := by simp [mailM, List.foldl_append]
abbrev Ml := Bool × Int
def mlOf : Option Int → Ml
  | none => (false, 0)
  | some x => (true, x)
def mergeM (k : Int) (own : List Int) (rows : List (List Ms)) : List Ml := own.map fun v => mlOf (mailM k v rows.flatten)
end Go.Proofs.YtkbmmlombigkmaaGreat.In
