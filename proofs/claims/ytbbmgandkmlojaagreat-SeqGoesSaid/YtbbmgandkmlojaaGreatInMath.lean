/-
  What is proved here: plain facts on mail: what all messages of a row come to at a vertex, in whatever order, however cut, folded ahead or not, split by workers or not. No program.
-/
import Derived.Test.YtbbmgandkmlojaaGreatAlMath
import Derived.Test.YtbbmgandkmlojaaGreatPtMath
namespace Go.Proofs.YtbbmgandkmlojaaGreat.In
open Gr Fx Rk Lb Al Pt

/- What a vertex has, behind one message more; behind a row of them. -/
def mst (k v : Int) (o : Option Int) (x : Ms) : Option Int := if x.1 = v then (match o with | none => some x.2 | some y => some (comb k y x.2)) else o
def mailM (k v : Int) (l : List Ms) : Option Int := l.foldl (mst k v) none
def jn (k : Int) : Option Int → Option Int → Option Int
  | none, b => b
  | some a, none => some a
  | some a, some b => some (comb k a b)
theorem mailM_snoc (k v : Int) (l : List Ms) (x : Ms) : mailM k v (l ++ [x]) = mst k v (mailM k v l) x := by simp [mailM, List.foldl_append]
theorem jn_none (k : Int) (a : Option Int) : jn k a none = a := by cases a <;> rfl
theorem jn_comm (k : Int) (a b : Option Int) : jn k a b = jn k b a := by
  cases a <;> cases b <;> simp [jn, comb_comm]
theorem jn_assoc (k : Int) (a b c : Option Int) : jn k (jn k a b) c = jn k a (jn k b c) := by
  cases a <;> cases b <;> cases c <;> simp [jn, comb_assoc]
theorem mst_jn (k v : Int) (o : Option Int) (x : Ms) : mst k v o x = jn k o (if x.1 = v then some x.2 else none) := by
  unfold mst
  split
  · cases o <;> rfl
  · rw [jn_none]
theorem foldl_mst (k v : Int) : ∀ (l : List Ms) (o : Option Int), l.foldl (mst k v) o = jn k o (mailM k v l)
  | [], o => by simp [mailM, jn_none]
  | x :: l, o => by
    show l.foldl (mst k v) (mst k v o x) = jn k o (l.foldl (mst k v) (mst k v none x))
    rw [foldl_mst k v l, foldl_mst k v l, mst_jn, mst_jn, jn_assoc]
    rfl
theorem mailM_app (k v : Int) (l m : List Ms) : mailM k v (l ++ m) = jn k (mailM k v l) (mailM k v m) := by
  unfold mailM; rw [List.foldl_append]; exact foldl_mst k v m _
theorem mailM_one (k v : Int) (x : Ms) : mailM k v [x] = if x.1 = v then some x.2 else none := by
  show mst k v none x = _
  unfold mst; rfl
theorem mailM_cons (k v : Int) (x : Ms) (l : List Ms) : mailM k v (x :: l) = jn k (if x.1 = v then some x.2 else none) (mailM k v l) := by
  rw [show x :: l = [x] ++ l from rfl, mailM_app, mailM_one]
theorem mailM_nil (k v : Int) : mailM k v [] = none := rfl
theorem mailM_perm (k v : Int) {l m : List Ms} (h : l.Perm m) : mailM k v l = mailM k v m := by
  induction h with
  | nil => rfl
  | cons x _ ih => rw [mailM_cons, mailM_cons, ih]
  | swap x y l => rw [mailM_cons, mailM_cons, mailM_cons, mailM_cons, ← jn_assoc, ← jn_assoc, jn_comm k (if y.1 = v then some y.2 else none)]
  | trans _ _ i1 i2 => exact i1.trans i2
theorem mailM_turn (k v : Int) (l : List Ms) (t : Nat) : mailM k v (l.drop t ++ l.take t) = mailM k v l :=
  mailM_perm k v ((List.perm_append_comm).trans (by rw [List.take_append_drop]))
theorem mailM_back (k v : Int) (l : List Ms) : mailM k v l.reverse = mailM k v l := mailM_perm k v (List.reverse_perm l)
theorem mailM_cut (k v : Int) (l : List Ms) (t : Nat) : mailM k v (l.take t ++ l.drop t) = mailM k v l := by rw [List.take_append_drop]
/- Messages to others do not count. -/
theorem mailM_off (k v : Int) : ∀ {l : List Ms}, (∀ x ∈ l, x.1 ≠ v) → mailM k v l = none
  | [], _ => rfl
  | x :: l, h => by rw [mailM_cons, if_neg (h x List.mem_cons_self), mailM_off k v fun y hy => h y (List.mem_cons_of_mem _ hy)]; rfl
theorem mailM_filter (k v : Int) (p : Ms → Bool) : ∀ (l : List Ms), (∀ x ∈ l, x.1 = v → p x = true) → mailM k v (l.filter p) = mailM k v l
  | [], _ => rfl
  | x :: l, h => by
    have ih := mailM_filter k v p l fun y hy => h y (List.mem_cons_of_mem _ hy)
    by_cases hp : p x = true
    · rw [List.filter_cons_of_pos hp, mailM_cons, mailM_cons, ih]
    · rw [List.filter_cons_of_neg hp, mailM_cons, ih, if_neg fun e => hp (h x List.mem_cons_self e)]; rfl
/- Folded ahead. -/
theorem mailM_insM (k v : Int) (m : Ms) : ∀ {l : List Ms}, UpM l → mailM k v (insM k l m) = jn k (mailM k v l) (if m.1 = v then some m.2 else none)
  | [], _ => by show mailM k v [m] = _; rw [mailM_one, mailM_nil]; rfl
  | x :: l, h => by
    obtain ⟨_, h2⟩ := List.pairwise_cons.1 h
    unfold insM
    split
    · rw [mailM_cons, mailM_cons, mailM_insM k v m h2, jn_assoc]
    · split
      · rename_i _ e
        rw [mailM_cons, mailM_cons, jn_assoc, jn_comm k (mailM k v l), ← jn_assoc]
        congr 1
        simp only [e]
        split <;> rfl
      · rw [mailM_cons, jn_comm]
theorem mailM_putM (k v : Int) : ∀ (xs : List Ms) {l : List Ms}, UpM l → mailM k v (putM k l xs) = jn k (mailM k v l) (mailM k v xs)
  | [], l, _ => by rw [mailM_nil, jn_none]; rfl
  | x :: xs, l, h => by
    show mailM k v (putM k (insM k l x) xs) = _
    rw [mailM_putM k v xs (up_insM h), mailM_insM k v x h, mailM_cons, jn_assoc]
theorem mailM_fold (k v : Int) (l : List Ms) : mailM k v (putM k [] l) = mailM k v l := by
  rw [mailM_putM k v l (by simp [UpM]), mailM_nil]; rfl
/- Split by workers. -/
def rowW (n : Int) (l : List Ms) (w : Int) : List Ms := l.filter fun x => ofI x.1 n == w
def rowsW (n : Nat) (l : List Ms) (m : Nat) : List (List Ms) := (List.range m).map fun (w : Nat) => rowW (n : Int) l (w : Int)
theorem rowsW_succ (n : Nat) (l : List Ms) (m : Nat) : rowsW n l (m + 1) = rowsW n l m ++ [rowW (n : Int) l (m : Int)] := by simp [rowsW, List.range_succ]
theorem rowsW_len (n : Nat) (l : List Ms) (m : Nat) : (rowsW n l m).length = m := by simp [rowsW]
theorem mailM_row (k v : Int) (n : Int) (l : List Ms) (w : Int) : mailM k v (rowW n l w) = if ofI v n = w then mailM k v l else none := by
  unfold rowW
  split
  · rename_i h
    exact mailM_filter k v _ l fun x _ e => by rw [e]; simpa using h
  · rename_i h
    refine mailM_off k v fun x hx e => ?_
    have := (List.mem_filter.1 hx).2
    rw [e] at this
    exact h (by simpa using this)
theorem mailM_rows (k v : Int) (n : Nat) (l : List Ms) : ∀ m : Nat, mailM k v (rowsW n l m).flatten = if 0 ≤ ofI v (n : Int) ∧ ofI v (n : Int) < (m : Int) then mailM k v l else none
  | 0 => by rw [if_neg (by omega)]; rfl
  | m + 1 => by
    rw [rowsW_succ, List.flatten_append, mailM_app, mailM_rows k v n l m]
    simp only [List.flatten_cons, List.flatten_nil, List.append_nil]
    rw [mailM_row]
    by_cases h1 : ofI v (n : Int) = (m : Int)
    · rw [if_pos h1, if_neg (by omega), if_pos (by omega)]; rfl
    · rw [if_neg h1, jn_none]
      by_cases h2 : 0 ≤ ofI v (n : Int) ∧ ofI v (n : Int) < (m : Int)
      · rw [if_pos h2, if_pos (by omega)]
      · rw [if_neg h2, if_neg (by omega)]
def someM (l : List Ms) : List Ms := l.filter fun x => decide (0 ≤ x.1 ∧ x.1 < 512)
theorem mailM_some (k v : Int) (n : Nat) (hn : 1 ≤ n ∧ n ≤ 64) (l : List Ms) : mailM k v (rowsW n l n).flatten = mailM k v (someM l) := by
  rw [mailM_rows]
  by_cases hv : 0 ≤ v ∧ v < 512
  · rw [if_pos (by have := ofI_range hv.1 hv.2 (show (1 : Int) ≤ (n : Int) by omega) (show (n : Int) ≤ 64 by omega); omega)]
    exact (mailM_filter k v _ l fun x _ e => by rw [e]; simpa using hv).symm
  · rw [if_neg (by rw [ofI_not (by omega)]; omega)]
    exact (mailM_off k v fun x hx e => hv (by have := (List.mem_filter.1 hx).2; rw [e] at this; simpa using this)).symm
/- All mail of a row of vertices. -/
abbrev Ml := Bool × Int
def mlOf : Option Int → Ml
  | none => (false, 0)
  | some x => (true, x)
def mergeM (k : Int) (own : List Int) (rows : List (List Ms)) : List Ml := own.map fun v => mlOf (mailM k v rows.flatten)
theorem mergeM_len (k : Int) (own : List Int) (rows : List (List Ms)) : (mergeM k own rows).length = own.length := by simp [mergeM]
theorem mergeM_eq (k : Int) (own : List Int) {r s : List (List Ms)} (h : ∀ v, mailM k v r.flatten = mailM k v s.flatten) : mergeM k own r = mergeM k own s := by
  unfold mergeM; simp only [h]
theorem order_cut (k : Int) (own : List Int) (l : List Ms) (t : Nat) : mergeM k own [l.take t, l.drop t] = mergeM k own [l] :=
  mergeM_eq k own fun v => by simp
theorem order_turned (k : Int) (own : List Int) (l : List Ms) (t : Nat) : mergeM k own [l.drop t, [], l.take t] = mergeM k own [l] :=
  mergeM_eq k own fun v => by simpa using mailM_turn k v l t
theorem order_turn (k : Int) (own : List Int) (l : List Ms) (t : Nat) : mergeM k own [l.drop t ++ l.take t] = mergeM k own [l] :=
  mergeM_eq k own fun v => by simpa using mailM_turn k v l t
theorem order_back (k : Int) (own : List Int) (l : List Ms) : mergeM k own [l.reverse] = mergeM k own [l] :=
  mergeM_eq k own fun v => by simpa using mailM_back k v l
theorem order_fold (k : Int) (own : List Int) (l : List Ms) : mergeM k own [putM k [] l] = mergeM k own [l] :=
  mergeM_eq k own fun v => by simpa using mailM_fold k v l
theorem order_folds (k : Int) (own : List Int) (l : List Ms) (t : Nat) : mergeM k own [putM k [] (l.reverse.take t), putM k [] (l.reverse.drop t)] = mergeM k own [l] :=
  mergeM_eq k own fun v => by
    simp only [List.flatten_cons, List.flatten_nil, List.append_nil]
    rw [mailM_app, mailM_fold, mailM_fold, ← mailM_app, List.take_append_drop, mailM_back]
theorem order_split (k : Int) (own : List Int) (l : List Ms) (n : Nat) (hn : 1 ≤ n ∧ n ≤ 64) : mergeM k own (rowsW n l n) = mergeM k own [someM l] :=
  mergeM_eq k own fun v => by rw [mailM_some k v n hn l]; simp
/- Which mail is the same. -/
def sameB (a b : List Ml) : Bool := a.length == b.length && (a.zip b).all fun p => p.1.1 == p.2.1 && (!p.1.1 || p.1.2 == p.2.2)
theorem sameB_refl (a : List Ml) : sameB a a = true := by
  unfold sameB
  simp only [beq_self_eq_true, Bool.true_and, List.all_eq_true]
  intro p hp
  have h : ∀ (l : List Ml), ∀ q ∈ l.zip l, q.1 = q.2 := by
    intro l
    induction l with
    | nil => intro q hq; simp at hq
    | cons x l ih =>
      intro q hq
      rcases List.mem_cons.1 (by simpa using hq) with rfl | hq
      · rfl
      · exact ih q hq
  rw [h a p hp]
  simp

end Go.Proofs.YtbbmgandkmlojaaGreat.In
