/-
  What is proved here: plain facts on mail: what all messages of a row come to at a vertex, in whatever order, however cut, folded ahead or not, split by workers or not. No program.
-/
import Derived.Test.YtbbmgandkmlojaaGreatAlMath
import Derived.Test.YtbbmgandkmlojaaGreatPtMath
namespace Go.Proofs.YtbbmgandkmlojaaGreat.In
open Gr Fx Rk Lb Al Pt
def mst (k v : Int) (o : Option Int) (x : Ms) : Option Int := if x.1 = v then (match o with | none => some x.2 | some y => some (comb k y x.2)) else o
def mailM (k v : Int) (l : List Ms) : Option Int := l.foldl (mst k v) none
def jn (k : Int) : Option Int → Option Int → Option Int
  | none, b => b
  | some a, none => some a
  | some a, some b => some (comb k a b)
theorem mailM_snoc (k v : Int) (l : List Ms) (x : Ms) : mailM k v (l ++ [x]) = mst k v (mailM k v l) x := by simp [mailM, List.foldl_append]
theorem jn_none (k : Int) (a : Option Int) : jn k a none = a := by cases a <;> rfl
theorem jn_comm (k : Int) (a b : Option Int) : jn k a b = jn k b a := by
  cases a <;> cases b <;> simp [jn, comb_comm]
theorem jn_assoc (k : Int) (a b c : Option Int) : jn k (jn k a b) c = jn k a (jn k b c) := by
  cases a <;> cases b <;> cases c <;> simp [jn, comb_assoc]
theorem mst_jn (k v : Int) (o : Option Int) (x : Ms) : mst k v o x = jn k o (if x.1 = v then some x.2 else none) := by
  unfold mst
  split
  · cases o <;> rfl
  · rw [jn_none]
theorem foldl_mst (k v : Int) : ∀ (l : List Ms) (o : Option Int), l.foldl (mst k v) o = jn k o (mailM k v l)
  | [], o => by simp [mailM, jn_none]
  | x :: l, o => by
    show l.foldl (mst k v) (mst k v o x) = jn k o (l.foldl (mst k v) (mst k v none x))
    rw [foldl_mst k v l, foldl_mst k v l, mst_jn, mst_jn, jn_assoc]
    rfl
theorem mailM_app (k v : Int) (l m : List Ms) : mailM k v (l ++ m) = jn k (mailM k v l) (mailM k v m) := by
  unfold mailM; rw [List.foldl_append]; exact foldl_mst k v m _
theorem mailM_one (k v : Int) (x : Ms) : mailM k v [x] = if x.1 = v then some x.2 else none := by
  show mst k v none x = _
  unfold mst; rfl
theorem mailM_cons (k v : Int) (x : Ms) (l : List Ms) : mailM k v (x :: l) = jn k (if x.1 = v then some x.2 else none) (mailM k v l) := by
  rw [show x :: l = [x] ++ l from rfl, mailM_app, mailM_one]
theorem mailM_nil (k v : Int) : mailM k v [] = none := rfl
theorem mailM_off (k v : Int) : ∀ {l : List Ms}, (∀ x ∈ l, x.1 ≠ v) → mailM k v l = none
  | [], _ => rfl
  | x :: l, h => by rw [mailM_cons, if_neg (h x List.mem_cons_self), mailM_off k v fun y hy => h y (List.mem_cons_of_mem _ hy)]; rfl
theorem mailM_insM (k v : Int) (m : Ms) : ∀ {l : List Ms}, UpM l → mailM k v (insM k l m) = jn k (mailM k v l) (if m.1 = v then some m.2 else none)
  | [], _ => by show mailM k v [m] = _; rw [mailM_one, mailM_nil]; rfl
  | x :: l, h => by
    obtain ⟨_, h2⟩ := List.pairwise_cons.1 h
    unfold insM
    split
    · rw [mailM_cons, mailM_cons, mailM_insM k v m h2, jn_assoc]
    · split
      · rename_i _ e
        rw [mailM_cons, mailM_cons, jn_assoc, jn_comm k (mailM k v l), ← jn_assoc]
        congr 1
        simp only [e]
        split <;> rfl
      · rw [mailM_cons, jn_comm]
theorem mailM_putM (k v : Int) : ∀ (xs : List Ms) {l : List Ms}, UpM l → mailM k v (putM k l xs) = jn k (mailM k v l) (mailM k v xs)
  | [], l, _ => by rw [mailM_nil, jn_none]; rfl
  | x :: xs, l, h => by
    show mailM k v (putM k (insM k l x) xs) = _
    rw [mailM_putM k v xs (up_insM h), mailM_insM k v x h, mailM_cons, jn_assoc]
theorem mailM_fold (k v : Int) (l : List Ms) : mailM k v (putM k [] l) = mailM k v l := by
  rw [mailM_putM k v l (by simp [UpM]), mailM_nil]; rfl
abbrev Ml := Bool × Int
def mlOf : Option Int → Ml
  | none => (false, 0)
  | some x => (true, x)
def mergeM (k : Int) (own : List Int) (rows : List (List Ms)) : List Ml := own.map fun v => mlOf (mailM k v rows.flatten)
theorem mergeM_len (k : Int) (own : List Int) (rows : List (List Ms)) : (mergeM k own rows).length = own.length := by simp [mergeM]
def sameB (a b : List Ml) : Bool := a.length == b.length && (a.zip b).all fun p => p.1.1 == p.2.1 && (!p.1.1 || p.1.2 == p.2.2)
theorem sameB_refl (a : List Ml) : sameB a a = true := by
  unfold sameB
  simp only [beq_self_eq_true, Bool.true_and, List.all_eq_true]
  intro p hp
  have h : ∀ (l : List Ml), ∀ q ∈ l.zip l, q.1 = q.2 := by
    intro l
    induction l with
    | nil => intro q hq; simp at hq
    | cons x l ih =>
      intro q hq
      rcases List.mem_cons.1 (by simpa using hq) with rfl | hq
      · rfl
      · exact ih q hq
  rw [h a p hp]
  simp
end Go.Proofs.YtbbmgandkmlojaaGreat.In
