/-
  What is proved here: plain facts on distances in a graph: what is gone along, over and over, comes to rest; at rest it is tight; just one row is tight. No program.
-/
import Derived.Test.YtfbfckdabbaocaaQbPtMathx
import Derived.Test.YtfbfckdabbaocaaQbFxMath
namespace Go.Proofs.Ytfbfckdabbaocaa.Fx
end Go.Proofs.Ytfbfckdabbaocaa.Fx
namespace Go.Proofs.Ytfbfckdabbaocaa.Gr
end Go.Proofs.Ytfbfckdabbaocaa.Gr
namespace Go.Proofs.Ytfbfckdabbaocaa.Pa
open Gr Fx
def itr {α : Type} (f : α → α) : Nat → α → α
  | 0, x => x
  | n + 1, x => itr f n (f x)
theorem itr_add {α : Type} (f : α → α) : ∀ (m n : Nat) (x : α), itr f (m + n) x = itr f n (itr f m x)
  | 0, n, x => by rw [Nat.zero_add]; rfl
  | m + 1, n, x => by rw [show m + 1 + n = (m + n) + 1 by omega, itr, itr_add f m n, itr]
theorem itr_next {α : Type} (f : α → α) (n : Nat) (x : α) : itr f (n + 1) x = f (itr f n x) := by rw [itr_add f n 1 x]; rfl
theorem itr_keep {α : Type} {f : α → α} (P : α → Prop) (hP : ∀ x, P x → P (f x)) : ∀ n x, P x → P (itr f n x)
  | 0, _, h => h
  | n + 1, x, h => itr_keep P hP n (f x) (hP x h)
theorem fold_keep {α β : Type} {g : α → β → α} (P : α → Prop) : ∀ (L : List β) (x : α), (∀ x, ∀ e ∈ L, P x → P (g x e)) → P x → P (L.foldl g x)
  | [], _, _, h => h
  | e :: L, x, hP, h => fold_keep P L (g x e) (fun x e' he => hP x e' (List.mem_cons_of_mem _ he)) (hP x e List.mem_cons_self h)
def vl (l : List Int) (k : Nat) : Int := l.getD k 0
def bt (r : List Bool) (k : Nat) : Bool := r.getD k false
theorem vl_of {l : List Int} {k : Nat} {x : Int} (h : l[k]? = some x) : vl l k = x := by unfold vl; rw [List.getD_eq_getElem?_getD, h]; rfl
theorem vl_at {l : List Int} {k : Nat} (h : k < l.length) : l[k]? = some (vl l k) := by unfold vl; rw [List.getD_eq_getElem?_getD, List.getElem?_eq_getElem h]; rfl
theorem bt_of {l : List Bool} {k : Nat} {x : Bool} (h : l[k]? = some x) : bt l k = x := by unfold bt; rw [List.getD_eq_getElem?_getD, h]; rfl
theorem bt_at {l : List Bool} {k : Nat} (h : k < l.length) : l[k]? = some (bt l k) := by unfold bt; rw [List.getD_eq_getElem?_getD, List.getElem?_eq_getElem h]; rfl
theorem vl_set (l : List Int) (k : Nat) (x : Int) (j : Nat) (h : k < l.length) : vl (l.set k x) j = if k = j then x else vl l j := by
  unfold vl
  rw [List.getD_eq_getElem?_getD, List.getD_eq_getElem?_getD, List.getElem?_set]
  by_cases hj : k = j
  · subst hj; rw [if_pos rfl, if_pos h, if_pos rfl]; rfl
  · rw [if_neg hj, if_neg hj]
theorem vl_ext {a b : List Int} (hl : a.length = b.length) (h : ∀ k, k < a.length → vl a k = vl b k) : a = b := by
  apply List.ext_getElem? ; intro k
  rcases Nat.lt_or_ge k a.length with hk | hk
  · rw [vl_at hk, vl_at (by omega : k < b.length), h k hk]
  · rw [List.getElem?_eq_none hk, List.getElem?_eq_none (by omega)]
theorem dst_mono {a b : Int} (h : a ≤ b) : dst a ≤ dst b := by unfold dst; (repeat' split) <;> omega
theorem addI_mono {a b : Int} (c : Int) (h : a ≤ b) : addI a c ≤ addI b c := by
  have := dst_mono h
  unfold addI; (repeat' split) <;> omega
def fr (e : Ed) : Nat := e.1.toNat
def to (e : Ed) : Nat := e.2.1.toNat
def gv (l : List Int) (e : Ed) : Int := addI (vl l (fr e)) e.2.2
theorem gv_in (l : List Int) (e : Ed) : 0 ≤ gv l e ∧ gv l e ≤ 4611686018427387904 := addI_in _ _
def Fits (V : Nat) (L : List Ed) : Prop := ∀ e ∈ L, fr e < V ∧ to e < V
def rlx (l : List Int) (e : Ed) : List Int := l.set (to e) (min (vl l (to e)) (gv l e))
def rlxA (L : List Ed) (l : List Int) : List Int := L.foldl rlx l
theorem rlx_len (l : List Int) (e : Ed) : (rlx l e).length = l.length := by unfold rlx; simp
theorem rlx_at {l : List Int} {e : Ed} (h : to e < l.length) (k : Nat) : vl (rlx l e) k = if to e = k then min (vl l (to e)) (gv l e) else vl l k := by
  unfold rlx; rw [vl_set _ _ _ _ h]
inductive Wk (L : List Ed) (s : Nat) : Nat → Int → Prop
  | src : Wk L s s 0
  | step {e : Ed} {x : Int} : e ∈ L → Wk L s (fr e) x → Wk L s (to e) (addI x e.2.2)
inductive Rc (L : List Ed) (s : Nat) (l : List Int) : Nat → Prop
  | src : Rc L s l s
  | step {e : Ed} : e ∈ L → Rc L s l (fr e) → gv l e = vl l (to e) → Rc L s l (to e)
structure Inv (V : Nat) (L : List Ed) (s : Nat) (l : List Int) : Prop where
  len : l.length = V
  in_ : ∀ k, k < V → 0 ≤ vl l k ∧ vl l k ≤ 4611686018427387904
  src : vl l s = 0
  walk : ∀ k, k < V → vl l k = 4611686018427387904 ∨ Wk L s k (vl l k)
structure Tight (V : Nat) (L : List Ed) (s : Nat) (l : List Int) : Prop where
  len : l.length = V
  in_ : ∀ k, k < V → 0 ≤ vl l k ∧ vl l k ≤ 4611686018427387904
  src : vl l s = 0
  near : ∀ e ∈ L, vl l (to e) ≤ gv l e
  held : ∀ k, k < V → vl l k = 4611686018427387904 ∨ Rc L s l k
theorem Inv.rlx {V s : Nat} {L : List Ed} {l : List Int} (h : Inv V L s l) (hF : Fits V L) (e : Ed) (he : e ∈ L) : Inv V L s (rlx l e) := by
  obtain ⟨hf, ht⟩ := hF e he
  have hT : to e < l.length := by rw [h.len]; exact ht
  have hg := gv_in l e
  refine ⟨by rw [rlx_len]; exact h.len, fun k hk => ?_, ?_, fun k hk => ?_⟩
  · rw [rlx_at hT]; have := h.in_ k hk; have := h.in_ _ ht; split <;> omega
  · rw [rlx_at hT]; split
    · rename_i h1; rw [h1, h.src]; omega
    · exact h.src
  · rw [rlx_at hT]
    by_cases h1 : to e = k
    · subst h1
      rw [if_pos rfl]
      by_cases hm : vl l (to e) ≤ gv l e
      · rw [show min (vl l (to e)) (gv l e) = vl l (to e) by omega]; exact h.walk _ ht
      · rw [show min (vl l (to e)) (gv l e) = gv l e by omega]
        rcases h.walk _ hf with hw | hw
        · left
          have : gv l e = 4611686018427387904 := by
            unfold gv; rw [hw]; unfold addI
            have := dst_in e.2.2
            rw [show dst 4611686018427387904 = 4611686018427387904 from by decide]
            split <;> omega
          exact this
        · exact Or.inr (.step he hw)
    · rw [if_neg h1]; exact h.walk k hk
theorem Inv.all {V s : Nat} {L : List Ed} {l : List Int} (h : Inv V L s l) (hF : Fits V L) : Inv V L s (rlxA L l) :=
  fold_keep (Inv V L s) L l (fun _ e he h => h.rlx hF e he) h
def Abv (V : Nat) (d l : List Int) : Prop := ∀ k, k < V → vl d k ≤ vl l k
theorem Abv.rlx {V s : Nat} {L : List Ed} {d l : List Int} (hd : Tight V L s d) (hF : Fits V L) (h : Abv V d l) (hl : l.length = V) (e : Ed) (he : e ∈ L) : Abv V d (rlx l e) := fun k hk => by
  obtain ⟨hf, ht⟩ := hF e he
  rw [rlx_at (by rw [hl]; exact ht)]
  split
  · rename_i h1; subst h1
    have h2 := h _ hk
    have h3 := addI_mono e.2.2 (h _ hf)
    have h4 := hd.near e he
    unfold gv at h4 ⊢; omega
  · exact h k hk
def one (V s : Nat) : List Bool := (List.replicate V false).set s true
end Go.Proofs.Ytfbfckdabbaocaa.Pa
