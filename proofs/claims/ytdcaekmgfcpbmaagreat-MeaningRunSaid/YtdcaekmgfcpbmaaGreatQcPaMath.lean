/-
  What is proved here: plain facts on distances in a graph: what is gone along, over and over, comes to rest; at rest it is tight; just one row is tight. No program.
-/
import Derived.Test.YtdcaekmgfcpbmaaGreatQcPtG1x
import Derived.Test.YtdcaekmgfcpbmaaGreatQcRkMathx
namespace Go.Proofs.YtdcaekmgfcpbmaaGreat.Pa
open Gr Fx
def itr {α : Type} (f : α → α) : Nat → α → α
  | 0, x => x
  | n + 1, x => itr f n (f x)
theorem itr_same {α : Type} (f : α → α) {x : α} (h : f x = x) : ∀ n, itr f n x = x
  | 0 => rfl
  | n + 1 => by rw [itr, h]; exact itr_same f h n
theorem itr_add {α : Type} (f : α → α) : ∀ (m n : Nat) (x : α), itr f (m + n) x = itr f n (itr f m x)
  | 0, n, x => by rw [Nat.zero_add]; rfl
  | m + 1, n, x => by rw [show m + 1 + n = (m + n) + 1 by omega, itr, itr_add f m n, itr]
theorem itr_next {α : Type} (f : α → α) (n : Nat) (x : α) : itr f (n + 1) x = f (itr f n x) := by rw [itr_add f n 1 x]; rfl
theorem itr_keep {α : Type} {f : α → α} (P : α → Prop) (hP : ∀ x, P x → P (f x)) : ∀ n x, P x → P (itr f n x)
  | 0, _, h => h
  | n + 1, x, h => itr_keep P hP n (f x) (hP x h)
theorem itr_rest {α : Type} {f : α → α} (P : α → Prop) (p : α → Int) (V : Int) (hP : ∀ x, P x → P (f x)) (hb : ∀ x, P x → p x ≤ V) (hs : ∀ x, P x → f x = x ∨ p x < p (f x)) :
    ∀ (n : Nat) (x : α), P x → V ≤ (n : Int) + p x → f (itr f n x) = itr f n x
  | 0, x, h, hn => by
    rcases hs x h with h1 | h1
    · exact h1
    · have := hb _ (hP x h); omega
  | n + 1, x, h, hn => by
    rcases hs x h with h1 | h1
    · rw [itr_same f h1]; exact h1
    · exact itr_rest P p V hP hb hs n (f x) (hP x h) (by omega)
theorem fold_keep {α β : Type} {g : α → β → α} (P : α → Prop) : ∀ (L : List β) (x : α), (∀ x, ∀ e ∈ L, P x → P (g x e)) → P x → P (L.foldl g x)
  | [], _, _, h => h
  | e :: L, x, hP, h => fold_keep P L (g x e) (fun x e' he => hP x e' (List.mem_cons_of_mem _ he)) (hP x e List.mem_cons_self h)
theorem fold_more {α β : Type} {g : α → β → α} (P : α → Prop) (p : α → Int) : ∀ (L : List β) (x : α), (∀ x, ∀ e ∈ L, P x → P (g x e)) → (∀ x, ∀ e ∈ L, P x → g x e = x ∨ p x < p (g x e)) → P x →
    (L.foldl g x = x ∧ ∀ e ∈ L, g x e = x) ∨ p x < p (L.foldl g x)
  | [], x, _, _, _ => Or.inl ⟨rfl, fun e he => by cases he⟩
  | e :: L, x, hP, hs, h => by
    have hP' := fun x e' he => hP x e' (List.mem_cons_of_mem e he)
    have hs' := fun x e' he => hs x e' (List.mem_cons_of_mem e he)
    rcases hs x e List.mem_cons_self h with h1 | h1
    · rcases fold_more P p L x hP' hs' h with ⟨h2, h3⟩ | h2
      · refine Or.inl ⟨by rw [List.foldl_cons, h1]; exact h2, fun e' he => ?_⟩
        rcases List.mem_cons.1 he with rfl | he
        · exact h1
        · exact h3 e' he
      · exact Or.inr (by rw [List.foldl_cons, h1]; exact h2)
    · refine Or.inr ?_
      rw [List.foldl_cons]
      rcases fold_more P p L (g x e) hP' hs' (hP x e List.mem_cons_self h) with ⟨h2, _⟩ | h2
      · rw [h2]; exact h1
      · omega
def vl (l : List Int) (k : Nat) : Int := l.getD k 0
def bt (r : List Bool) (k : Nat) : Bool := r.getD k false
theorem vl_of {l : List Int} {k : Nat} {x : Int} (h : l[k]? = some x) : vl l k = x := by unfold vl; rw [List.getD_eq_getElem?_getD, h]; rfl
theorem vl_at {l : List Int} {k : Nat} (h : k < l.length) : l[k]? = some (vl l k) := by unfold vl; rw [List.getD_eq_getElem?_getD, List.getElem?_eq_getElem h]; rfl
theorem bt_of {l : List Bool} {k : Nat} {x : Bool} (h : l[k]? = some x) : bt l k = x := by unfold bt; rw [List.getD_eq_getElem?_getD, h]; rfl
theorem bt_at {l : List Bool} {k : Nat} (h : k < l.length) : l[k]? = some (bt l k) := by unfold bt; rw [List.getD_eq_getElem?_getD, List.getElem?_eq_getElem h]; rfl
theorem vl_set (l : List Int) (k : Nat) (x : Int) (j : Nat) (h : k < l.length) : vl (l.set k x) j = if k = j then x else vl l j := by
  unfold vl
  rw [List.getD_eq_getElem?_getD, List.getD_eq_getElem?_getD, List.getElem?_set]
  by_cases hj : k = j
  · subst hj; rw [if_pos rfl, if_pos h, if_pos rfl]; rfl
  · rw [if_neg hj, if_neg hj]
theorem bt_set (l : List Bool) (k : Nat) (x : Bool) (j : Nat) (h : k < l.length) : bt (l.set k x) j = if k = j then x else bt l j := by
  unfold bt
  rw [List.getD_eq_getElem?_getD, List.getD_eq_getElem?_getD, List.getElem?_set]
  by_cases hj : k = j
  · subst hj; rw [if_pos rfl, if_pos h, if_pos rfl]; rfl
  · rw [if_neg hj, if_neg hj]
theorem vl_ext {a b : List Int} (hl : a.length = b.length) (h : ∀ k, k < a.length → vl a k = vl b k) : a = b := by
  apply List.ext_getElem? ; intro k
  rcases Nat.lt_or_ge k a.length with hk | hk
  · rw [vl_at hk, vl_at (by omega : k < b.length), h k hk]
  · rw [List.getElem?_eq_none hk, List.getElem?_eq_none (by omega)]
theorem vl_same {l : List Int} {k : Nat} (h : k < l.length) : l.set k (vl l k) = l := by
  refine vl_ext (by simp) fun j _ => ?_
  rw [vl_set _ _ _ _ h]; split
  · rename_i e; rw [e]
  · rfl
def cnt : List Bool → Int
  | [] => 0
  | b :: r => (if b then 1 else 0) + cnt r
theorem cnt_le : ∀ r : List Bool, 0 ≤ cnt r ∧ cnt r ≤ (r.length : Int)
  | [] => by simp [cnt]
  | b :: r => by
    have := cnt_le r
    rw [cnt, List.length_cons]
    split <;> omega
def tot : List Int → Int
  | [] => 0
  | x :: l => x + tot l
theorem tot_set : ∀ (l : List Int) (k : Nat) (x : Int), k < l.length → tot (l.set k x) = tot l - vl l k + x
  | [], k, _, h => by simp at h
  | y :: l, 0, x, _ => by
    show x + tot l = y + tot l - vl (y :: l) 0 + x
    have : vl (y :: l) 0 = y := rfl
    rw [this]; omega
  | y :: l, k + 1, x, h => by
    show y + tot (l.set k x) = y + tot l - vl (y :: l) (k + 1) + x
    rw [tot_set l k x (by simpa using h)]
    have : vl (y :: l) (k + 1) = vl l k := by unfold vl; simp
    rw [this]; omega
theorem tot_pos : ∀ l : List Int, (∀ k, k < l.length → 0 ≤ vl l k) → 0 ≤ tot l
  | [], _ => by simp [tot]
  | y :: l, h => by
    have h0 := h 0 (by simp)
    have : vl (y :: l) 0 = y := rfl
    rw [this] at h0
    have h1 := tot_pos l fun k hk => by
      have := h (k + 1) (by simpa using hk)
      have e : vl (y :: l) (k + 1) = vl l k := by unfold vl; simp
      rwa [e] at this
    rw [tot]; omega
theorem dst_mono {a b : Int} (h : a ≤ b) : dst a ≤ dst b := by unfold dst; (repeat' split) <;> omega
theorem addI_mono {a b : Int} (c : Int) (h : a ≤ b) : addI a c ≤ addI b c := by
  have := dst_mono h
  unfold addI; (repeat' split) <;> omega
theorem addI_just {a b c : Int} (ha : 0 ≤ a) (h : a < b) (hb : b ≤ 4611686018427387904) (hc : addI b c < 4611686018427387904) : addI a c < addI b c := by
  have ea := dst_id a ha (by omega)
  have eb := dst_id b (by omega) hb
  revert hc
  unfold addI
  rw [ea, eb]
  (repeat' split) <;> omega
def fr (e : Ed) : Nat := e.1.toNat
def to (e : Ed) : Nat := e.2.1.toNat
def gv (l : List Int) (e : Ed) : Int := addI (vl l (fr e)) e.2.2
theorem gv_in (l : List Int) (e : Ed) : 0 ≤ gv l e ∧ gv l e ≤ 4611686018427387904 := addI_in _ _
def Fits (V : Nat) (L : List Ed) : Prop := ∀ e ∈ L, fr e < V ∧ to e < V
theorem fits_of {V : Nat} {L : List Ed} (h : chk (V : Int) L = 0) : Fits V L := by
  obtain ⟨_, _, _, h, _⟩ := (chk_zero _ _).1 h
  intro e he
  have := (fitE_iff _ _).1 (h e he)
  unfold fr to; omega
def rlx (l : List Int) (e : Ed) : List Int := l.set (to e) (min (vl l (to e)) (gv l e))
def rlxA (L : List Ed) (l : List Int) : List Int := L.foldl rlx l
def start (V s : Nat) : List Int := (List.replicate V 4611686018427387904).set s 0
theorem rlx_len (l : List Int) (e : Ed) : (rlx l e).length = l.length := by unfold rlx; simp
theorem rlx_at {l : List Int} {e : Ed} (h : to e < l.length) (k : Nat) : vl (rlx l e) k = if to e = k then min (vl l (to e)) (gv l e) else vl l k := by
  unfold rlx; rw [vl_set _ _ _ _ h]
theorem rlx_le {l : List Int} {e : Ed} (h : to e < l.length) (k : Nat) : vl (rlx l e) k ≤ vl l k := by
  rw [rlx_at h]; split
  · rename_i h1; subst h1; omega
  · omega
theorem rlx_step {l : List Int} {e : Ed} (h : to e < l.length) : rlx l e = l ∨ -tot l < -tot (rlx l e) := by
  by_cases hg : vl l (to e) ≤ gv l e
  · left; unfold rlx; rw [show min (vl l (to e)) (gv l e) = vl l (to e) by omega]; exact vl_same h
  · right; unfold rlx; rw [tot_set _ _ _ h]; omega
theorem rlx_back {l : List Int} {e : Ed} (h : to e < l.length) (hr : rlx l e = l) : vl l (to e) ≤ gv l e := by
  have := rlx_at h (to e)
  rw [if_pos rfl, hr] at this; omega
inductive Wk (L : List Ed) (s : Nat) : Nat → Int → Prop
  | src : Wk L s s 0
  | step {e : Ed} {x : Int} : e ∈ L → Wk L s (fr e) x → Wk L s (to e) (addI x e.2.2)
inductive Rc (L : List Ed) (s : Nat) (l : List Int) : Nat → Prop
  | src : Rc L s l s
  | step {e : Ed} : e ∈ L → Rc L s l (fr e) → gv l e = vl l (to e) → Rc L s l (to e)
structure Inv (V : Nat) (L : List Ed) (s : Nat) (l : List Int) : Prop where
  len : l.length = V
  in_ : ∀ k, k < V → 0 ≤ vl l k ∧ vl l k ≤ 4611686018427387904
  src : vl l s = 0
  walk : ∀ k, k < V → vl l k = 4611686018427387904 ∨ Wk L s k (vl l k)
structure Tight (V : Nat) (L : List Ed) (s : Nat) (l : List Int) : Prop where
  len : l.length = V
  in_ : ∀ k, k < V → 0 ≤ vl l k ∧ vl l k ≤ 4611686018427387904
  src : vl l s = 0
  near : ∀ e ∈ L, vl l (to e) ≤ gv l e
  held : ∀ k, k < V → vl l k = 4611686018427387904 ∨ Rc L s l k
theorem inv_start {V s : Nat} (L : List Ed) (hs : s < V) : Inv V L s (start V s) := by
  have hv : ∀ k, k < V → vl (start V s) k = if s = k then 0 else 4611686018427387904 := fun k hk => by
    unfold start; rw [vl_set _ _ _ _ (by simp; exact hs)]
    split
    · rfl
    · exact vl_of (by rw [List.getElem?_replicate, if_pos hk])
  refine ⟨by unfold start; simp, fun k hk => ?_, ?_, fun k hk => ?_⟩
  · rw [hv k hk]; split <;> omega
  · rw [hv s hs, if_pos rfl]
  · rw [hv k hk]; split
    · rename_i h; subst h; exact Or.inr .src
    · exact Or.inl rfl
theorem Inv.rlx {V s : Nat} {L : List Ed} {l : List Int} (h : Inv V L s l) (hF : Fits V L) (e : Ed) (he : e ∈ L) : Inv V L s (rlx l e) := by
  obtain ⟨hf, ht⟩ := hF e he
  have hT : to e < l.length := by rw [h.len]; exact ht
  have hg := gv_in l e
  refine ⟨by rw [rlx_len]; exact h.len, fun k hk => ?_, ?_, fun k hk => ?_⟩
  · rw [rlx_at hT]; have := h.in_ k hk; have := h.in_ _ ht; split <;> omega
  · rw [rlx_at hT]; split
    · rename_i h1; rw [h1, h.src]; omega
    · exact h.src
  · rw [rlx_at hT]
    by_cases h1 : to e = k
    · subst h1
      rw [if_pos rfl]
      by_cases hm : vl l (to e) ≤ gv l e
      · rw [show min (vl l (to e)) (gv l e) = vl l (to e) by omega]; exact h.walk _ ht
      · rw [show min (vl l (to e)) (gv l e) = gv l e by omega]
        rcases h.walk _ hf with hw | hw
        · left
          have : gv l e = 4611686018427387904 := by
            unfold gv; rw [hw]; unfold addI
            have := dst_in e.2.2
            rw [show dst 4611686018427387904 = 4611686018427387904 from by decide]
            split <;> omega
          exact this
        · exact Or.inr (.step he hw)
    · rw [if_neg h1]; exact h.walk k hk
theorem Inv.all {V s : Nat} {L : List Ed} {l : List Int} (h : Inv V L s l) (hF : Fits V L) : Inv V L s (rlxA L l) :=
  fold_keep (Inv V L s) L l (fun _ e he h => h.rlx hF e he) h
theorem rlxA_step {V s : Nat} {L : List Ed} {l : List Int} (h : Inv V L s l) (hF : Fits V L) : (rlxA L l = l ∧ ∀ e ∈ L, rlx l e = l) ∨ -tot l < -tot (rlxA L l) :=
  fold_more (Inv V L s) (fun l => -tot l) L l (fun _ e he h => h.rlx hF e he) (fun _ e he h => rlx_step (by rw [h.len]; exact (hF e he).2)) h
theorem rest_near {V s : Nat} {L : List Ed} {l : List Int} (h : Inv V L s l) (hF : Fits V L) (hr : rlxA L l = l) : ∀ e ∈ L, vl l (to e) ≤ gv l e := fun e he => by
  rcases rlxA_step h hF with ⟨_, h1⟩ | h1
  · exact rlx_back (by rw [h.len]; exact (hF e he).2) (h1 e he)
  · rw [hr] at h1; omega
theorem Inv.tot {V s : Nat} {L : List Ed} {l : List Int} (h : Inv V L s l) : -tot l ≤ 0 := by
  have := tot_pos l fun k hk => (h.in_ k (by rw [h.len] at hk; exact hk)).1
  omega
theorem walk_held {V s : Nat} {L : List Ed} {l : List Int} (hF : Fits V L) (h : Inv V L s l) (hn : ∀ e ∈ L, vl l (to e) ≤ gv l e) (hs : s < V) : ∀ k x, Wk L s k x → k < V ∧ 0 ≤ x ∧ x ≤ 4611686018427387904 ∧ vl l k ≤ x ∧ (vl l k = x → x < 4611686018427387904 → Rc L s l k) := by
  intro k x hw
  induction hw with
  | src => exact ⟨hs, by omega, by omega, by rw [h.src]; omega, fun _ _ => .src⟩
  | @step e x he _ ih =>
    obtain ⟨_, h0, h1, h2, h3⟩ := ih
    have hx := addI_in x e.2.2
    have hm := addI_mono e.2.2 h2
    have hg := hn e he
    refine ⟨(hF e he).2, hx.1, hx.2, ?_, fun h4 h5 => ?_⟩
    · unfold gv at hg; omega
    · have e1 : gv l e = vl l (to e) := by unfold gv at hg ⊢; omega
      refine .step he ?_ e1
      have hv := h.in_ _ (hF e he).1
      have e2 : vl l (fr e) = x := by
        rcases Int.lt_or_le (vl l (fr e)) x with h6 | h6
        · have := addI_just hv.1 h6 h1 h5
          unfold gv at hg e1; omega
        · omega
      refine h3 e2 ?_
      rcases addI_ge x e.2.2 with h7 | h7
      · omega
      · omega
theorem rest_tight {V s : Nat} {L : List Ed} {l : List Int} (hF : Fits V L) (h : Inv V L s l) (hr : rlxA L l = l) (hs : s < V) : Tight V L s l := by
  have hn := rest_near h hF hr
  refine ⟨h.len, h.in_, h.src, hn, fun k hk => ?_⟩
  rcases h.walk k hk with hw | hw
  · exact Or.inl hw
  · have := h.in_ k hk
    rcases Int.lt_or_le (vl l k) 4611686018427387904 with h6 | h6
    · exact Or.inr ((walk_held hF h hn hs k _ hw).2.2.2.2 rfl h6)
    · exact Or.inl (by omega)
def eqs : List Int → List Int → Int
  | x :: l, y :: m => (if x = y then 1 else 0) + eqs l m
  | _, _ => 0
theorem vl_succ (x : Int) (l : List Int) (k : Nat) : vl (x :: l) (k + 1) = vl l k := by unfold vl; simp
theorem eqs_le : ∀ l m : List Int, 0 ≤ eqs l m ∧ eqs l m ≤ (l.length : Int)
  | [], _ => by simp [eqs]
  | x :: l, [] => by simp [eqs]; omega
  | x :: l, y :: m => by
    have := eqs_le l m
    rw [eqs, List.length_cons]; split <;> omega
theorem eqs_mono : ∀ a b m : List Int, a.length = m.length → b.length = m.length → (∀ k, k < m.length → vl a k = vl m k → vl b k = vl m k) → eqs a m ≤ eqs b m
  | [], _, [], _, _, _ => by simp [eqs]
  | _ :: _, _, [], h1, _, _ => by simp at h1
  | [], _, _ :: _, h1, _, _ => by simp at h1
  | _ :: _, [], _ :: _, _, h2, _ => by simp at h2
  | x :: a, y :: b, z :: m, h1, h2, h => by
    have h3 := eqs_mono a b m (by simpa using h1) (by simpa using h2) fun k hk => by
      have := h (k + 1) (by simpa using hk)
      rwa [vl_succ, vl_succ, vl_succ] at this
    have h4 : x = z → y = z := h 0 (by simp)
    rw [eqs, eqs]
    by_cases hx : x = z
    · rw [if_pos hx, if_pos (h4 hx)]; omega
    · rw [if_neg hx]; split <;> omega
theorem eqs_lt : ∀ (a b m : List Int) (j : Nat), a.length = m.length → b.length = m.length → (∀ k, k < m.length → vl a k = vl m k → vl b k = vl m k) → j < m.length → vl a j ≠ vl m j → vl b j = vl m j → eqs a m < eqs b m
  | _, _, [], _, _, _, _, hj, _, _ => by simp at hj
  | [], _, _ :: _, _, h1, _, _, _, _, _ => by simp at h1
  | _ :: _, [], _ :: _, _, _, h2, _, _, _, _ => by simp at h2
  | x :: a, y :: b, z :: m, 0, h1, h2, h, _, hx, hy => by
    have h3 := eqs_mono a b m (by simpa using h1) (by simpa using h2) fun k hk => by
      have := h (k + 1) (by simpa using hk)
      rwa [vl_succ, vl_succ, vl_succ] at this
    have hx' : ¬ x = z := hx
    have hy' : y = z := hy
    rw [eqs, eqs, if_neg hx', if_pos hy']; omega
  | x :: a, y :: b, z :: m, j + 1, h1, h2, h, hj, hx, hy => by
    rw [vl_succ, vl_succ] at hx hy
    have h3 := eqs_lt a b m j (by simpa using h1) (by simpa using h2) (fun k hk => by
      have := h (k + 1) (by simpa using hk)
      rwa [vl_succ, vl_succ, vl_succ] at this) (by simpa using hj) hx hy
    have h4 : x = z → y = z := h 0 (by simp)
    rw [eqs, eqs]
    by_cases hx : x = z
    · rw [if_pos hx, if_pos (h4 hx)]; omega
    · rw [if_neg hx]; split <;> omega
def Abv (V : Nat) (d l : List Int) : Prop := ∀ k, k < V → vl d k ≤ vl l k
theorem Abv.rlx {V s : Nat} {L : List Ed} {d l : List Int} (hd : Tight V L s d) (hF : Fits V L) (h : Abv V d l) (hl : l.length = V) (e : Ed) (he : e ∈ L) : Abv V d (rlx l e) := fun k hk => by
  obtain ⟨hf, ht⟩ := hF e he
  rw [rlx_at (by rw [hl]; exact ht)]
  split
  · rename_i h1; subst h1
    have h2 := h _ hk
    have h3 := addI_mono e.2.2 (h _ hf)
    have h4 := hd.near e he
    unfold gv at h4 ⊢; omega
  · exact h k hk
theorem abv_all {V s : Nat} {L : List Ed} {d : List Int} (hd : Tight V L s d) (hF : Fits V L) (M : List Ed) (hM : ∀ e ∈ M, e ∈ L) (l : List Int) (h : Abv V d l) (hl : l.length = V) : Abv V d (rlxA M l) ∧ (rlxA M l).length = V ∧ ∀ k, k < V → vl (rlxA M l) k ≤ vl l k := by
  induction M generalizing l with
  | nil => exact ⟨h, hl, fun k _ => by show vl l k ≤ vl l k; omega⟩
  | cons e M ih =>
    have he := hM e List.mem_cons_self
    obtain ⟨h1, h2, h3⟩ := ih (fun x hx => hM x (List.mem_cons_of_mem _ hx)) (Pa.rlx l e) (h.rlx hd hF hl e he) (by rw [rlx_len]; exact hl)
    refine ⟨h1, h2, fun k hk => ?_⟩
    have := h3 k hk
    have := rlx_le (l := l) (e := e) (by rw [hl]; exact (hF e he).2) k
    show vl (rlxA M (Pa.rlx l e)) k ≤ _
    omega
theorem settle {V s : Nat} {L : List Ed} {d : List Int} (hd : Tight V L s d) (hF : Fits V L) (g : Ed) (hg : g ∈ L) (ht : gv d g = vl d (to g)) : ∀ (M : List Ed), (∀ e ∈ M, e ∈ L) → g ∈ M → ∀ l : List Int, Abv V d l → l.length = V → vl l (fr g) = vl d (fr g) → vl (rlxA M l) (to g) = vl d (to g)
  | [], _, h, _, _, _, _ => by cases h
  | e :: M, hM, h, l, ha, hl, hu => by
    have he := hM e List.mem_cons_self
    have hM' := fun x hx => hM x (List.mem_cons_of_mem e hx)
    have ha' := ha.rlx hd hF hl e he
    have hl' : (rlx l e).length = V := by rw [rlx_len]; exact hl
    obtain ⟨gf, gt⟩ := hF g hg
    obtain ⟨h1, h2, h3⟩ := abv_all hd hF M hM' (rlx l e) ha' hl'
    show vl (rlxA M (rlx l e)) (to g) = _
    rcases List.mem_cons.1 h with rfl | h
    · have h4 := h3 _ gt
      have h5 := h1 _ gt
      rw [rlx_at (by rw [hl]; exact gt), if_pos rfl] at h4
      have : gv l g = gv d g := by unfold gv; rw [hu]
      omega
    · refine settle hd hF g hg ht M hM' h (rlx l e) ha' hl' ?_
      have h4 := rlx_le (l := l) (e := e) (by rw [hl]; exact (hF e he).2) (fr g)
      have h5 := ha' _ gf
      omega
theorem not_yet {s : Nat} {L : List Ed} {d l : List Int} (hs : vl l s = vl d s) (k : Nat) (h : Rc L s d k) (hk : vl l k ≠ vl d k) : ∃ g ∈ L, gv d g = vl d (to g) ∧ vl l (fr g) = vl d (fr g) ∧ vl l (to g) ≠ vl d (to g) := by
  induction h with
  | src => exact absurd hs hk
  | @step e he _ hg ih =>
    by_cases hf : vl l (fr e) = vl d (fr e)
    · exact ⟨e, he, hg, hf, hk⟩
    · exact ih hf
theorem pick_no {a b : List Int} (hl : a.length = b.length) (h : a ≠ b) : ∃ k, k < a.length ∧ vl a k ≠ vl b k := by
  apply Classical.byContradiction
  intro hn
  exact h (vl_ext hl fun k hk => Classical.byContradiction fun hc => hn ⟨k, hk, hc⟩)
theorem rlxA_more {V s : Nat} {L : List Ed} {d l : List Int} (hd : Tight V L s d) (hF : Fits V L) (h : Inv V L s l) (ha : Abv V d l) (hr : rlxA L d = d) : rlxA L l = l ∨ eqs l d < eqs (rlxA L l) d := by
  by_cases he : l = d
  · left; rw [he]; exact hr
  · right
    obtain ⟨k, hk, hne⟩ := pick_no (by rw [h.len, hd.len]) he
    rw [h.len] at hk
    have hR : Rc L s d k := by
      rcases hd.held k hk with h1 | h1
      · have := ha k hk; have := h.in_ k hk; omega
      · exact h1
    obtain ⟨g, hg, h1, h2, h3⟩ := not_yet (by rw [h.src, hd.src]) k hR hne
    obtain ⟨a1, a2, a3⟩ := abv_all hd hF L (fun _ h => h) l ha h.len
    refine eqs_lt l (rlxA L l) d (to g) (by rw [h.len, hd.len]) (by rw [a2, hd.len]) (fun j hj hj2 => ?_) (by rw [hd.len]; exact (hF g hg).2) h3 (settle hd hF g hg h1 L (fun _ h => h) hg l ha h.len h2)
    rw [hd.len] at hj
    have := a1 j hj; have := a3 j hj; omega
def far (V s : Nat) (L : List Ed) : List Int := itr (rlxA L) V (start V s)
theorem far_tight {V s : Nat} {L : List Ed} (hF : Fits V L) (hs : s < V) : Tight V L s (far V s L) := by
  have h0 := inv_start L hs
  have hall : ∀ l, Inv V L s l → Inv V L s (rlxA L l) := fun l h => h.all hF
  obtain ⟨N, hN⟩ : ∃ N : Nat, (N : Int) = Pa.tot (start V s) := ⟨(Pa.tot (start V s)).toNat, by have := h0.tot; omega⟩
  have hd := itr_rest (f := rlxA L) (Inv V L s) (fun l => -Pa.tot l) 0 hall (fun l h => h.tot) (fun l h => (rlxA_step h hF).imp (fun h => h.1) id) N (start V s) h0 (by omega)
  have hi := itr_keep (Inv V L s) hall N _ h0
  have hT := rest_tight hF hi hd hs
  have habv : Abv V (itr (rlxA L) N (start V s)) (start V s) := by
    intro k hk
    have hv : vl (start V s) k = if s = k then 0 else 4611686018427387904 := by
      unfold start; rw [vl_set _ _ _ _ (by simp; exact hs)]
      split
      · rfl
      · exact vl_of (by rw [List.getElem?_replicate, if_pos hk])
    rw [hv]; split
    · rename_i h; subst h; rw [hT.src]; omega
    · exact (hT.in_ k hk).2
  have hall2 : ∀ l, Inv V L s l ∧ Abv V (itr (rlxA L) N (start V s)) l → Inv V L s (rlxA L l) ∧ Abv V (itr (rlxA L) N (start V s)) (rlxA L l) := fun l h => ⟨h.1.all hF, (abv_all hT hF L (fun _ h => h) l h.2 h.1.len).1⟩
  have hrest := itr_rest (f := rlxA L) (fun l => Inv V L s l ∧ Abv V (itr (rlxA L) N (start V s)) l) (fun l => eqs l (itr (rlxA L) N (start V s))) V hall2 (fun l h => by have := (eqs_le l (itr (rlxA L) N (start V s))).2; rw [h.1.len] at this; exact this)
    (fun l h => rlxA_more hT hF h.1 h.2 hd) V (start V s) ⟨h0, habv⟩ (by have := (eqs_le (start V s) (itr (rlxA L) N (start V s))).1; omega)
  exact rest_tight hF (itr_keep (Inv V L s) hall V _ h0) hrest hs
def one (V s : Nat) : List Bool := (List.replicate V false).set s true
theorem one_at {V s : Nat} (hs : s < V) (k : Nat) : bt (one V s) k = decide (s = k) := by
  unfold one; rw [bt_set _ _ _ _ (by simp; exact hs)]
  by_cases h : s = k
  · simp [h]
  · rw [if_neg h]
    unfold bt; rw [List.getD_eq_getElem?_getD, List.getElem?_replicate]
    split <;> simp [h]
theorem one_len (V s : Nat) : (one V s).length = V := by unfold one; simp
end Go.Proofs.YtdcaekmgfcpbmaaGreat.Pa
