/-
  What is proved here: plain facts on distances in a graph: what is gone along, over and over, comes to rest; at rest it is tight; just one row is tight. No program. What is proved here: the contract of the document's own Check: may a graph be? Conditions: numbers and counts fit an int. What is proved here: contracts of graph.Out and graph.Back (and of the closures that choose), and of the document's own Out and Back: the edges from, and to, a vertex. Conditions: at most 100000 edges. What is proved here: contracts of graph.Out and graph.Back, and of the document's own Out and Back: the edges from, and to, a vertex. Conditions: at most 100000 edges.
-/
import Derived.Test.YtdcaekmgfcpbmaaGreatQdPtMathx
import Derived.Test.YtdcaekmgfcpbmaaGreatQdRkMathx
namespace Go.Proofs.YtdcaekmgfcpbmaaGreat.Pa
open Gr Fx
def itr {α:Type} (f:α->α):Nat->α->α
 | 0,x => x
 | n + 1,x => itr f n (f x)
theorem itr_same {α:Type} (f:α->α) {x:α} (h:f x = x):∀ n,itr f n x = x
 | 0 => rfl
 | n + 1 => by rw [itr,h]; exact itr_same f h n
theorem itr_add {α:Type} (f:α->α):∀ (m n:Nat) (x:α),itr f (m + n) x = itr f n (itr f m x)
 | 0,n,x => by rw [Nat.zero_add]; rfl
 | m + 1,n,x => by rw [show m + 1 + n = (m + n) + 1 by omega,itr,itr_add f m n,itr]
theorem itr_next {α:Type} (f:α->α) (n:Nat) (x:α):itr f (n + 1) x = f (itr f n x):=by rw [itr_add f n 1 x]; rfl
theorem itr_keep {α:Type} {f:α->α} (P:α->Prop) (hP:∀ x,P x->P (f x)):∀ n x,P x->P (itr f n x)
 | 0,_,h => h
 | n + 1,x,h => itr_keep P hP n (f x) (hP x h)
theorem itr_rest {α:Type} {f:α->α} (P:α->Prop) (p:α->Int) (V:Int) (hP:∀ x,P x->P (f x)) (hb:∀ x,P x->p x <= V) (hs:∀ x,P x->f x = x\/p x < p (f x)) :
 ∀ (n:Nat) (x:α),P x->V <= (n:Int) + p x->f (itr f n x) = itr f n x
 | 0,x,h,hn => by
  rcases hs x h with h1 | h1
  ·exact h1
  ·have:=hb _ (hP x h); omega
 | n + 1,x,h,hn => by
  rcases hs x h with h1 | h1
  ·rw [itr_same f h1]; exact h1
  ·exact itr_rest P p V hP hb hs n (f x) (hP x h) (by omega)
theorem fold_keep {α β:Type} {g:α->β->α} (P:α->Prop):∀ (L:List β) (x:α),(∀ x,∀ e ∈ L,P x->P (g x e))->P x->P (L.foldl g x)
 | [],_,_,h => h
 | e :: L,x,hP,h => fold_keep P L (g x e) (fun x e' he => hP x e' (List.mem_cons_of_mem _ he)) (hP x e List.mem_cons_self h)
theorem fold_more {α β:Type} {g:α->β->α} (P:α->Prop) (p:α->Int):∀ (L:List β) (x:α),(∀ x,∀ e ∈ L,P x->P (g x e))->(∀ x,∀ e ∈ L,P x->g x e = x\/p x < p (g x e))->P x ->
 (L.foldl g x = x/\∀ e ∈ L,g x e = x)\/p x < p (L.foldl g x)
 | [],x,_,_,_ => Or.inl ⟨rfl,fun e he => by cases he⟩
 | e :: L,x,hP,hs,h => by
  have hP':=fun x e' he => hP x e' (List.mem_cons_of_mem e he)
  have hs':=fun x e' he => hs x e' (List.mem_cons_of_mem e he)
  rcases hs x e List.mem_cons_self h with h1 | h1
  ·rcases fold_more P p L x hP' hs' h with ⟨h2,h3⟩ | h2
   ·refine Or.inl ⟨by rw [List.foldl_cons,h1]; exact h2,fun e' he => ?_⟩
    rcases List.mem_cons.1 he with rfl | he
    ·exact h1
    ·exact h3 e' he
   ·exact Or.inr (by rw [List.foldl_cons,h1]; exact h2)
  ·refine Or.inr ?_
   rw [List.foldl_cons]
   rcases fold_more P p L (g x e) hP' hs' (hP x e List.mem_cons_self h) with ⟨h2,_⟩ | h2
   ·rw [h2]; exact h1
   ·omega
def vl (l:List Int) (k:Nat):Int:=l.getD k 0
def bt (r:List Bool) (k:Nat):Bool:=r.getD k false
theorem vl_of {l:List Int} {k:Nat} {x:Int} (h:l[k]? = some x):vl l k = x:=by unfold vl; rw [List.getD_eq_getElem?_getD,h]; rfl
theorem vl_at {l:List Int} {k:Nat} (h:k < l.length):l[k]? = some (vl l k):=by unfold vl; rw [List.getD_eq_getElem?_getD,List.getElem?_eq_getElem h]; rfl
theorem bt_of {l:List Bool} {k:Nat} {x:Bool} (h:l[k]? = some x):bt l k = x:=by unfold bt; rw [List.getD_eq_getElem?_getD,h]; rfl
theorem bt_at {l:List Bool} {k:Nat} (h:k < l.length):l[k]? = some (bt l k):=by unfold bt; rw [List.getD_eq_getElem?_getD,List.getElem?_eq_getElem h]; rfl
theorem vl_set (l:List Int) (k:Nat) (x:Int) (j:Nat) (h:k < l.length):vl (l.set k x) j = if k = j then x else vl l j:=by
 unfold vl
 rw [List.getD_eq_getElem?_getD,List.getD_eq_getElem?_getD,List.getElem?_set]
 by_cases hj:k = j
 ·subst hj; rw [if_pos rfl,if_pos h,if_pos rfl]; rfl
 ·rw [if_neg hj,if_neg hj]
theorem bt_set (l:List Bool) (k:Nat) (x:Bool) (j:Nat) (h:k < l.length):bt (l.set k x) j = if k = j then x else bt l j:=by
 unfold bt
 rw [List.getD_eq_getElem?_getD,List.getD_eq_getElem?_getD,List.getElem?_set]
 by_cases hj:k = j
 ·subst hj; rw [if_pos rfl,if_pos h,if_pos rfl]; rfl
 ·rw [if_neg hj,if_neg hj]
theorem vl_ext {a b:List Int} (hl:a.length = b.length) (h:∀ k,k < a.length->vl a k = vl b k):a = b:=by
 apply List.ext_getElem? ; intro k
 rcases Nat.lt_or_ge k a.length with hk | hk
 ·rw [vl_at hk,vl_at (by omega:k < b.length),h k hk]
 ·rw [List.getElem?_eq_none hk,List.getElem?_eq_none (by omega)]
theorem vl_same {l:List Int} {k:Nat} (h:k < l.length):l.set k (vl l k) = l:=by
 refine vl_ext (by simp) fun j _ => ?_
 rw [vl_set _ _ _ _ h]; split
 ·rename_i e; rw [e]
 ·rfl
theorem bt_same {r:List Bool} {k:Nat} (h:bt r k = true):r.set k true = r:=by
 apply List.ext_getElem? ; intro j
 rw [List.getElem?_set]
 by_cases hj:k = j
 ·subst hj
  rw [if_pos rfl]
  by_cases hk:k < r.length
  ·rw [if_pos hk,bt_at hk,h]
  ·rw [if_neg hk,List.getElem?_eq_none (by omega)]
 ·rw [if_neg hj]
def cnt:List Bool->Int
 | [] => 0
 | b :: r => (if b then 1 else 0) + cnt r
theorem cnt_le:∀ r:List Bool,0 <= cnt r/\cnt r <= (r.length:Int)
 | [] => by simp [cnt]
 | b :: r => by
  have:=cnt_le r
  rw [cnt,List.length_cons]
  split <;> omega
theorem cnt_set:∀ (r:List Bool) (k:Nat),k < r.length->bt r k = false->cnt (r.set k true) = cnt r + 1
 | [],k,h,_ => by simp at h
 | b :: r,0,_,hb => by
  have:b = false:=by simpa [bt] using hb
  subst this
  show cnt (true :: r) = cnt (false :: r) + 1
  simp [cnt]; omega
 | b :: r,k + 1,h,hb => by
  have h1:=cnt_set r k (by simpa using h) (by simpa [bt] using hb)
  show cnt (b :: r.set k true) = cnt (b :: r) + 1
  rw [cnt,cnt,h1]; omega
def tot:List Int->Int
 | [] => 0
 | x :: l => x + tot l
theorem tot_set:∀ (l:List Int) (k:Nat) (x:Int),k < l.length->tot (l.set k x) = tot l - vl l k + x
 | [],k,_,h => by simp at h
 | y :: l,0,x,_ => by
  show x + tot l = y + tot l - vl (y :: l) 0 + x
  have:vl (y :: l) 0 = y:=rfl
  rw [this]; omega
 | y :: l,k + 1,x,h => by
  show y + tot (l.set k x) = y + tot l - vl (y :: l) (k + 1) + x
  rw [tot_set l k x (by simpa using h)]
  have:vl (y :: l) (k + 1) = vl l k:=by unfold vl; simp
  rw [this]; omega
theorem tot_pos:∀ l:List Int,(∀ k,k < l.length->0 <= vl l k)->0 <= tot l
 | [],_ => by simp [tot]
 | y :: l,h => by
  have h0:=h 0 (by simp)
  have:vl (y :: l) 0 = y:=rfl
  rw [this] at h0
  have h1:=tot_pos l fun k hk => by
   have:=h (k + 1) (by simpa using hk)
   have e:vl (y :: l) (k + 1) = vl l k:=by unfold vl; simp
   rwa [e] at this
  rw [tot]; omega
theorem dst_mono {a b:Int} (h:a <= b):dst a <= dst b:=by unfold dst; (repeat' split) <;> omega
theorem addI_mono {a b:Int} (c:Int) (h:a <= b):addI a c <= addI b c:=by
 have:=dst_mono h
 unfold addI; (repeat' split) <;> omega
theorem addI_just {a b c:Int} (ha:0 <= a) (h:a < b) (hb:b <= 4611686018427387904) (hc:addI b c < 4611686018427387904):addI a c < addI b c:=by
 have ea:=dst_id a ha (by omega)
 have eb:=dst_id b (by omega) hb
 revert hc
 unfold addI
 rw [ea,eb]
 (repeat' split) <;> omega
def fr (e:Ed):Nat:=e.1.toNat
def to (e:Ed):Nat:=e.2.1.toNat
def gv (l:List Int) (e:Ed):Int:=addI (vl l (fr e)) e.2.2
theorem gv_in (l:List Int) (e:Ed):0 <= gv l e/\gv l e <= 4611686018427387904:=addI_in _ _
def Fits (V:Nat) (L:List Ed):Prop:=∀ e ∈ L,fr e < V/\to e < V
theorem fits_of {V:Nat} {L:List Ed} (h:chk (V:Int) L = 0):Fits V L:=by
 obtain ⟨_,_,_,h,_⟩:=(chk_zero _ _).1 h
 intro e he
 have:=(fitE_iff _ _).1 (h e he)
 unfold fr to; omega
def rlx (l:List Int) (e:Ed):List Int:=l.set (to e) (min (vl l (to e)) (gv l e))
def rlxA (L:List Ed) (l:List Int):List Int:=L.foldl rlx l
def start (V s:Nat):List Int:=(List.replicate V 4611686018427387904).set s 0
theorem rlx_len (l:List Int) (e:Ed):(rlx l e).length = l.length:=by unfold rlx; simp
theorem rlx_at {l:List Int} {e:Ed} (h:to e < l.length) (k:Nat):vl (rlx l e) k = if to e = k then min (vl l (to e)) (gv l e) else vl l k:=by
 unfold rlx; rw [vl_set _ _ _ _ h]
theorem rlx_le {l:List Int} {e:Ed} (h:to e < l.length) (k:Nat):vl (rlx l e) k <= vl l k:=by
 rw [rlx_at h]; split
 ·rename_i h1; subst h1; omega
 ·omega
theorem rlx_step {l:List Int} {e:Ed} (h:to e < l.length):rlx l e = l\/-tot l < -tot (rlx l e):=by
 by_cases hg:vl l (to e) <= gv l e
 ·left; unfold rlx; rw [show min (vl l (to e)) (gv l e) = vl l (to e) by omega]; exact vl_same h
 ·right; unfold rlx; rw [tot_set _ _ _ h]; omega
theorem rlx_back {l:List Int} {e:Ed} (h:to e < l.length) (hr:rlx l e = l):vl l (to e) <= gv l e:=by
 have:=rlx_at h (to e)
 rw [if_pos rfl,hr] at this; omega
inductive Wk (L:List Ed) (s:Nat):Nat->Int->Prop
 | src:Wk L s s 0
 | step {e:Ed} {x:Int}:e ∈ L->Wk L s (fr e) x->Wk L s (to e) (addI x e.2.2)
inductive Rc (L:List Ed) (s:Nat) (l:List Int):Nat->Prop
 | src:Rc L s l s
 | step {e:Ed}:e ∈ L->Rc L s l (fr e)->gv l e = vl l (to e)->Rc L s l (to e)
structure Inv (V:Nat) (L:List Ed) (s:Nat) (l:List Int):Prop where
 len:l.length = V
 in_:∀ k,k < V->0 <= vl l k/\vl l k <= 4611686018427387904
 src:vl l s = 0
 walk:∀ k,k < V->vl l k = 4611686018427387904\/Wk L s k (vl l k)
structure Tight (V:Nat) (L:List Ed) (s:Nat) (l:List Int):Prop where
 len:l.length = V
 in_:∀ k,k < V->0 <= vl l k/\vl l k <= 4611686018427387904
 src:vl l s = 0
 near:∀ e ∈ L,vl l (to e) <= gv l e
 held:∀ k,k < V->vl l k = 4611686018427387904\/Rc L s l k
theorem inv_start {V s:Nat} (L:List Ed) (hs:s < V):Inv V L s (start V s):=by
 have hv:∀ k,k < V->vl (start V s) k = if s = k then 0 else 4611686018427387904:=fun k hk => by
  unfold start; rw [vl_set _ _ _ _ (by simp; exact hs)]
  split
  ·rfl
  ·exact vl_of (by rw [List.getElem?_replicate,if_pos hk])
 refine ⟨by unfold start; simp,fun k hk => ?_,?_,fun k hk => ?_⟩
 ·rw [hv k hk]; split <;> omega
 ·rw [hv s hs,if_pos rfl]
 ·rw [hv k hk]; split
  ·rename_i h; subst h; exact Or.inr .src
  ·exact Or.inl rfl
theorem Inv.rlx {V s:Nat} {L:List Ed} {l:List Int} (h:Inv V L s l) (hF:Fits V L) (e:Ed) (he:e ∈ L):Inv V L s (rlx l e):=by
 obtain ⟨hf,ht⟩:=hF e he
 have hT:to e < l.length:=by rw [h.len]; exact ht
 have hg:=gv_in l e
 refine ⟨by rw [rlx_len]; exact h.len,fun k hk => ?_,?_,fun k hk => ?_⟩
 ·rw [rlx_at hT]; have:=h.in_ k hk; have:=h.in_ _ ht; split <;> omega
 ·rw [rlx_at hT]; split
  ·rename_i h1; rw [h1,h.src]; omega
  ·exact h.src
 ·rw [rlx_at hT]
  by_cases h1:to e = k
  ·subst h1
   rw [if_pos rfl]
   by_cases hm:vl l (to e) <= gv l e
   ·rw [show min (vl l (to e)) (gv l e) = vl l (to e) by omega]; exact h.walk _ ht
   ·rw [show min (vl l (to e)) (gv l e) = gv l e by omega]
    rcases h.walk _ hf with hw | hw
    ·left
     have:gv l e = 4611686018427387904:=by
      unfold gv; rw [hw]; unfold addI
      have:=dst_in e.2.2
      rw [show dst 4611686018427387904 = 4611686018427387904 from by decide]
      split <;> omega
     exact this
    ·exact Or.inr (.step he hw)
  ·rw [if_neg h1]; exact h.walk k hk
theorem Inv.all {V s:Nat} {L:List Ed} {l:List Int} (h:Inv V L s l) (hF:Fits V L):Inv V L s (rlxA L l) :=
 fold_keep (Inv V L s) L l (fun _ e he h => h.rlx hF e he) h
theorem rlxA_step {V s:Nat} {L:List Ed} {l:List Int} (h:Inv V L s l) (hF:Fits V L):(rlxA L l = l/\∀ e ∈ L,rlx l e = l)\/-tot l < -tot (rlxA L l) :=
 fold_more (Inv V L s) (fun l => -tot l) L l (fun _ e he h => h.rlx hF e he) (fun _ e he h => rlx_step (by rw [h.len]; exact (hF e he).2)) h
theorem rest_near {V s:Nat} {L:List Ed} {l:List Int} (h:Inv V L s l) (hF:Fits V L) (hr:rlxA L l = l):∀ e ∈ L,vl l (to e) <= gv l e:=fun e he => by
 rcases rlxA_step h hF with ⟨_,h1⟩ | h1
 ·exact rlx_back (by rw [h.len]; exact (hF e he).2) (h1 e he)
 ·rw [hr] at h1; omega
theorem Inv.tot {V s:Nat} {L:List Ed} {l:List Int} (h:Inv V L s l):-tot l <= 0:=by
 have:=tot_pos l fun k hk => (h.in_ k (by rw [h.len] at hk; exact hk)).1
 omega
theorem walk_held {V s:Nat} {L:List Ed} {l:List Int} (hF:Fits V L) (h:Inv V L s l) (hn:∀ e ∈ L,vl l (to e) <= gv l e) (hs:s < V):∀ k x,Wk L s k x->k < V/\0 <= x/\x <= 4611686018427387904/\vl l k <= x/\(vl l k = x->x < 4611686018427387904->Rc L s l k):=by
 intro k x hw
 induction hw with
 | src => exact ⟨hs,by omega,by omega,by rw [h.src]; omega,fun _ _ => .src⟩
 | @step e x he _ ih =>
  obtain ⟨_,h0,h1,h2,h3⟩:=ih
  have hx:=addI_in x e.2.2
  have hm:=addI_mono e.2.2 h2
  have hg:=hn e he
  refine ⟨(hF e he).2,hx.1,hx.2,?_,fun h4 h5 => ?_⟩
  ·unfold gv at hg; omega
  ·have e1:gv l e = vl l (to e):=by unfold gv at hg ⊢; omega
   refine .step he ?_ e1
   have hv:=h.in_ _ (hF e he).1
   have e2:vl l (fr e) = x:=by
    rcases Int.lt_or_le (vl l (fr e)) x with h6 | h6
    ·have:=addI_just hv.1 h6 h1 h5
     unfold gv at hg e1; omega
    ·omega
   refine h3 e2 ?_
   rcases addI_ge x e.2.2 with h7 | h7
   ·omega
   ·omega
theorem rest_tight {V s:Nat} {L:List Ed} {l:List Int} (hF:Fits V L) (h:Inv V L s l) (hr:rlxA L l = l) (hs:s < V):Tight V L s l:=by
 have hn:=rest_near h hF hr
 refine ⟨h.len,h.in_,h.src,hn,fun k hk => ?_⟩
 rcases h.walk k hk with hw | hw
 ·exact Or.inl hw
 ·have:=h.in_ k hk
  rcases Int.lt_or_le (vl l k) 4611686018427387904 with h6 | h6
  ·exact Or.inr ((walk_held hF h hn hs k _ hw).2.2.2.2 rfl h6)
  ·exact Or.inl (by omega)
def eqs:List Int->List Int->Int
 | x :: l,y :: m => (if x = y then 1 else 0) + eqs l m
 | _,_ => 0
theorem vl_succ (x:Int) (l:List Int) (k:Nat):vl (x :: l) (k + 1) = vl l k:=by unfold vl; simp
theorem eqs_le:∀ l m:List Int,0 <= eqs l m/\eqs l m <= (l.length:Int)
 | [],_ => by simp [eqs]
 | x :: l,[] => by simp [eqs]; omega
 | x :: l,y :: m => by
  have:=eqs_le l m
  rw [eqs,List.length_cons]; split <;> omega
theorem eqs_mono:∀ a b m:List Int,a.length = m.length->b.length = m.length->(∀ k,k < m.length->vl a k = vl m k->vl b k = vl m k)->eqs a m <= eqs b m
 | [],_,[],_,_,_ => by simp [eqs]
 | _ :: _,_,[],h1,_,_ => by simp at h1
 | [],_,_ :: _,h1,_,_ => by simp at h1
 | _ :: _,[],_ :: _,_,h2,_ => by simp at h2
 | x :: a,y :: b,z :: m,h1,h2,h => by
  have h3:=eqs_mono a b m (by simpa using h1) (by simpa using h2) fun k hk => by
   have:=h (k + 1) (by simpa using hk)
   rwa [vl_succ,vl_succ,vl_succ] at this
  have h4:x = z->y = z:=h 0 (by simp)
  rw [eqs,eqs]
  by_cases hx:x = z
  ·rw [if_pos hx,if_pos (h4 hx)]; omega
  ·rw [if_neg hx]; split <;> omega
theorem eqs_lt:∀ (a b m:List Int) (j:Nat),a.length = m.length->b.length = m.length->(∀ k,k < m.length->vl a k = vl m k->vl b k = vl m k)->j < m.length->vl a j ≠ vl m j->vl b j = vl m j->eqs a m < eqs b m
 | _,_,[],_,_,_,_,hj,_,_ => by simp at hj
 | [],_,_ :: _,_,h1,_,_,_,_,_ => by simp at h1
 | _ :: _,[],_ :: _,_,_,h2,_,_,_,_ => by simp at h2
 | x :: a,y :: b,z :: m,0,h1,h2,h,_,hx,hy => by
  have h3:=eqs_mono a b m (by simpa using h1) (by simpa using h2) fun k hk => by
   have:=h (k + 1) (by simpa using hk)
   rwa [vl_succ,vl_succ,vl_succ] at this
  have hx':¬ x = z:=hx
  have hy':y = z:=hy
  rw [eqs,eqs,if_neg hx',if_pos hy']; omega
 | x :: a,y :: b,z :: m,j + 1,h1,h2,h,hj,hx,hy => by
  rw [vl_succ,vl_succ] at hx hy
  have h3:=eqs_lt a b m j (by simpa using h1) (by simpa using h2) (fun k hk => by
   have:=h (k + 1) (by simpa using hk)
   rwa [vl_succ,vl_succ,vl_succ] at this) (by simpa using hj) hx hy
  have h4:x = z->y = z:=h 0 (by simp)
  rw [eqs,eqs]
  by_cases hx:x = z
  ·rw [if_pos hx,if_pos (h4 hx)]; omega
  ·rw [if_neg hx]; split <;> omega
def Abv (V:Nat) (d l:List Int):Prop:=∀ k,k < V->vl d k <= vl l k
theorem Abv.rlx {V s:Nat} {L:List Ed} {d l:List Int} (hd:Tight V L s d) (hF:Fits V L) (h:Abv V d l) (hl:l.length = V) (e:Ed) (he:e ∈ L):Abv V d (rlx l e):=fun k hk => by
 obtain ⟨hf,ht⟩:=hF e he
 rw [rlx_at (by rw [hl]; exact ht)]
 split
 ·rename_i h1; subst h1
  have h2:=h _ hk
  have h3:=addI_mono e.2.2 (h _ hf)
  have h4:=hd.near e he
  unfold gv at h4 ⊢; omega
 ·exact h k hk
theorem abv_all {V s:Nat} {L:List Ed} {d:List Int} (hd:Tight V L s d) (hF:Fits V L) (M:List Ed) (hM:∀ e ∈ M,e ∈ L) (l:List Int) (h:Abv V d l) (hl:l.length = V):Abv V d (rlxA M l)/\(rlxA M l).length = V/\∀ k,k < V->vl (rlxA M l) k <= vl l k:=by
 induction M generalizing l with
 | nil => exact ⟨h,hl,fun k _ => by show vl l k <= vl l k; omega⟩
 | cons e M ih =>
  have he:=hM e List.mem_cons_self
  obtain ⟨h1,h2,h3⟩:=ih (fun x hx => hM x (List.mem_cons_of_mem _ hx)) (Pa.rlx l e) (h.rlx hd hF hl e he) (by rw [rlx_len]; exact hl)
  refine ⟨h1,h2,fun k hk => ?_⟩
  have:=h3 k hk
  have:=rlx_le (l:=l) (e:=e) (by rw [hl]; exact (hF e he).2) k
  show vl (rlxA M (Pa.rlx l e)) k <= _
  omega
theorem settle {V s:Nat} {L:List Ed} {d:List Int} (hd:Tight V L s d) (hF:Fits V L) (g:Ed) (hg:g ∈ L) (ht:gv d g = vl d (to g)):∀ (M:List Ed),(∀ e ∈ M,e ∈ L)->g ∈ M->∀ l:List Int,Abv V d l->l.length = V->vl l (fr g) = vl d (fr g)->vl (rlxA M l) (to g) = vl d (to g)
 | [],_,h,_,_,_,_ => by cases h
 | e :: M,hM,h,l,ha,hl,hu => by
  have he:=hM e List.mem_cons_self
  have hM':=fun x hx => hM x (List.mem_cons_of_mem e hx)
  have ha':=ha.rlx hd hF hl e he
  have hl':(rlx l e).length = V:=by rw [rlx_len]; exact hl
  obtain ⟨gf,gt⟩:=hF g hg
  obtain ⟨h1,h2,h3⟩:=abv_all hd hF M hM' (rlx l e) ha' hl'
  show vl (rlxA M (rlx l e)) (to g) = _
  rcases List.mem_cons.1 h with rfl | h
  ·have h4:=h3 _ gt
   have h5:=h1 _ gt
   rw [rlx_at (by rw [hl]; exact gt),if_pos rfl] at h4
   have:gv l g = gv d g:=by unfold gv; rw [hu]
   omega
  ·refine settle hd hF g hg ht M hM' h (rlx l e) ha' hl' ?_
   have h4:=rlx_le (l:=l) (e:=e) (by rw [hl]; exact (hF e he).2) (fr g)
   have h5:=ha' _ gf
   omega
theorem not_yet {s:Nat} {L:List Ed} {d l:List Int} (hs:vl l s = vl d s) (k:Nat) (h:Rc L s d k) (hk:vl l k ≠ vl d k):∃ g ∈ L,gv d g = vl d (to g)/\vl l (fr g) = vl d (fr g)/\vl l (to g) ≠ vl d (to g):=by
 induction h with
 | src => exact absurd hs hk
 | @step e he _ hg ih =>
  by_cases hf:vl l (fr e) = vl d (fr e)
  ·exact ⟨e,he,hg,hf,hk⟩
  ·exact ih hf
theorem pick_no {a b:List Int} (hl:a.length = b.length) (h:a ≠ b):∃ k,k < a.length/\vl a k ≠ vl b k:=by
 apply Classical.byContradiction
 intro hn
 exact h (vl_ext hl fun k hk => Classical.byContradiction fun hc => hn ⟨k,hk,hc⟩)
theorem rlxA_more {V s:Nat} {L:List Ed} {d l:List Int} (hd:Tight V L s d) (hF:Fits V L) (h:Inv V L s l) (ha:Abv V d l) (hr:rlxA L d = d):rlxA L l = l\/eqs l d < eqs (rlxA L l) d:=by
 by_cases he:l = d
 ·left; rw [he]; exact hr
 ·right
  obtain ⟨k,hk,hne⟩:=pick_no (by rw [h.len,hd.len]) he
  rw [h.len] at hk
  have hR:Rc L s d k:=by
   rcases hd.held k hk with h1 | h1
   ·have:=ha k hk; have:=h.in_ k hk; omega
   ·exact h1
  obtain ⟨g,hg,h1,h2,h3⟩:=not_yet (by rw [h.src,hd.src]) k hR hne
  obtain ⟨a1,a2,a3⟩:=abv_all hd hF L (fun _ h => h) l ha h.len
  refine eqs_lt l (rlxA L l) d (to g) (by rw [h.len,hd.len]) (by rw [a2,hd.len]) (fun j hj hj2 => ?_) (by rw [hd.len]; exact (hF g hg).2) h3 (settle hd hF g hg h1 L (fun _ h => h) hg l ha h.len h2)
  rw [hd.len] at hj
  have:=a1 j hj; have:=a3 j hj; omega
def far (V s:Nat) (L:List Ed):List Int:=itr (rlxA L) V (start V s)
theorem far_tight {V s:Nat} {L:List Ed} (hF:Fits V L) (hs:s < V):Tight V L s (far V s L):=by
 have h0:=inv_start L hs
 have hall:∀ l,Inv V L s l->Inv V L s (rlxA L l):=fun l h => h.all hF
 obtain ⟨N,hN⟩:∃ N:Nat,(N:Int) = Pa.tot (start V s):=⟨(Pa.tot (start V s)).toNat,by have:=h0.tot; omega⟩
 have hd:=itr_rest (f:=rlxA L) (Inv V L s) (fun l => -Pa.tot l) 0 hall (fun l h => h.tot) (fun l h => (rlxA_step h hF).imp (fun h => h.1) id) N (start V s) h0 (by omega)
 have hi:=itr_keep (Inv V L s) hall N _ h0
 have hT:=rest_tight hF hi hd hs
 have habv:Abv V (itr (rlxA L) N (start V s)) (start V s):=by
  intro k hk
  have hv:vl (start V s) k = if s = k then 0 else 4611686018427387904:=by
   unfold start; rw [vl_set _ _ _ _ (by simp; exact hs)]
   split
   ·rfl
   ·exact vl_of (by rw [List.getElem?_replicate,if_pos hk])
  rw [hv]; split
  ·rename_i h; subst h; rw [hT.src]; omega
  ·exact (hT.in_ k hk).2
 have hall2:∀ l,Inv V L s l/\Abv V (itr (rlxA L) N (start V s)) l->Inv V L s (rlxA L l)/\Abv V (itr (rlxA L) N (start V s)) (rlxA L l):=fun l h => ⟨h.1.all hF,(abv_all hT hF L (fun _ h => h) l h.2 h.1.len).1⟩
 have hrest:=itr_rest (f:=rlxA L) (fun l => Inv V L s l/\Abv V (itr (rlxA L) N (start V s)) l) (fun l => eqs l (itr (rlxA L) N (start V s))) V hall2 (fun l h => by have:=(eqs_le l (itr (rlxA L) N (start V s))).2; rw [h.1.len] at this; exact this)
  (fun l h => rlxA_more hT hF h.1 h.2 hd) V (start V s) ⟨h0,habv⟩ (by have:=(eqs_le (start V s) (itr (rlxA L) N (start V s))).1; omega)
 exact rest_tight hF (itr_keep (Inv V L s) hall V _ h0) hrest hs
def rst (l:List Int) (r:List Bool) (e:Ed):List Bool:=if bt r (fr e) = true/\gv l e = vl l (to e) then r.set (to e) true else r
def rstA (L:List Ed) (l:List Int) (r:List Bool):List Bool:=L.foldl (rst l) r
def one (V s:Nat):List Bool:=(List.replicate V false).set s true
def rch (V s:Nat) (L:List Ed) (l:List Int):List Bool:=itr (rstA L l) V (one V s)
theorem rst_len (l:List Int) (r:List Bool) (e:Ed):(rst l r e).length = r.length:=by unfold rst; split <;> simp
theorem rstA_len (L:List Ed) (l:List Int) (r:List Bool):(rstA L l r).length = r.length :=
 fold_keep (fun x => x.length = r.length) L r (fun x e _ h => by rw [rst_len]; exact h) rfl
theorem rst_step (l:List Int) {r:List Bool} {e:Ed} (h:to e < r.length):rst l r e = r\/cnt r < cnt (rst l r e):=by
 unfold rst; split
 ·cases hb:bt r (to e) with
  | true => exact Or.inl (bt_same hb)
  | false => right; rw [cnt_set r _ h hb]; omega
 ·exact Or.inl rfl
theorem rstA_step {V:Nat} {L:List Ed} (l:List Int) {r:List Bool} (hF:Fits V L) (h:r.length = V):(rstA L l r = r/\∀ e ∈ L,rst l r e = r)\/cnt r < cnt (rstA L l r) :=
 fold_more (fun r => r.length = V) cnt L r (fun x e _ h => by rw [rst_len]; exact h) (fun x e he h => rst_step l (by rw [h]; exact (hF e he).2)) h
theorem one_at {V s:Nat} (hs:s < V) (k:Nat):bt (one V s) k = decide (s = k):=by
 unfold one; rw [bt_set _ _ _ _ (by simp; exact hs)]
 by_cases h:s = k
 ·simp [h]
 ·rw [if_neg h]
  unfold bt; rw [List.getD_eq_getElem?_getD,List.getElem?_replicate]
  split <;> simp [h]
theorem one_len (V s:Nat):(one V s).length = V:=by unfold one; simp
theorem rch_rest {V s:Nat} {L:List Ed} (l:List Int) (hF:Fits V L):rstA L l (rch V s L l) = rch V s L l :=
 itr_rest (f:=rstA L l) (fun r => r.length = V) cnt V (fun r h => by rw [rstA_len]; exact h) (fun r h => by have:=(cnt_le r).2; rw [h] at this; exact this) (fun r h => (rstA_step l hF h).imp (fun h => h.1) id) V (one V s) (one_len V s) (by have:=(cnt_le (one V s)).1; omega)
theorem rch_len (V s:Nat) (L:List Ed) (l:List Int):(rch V s L l).length = V :=
 itr_keep (f:=rstA L l) (fun r:List Bool => r.length = V) (fun r h => by rw [rstA_len]; exact h) V _ (one_len V s)
theorem rch_one {V s:Nat} {L:List Ed} {l:List Int} (hF:Fits V L) (n:Nat) (r:List Bool) (hr:r = itr (rstA L l) n (one V s)) (h:rstA L l r = r):r = rch V s L l:=by
 rcases Nat.le_total n V with hn | hn
 ·obtain ⟨m,hm⟩:∃ m,V = n + m:=⟨V - n,by omega⟩
  have e:itr (rstA L l) V (one V s) = itr (rstA L l) m (itr (rstA L l) n (one V s)):=by rw [<- itr_add,<- hm]
  unfold rch; rw [e,<- hr,itr_same _ h]
 ·rw [hr,show n = V + (n - V) by omega,itr_add]
  exact itr_same _ (rch_rest l hF) _
theorem rch_sound {V s:Nat} {L:List Ed} {l:List Int} (hs:s < V):∀ k,bt (rch V s L l) k = true->Rc L s l k:=by
 refine itr_keep (f:=rstA L l) (fun r => ∀ k,bt r k = true->Rc L s l k) (fun r h => ?_) V (one V s) (fun k hk => ?_)
 ·refine fold_keep (fun r => ∀ k,bt r k = true->Rc L s l k) L r (fun r e he h k hk => ?_) h
  unfold rst at hk
  split at hk
  ·rename_i hc
   by_cases hl:to e < r.length
   ·rw [bt_set _ _ _ _ hl] at hk
    split at hk
    ·rename_i h2; subst h2; exact .step he (h _ hc.1) hc.2
    ·exact h k hk
   ·rw [List.set_eq_of_length_le (by omega)] at hk; exact h k hk
  ·exact h k hk
 ·rw [one_at hs] at hk
  have:s = k:=by simpa using hk
  subst this; exact .src
theorem rch_all {V s:Nat} {L:List Ed} {l:List Int} (hF:Fits V L) (hs:s < V):∀ k,Rc L s l k->bt (rch V s L l) k = true:=by
 intro k h
 have hlen:=rch_len V s L l
 induction h with
 | src =>
  refine itr_keep (f:=rstA L l) (fun r => r.length = V/\bt r s = true) (fun r h => ?_) V (one V s) ⟨one_len V s,by rw [one_at hs]; simp⟩ |>.2
  refine fold_keep (fun r => r.length = V/\bt r s = true) L r (fun r e he h => ⟨by rw [rst_len]; exact h.1,?_⟩) h
  unfold rst; split
  ·rw [bt_set _ _ _ _ (by rw [h.1]; exact (hF e he).2)]; split
   ·rfl
   ·exact h.2
  ·exact h.2
 | @step e he _ hg ih =>
  rcases rstA_step l hF hlen with ⟨_,h1⟩ | h1
  ·have h2:=h1 e he
   unfold rst at h2
   rw [if_pos ⟨ih,hg⟩] at h2
   rw [<- h2,bt_set _ _ _ _ (by rw [hlen]; exact (hF e he).2),if_pos rfl]
  ·rw [rch_rest l hF] at h1; omega
def nearB (l:List Int) (L:List Ed):Bool:=L.all fun e => decide (vl l (to e) <= gv l e)
def distB (l:List Int):Bool:=l.all fun x => decide (0 <= x) && decide (x <= 4611686018427387904)
def heldB (r:List Bool) (l:List Int):Nat->Nat->Bool
 | _,0 => true
 | k,g + 1 => (decide (vl l k = 4611686018427387904) || bt r k) && heldB r l (k + 1) g
theorem heldB_iff (r:List Bool) (l:List Int):∀ g k,heldB r l k g = true ↔ ∀ j,k <= j->j < k + g->vl l j = 4611686018427387904\/bt r j = true
 | 0,k => by simp only [heldB,true_iff]; intro j h1 h2; omega
 | g + 1,k => by
  rw [heldB,Bool.and_eq_true,Bool.or_eq_true,decide_eq_true_eq,heldB_iff r l g (k + 1)]
  constructor
  ·rintro ⟨h1,h2⟩ j h3 h4
   rcases Nat.eq_or_lt_of_le h3 with h5 | h5
   ·subst h5; exact h1
   ·exact h2 j (by omega) (by omega)
  ·intro h
   exact ⟨h k (by omega) (by omega),fun j h1 h2 => h j (by omega) (by omega)⟩
def okP (V:Int) (L:List Ed) (s:Int) (l:List Int):Bool:=decide (chk V L = 0) && decide (0 <= s) && decide (s < V) && decide ((l.length:Int) = V)
def inP (L:List Ed) (s:Nat) (l:List Int):Bool:=distB l && decide (vl l s = 0) && nearB l L && heldB (rch l.length s L l) l 0 l.length
def tgt (V:Int) (L:List Ed) (s:Int) (l:List Int):Bool:=okP V L s l && inP L s.toNat l
theorem distB_iff (l:List Int):distB l = true ↔ ∀ k,k < l.length->0 <= vl l k/\vl l k <= 4611686018427387904:=by
 unfold distB
 rw [List.all_eq_true]
 constructor
 ·intro h k hk
  have:=h _ (List.mem_of_getElem? (vl_at hk))
  simpa using this
 ·intro h x hx
  obtain ⟨k,hk,rfl⟩:=List.mem_iff_getElem.1 hx
  have h1:=h k hk
  rw [vl_of (List.getElem?_eq_getElem hk)] at h1
  simp; exact h1
theorem inP_iff {V s:Nat} {L:List Ed} {l:List Int} (hF:Fits V L) (hs:s < V) (hl:l.length = V):inP L s l = true ↔ Tight V L s l:=by
 unfold inP
 rw [Bool.and_eq_true,Bool.and_eq_true,Bool.and_eq_true,distB_iff,decide_eq_true_eq,heldB_iff,hl]
 unfold nearB
 rw [List.all_eq_true]
 constructor
 ·rintro ⟨⟨⟨h1,h2⟩,h3⟩,h4⟩
  refine ⟨hl,h1,h2,fun e he => by simpa using h3 e he,fun k hk => ?_⟩
  rcases h4 k (by omega) (by omega) with h | h
  ·exact Or.inl h
  ·exact Or.inr (rch_sound hs k h)
 ·intro h
  refine ⟨⟨⟨h.in_,h.src⟩,fun e he => by simpa using h.near e he⟩,fun k _ hk => ?_⟩
  rcases h.held k (by omega) with h1 | h1
  ·exact Or.inl h1
  ·exact Or.inr (rch_all hF hs k h1)
theorem okP_iff (V:Int) (L:List Ed) (s:Int) (l:List Int):okP V L s l = true ↔ chk V L = 0/\0 <= s/\s < V/\(l.length:Int) = V:=by
 unfold okP; simp only [Bool.and_eq_true,decide_eq_true_eq,and_assoc]
end Go.Proofs.YtdcaekmgfcpbmaaGreat.Pa
namespace Go.Proofs.YtdcaekmgfcpbmaaGreat.Gr
open Go.RowKit Wd Ws
set_option maxRecDepth 100000 in
set_option maxHeartbeats 600000 in
theorem rcheck_any (V:Int) (A:Option Addr) (c:Nat) (L:List Ed) (w:World) (hL:EAt w A L) (hm:L.length <= 9223372036854775807) :
 Calls Tryz.prog 24 #[.agg #[.int .i64 V,.slice A L.length c]] w fun e w' => e = .returned (.int .i64 (chk V L))/\Below w.heap.size w w':=by
 have mixed:=mixedO
 have HL:=jH hL; clear hL
 have hz:Below w.heap.size w (w.alloc (.cells #[.int .i64 V,.slice A L.length c] 24)):=(Below.refl _ w).alloc (Nat.le_refl _) _
 have HZ:=jH hz; clear hz
 by_cases hV:512 < V
 ·have hk:chk V L = 3:=by unfold chk; rw [if_pos (Or.inl hV)]
  rw [hk]; clear hk
  go_enter Tryz.func24,Tryz.ntmps24
  go_wp2
  go_ret
  exact ⟨rfl,HZ.out⟩
 ·by_cases hn:8192 < L.length
  ·have hk:chk V L = 3:=by unfold chk; rw [if_pos (Or.inr hn)]
   rw [hk]; clear hk
   go_enter Tryz.func24,Tryz.ntmps24
   go_wp2
   go_ret
   exact ⟨rfl,HZ.out⟩
  ·have hk:chk V L = if okL V none L then (if V < 1 then 40 else 0) else 40:=by
    unfold chk; rw [if_neg (by omega)]
    by_cases h1:V < 1
    ·rw [if_pos h1,if_pos h1]; split <;> rfl
    ·rw [if_neg h1,if_neg h1]
   rw [hk]
   clear hk
   obtain ⟨R,hR⟩:∃ R:Int,(if okL V none L then (if V < 1 then (40:Int) else 0) else 40) = R:=⟨_,rfl⟩
   rw [hR]
   have HRR:=jH hR; clear hR
   go_enter Tryz.func24,Tryz.ntmps24
   go_wp2
   go_loopg [3] L.length (fun g i wr => CkRel w V A c L g i wr)
   case atStart => exact ⟨0,by omega,rfl,HZ.out,heap_alloc_new w _,rfl⟩
   case round =>
    obtain ⟨k,hk,rfl,hb,hbx,hok⟩:=hrel
    by_cases hlt:k < L.length
    ·obtain ⟨e,he⟩:=at_lt L k hlt
     obtain ⟨x0,x1,hsz⟩:=Bx.cells hbx
     have hea:=HL.out.below hb
     obtain ⟨bk,o,rfl,c0,c1,c2⟩:=hea k e he
     have hokk:okL V (prv L k) (L.drop k) = (fitE V e && ahdO (prv L k) e && okL V (some e) (L.drop (k + 1))):=by rw [drop_at he]; rfl
     rw [hokk] at hok
     clear hokk
     have HNX:Hid (prv L (k + 1) = some e):=jH (by unfold prv; rw [if_neg (by omega),Nat.add_sub_cancel]; exact he)
     obtain ⟨e0,e1,e2⟩:=e
     have HB:=jH hb; have HX:=jH hbx; have HO:=jH hok; have HE:=jH he; have HA:=jH hea
     clear hb hbx hok he hea
     go_wp2
     generalize hW:wr = W at HB HX HA hsz x0 x1 c0 c1 c2 ⊢
     clear hW
     have hsz1:=hsz
     have fx0:=cell_grown hsz1 x0; have fx1:=cell_grown hsz1 x1
     have fy0:=cell_grown (block_lt_of_cell c0) c0; have fy1:=cell_grown (block_lt_of_cell c1) c1; have fy2:=cell_grown (block_lt_of_cell c2) c2
     clear x0 x1 c0 c1 c2
     cases hf:fitE V (e0,e1,e2) with
     | false =>
      have HF:=jH hf; clear hf
      have HC1:=jH (fun n os => Grw.quiet (rfits_at e0 e1 e2 V false (Sort.grow (W.drewN n) os) HF))
      refine wp_region_quiet_grown mixed (by kernel_rfl) ?_
      repeat (go_big_quiet_step (first | (go_at_call 44; exact HC1.out _ _)))
      refine wpQuiet_nil ?_
      intro _ hw'
      obtain ⟨⟨nq,osq⟩,hw''⟩:=hw'
      subst hw''
      go_wp2
      go_ret
      refine ⟨?_,HB.out.trans ((grw_at _ _ _).below.mono (by omega))⟩
      exact ret_int (by rw [<- HRR.out,HO.out,HF.out]; rfl)
     | true =>
      have HF:=jH hf; clear hf
      have HC1:=jH (fun n os => Grw.quiet (rfits_at e0 e1 e2 V true (Sort.grow (W.drewN n) os) HF))
      rcases k with _ | j
      ·simp only [Nat.zero_mul,Nat.add_zero] at fy0 fy1 fy2
       refine wp_region_quiet_grown mixed (by kernel_rfl) ?_
       repeat (go_big_quiet_step (first | (go_at_call 44; exact HC1.out _ _)))
       refine wpQuiet_nil ?_
       intro _ hw'
       obtain ⟨⟨nq,osq⟩,hw''⟩:=hw'
       subst hw''
       go_wp2
       go_roundg (gk - 1)
       case measure => omega
       case rel => 
        refine ⟨1,by omega,by go_num,HB.out.trans ((grw_at _ _ _).below.mono (by omega)),?_,?_⟩
        ·exact ((grw_at _ _ _).below.block _ hsz1).trans HX.out
        ·rw [HO.out,HF.out,HNX.out]; rfl
      ·obtain ⟨q,hq⟩:=at_lt L j (by omega)
       obtain ⟨bk',o',hA,p0,p1,p2⟩:=HA.out j q hq
       obtain ⟨rfl,rfl⟩:bk = bk'/\o = o':=by simpa using hA
       have hP:Hid (prv L (j + 1) = some q):=jH (by unfold prv; rw [if_neg (by omega),Nat.add_sub_cancel]; exact hq)
       obtain ⟨q0,q1,q2⟩:=q
       have fp0:=cell_grown (block_lt_of_cell p0) p0; have fp1:=cell_grown (block_lt_of_cell p1) p1; have fp2:=cell_grown (block_lt_of_cell p2) p2
       clear p0 p1 p2 hq hA
       obtain ⟨r,hr⟩:∃ r,ahd (q0,q1,q2) (e0,e1,e2) = r:=⟨_,rfl⟩
       have HR:=jH hr; clear hr
       have HC2:=jH (fun n os => Grw.quiet (rahead_at q0 q1 q2 e0 e1 e2 r (Sort.grow (W.drewN n) os) HR))
       cases r with
       | false =>
        refine wp_region_quiet_grown mixed (by kernel_rfl) ?_
        repeat (go_big_quiet_step (first | (go_at_call 44; exact HC1.out _ _) | (go_at_call 45; exact HC2.out _ _)))
        refine wpQuiet_nil ?_
        intro _ hw'
        obtain ⟨⟨nq,osq⟩,hw''⟩:=hw'
        subst hw''
        go_wp2
        go_ret
        refine ⟨?_,HB.out.trans ((grw_at _ _ _).below.mono (by omega))⟩
        exact ret_int (by rw [<- HRR.out,HO.out,HF.out,hP.out,show ahdO (some (q0,q1,q2)) (e0,e1,e2) = false from HR.out]; rfl)
       | true =>
        refine wp_region_quiet_grown mixed (by kernel_rfl) ?_
        repeat (go_big_quiet_step (first | (go_at_call 44; exact HC1.out _ _) | (go_at_call 45; exact HC2.out _ _)))
        refine wpQuiet_nil ?_
        intro _ hw'
        obtain ⟨⟨nq,osq⟩,hw''⟩:=hw'
        subst hw''
        go_wp2
        go_roundg (gk - 1)
        case measure => omega
        case rel =>
         refine ⟨j + 2,by omega,by go_num,HB.out.trans ((grw_at _ _ _).below.mono (by omega)),?_,?_⟩
         ·exact ((grw_at _ _ _).below.block _ hsz1).trans HX.out
         ·rw [HO.out,HF.out,HNX.out,hP.out,show ahdO (some (q0,q1,q2)) (e0,e1,e2) = true from HR.out]; rfl
    ·have hkn:k = L.length:=by omega
     have HB:=jH hb
     have HO:Hid (okL V none L = true):=jH (by rw [hok,hkn,List.drop_length]; rfl)
     obtain ⟨x0,x1,hsz⟩:=Bx.cells hbx
     clear hok hbx hb
     by_cases h1:V < 1
     ·go_wp2
      go_ret
      refine ⟨?_,HB.out⟩
      exact ret_int (by rw [<- HRR.out,HO.out,if_pos rfl,if_pos h1])
     ·go_wp2
      go_ret
      refine ⟨?_,HB.out⟩
      exact ret_int (by rw [<- HRR.out,HO.out,if_pos rfl,if_neg (by omega)])
open Go.RowKit Wd Ws
def Chooses (g:Nat) (lb:Array Value) (p:Ed->Bool) (w:World):Prop :=
 ∀ (W:World) (a b c:Int),Below w.heap.size w W->Calls Tryz.prog g (#[.agg #[.int .i64 a,.int .i64 b,.int .i64 c]] ++ lb) W fun e w' => e = .returned (.bool (p (a,b,c)))/\Below W.heap.size W w'
theorem Chooses.below {g:Nat} {lb:Array Value} {p:Ed->Bool} {w w':World} (h:Chooses g lb p w) (hb:Below w.heap.size w w'):Chooses g lb p w' :=
 fun W a b c k => h W a b c (step_below hb hb.size k)
theorem out_closure (B:Nat) (v:Int) (w:World) (hB:w.cell? ⟨B,0,none⟩ = some (.int .i64 v)):Chooses 74 #[.pointer (some ⟨B,0,none⟩)] (fun e => decide (e.1 = v)) w:=by
 intro W a b c hb
 have hc:=(hb.cell (block_lt_of_cell hB)).trans hB
 have hl:=block_lt_of_cell hc
 show Calls Tryz.prog 74 #[.agg #[.int .i64 a,.int .i64 b,.int .i64 c],.pointer (some ⟨B,0,none⟩)] W _
 clear hb hB
 have hc2:(W.alloc (.cells #[.int .i64 a,.int .i64 b,.int .i64 c] 33)).cell? ⟨B,0,none⟩ = some (.int .i64 v):=by
  rw [Sort.alloc_eq_grow,Sort.cell?_grow _ _ _ hl]; exact hc
 go_enter Tryz.func74,Tryz.ntmps74
 go_wp2
 go_ret
 exact ⟨rfl,((Grw.refl W).alloc _).below⟩
theorem back_closure (B:Nat) (v:Int) (w:World) (hB:w.cell? ⟨B,0,none⟩ = some (.int .i64 v)):Chooses 77 #[.pointer (some ⟨B,0,none⟩)] (fun e => decide (e.2.1 = v)) w:=by
 intro W a b c hb
 have hc:=(hb.cell (block_lt_of_cell hB)).trans hB
 have hl:=block_lt_of_cell hc
 show Calls Tryz.prog 77 #[.agg #[.int .i64 a,.int .i64 b,.int .i64 c],.pointer (some ⟨B,0,none⟩)] W _
 clear hb hB
 have hc2:(W.alloc (.cells #[.int .i64 a,.int .i64 b,.int .i64 c] 33)).cell? ⟨B,0,none⟩ = some (.int .i64 v):=by
  rw [Sort.alloc_eq_grow,Sort.cell?_grow _ _ _ hl]; exact hc
 go_enter Tryz.func77,Tryz.ntmps77
 go_wp2
 go_ret
 exact ⟨rfl,((Grw.refl W).alloc _).below⟩
def CsRel (w:World) (L:List Ed) (p:Ed->Bool) (g:Nat) (v i:Value) (wr:World):Prop :=
 ∃ k:Nat,k + g = L.length/\i = .int .i64 (k:Int)/\EOwn wr w.heap.size v ((L.take k).filter p)/\Below w.heap.size w wr
theorem filter_len (L:List Ed) (p:Ed->Bool) (k:Nat):((L.take k).filter p).length <= L.length:=by
 have h1:=List.length_filter_le p (L.take k)
 have h2:(L.take k).length <= L.length:=by rw [List.length_take]; omega
 omega
theorem filter_yes {L:List Ed} {p:Ed->Bool} {k:Nat} {e:Ed} (h:L[k]? = some e) (hp:p e = true):(L.take (k + 1)).filter p = (L.take k).filter p ++ [e]:=by
 rw [take_at h,List.filter_append]; simp [hp]
theorem filter_no {L:List Ed} {p:Ed->Bool} {k:Nat} {e:Ed} (h:L[k]? = some e) (hp:p e = false):(L.take (k + 1)).filter p = (L.take k).filter p:=by
 rw [take_at h,List.filter_append]; simp [hp]
set_option maxRecDepth 100000 in
set_option maxHeartbeats 600000 in
theorem chosen_any (A:Option Addr) (c:Nat) (L:List Ed) (g:Nat) (lb:Array Value) (p:Ed->Bool) (w:World) (eg:∀ args w,(callFunc g args).run Tryz.prog w = .ok (.enter g args) w) (hL:EAt w A L) (hm:L.length <= 100000) (hp:Chooses g lb p w) :
 Calls Tryz.prog 73 #[.slice A L.length c,.func (.func g) #[] lb] w fun e w' => ∃ v,e = .returned v/\EOwn w' w.heap.size v (L.filter p)/\Below w.heap.size w w':=by
 have HL:=jH hL; have HP:=jH hp; clear hL hp
 go_enter Tryz.func73,Tryz.ntmps73
 go_wp2
 go_loopg [5,10] L.length (fun g v i wr => CsRel w L p g v i wr)
 case atStart => exact ⟨0,by omega,rfl,EOwn.none_ _ _,Below.refl _ w⟩
 case round =>
  obtain ⟨k,hk,rfl,ho,hb⟩:=hrel
  by_cases hlt:k < L.length
  ·obtain ⟨e,he⟩:=at_lt L k hlt
   obtain ⟨bk,o,rfl,c0,c1,c2⟩:=(HL.out.below hb) k e he
   obtain ⟨e0,e1,e2⟩:=e
   have hb1:Below w.heap.size w (wr.alloc (.cells #[.int .i64 e0,.int .i64 e1,.int .i64 e2] 33)):=hb.alloc hb.size _
   have ho1:=ho.alloc (.cells #[.int .i64 e0,.int .i64 e1,.int .i64 e2] 33)
   have HC:=jH (HP.out _ e0 e1 e2 hb1)
   have HY:=jH (heap_alloc_new wr (.cells #[.int .i64 e0,.int .i64 e1,.int .i64 e2] 33))
   have hlen:=filter_len L p k
   have HB:=jH hb1; have HO:=jH ho1; have HE:=jH he
   clear hb hb1 ho ho1 he
   go_wp2_with fail
   refine HC.out.mono ?_
   rintro er w1 ⟨rfl,hb2⟩
   clear HC c0 c1 c2
   have HY1:=jH ((hb2.block _ (lt_of_block HY.out)).trans HY.out)
   have HO1:=jH (HO.out.below hb2)
   have HB1:=jH (step_below HB.out (by have:=HB.out.size; omega) hb2)
   clear hb2 HY HO HB
   obtain ⟨y0,y1,y2,hs1⟩:=eb_cells HY1.out
   cases hq:p (e0,e1,e2) with
   | true =>
    have HQ:=jH hq; clear hq
    have hnew:=heap_alloc_new w1 (.cells #[.int .i64 e0,.int .i64 e1,.int .i64 e2] 33)
    have HN:=jH hnew; clear hnew
    have HO2:=jH (HO1.out.alloc (.cells #[.int .i64 e0,.int .i64 e1,.int .i64 e2] 33))
    have HB2:=jH (HB1.out.alloc HB1.out.size (.cells #[.int .i64 e0,.int .i64 e1,.int .i64 e2] 33))
    go_wp2_with (at_builtin; refine app_e rfl (.tmp 17) (.tmp 19) rfl w.heap.size _ _ e0 e1 e2 rfl HO2.out _ rfl HN.out ?c1 ?c2 ?_)
    case c1 => omega
    case c2 => exact HB2.out.size
    intro v' w2 ho2 hg2
    have HB3:=jH (Below.grown HB2.out hg2 HB2.out.size fun j e => (own_lt HO2.out j e).1)
    have HO3:=jH ho2; clear ho2 hg2
    go_wp2
    go_roundg (gk - 1)
    case measure => omega
    case rel => exact ⟨k + 1,by omega,by go_num,by rw [filter_yes HE.out HQ.out]; exact HO3.out,HB3.out⟩
   | false =>
    have HQ:=jH hq; clear hq
    go_wp2
    go_roundg (gk - 1)
    case measure => omega
    case rel => exact ⟨k + 1,by omega,by go_num,by rw [filter_no HE.out HQ.out]; exact HO1.out,HB1.out⟩
  ·have HK:Hid (k = L.length):=jH (by omega)
   have HO:=jH ho; have HB:=jH hb; clear ho hb
   go_wp2
   go_ret
   refine ⟨_,rfl,?_,HB.out⟩
   have:=HO.out
   rw [HK.out,List.take_length] at this
   exact this
open Go.RowKit Wd Ws
set_option maxRecDepth 100000 in
theorem out_any (V v:Int) (A:Option Addr) (c:Nat) (L:List Ed) (w:World) (hL:EAt w A L) (hm:L.length <= 100000) :
 Calls Tryz.prog 52 #[.agg #[.int .i64 V,.slice A L.length c],.int .i64 v] w fun e w' => ∃ x,e = .returned x/\EOwn w' w.heap.size x (L.filter fun e => decide (e.1 = v))/\Below w.heap.size w w':=by
 have hz:=two_boxes w (.cells #[.int .i64 V,.slice A L.length c] 24) (.cells #[.int .i64 v] 3)
 have HC:=jH (chosen_any A c L 74 #[.pointer (some ⟨w.heap.size + 1,0,none⟩)] (fun e => decide (e.1 = v)) _ (enters_of Tryz.func74 (by kernel_rfl) rfl) (hL.below hz) hm
  (out_closure (w.heap.size + 1) v ((w.alloc (.cells #[.int .i64 V,.slice A L.length c] 24)).alloc (.cells #[.int .i64 v] 3)) (by simp)))
 have HZ:=jH hz; clear hz hL
 go_enter Tryz.func52,Tryz.ntmps52
 go_wp2_with fail
 refine HC.out.mono ?_
 rintro e w' ⟨x,rfl,ho,hb⟩
 have HO:=jH ho; have HB:=jH hb; clear ho hb HC
 go_wp2_with fail
 go_ret
 exact ⟨x,rfl,own_mono HO.out (by simp; omega),HZ.out.trans (HB.out.mono (by simp; omega))⟩
set_option maxRecDepth 100000 in
theorem back_any (V v:Int) (A:Option Addr) (c:Nat) (L:List Ed) (w:World) (hL:EAt w A L) (hm:L.length <= 100000) :
 Calls Tryz.prog 57 #[.agg #[.int .i64 V,.slice A L.length c],.int .i64 v] w fun e w' => ∃ x,e = .returned x/\EOwn w' w.heap.size x (L.filter fun e => decide (e.2.1 = v))/\Below w.heap.size w w':=by
 have hz:=two_boxes w (.cells #[.int .i64 V,.slice A L.length c] 24) (.cells #[.int .i64 v] 3)
 have HC:=jH (chosen_any A c L 77 #[.pointer (some ⟨w.heap.size + 1,0,none⟩)] (fun e => decide (e.2.1 = v)) _ (enters_of Tryz.func77 (by kernel_rfl) rfl) (hL.below hz) hm
  (back_closure (w.heap.size + 1) v ((w.alloc (.cells #[.int .i64 V,.slice A L.length c] 24)).alloc (.cells #[.int .i64 v] 3)) (by simp)))
 have HZ:=jH hz; clear hz hL
 go_enter Tryz.func57,Tryz.ntmps57
 go_wp2_with fail
 refine HC.out.mono ?_
 rintro e w' ⟨x,rfl,ho,hb⟩
 have HO:=jH ho; have HB:=jH hb; clear ho hb HC
 go_wp2_with fail
 go_ret
 exact ⟨x,rfl,own_mono HO.out (by simp; omega),HZ.out.trans (HB.out.mono (by simp; omega))⟩
def RoRel (w:World) (V:Int) (A:Option Addr) (c:Nat) (L:List Ed) (p:Ed->Bool) (g:Nat) (v i:Value) (wr:World):Prop :=
 ∃ k:Nat,k + g = L.length/\i = .int .i64 (k:Int)/\EOwn wr w.heap.size v ((L.take k).filter p)/\Below w.heap.size w wr/\wr.heap[w.heap.size]? = some (.cells #[.int .i64 V,.slice A L.length c] 24 (0,0))/\v.ownBlock ≠ some w.heap.size
set_option maxRecDepth 100000 in
set_option maxHeartbeats 600000 in
theorem rout_any (V v:Int) (A:Option Addr) (c:Nat) (L:List Ed) (w:World) (hL:EAt w A L) (hm:L.length <= 100000) :
 Calls Tryz.prog 29 #[.agg #[.int .i64 V,.slice A L.length c],.int .i64 v] w fun e w' => ∃ x,e = .returned x/\EOwn w' w.heap.size x (L.filter fun e => decide (e.1 = v))/\Below w.heap.size w w':=by
 have HL:=jH hL; clear hL
 go_enter Tryz.func29,Tryz.ntmps29
 go_wp2
 go_loopg [5,6] L.length (fun g x i wr => RoRel w V A c L (fun e => decide (e.1 = v)) g x i wr)
 case atStart => exact ⟨0,by omega,rfl,EOwn.none_ _ _,(Below.refl _ w).alloc (Nat.le_refl _) _,heap_alloc_new w _,by simp [Value.ownBlock]⟩
 case round =>
  obtain ⟨k,hk,rfl,ho,hb,hbx,hne⟩:=hrel
  obtain ⟨x0,x1,hsz⟩:=Bx.cells hbx
  by_cases hlt:k < L.length
  ·obtain ⟨e,he⟩:=at_lt L k hlt
   obtain ⟨bk,o,rfl,c0,c1,c2⟩:=(HL.out.below hb) k e he
   obtain ⟨e0,e1,e2⟩:=e
   have hlen:=filter_len L (fun e => decide (e.1 = v)) k
   by_cases hq:e0 = v
   ·subst hq
    have hnew:=heap_alloc_new wr (.cells #[.int .i64 e0,.int .i64 e1,.int .i64 e2] 33)
    have HN:=jH hnew; clear hnew
    have HO2:=jH (ho.alloc (.cells #[.int .i64 e0,.int .i64 e1,.int .i64 e2] 33))
    have HB2:=jH (hb.alloc hb.size (.cells #[.int .i64 e0,.int .i64 e1,.int .i64 e2] 33))
    have HX2:=jH ((Lib.alloc_old wr (.cells #[.int .i64 e0,.int .i64 e1,.int .i64 e2] 33) _ hsz).trans hbx)
    have HE:=jH he; have HNE:=jH hne
    clear ho hb hbx he hne
    go_wp2_with (at_builtin; refine app_e rfl (.tmp 22) (.tmp 28) rfl w.heap.size _ _ e0 e1 e2 rfl HO2.out _ rfl HN.out ?c1 ?c2 ?_)
    case c1 => omega
    case c2 => have:=HB2.out.size; simpa using this
    intro v' w2 ho2 hg2
    have HB3:=jH (Below.grown HB2.out hg2 HB2.out.size fun j e => (own_lt HO2.out j e).1)
    have HX3:=jH ((hg2.block _ (lt_of_block HX2.out) (fun h => HNE.out h.symm)).trans HX2.out)
    have HNE3:Hid (v'.ownBlock ≠ some w.heap.size):=jH (fun h => by
     obtain ⟨_,cc,hcc⟩:=own_lt ho2 _ h
     have:=HX3.out
     rw [hcc] at this; simp at this)
    have HO3:=jH ho2; clear ho2 hg2
    go_wp2
    go_roundg (gk - 1)
    case measure => omega
    case rel => exact ⟨k + 1,by omega,by go_num,by rw [filter_yes HE.out (by simp)]; exact HO3.out,HB3.out,HX3.out,HNE3.out⟩
   ·have HE:=jH he; have HNE:=jH hne; have HO:=jH ho; have HB:=jH hb; have HX:=jH hbx
    clear ho hb hbx he hne
    go_wp2
    go_roundg (gk - 1)
    case measure => omega
    case rel => exact ⟨k + 1,by omega,by go_num,by rw [filter_no HE.out (by simp [hq])]; exact HO.out,HB.out,HX.out,HNE.out⟩
  ·have HK:Hid (k = L.length):=jH (by omega)
   have HO:=jH ho; have HB:=jH hb; clear ho hb hbx hne
   go_wp2
   go_ret
   refine ⟨_,rfl,?_,HB.out⟩
   have:=HO.out
   rw [HK.out,List.take_length] at this
   exact this
set_option maxRecDepth 100000 in
set_option maxHeartbeats 600000 in
theorem rback_any (V v:Int) (A:Option Addr) (c:Nat) (L:List Ed) (w:World) (hL:EAt w A L) (hm:L.length <= 100000) :
 Calls Tryz.prog 102 #[.agg #[.int .i64 V,.slice A L.length c],.int .i64 v] w fun e w' => ∃ x,e = .returned x/\EOwn w' w.heap.size x (L.filter fun e => decide (e.2.1 = v))/\Below w.heap.size w w':=by
 have HL:=jH hL; clear hL
 go_enter Tryz.func102,Tryz.ntmps102
 go_wp2
 go_loopg [5,6] L.length (fun g x i wr => RoRel w V A c L (fun e => decide (e.2.1 = v)) g x i wr)
 case atStart => exact ⟨0,by omega,rfl,EOwn.none_ _ _,(Below.refl _ w).alloc (Nat.le_refl _) _,heap_alloc_new w _,by simp [Value.ownBlock]⟩
 case round =>
  obtain ⟨k,hk,rfl,ho,hb,hbx,hne⟩:=hrel
  obtain ⟨x0,x1,hsz⟩:=Bx.cells hbx
  by_cases hlt:k < L.length
  ·obtain ⟨e,he⟩:=at_lt L k hlt
   obtain ⟨bk,o,rfl,c0,c1,c2⟩:=(HL.out.below hb) k e he
   obtain ⟨e0,e1,e2⟩:=e
   have hlen:=filter_len L (fun e => decide (e.2.1 = v)) k
   by_cases hq:e1 = v
   ·subst hq
    have hnew:=heap_alloc_new wr (.cells #[.int .i64 e0,.int .i64 e1,.int .i64 e2] 33)
    have HN:=jH hnew; clear hnew
    have HO2:=jH (ho.alloc (.cells #[.int .i64 e0,.int .i64 e1,.int .i64 e2] 33))
    have HB2:=jH (hb.alloc hb.size (.cells #[.int .i64 e0,.int .i64 e1,.int .i64 e2] 33))
    have HX2:=jH ((Lib.alloc_old wr (.cells #[.int .i64 e0,.int .i64 e1,.int .i64 e2] 33) _ hsz).trans hbx)
    have HE:=jH he; have HNE:=jH hne
    clear ho hb hbx he hne
    go_wp2_with (at_builtin; refine app_e rfl (.tmp 22) (.tmp 28) rfl w.heap.size _ _ e0 e1 e2 rfl HO2.out _ rfl HN.out ?c1 ?c2 ?_)
    case c1 => omega
    case c2 => have:=HB2.out.size; simpa using this
    intro v' w2 ho2 hg2
    have HB3:=jH (Below.grown HB2.out hg2 HB2.out.size fun j e => (own_lt HO2.out j e).1)
    have HX3:=jH ((hg2.block _ (lt_of_block HX2.out) (fun h => HNE.out h.symm)).trans HX2.out)
    have HNE3:Hid (v'.ownBlock ≠ some w.heap.size):=jH (fun h => by
     obtain ⟨_,cc,hcc⟩:=own_lt ho2 _ h
     have:=HX3.out
     rw [hcc] at this; simp at this)
    have HO3:=jH ho2; clear ho2 hg2
    go_wp2
    go_roundg (gk - 1)
    case measure => omega
    case rel => exact ⟨k + 1,by omega,by go_num,by rw [filter_yes HE.out (by simp)]; exact HO3.out,HB3.out,HX3.out,HNE3.out⟩
   ·have HE:=jH he; have HNE:=jH hne; have HO:=jH ho; have HB:=jH hb; have HX:=jH hbx
    clear ho hb hbx he hne
    go_wp2
    go_roundg (gk - 1)
    case measure => omega
    case rel => exact ⟨k + 1,by omega,by go_num,by rw [filter_no HE.out (by simp [hq])]; exact HO.out,HB.out,HX.out,HNE.out⟩
  ·have HK:Hid (k = L.length):=jH (by omega)
   have HO:=jH ho; have HB:=jH hb; clear ho hb hbx hne
   go_wp2
   go_ret
   refine ⟨_,rfl,?_,HB.out⟩
   have:=HO.out
   rw [HK.out,List.take_length] at this
   exact this
end Go.Proofs.YtdcaekmgfcpbmaaGreat.Gr
