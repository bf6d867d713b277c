/-
  What is proved here: plain facts on what the supersteps come to: labels, once they rest, or behind as many steps as there are vertices, are the least vertices that hang together; distances are the least sums. No program.
-/
import Derived.Test.YtdcaekmgfcpbmaaGreatQdSqMath
namespace Go.Proofs.YtdcaekmgfcpbmaaGreat.Mn
open Gr Fx Rk Lb Al In Sq
open Pa (vl bt vl_of vl_at bt_of bt_at vl_ext itr itr_next itr_keep itr_rest cnt cnt_le far Abv Fits fits_of gv addI_mono far_tight Tight Rc fr)
theorem jn_min {k:Int} (hk:k = 2\/k = 3) (a b:Int):jn k (some a) (some b) = some (min a b):=by
 show some (comb k a b) = _
 unfold comb; rw [if_neg (by omega),if_pos hk]
theorem mail_least {k:Int} (hk:k = 2\/k = 3) (v:Int):∀ T:List Ms,(mailM k v T = none/\∀ m ∈ T,m.1 ≠ v)\/∃ y,mailM k v T = some y/\(∃ m ∈ T,m.1 = v/\m.2 = y)/\∀ m ∈ T,m.1 = v->y <= m.2
 | [] => Or.inl ⟨rfl,fun m hm => by cases hm⟩
 | x :: T => by
  rw [mailM_cons]
  by_cases hx:x.1 = v
  ·right
   rw [if_pos hx]
   rcases mail_least hk v T with ⟨h1,h2⟩ | ⟨y,h1,⟨m,hm,hv,hy⟩,h3⟩
   ·rw [h1]
    refine ⟨x.2,rfl,⟨x,List.mem_cons_self,hx,rfl⟩,fun m hm hmv => ?_⟩
    rcases List.mem_cons.1 hm with rfl | hm
    ·omega
    ·exact absurd hmv (h2 m hm)
   ·rw [h1,jn_min hk]
    refine ⟨_,rfl,?_,fun m' hm' hv' => ?_⟩
    ·rcases Int.le_total x.2 y with g | g
     ·exact ⟨x,List.mem_cons_self,hx,by omega⟩
     ·exact ⟨m,List.mem_cons_of_mem _ hm,hv,by omega⟩
    ·rcases List.mem_cons.1 hm' with rfl | hm'
     ·omega
     ·have:=h3 m' hm' hv'; omega
  ·rw [if_neg hx]
   rcases mail_least hk v T with ⟨h1,h2⟩ | ⟨y,h1,⟨m,hm,hv,hy⟩,h3⟩
   ·left
    refine ⟨by rw [h1]; rfl,fun m hm => ?_⟩
    rcases List.mem_cons.1 hm with rfl | hm
    ·exact hx
    ·exact h2 m hm
   ·right
    refine ⟨y,by rw [h1]; rfl,⟨m,List.mem_cons_of_mem _ hm,hv,hy⟩,fun m' hm' hv' => ?_⟩
    rcases List.mem_cons.1 hm' with rfl | hm'
    ·exact absurd hv' hx
    ·exact h3 m' hm' hv'
def Gv (k:Int) (L:List Ed) (u v x y:Int):Prop:=(k = 2/\u ≠ v/\y = x/\∃ e ∈ L,(e.1 = u/\e.2.1 = v)\/(e.1 = v/\e.2.1 = u))\/(k = 3/\∃ e ∈ L,e.1 = u/\e.2.1 = v/\y = addI x e.2.2)
theorem near_mem {u t:Int} {L M:List Ed}:t ∈ nearL u L M ↔ t ≠ u/\((∃ e ∈ L,e.2.1 = t)\/∃ e ∈ M,e.1 = t):=by
 unfold nearL tos froms
 rw [mem_putAll]
 simp only [List.not_mem_nil,false_or,List.mem_append,List.mem_filter,List.mem_map,decide_eq_true_eq]
 constructor
 ·rintro (⟨h,g⟩ | ⟨h,g⟩)
  ·exact ⟨g,Or.inl h⟩
  ·exact ⟨g,Or.inr h⟩
 ·rintro ⟨g,h | h⟩
  ·exact Or.inl ⟨h,g⟩
  ·exact Or.inr ⟨h,g⟩
theorem raw_gv {k:Int} (hk:k = 2\/k = 3) {L:List Ed} {u x:Int} {m:Ms}:m ∈ rawM k u x true (outE L u) (bckE L u) ↔ Gv k L u m.1 x m.2:=by
 obtain ⟨t,y⟩:=m
 unfold rawM Gv outE bckE
 rcases hk with rfl | rfl
 ·simp only [show ¬ (2:Int) = 1 by omega,if_false,if_true,sentL,List.mem_map,near_mem,List.mem_filter,decide_eq_true_eq,show ¬ (2:Int) = 3 by omega,false_and,or_false,true_and]
  constructor
  ·rintro ⟨a,⟨ha,hb⟩,he⟩
   cases he
   refine ⟨fun e => ha e.symm,rfl,?_⟩
   rcases hb with ⟨e,⟨h1,h2⟩,h3⟩ | ⟨e,⟨h1,h2⟩,h3⟩
   ·exact ⟨e,h1,Or.inl ⟨h2,h3⟩⟩
   ·exact ⟨e,h1,Or.inr ⟨h3,h2⟩⟩
  ·rintro ⟨ha,rfl,e,h1,h2 | h2⟩
   ·exact ⟨t,⟨fun g => ha g.symm,Or.inl ⟨e,⟨h1,h2.1⟩,h2.2⟩⟩,rfl⟩
   ·exact ⟨t,⟨fun g => ha g.symm,Or.inr ⟨e,⟨h1,h2.2⟩,h2.1⟩⟩,rfl⟩
 ·simp only [show ¬ (3:Int) = 1 by omega,show ¬ (3:Int) = 2 by omega,if_false,if_true,sentP,List.mem_map,List.mem_filter,decide_eq_true_eq,false_and,false_or,true_and]
  constructor
  ·rintro ⟨e,⟨h1,h2⟩,he⟩
   cases he
   exact ⟨e,h1,h2,rfl,rfl⟩
  ·rintro ⟨e,h1,h2,h3,rfl⟩
   exact ⟨e,⟨h1,h2⟩,by rw [h3]⟩
theorem raw_still {k:Int} (hk:k = 2\/k = 3) {u x:Int} {L M:List Ed}:rawM k u x false L M = []:=by unfold rawM; rw [if_neg (by omega)]; rfl
theorem mem_flat {k:Int} (hk:k = 2\/k = 3) {V:Nat} {L:List Ed} {vals:List Int} {chg:List Bool} {m:Ms} :
 m ∈ (rawS k V L vals chg).flatten ↔ ∃ u:Nat,u < V/\bt chg u = true/\Gv k L (u:Int) m.1 (vl vals u) m.2:=by
 unfold rawS
 simp only [List.mem_flatten,List.mem_map,List.mem_range]
 constructor
 ·rintro ⟨r,⟨u,hu,rfl⟩,hm⟩
  cases hc:bt chg u with
  | false => rw [hc,raw_still hk] at hm; cases hm
  | true => rw [hc] at hm; exact ⟨u,hu,hc,(raw_gv hk).1 hm⟩
 ·rintro ⟨u,hu,hc,hg⟩
  exact ⟨_,⟨u,hu,rfl⟩,by rw [hc]; exact (raw_gv hk).2 hg⟩
theorem gv_in {k:Int} {L:List Ed} {u v x y:Int} (hx:InR x) (h:Gv k L u v x y):InR y:=by
 rcases h with ⟨_,_,rfl,_⟩ | ⟨_,e,_,_,_,rfl⟩
 ·exact hx
 ·exact addI_in _ _
theorem cmp_none {k V dm x s:Int} (hk:k = 2\/k = 3):cmpM k V dm x false 0 s = x/\cmpB k V dm x false 0 s = decide (x < x):=by
 rcases hk with rfl | rfl <;> simp [cmpM,cmpB,takM,takB,Pa.tkm,Pa.tkb]
theorem cmp_some {k V dm x y s:Int} (hk:k = 2\/k = 3) (hy:InR y):cmpM k V dm x true y s = min x y/\cmpB k V dm x true y s = decide (min x y < x):=by
 unfold InR at hy
 rcases hk with rfl | rfl
 ·have e:takM x true y = min x y:=by unfold takM; simp only [true_and]; split <;> omega
  have e2:takB x true y = decide (min x y < x):=by
   unfold takB; rw [Bool.true_and]
   by_cases h:y < x
   ·rw [decide_eq_true h,decide_eq_true (by omega)]
   ·rw [decide_eq_false h,decide_eq_false (by omega)]
  exact ⟨by unfold cmpM; rw [if_neg (by omega),if_pos rfl,e],by unfold cmpB; rw [if_neg (by omega),if_pos rfl,e2]⟩
 ·have e:Pa.tkm x true y = min x y:=by unfold Pa.tkm; rw [if_pos rfl]; omega
  have e2:Pa.tkb x true y = decide (min x y < x):=by
   unfold Pa.tkb; rw [Bool.true_and]
   by_cases h:max y 0 < x
   ·rw [decide_eq_true h,decide_eq_true (by omega)]
   ·rw [decide_eq_false h,decide_eq_false (by omega)]
  exact ⟨by unfold cmpM; rw [if_neg (by omega),if_neg (by omega),if_pos rfl,e],by unfold cmpB; rw [if_neg (by omega),if_neg (by omega),if_pos rfl,e2]⟩
theorem step_facts {k dm:Int} (hk:k = 2\/k = 3) {V:Nat} {L:List Ed} {s:Sq} (h:GoS k V L s) {v:Nat} (hv:v < V) :
 (∀ m ∈ (rawS k V L s.vals s.chg).flatten,m.1 = (v:Int)->vl (nxtV k dm V s) v <= m.2)/\(vl (nxtV k dm V s) v = vl s.vals v\/∃ m ∈ (rawS k V L s.vals s.chg).flatten,m.1 = (v:Int)/\vl (nxtV k dm V s) v = m.2) /\
  bt (nxtC k dm V s) v = decide (vl (nxtV k dm V s) v < vl s.vals v):=by
 have hfl:=flat_in (k:=k) (V:=V) (L:=L) (chg:=s.chg) h.may.2.2.2.1
 have hml:ml s.inb v = mlOf (mailM k (v:Int) (rawS k V L s.vals s.chg).flatten):=by rw [h.form.1]; exact ml_of (inb_at k V L s.vals s.chg v hv)
 have hO:=mailM_in k (v:Int) _ hfl
 rw [nxtV_at hv,nxtC_at hv,hml]
 rcases mail_least hk (v:Int) (rawS k V L s.vals s.chg).flatten with ⟨h1,h2⟩ | ⟨y,h1,⟨m,hm,hmv,hmy⟩,h3⟩
 ·rw [h1]
  obtain ⟨c1,c2⟩:=cmp_none (V:=(V:Int)) (dm:=dm) (x:=vl s.vals v) (s:=s.sum) hk
  show _/\_/\cmpB k V dm (vl s.vals v) false 0 s.sum = decide (cmpM k V dm (vl s.vals v) false 0 s.sum < _)
  refine ⟨fun m hm e => absurd e (h2 m hm),Or.inl c1,by rw [c1,c2]⟩
 ·rw [h1]
  obtain ⟨c1,c2⟩:=cmp_some (V:=(V:Int)) (dm:=dm) (x:=vl s.vals v) (s:=s.sum) hk (hO y h1)
  show (∀ m':Ms,m' ∈ _->_->cmpM k V dm (vl s.vals v) true y s.sum <= m'.2)/\(cmpM k V dm (vl s.vals v) true y s.sum = _\/∃ m':Ms,m' ∈ _/\_/\cmpM k V dm (vl s.vals v) true y s.sum = m'.2)/\cmpB k V dm (vl s.vals v) true y s.sum = decide (cmpM k V dm (vl s.vals v) true y s.sum < _)
  rw [c1,c2]
  refine ⟨fun m' hm' e => ?_,?_,rfl⟩
  ·have:=h3 m' hm' e; omega
  ·rcases Int.le_total (vl s.vals v) y with g | g
   ·left; omega
   ·right; exact ⟨m,hm,hmv,by omega⟩
section
variable {k so dm:Int} {V:Nat} {L:List Ed}
abbrev X (k so dm:Int) (V:Nat) (L:List Ed) (n v:Nat):Int:=vl (stS k so dm V L n).vals v
abbrev Cg (k so dm:Int) (V:Nat) (L:List Ed) (n v:Nat):Bool:=bt (stS k so dm V L n).chg v
theorem x_go (hc:chk (V:Int) L = 0) (hk:k = 2\/k = 3) (n:Nat):GoS k V L (stS k so dm V L n):=go_all hc (fun e => absurd e (by omega)) n
theorem x_in (hc:chk (V:Int) L = 0) (hk:k = 2\/k = 3) (n v:Nat):InR (X k so dm V L n v):=vl_in (x_go hc hk n).may.2.2.2.1 v
theorem x_next (n v:Nat):X k so dm V L (n + 1) v = vl (nxtV k dm V (stS k so dm V L n)) v:=by unfold X; rw [stS_next]; rfl
theorem c_next (hc:chk (V:Int) L = 0) (hk:k = 2\/k = 3) (n:Nat) {v:Nat} (hv:v < V):Cg k so dm V L (n + 1) v = decide (X k so dm V L (n + 1) v < X k so dm V L n v):=by
 rw [x_next]
 have:=(step_facts (dm:=dm) hk (x_go (so:=so) (dm:=dm) hc hk n) hv).2.2
 unfold Cg; rw [stS_next]; exact this
theorem x_falls (hk:k = 2\/k = 3) (n:Nat) {v:Nat} (hv:v < V):X k so dm V L (n + 1) v <= X k so dm V L n v:=go_falls hk n v hv
theorem x_sent (hc:chk (V:Int) L = 0) (hk:k = 2\/k = 3) (n:Nat) {u v:Nat} (hu:u < V) (hv:v < V) (hcg:Cg k so dm V L n u = true) {y:Int} (h:Gv k L (u:Int) (v:Int) (X k so dm V L n u) y):X k so dm V L (n + 1) v <= y:=by
 rw [x_next]
 exact (step_facts (dm:=dm) hk (x_go (so:=so) (dm:=dm) hc hk n) hv).1 ((v:Int),y) ((mem_flat hk).2 ⟨u,hu,hcg,h⟩) rfl
theorem x_zero {v:Nat} (hv:v < V):X k so dm V L 0 v = sttM k (V:Int) (v:Int) so:=vl_of (by show (strV k so V)[v]? = _; unfold strV; rw [List.getElem?_map,List.getElem?_range hv]; rfl)
theorem c_zero {v:Nat} (hv:v < V):Cg k so dm V L 0 v = sttB k (v:Int) so:=bt_of (by show (strC k so V)[v]? = _; unfold strC; rw [List.getElem?_map,List.getElem?_range hv]; rfl)
theorem x_flow (hc:chk (V:Int) L = 0) (hk:k = 2\/k = 3):∀ (n u v:Nat) (y:Int),u < V->v < V->Gv k L (u:Int) (v:Int) (X k so dm V L n u) y->X k so dm V L (n + 1) v <= y
 | 0,u,v,y,hu,hv,h => by
  cases hcg:Cg k so dm V L 0 u with
  | true => exact x_sent hc hk 0 hu hv hcg h
  | false =>
   rw [c_zero hu] at hcg
   unfold sttB at hcg
   rcases hk with rfl | rfl
   ·simp at hcg
   ·simp at hcg
    have hx:X 3 so dm V L 0 u = 4611686018427387904:=by
     rw [x_zero hu]; unfold sttM Pa.stt; simp [hcg]
    rw [hx] at h
    have hb:=(x_in (so:=so) (dm:=dm) hc (Or.inr rfl:(3:Int) = 2\/(3:Int) = 3) 1 v).2
    rcases h with ⟨h,_⟩ | ⟨_,e,_,_,_,rfl⟩
    ·omega
    ·have:addI 4611686018427387904 e.2.2 = 4611686018427387904:=by
      have h1:=dst_in e.2.2
      unfold addI; rw [dst_id 4611686018427387904 (by omega) (by omega)]; split <;> omega
     rw [this]; exact hb
 | n + 1,u,v,y,hu,hv,h => by
  cases hcg:Cg k so dm V L (n + 1) u with
  | true => exact x_sent hc hk (n + 1) hu hv hcg h
  | false =>
   rw [c_next hc hk n hu] at hcg
   have h1:=x_falls (so:=so) (dm:=dm) (L:=L) hk n hu
   have h2:X k so dm V L (n + 1) u = X k so dm V L n u:=by have:=of_decide_eq_false hcg; omega
   rw [h2] at h
   have:=x_flow hc hk n u v y hu hv h
   have:=x_falls (so:=so) (dm:=dm) (L:=L) hk (n + 1) hv
   omega
theorem x_from (hc:chk (V:Int) L = 0) (hk:k = 2\/k = 3) (n:Nat) {v:Nat} (hv:v < V):X k so dm V L (n + 1) v = X k so dm V L n v\/∃ u:Nat,u < V/\Gv k L (u:Int) (v:Int) (X k so dm V L n u) (X k so dm V L (n + 1) v):=by
 rw [x_next]
 rcases (step_facts (dm:=dm) hk (x_go (so:=so) (dm:=dm) hc hk n) hv).2.1 with h | ⟨m,hm,hmv,e⟩
 ·exact Or.inl h
 ·right
  obtain ⟨u,hu,_,hg⟩:=(mem_flat hk).1 hm
  rw [e,<- hmv]
  exact ⟨u,hu,hg⟩
theorem x_rests (hc:chk (V:Int) L = 0) (hk:k = 2\/k = 3) (n:Nat) (h:(stS k so dm V L (n + 1)).most = 0) {v:Nat} (hv:v < V):X k so dm V L (n + 1) v = X k so dm V L n v:=by
 have h1:Cg k so dm V L (n + 1) v = false:=by
  unfold Cg
  rw [stS_next] at h ⊢
  exact most_zero hk h v hv
 rw [c_next hc hk n hv] at h1
 have:=of_decide_eq_false h1
 have:=x_falls (so:=so) (dm:=dm) (L:=L) hk n hv
 omega
end
inductive Con (L:List Ed) (u:Nat):Nat->Prop
 | refl:Con L u u
 | fwd {e:Ed}:e ∈ L->Con L u (fr e)->Con L u (Pa.to e)
 | bwd {e:Ed}:e ∈ L->Con L u (Pa.to e)->Con L u (fr e)
theorem Con.trans {L:List Ed} {u v w:Nat} (h:Con L u v) (g:Con L v w):Con L u w:=by
 induction g with
 | refl => exact h
 | fwd he _ ih => exact .fwd he ih
 | bwd he _ ih => exact .bwd he ih
theorem Con.symm {L:List Ed} {u v:Nat} (h:Con L u v):Con L v u:=by
 induction h with
 | refl => exact .refl
 | fwd he _ ih => exact (Con.bwd he .refl).trans ih
 | bwd he _ ih => exact (Con.fwd he .refl).trans ih
theorem Con.lt {V:Nat} {L:List Ed} (hF:Fits V L) {u v:Nat} (hu:u < V) (h:Con L u v):v < V:=by
 cases h with
 | refl => exact hu
 | fwd he _ => exact (hF _ he).2
 | bwd he _ => exact (hF _ he).1
structure LabC (V:Nat) (L:List Ed) (l:List Int):Prop where
 len:l.length = V
 is_:∀ v,v < V->∃ u:Nat,u < V/\Con L v u/\vl l v = (u:Int)
 le:∀ v,v < V->∀ u:Nat,Con L v u->vl l v <= (u:Int)
theorem LabC.one {V:Nat} {L:List Ed} {a b:List Int} (ha:LabC V L a) (hb:LabC V L b):a = b:=by
 refine vl_ext (by rw [ha.len,hb.len]) fun v hv => ?_
 rw [ha.len] at hv
 obtain ⟨u,_,h1,h2⟩:=ha.is_ v hv
 obtain ⟨t,_,h3,h4⟩:=hb.is_ v hv
 have:=ha.le v hv t h3
 have:=hb.le v hv u h1
 omega
def stepB (V:Nat) (E:Nat->Nat->Bool) (r:List Bool):List Bool:=(List.range V).map fun v => bt r v || (List.range V).any fun u => bt r u && E u v
theorem stepB_len (V:Nat) (E:Nat->Nat->Bool) (r:List Bool):(stepB V E r).length = V:=by simp [stepB]
theorem stepB_at {V:Nat} {E:Nat->Nat->Bool} {r:List Bool} {v:Nat} (hv:v < V):bt (stepB V E r) v = (bt r v || (List.range V).any fun u => bt r u && E u v) :=
 bt_of (by unfold stepB; rw [List.getElem?_map,List.getElem?_range hv]; rfl)
theorem cnt_more:∀ (r s:List Bool),r.length = s.length->(∀ v,bt r v = true->bt s v = true)->r = s\/cnt r < cnt s
 | [],[],_,_ => Or.inl rfl
 | [],_ :: _,h,_ => by simp at h
 | _ :: _,[],h,_ => by simp at h
 | a :: r,b :: s,h,g => by
  have g0:a = true->b = true:=fun e => by have:=g 0 (by show (a :: r).getD 0 false = true; simpa using e); simpa [bt] using this
  have gs:∀ v,bt r v = true->bt s v = true:=fun v e => by have:=g (v + 1) (by simpa [bt] using e); simpa [bt] using this
  rcases cnt_more r s (by simpa using h) gs with e | e
  ·subst e
   cases a with
   | true => rw [g0 rfl]; exact Or.inl rfl
   | false =>
    cases b with
    | false => exact Or.inl rfl
    | true => right; simp [cnt]; omega
  ·right
   rw [cnt,cnt]
   cases a with
   | true => rw [g0 rfl]; omega
   | false => cases b <;> simp <;> omega
theorem stepB_rest (V:Nat) (E:Nat->Nat->Bool) (r:List Bool) (hr:r.length = V):stepB V E (itr (stepB V E) V r) = itr (stepB V E) V r :=
 itr_rest (f:=stepB V E) (fun r => r.length = V) cnt V (fun r _ => stepB_len V E r) (fun r h => by have:=(cnt_le r).2; rw [h] at this; exact this)
  (fun x hx => (cnt_more x (stepB V E x) (by rw [stepB_len,hx]) fun v hv => by
   rcases Nat.lt_or_ge v V with h | h
   ·rw [stepB_at h,hv]; rfl
   ·unfold bt at hv; rw [List.getD_eq_getElem?_getD,List.getElem?_eq_none (by omega)] at hv; simp at hv).imp Eq.symm id) V r hr (by have:=(cnt_le r).1; omega)
theorem within {V:Nat} {E:Nat->Nat->Bool} {r:List Bool} {R:Nat->Nat->Prop} (h0:∀ v,v < V->bt r v = true->R 0 v) (hm:∀ n v,v < V->R n v->R (n + 1) v) (hs:∀ n u v,u < V->v < V->E u v = true->R n u->R (n + 1) v) :
 ∀ n v,v < V->bt (itr (stepB V E) n r) v = true->R n v
 | 0,v,hv,h => h0 v hv h
 | n + 1,v,hv,h => by
  rw [itr_next,stepB_at hv,Bool.or_eq_true] at h
  rcases h with h | h
  ·exact hm n v hv (within h0 hm hs n v hv h)
  ·obtain ⟨u,hu,h⟩:=List.any_eq_true.1 h
   have hu:=List.mem_range.1 hu
   rw [Bool.and_eq_true] at h
   exact hs n u v hu hv h.2 (within h0 hm hs n u hu h.1)
theorem keeps {V:Nat} {E:Nat->Nat->Bool} {r:List Bool} {v:Nat} (hv:v < V) (h:bt r v = true):∀ n,bt (itr (stepB V E) n r) v = true
 | 0 => h
 | n + 1 => by rw [itr_next,stepB_at hv,keeps hv h n]; rfl
theorem closed {V:Nat} {E:Nat->Nat->Bool} {r:List Bool} (hr:r.length = V) {u v:Nat} (hu:u < V) (hv:v < V) (hE:E u v = true) (h:bt (itr (stepB V E) V r) u = true):bt (itr (stepB V E) V r) v = true:=by
 rw [<- stepB_rest V E r hr,stepB_at hv,Bool.or_eq_true]
 exact Or.inr (List.any_eq_true.2 ⟨u,List.mem_range.2 hu,by rw [h,hE]; rfl⟩)
section
variable {so dm:Int} {V:Nat} {L:List Ed}
theorem gv_con (hc:chk (V:Int) L = 0) {u v:Nat} {x y:Int} (h:Gv 2 L (u:Int) (v:Int) x y):y = x/\Con L u v:=by
 obtain ⟨_,_,_,hf,_⟩:=(chk_zero _ _).1 hc
 rcases h with ⟨_,_,rfl,e,he,h⟩ | ⟨h,_⟩
 ·have hfe:=(fitE_iff _ _).1 (hf e he)
  refine ⟨rfl,?_⟩
  rcases h with ⟨h1,h2⟩ | ⟨h1,h2⟩
  ·have e1:fr e = u:=by unfold fr; omega
   have e2:Pa.to e = v:=by unfold Pa.to; omega
   rw [<- e1,<- e2]; exact .fwd he .refl
  ·have e1:fr e = v:=by unfold fr; omega
   have e2:Pa.to e = u:=by unfold Pa.to; omega
   rw [<- e1,<- e2]; exact .bwd he .refl
 ·omega
theorem lab_is (hc:chk (V:Int) L = 0):∀ (n v:Nat),v < V->∃ u:Nat,u < V/\Con L v u/\X 2 so dm V L n v = (u:Int)
 | 0,v,hv => ⟨v,hv,.refl,by rw [x_zero hv]; rfl⟩
 | n + 1,v,hv => by
  rcases x_from (so:=so) (dm:=dm) hc (Or.inl rfl) n hv with h | ⟨u,hu,h⟩
  ·obtain ⟨t,ht,h1,h2⟩:=lab_is hc n v hv
   exact ⟨t,ht,h1,by rw [h]; exact h2⟩
  ·obtain ⟨h1,h2⟩:=gv_con hc h
   obtain ⟨t,ht,h3,h4⟩:=lab_is hc n u hu
   exact ⟨t,ht,h2.symm.trans h3,by rw [h1]; exact h4⟩
theorem lab_own (n:Nat) {v:Nat} (hv:v < V):X 2 so dm V L n v <= (v:Int):=by
 induction n with
 | zero => rw [x_zero hv]; show (v:Int) <= v; omega
 | succ n ih => have:=x_falls (so:=so) (dm:=dm) (L:=L) (Or.inl rfl:(2:Int) = 2\/(2:Int) = 3) n hv; omega
theorem lab_near (hc:chk (V:Int) L = 0) (n:Nat) {e:Ed} (he:e ∈ L):X 2 so dm V L (n + 1) (Pa.to e) <= X 2 so dm V L n (fr e)/\X 2 so dm V L (n + 1) (fr e) <= X 2 so dm V L n (Pa.to e):=by
 obtain ⟨hf,ht⟩:=fits_of hc e he
 obtain ⟨_,_,_,hfit,_⟩:=(chk_zero _ _).1 hc
 have hfe:=(fitE_iff _ _).1 (hfit e he)
 have e1:((fr e:Nat):Int) = e.1:=by unfold fr; omega
 have e2:((Pa.to e:Nat):Int) = e.2.1:=by unfold Pa.to; omega
 by_cases h:fr e = Pa.to e
 ·rw [h]
  have:=x_falls (so:=so) (dm:=dm) (L:=L) (Or.inl rfl:(2:Int) = 2\/(2:Int) = 3) n ht
  exact ⟨this,this⟩
 ·exact ⟨x_flow hc (Or.inl rfl) n _ _ _ hf ht (Or.inl ⟨rfl,by omega,rfl,e,he,Or.inl ⟨e1.symm,e2.symm⟩⟩),
   x_flow hc (Or.inl rfl) n _ _ _ ht hf (Or.inl ⟨rfl,by omega,rfl,e,he,Or.inr ⟨e1.symm,e2.symm⟩⟩)⟩
theorem lab_rest (hc:chk (V:Int) L = 0) (n:Nat) (h:(stS 2 so dm V L (n + 1)).most = 0):LabC V L (stS 2 so dm V L (n + 1)).vals:=by
 have hr:=fun v (hv:v < V) => x_rests (so:=so) (dm:=dm) (L:=L) hc (Or.inl rfl) n h (v:=v) hv
 refine ⟨(x_go hc (Or.inl rfl) (n + 1)).may.1,fun v hv => lab_is hc (n + 1) v hv,fun v hv u hu => ?_⟩
 have key:X 2 so dm V L (n + 1) v = X 2 so dm V L (n + 1) u:=by
  induction hu with
  | refl => rfl
  | fwd he _ ih =>
   obtain ⟨h1,h2⟩:=lab_near (so:=so) (dm:=dm) hc n he
   obtain ⟨hf,ht⟩:=fits_of hc _ he
   rw [hr _ ht] at h1; rw [hr _ hf] at h2; rw [hr _ hf] at ih; rw [hr _ ht]; omega
  | bwd he _ ih =>
   obtain ⟨h1,h2⟩:=lab_near (so:=so) (dm:=dm) hc n he
   obtain ⟨hf,ht⟩:=fits_of hc _ he
   rw [hr _ ht] at h1; rw [hr _ hf] at h2; rw [hr _ ht] at ih; rw [hr _ hf]; omega
 have:=lab_own (so:=so) (dm:=dm) (L:=L) (n + 1) (hu.lt (fits_of hc) hv)
 show X 2 so dm V L (n + 1) v <= _
 omega
def adjB (L:List Ed) (u v:Nat):Bool:=L.any fun e => (fr e == u && Pa.to e == v) || (fr e == v && Pa.to e == u)
theorem lab_all (hc:chk (V:Int) L = 0) (n:Nat) (hn:V <= n):LabC V L (stS 2 so dm V L n).vals:=by
 refine ⟨(x_go hc (Or.inl rfl) n).may.1,fun v hv => lab_is hc n v hv,fun v hv t ht => ?_⟩
 have htV:=ht.lt (fits_of hc) hv
 have hlen:(Pa.one V t).length = V:=Pa.one_len V t
 have hR:=within (V:=V) (E:=adjB L) (r:=Pa.one V t) (R:=fun n v => X 2 so dm V L n v <= (t:Int))
  (fun v hv h => by rw [Pa.one_at htV] at h; have:t = v:=by simpa using h
                    subst this; exact lab_own 0 hv)
  (fun n v hv h => by have:=x_falls (so:=so) (dm:=dm) (L:=L) (Or.inl rfl:(2:Int) = 2\/(2:Int) = 3) n hv; omega)
  (fun n u v hu hv hE h => by
   obtain ⟨e,he,h2⟩:=List.any_eq_true.1 hE
   obtain ⟨g1,g2⟩:=lab_near (so:=so) (dm:=dm) hc n he
   simp only [Bool.or_eq_true,Bool.and_eq_true,beq_iff_eq] at h2
   rcases h2 with ⟨rfl,rfl⟩ | ⟨rfl,rfl⟩ <;> omega)
 have hcl:∀ u,Con L t u->bt (itr (stepB V (adjB L)) V (Pa.one V t)) u = true:=by
  intro u hu
  induction hu with
  | refl => exact keeps htV (by rw [Pa.one_at htV]; simp) V
  | fwd he hu2 ih =>
   obtain ⟨hf,ht2⟩:=fits_of hc _ he
   exact closed hlen hf ht2 (List.any_eq_true.2 ⟨_,he,by simp⟩) ih
  | bwd he hu2 ih =>
   obtain ⟨hf,ht2⟩:=fits_of hc _ he
   exact closed hlen ht2 hf (List.any_eq_true.2 ⟨_,he,by simp⟩) ih
 have h1:=hR V v hv (hcl v ht.symm)
 have:∀ m,X 2 so dm V L (V + m) v <= (t:Int):=by
  intro m
  induction m with
  | zero => exact h1
  | succ m ih => have:=x_falls (so:=so) (dm:=dm) (L:=L) (Or.inl rfl:(2:Int) = 2\/(2:Int) = 3) (V + m) hv; rw [<- Nat.add_assoc]; omega
 have:=this (n - V)
 rw [show V + (n - V) = n by omega] at this
 exact this
end
section
variable {dm:Int} {V s:Nat} {L:List Ed}
theorem far_is {l:List Int} (hF:Fits V L) (hs:s < V) (h1:l.length = V) (h3:vl l s <= 0) (h2:∀ v,v < V->vl l v <= 4611686018427387904) (h4:∀ e ∈ L,vl l (Pa.to e) <= gv l e) (h5:Abv V (far V s L) l):l = far V s L:=by
 have hT:=far_tight (L:=L) hF hs
 refine vl_ext (by rw [h1,hT.len]) fun v hv => ?_
 rw [h1] at hv
 have hle:vl l v <= vl (far V s L) v:=by
  rcases hT.held v hv with h | h
  ·have:=h2 v hv; omega
  ·induction h with
   | src => rw [hT.src]; exact h3
   | @step e he _ hg ih =>
    obtain ⟨hf,ht⟩:=hF e he
    have:=ih hf
    have g1:=h4 e he
    have g2:=addI_mono e.2.2 this
    unfold gv at g1 hg; omega
 have:=h5 v hv
 omega
theorem dis_above (hc:chk (V:Int) L = 0) (hs:s < V):∀ n,Abv V (far V s L) (stS 3 (s:Int) dm V L n).vals
 | 0,v,hv => by
  have hT:=far_tight (L:=L) (fits_of hc) hs
  show vl (far V s L) v <= X 3 (s:Int) dm V L 0 v
  rw [x_zero hv]
  show vl (far V s L) v <= Pa.stt v s
  unfold Pa.stt
  split
  ·rename_i h; have:v = s:=by omega
   subst this; rw [hT.src]; omega
  ·exact (hT.in_ v hv).2
 | n + 1,v,hv => by
  have hT:=far_tight (L:=L) (fits_of hc) hs
  have ih:=dis_above hc hs n
  show vl (far V s L) v <= X 3 (s:Int) dm V L (n + 1) v
  rcases x_from (so:=(s:Int)) (dm:=dm) hc (Or.inr rfl) n hv with h | ⟨u,hu,h⟩
  ·rw [h]; exact ih v hv
  ·rcases h with ⟨h,_⟩ | ⟨_,e,he,h1,h2,h3⟩
   ·omega
   ·have e1:fr e = u:=by unfold fr; omega
    have e2:Pa.to e = v:=by unfold Pa.to; omega
    rw [h3]
    have g1:=hT.near e he
    have g2:=addI_mono e.2.2 (ih u hu)
    unfold gv at g1
    rw [e1,e2] at g1
    show _ <= addI (vl (stS 3 (s:Int) dm V L n).vals u) e.2.2
    omega
theorem dis_src (hs:s < V):∀ n,X 3 (s:Int) dm V L n s <= 0
 | 0 => by rw [x_zero hs]; show Pa.stt s s <= 0; simp [Pa.stt]
 | n + 1 => by
  have:=x_falls (so:=(s:Int)) (dm:=dm) (L:=L) (Or.inr rfl:(3:Int) = 2\/(3:Int) = 3) n hs
  have:=dis_src hs n; omega
theorem dis_near (hc:chk (V:Int) L = 0) (n:Nat) {e:Ed} (he:e ∈ L):X 3 (s:Int) dm V L (n + 1) (Pa.to e) <= addI (X 3 (s:Int) dm V L n (fr e)) e.2.2:=by
 obtain ⟨hf,ht⟩:=fits_of hc e he
 obtain ⟨_,_,_,hfit,_⟩:=(chk_zero _ _).1 hc
 have hfe:=(fitE_iff _ _).1 (hfit e he)
 exact x_flow hc (Or.inr rfl) n _ _ _ hf ht (Or.inr ⟨rfl,e,he,by unfold fr; omega,by unfold Pa.to; omega,rfl⟩)
theorem dis_rest (hc:chk (V:Int) L = 0) (hs:s < V) (n:Nat) (h:(stS 3 (s:Int) dm V L (n + 1)).most = 0):(stS 3 (s:Int) dm V L (n + 1)).vals = far V s L:=by
 refine far_is (fits_of hc) hs (x_go hc (Or.inr rfl) (n + 1)).may.1 (dis_src hs (n + 1)) (fun v _ => (x_in hc (Or.inr rfl) (n + 1) v).2) (fun e he => ?_) (dis_above hc hs (n + 1))
 have h1:=dis_near (s:=s) (dm:=dm) hc n he
 have h2:=x_rests (so:=(s:Int)) (dm:=dm) (L:=L) hc (Or.inr rfl) n h (fits_of hc e he).1
 show X 3 (s:Int) dm V L (n + 1) (Pa.to e) <= addI (X 3 (s:Int) dm V L (n + 1) (fr e)) e.2.2
 rw [h2]; exact h1
def tgtB (V s:Nat) (L:List Ed) (u v:Nat):Bool:=L.any fun e => fr e == u && Pa.to e == v && decide (gv (far V s L) e = vl (far V s L) (Pa.to e))
theorem dis_all (hc:chk (V:Int) L = 0) (hs:s < V) (n:Nat) (hn:V <= n):(stS 3 (s:Int) dm V L n).vals = far V s L:=by
 have hF:=fits_of hc
 have hT:=far_tight (L:=L) hF hs
 have hlen:(Pa.one V s).length = V:=Pa.one_len V s
 have hR:=within (V:=V) (E:=tgtB V s L) (r:=Pa.one V s) (R:=fun n v => X 3 (s:Int) dm V L n v <= vl (far V s L) v)
  (fun v hv h => by rw [Pa.one_at hs] at h; have:s = v:=by simpa using h
                    subst this; rw [hT.src]; exact dis_src hs 0)
  (fun n v hv h => by have:=x_falls (so:=(s:Int)) (dm:=dm) (L:=L) (Or.inr rfl:(3:Int) = 2\/(3:Int) = 3) n hv; omega)
  (fun n u v hu hv hE h => by
   obtain ⟨e,he,h2⟩:=List.any_eq_true.1 hE
   simp only [Bool.and_eq_true,beq_iff_eq,decide_eq_true_eq] at h2
   obtain ⟨⟨rfl,rfl⟩,h3⟩:=h2
   have g1:=dis_near (s:=s) (dm:=dm) hc n he
   have g2:=addI_mono e.2.2 h
   unfold gv at h3
   omega)
 have hcl:∀ u,Rc L s (far V s L) u->bt (itr (stepB V (tgtB V s L)) V (Pa.one V s)) u = true:=by
  intro u hu
  induction hu with
  | src => exact keeps hs (by rw [Pa.one_at hs]; simp) V
  | @step e he hu2 hg ih =>
   obtain ⟨hf,ht2⟩:=hF e he
   exact closed hlen hf ht2 (List.any_eq_true.2 ⟨e,he,by simp [hg]⟩) ih
 have hV:∀ v,v < V->X 3 (s:Int) dm V L V v <= vl (far V s L) v:=fun v hv => by
  rcases hT.held v hv with h | h
  ·rw [h]; exact (x_in hc (Or.inr rfl) V v).2
  ·exact hR V v hv (hcl v h)
 refine vl_ext (by rw [hT.len]; exact (x_go hc (Or.inr rfl) n).may.1) fun v hv => ?_
 have hv:v < V:=by have:=(x_go (so:=(s:Int)) (dm:=dm) hc (Or.inr rfl:(3:Int) = 2\/(3:Int) = 3) n).may.1; omega
 have:∀ m,X 3 (s:Int) dm V L (V + m) v <= vl (far V s L) v:=by
  intro m
  induction m with
  | zero => exact hV v hv
  | succ m ih => have:=x_falls (so:=(s:Int)) (dm:=dm) (L:=L) (Or.inr rfl:(3:Int) = 2\/(3:Int) = 3) (V + m) hv; rw [<- Nat.add_assoc]; omega
 have h1:=this (n - V)
 rw [show V + (n - V) = n by omega] at h1
 have h2:=dis_above (dm:=dm) hc hs n v hv
 show X 3 (s:Int) dm V L n v = _
 have h3:vl (far V s L) v <= X 3 (s:Int) dm V L n v:=h2
 omega
end
end Go.Proofs.YtdcaekmgfcpbmaaGreat.Mn
