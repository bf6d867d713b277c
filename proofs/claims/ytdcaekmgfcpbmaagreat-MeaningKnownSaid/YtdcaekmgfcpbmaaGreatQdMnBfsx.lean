/-
  What is proved here: plain facts on a forest of vertices that is put together edge by edge (what stands at its roots are labels), and on ways that wait to be gone on from, in whatever order (what is told when none waits are distances). No program. What is proved here: plain facts on two ways to reckon: what is gone to from vertex to vertex, either way, gives the least vertices that hang together; the nearest one settled, over and over, gives the least sums. No program.
-/
import Derived.Test.YtdcaekmgfcpbmaaGreatQdMnMath
import Derived.Test.YtdcaekmgfcpbmaaGreatQdMnMem
namespace Go.Proofs.YtdcaekmgfcpbmaaGreat.Mn
open Gr Fx Rk Lb Al In Sq
open Pa (vl bt vl_of vl_at bt_of bt_at vl_ext far Abv Fits fits_of gv addI_mono far_tight Tight Rc fr rlx tot tot_set tot_pos)
structure Fo (V:Nat) (A:List Int) (R:Nat->Nat):Prop where
 len:A.length = V
 up:∀ v,v < V->∃ u:Nat,vl A v = (u:Int)/\u <= v/\R u = R v
 top:∀ v,v < V->vl A v = (v:Int)->R v = v
 rt:∀ v,v < V->R v <= v/\R (R v) = R v
def own (V:Nat):List Int:=(List.range V).map fun (v:Nat) => (v:Int)
theorem own_len (V:Nat):(own V).length = V:=by unfold own; simp
theorem own_at {V v:Nat} (h:v < V):vl (own V) v = (v:Int):=vl_of (by unfold own; rw [List.getElem?_map,List.getElem?_range h]; rfl)
theorem own_next (V:Nat):own (V + 1) = own V ++ [(V:Int)]:=by unfold own; rw [List.range_succ,List.map_append]; rfl
theorem fo_start (V:Nat):Fo V (own V) (fun v => v) :=
 ⟨own_len V,fun v hv => ⟨v,own_at hv,Nat.le_refl _,rfl⟩,fun _ _ _ => rfl,fun _ _ => ⟨Nat.le_refl _,rfl⟩⟩
theorem Fo.put {V:Nat} {A:List Int} {R:Nat->Nat} (h:Fo V A R) {v:Nat} (hv:v < V):Fo V (A.set v ((R v:Nat):Int)) R:=by
 have hl:v < A.length:=by rw [h.len]; exact hv
 obtain ⟨h1,h2⟩:=h.rt v hv
 refine ⟨by rw [List.length_set]; exact h.len,fun j hj => ?_,fun j hj he => ?_,h.rt⟩
 ·rw [Pa.vl_set _ _ _ _ hl]
  by_cases e:v = j
  ·subst e; rw [if_pos rfl]; exact ⟨R v,rfl,h1,h2⟩
  ·rw [if_neg e]; exact h.up j hj
 ·rw [Pa.vl_set _ _ _ _ hl] at he
  by_cases e:v = j
  ·subst e; rw [if_pos rfl] at he; omega
  ·rw [if_neg e] at he; exact h.top j hj he
def jr (R:Nat->Nat) (a b:Nat):Nat->Nat:=fun v => if R v = max a b then min a b else R v
theorem jr_root {R:Nat->Nat} {a b:Nat} (ha:R a = a) (hb:R b = b):jr R a b (min a b) = min a b:=by
 unfold jr
 have:R (min a b) = min a b:=by rcases Nat.le_total a b with h | h <;> simp [h,ha,hb]
 split <;> omega
theorem Fo.join {V:Nat} {A:List Int} {R:Nat->Nat} (h:Fo V A R) {a b:Nat} (hav:a < V) (hbv:b < V) (ha:R a = a) (hb:R b = b):Fo V (A.set (max a b) ((min a b:Nat):Int)) (jr R a b):=by
 have hm:max a b < V:=by omega
 have hl:max a b < A.length:=by rw [h.len]; exact hm
 have hhi:R (max a b) = max a b:=by rcases Nat.le_total a b with h | h <;> simp [h,ha,hb]
 have hlo:R (min a b) = min a b:=by rcases Nat.le_total a b with h | h <;> simp [h,ha,hb]
 refine ⟨by rw [List.length_set]; exact h.len,fun j hj => ?_,fun j hj he => ?_,fun j hj => ?_⟩
 ·rw [Pa.vl_set _ _ _ _ hl]
  by_cases e:max a b = j
  ·rw [if_pos e]
   refine ⟨min a b,rfl,by omega,?_⟩
   rw [jr_root ha hb]; unfold jr; rw [<- e,hhi,if_pos rfl]
  ·rw [if_neg e]
   obtain ⟨u,h1,h2,h3⟩:=h.up j hj
   exact ⟨u,h1,h2,by unfold jr; rw [h3]⟩
 ·rw [Pa.vl_set _ _ _ _ hl] at he
  by_cases e:max a b = j
  ·rw [if_pos e] at he
   unfold jr; rw [<- e,hhi,if_pos rfl]; omega
  ·rw [if_neg e] at he
   have h1:=h.top j hj he
   unfold jr; rw [h1,if_neg (by omega)]
 ·obtain ⟨h1,h2⟩:=h.rt j hj
  by_cases e:R j = max a b
  ·have e1:jr R a b j = min a b:=by unfold jr; rw [if_pos e]
   rw [e1]; exact ⟨by omega,jr_root ha hb⟩
  ·have e1:jr R a b j = R j:=by unfold jr; rw [if_neg e]
   rw [e1]; refine ⟨h1,?_⟩
   unfold jr; rw [h2,if_neg e]
structure Fc (V:Nat) (L P:List Ed) (R:Nat->Nat):Prop where
 con:∀ v,v < V->Con L v (R v)
 one:∀ e ∈ P,R (fr e) = R (Pa.to e)
theorem fc_start (V:Nat) (L:List Ed):Fc V L [] (fun v => v):=⟨fun v _ => .refl,fun e he => by cases he⟩
theorem Fc.join {V:Nat} {L P:List Ed} {R:Nat->Nat} (h:Fc V L P R) (hF:Fits V L) {e:Ed} (he:e ∈ L):Fc V L (P ++ [e]) (jr R (R (fr e)) (R (Pa.to e))):=by
 obtain ⟨hf,ht⟩:=hF e he
 have c:Con L (R (fr e)) (R (Pa.to e)):=((h.con _ hf).symm.trans (Con.fwd he .refl)).trans (h.con _ ht)
 have cm:Con L (max (R (fr e)) (R (Pa.to e))) (min (R (fr e)) (R (Pa.to e))):=by
  rcases Nat.le_total (R (fr e)) (R (Pa.to e)) with g | g
  ·rw [Nat.max_eq_right g,Nat.min_eq_left g]; exact c.symm
  ·rw [Nat.max_eq_left g,Nat.min_eq_right g]; exact c
 refine ⟨fun v hv => ?_,fun x hx => ?_⟩
 ·unfold jr
  split
  ·rename_i e1
   have:=h.con v hv
   rw [e1] at this
   exact this.trans cm
  ·exact h.con v hv
 ·rcases List.mem_append.1 hx with hx | hx
  ·unfold jr; rw [h.one x hx]
  ·rw [List.mem_singleton.1 hx]
   unfold jr
   split <;> split <;> omega
theorem fo_labels {V:Nat} {L:List Ed} {A:List Int} {R:Nat->Nat} (hF:Fits V L) (h:Fo V A R) (hc:Fc V L L R) {l:List Int} (hl:l.length = V) (hv:∀ v,v < V->vl l v = ((R v:Nat):Int)):LabC V L l:=by
 refine ⟨hl,fun v hv1 => ⟨R v,by have:=(h.rt v hv1).1; omega,hc.con v hv1,hv v hv1⟩,fun v hv1 u hu => ?_⟩
 have key:R v = R u:=by
  induction hu with
  | refl => rfl
  | fwd he _ ih => exact ih.trans (hc.one _ he)
  | bwd he _ ih => exact ih.trans (hc.one _ he).symm
 have:=(h.rt u (hu.lt hF hv1)).1
 rw [hv v hv1,key]; omega
def fin:List Int->Int
 | [] => 0
 | x :: l => (if x = 4611686018427387904 then 0 else 1) + fin l
theorem fin_le:∀ l:List Int,0 <= fin l/\fin l <= (l.length:Int)
 | [] => by simp [fin]
 | x :: l => by
  have:=fin_le l
  rw [fin,List.length_cons]; split <;> omega
theorem fin_set:∀ (l:List Int) (k:Nat) (x:Int),k < l.length->fin (l.set k x) = fin l - (if vl l k = 4611686018427387904 then 0 else 1) + (if x = 4611686018427387904 then 0 else 1)
 | [],k,_,h => by simp at h
 | y :: l,0,x,_ => by
  show (if x = _ then (0:Int) else 1) + fin l = (if y = _ then (0:Int) else 1) + fin l - (if vl (y :: l) 0 = _ then 0 else 1) + _
  rw [show vl (y :: l) 0 = y from rfl]; omega
 | y :: l,k + 1,x,h => by
  show (if y = _ then (0:Int) else 1) + fin (l.set k x) = (if y = _ then (0:Int) else 1) + fin l - (if vl (y :: l) (k + 1) = _ then 0 else 1) + _
  rw [fin_set l k x (by simpa using h),Pa.vl_succ]; omega
def cp (x:Int):Int:=min x 88046829568
theorem cp_set (l:List Int) (k:Nat) (x:Int) (h:k < l.length):tot ((l.set k x).map cp) = tot (l.map cp) - cp (vl l k) + cp x:=by
 rw [List.map_set,tot_set _ _ _ (by simpa using h)]
 have:vl (l.map cp) k = cp (vl l k):=vl_of (by rw [List.getElem?_map,vl_at h]; rfl)
 rw [this]
theorem cp_at {l:List Int} {k:Nat} (h:k < l.length):vl (l.map cp) k = cp (vl l k):=vl_of (by rw [List.getElem?_map,vl_at h]; rfl)
theorem cp_pos {l:List Int} (h:∀ k,k < l.length->0 <= vl l k):0 <= tot (l.map cp):=tot_pos _ fun k hk => by
 rw [List.length_map] at hk
 rw [cp_at hk]; have:=h k hk; unfold cp; omega
theorem cp_le:∀ l:List Int,tot (l.map cp) <= (l.length:Int) * 88046829568
 | [] => by simp [tot]
 | x :: l => by
  have:=cp_le l
  rw [List.map_cons,tot,List.length_cons]
  have:cp x <= 88046829568:=by unfold cp; omega
  omega
structure Wl (V:Nat) (L:List Ed) (s:Nat) (l:List Int) (H:List Wy):Prop where
 inv:Pa.Inv V L s l
 abv:Abv V (far V s L) l
 low:∀ v,v < V->vl l v = 4611686018427387904\/vl l v <= (fin l - 1) * 2147483648
 ways:∀ p ∈ H,p.1 < V/\vl l p.1 <= p.2/\p.2 < 4611686018427387904
 few:(H.length:Int) + tot (l.map cp) <= 1 + (V:Int) * 88046829568
def Pend (L:List Ed) (l:List Int) (H:List Wy) (U:List Ed):Prop:=∀ e ∈ L,vl l (Pa.to e) <= gv l e\/(fr e,vl l (fr e)) ∈ H\/e ∈ U
def wn (l:List Int) (H:List Wy):Nat:=(2 * tot (l.map cp)).toNat + H.length
section
variable {V s:Nat} {L:List Ed} {l:List Int} {H:List Wy}
theorem Wl.some_ (h:Wl V L s l H) (hV:V <= 40) {v:Nat} (hv:v < V) (hn:vl l v ≠ 4611686018427387904):0 <= vl l v/\vl l v <= 39 * 2147483648:=by
 have h1:=h.inv.in_ v hv
 have h2:=(fin_le l).2
 rw [h.inv.len] at h2
 rcases h.low v hv with g | g
 ·exact absurd g hn
 ·omega
theorem Wl.len_le (h:Wl V L s l H) (hV:V <= 40):H.length <= 3521873182721:=by
 have h1:=cp_pos (l:=l) fun k hk => (h.inv.in_ k (by rw [h.inv.len] at hk; exact hk)).1
 have:=h.few
 omega
theorem start_at (hs:s < V) {v:Nat} (hv:v < V):vl (Pa.start V s) v = if s = v then 0 else 4611686018427387904:=by
 unfold Pa.start; rw [Pa.vl_set _ _ _ _ (by simp; exact hs)]
 split
 ·rfl
 ·exact vl_of (by rw [List.getElem?_replicate,if_pos hv])
theorem fin_rep:∀ n:Nat,fin (List.replicate n 4611686018427387904) = 0
 | 0 => rfl
 | n + 1 => by rw [List.replicate_succ,fin,fin_rep n]; rfl
theorem wl_start (hF:Fits V L) (hs:s < V):Wl V L s (Pa.start V s) [(s,0)]/\Pend L (Pa.start V s) [(s,0)] []:=by
 have hT:=far_tight (L:=L) hF hs
 have hl:s < (List.replicate V (4611686018427387904:Int)).length:=by simpa using hs
 have hfin:fin (Pa.start V s) = 1:=by
  unfold Pa.start; rw [fin_set _ _ _ hl,fin_rep]
  have:vl (List.replicate V 4611686018427387904) s = 4611686018427387904:=vl_of (by rw [List.getElem?_replicate,if_pos hs])
  rw [this]; rfl
 refine ⟨⟨Pa.inv_start L hs,fun k hk => ?_,fun v hv => ?_,fun p hp => ?_,?_⟩,fun e he => ?_⟩
 ·rw [start_at hs hk]; split
  ·rename_i h; subst h; rw [hT.src]; omega
  ·exact (hT.in_ k hk).2
 ·rw [start_at hs hv,hfin]; split
  ·right; omega
  ·left; rfl
 ·rw [List.mem_singleton.1 hp]
  exact ⟨hs,by rw [start_at hs hs,if_pos rfl]; omega,by show (0:Int) < 4611686018427387904; decide⟩
 ·have h1:=cp_le (List.replicate V (4611686018427387904:Int))
  unfold Pa.start
  rw [cp_set _ _ _ hl]
  have:vl (List.replicate V 4611686018427387904) s = 4611686018427387904:=vl_of (by rw [List.getElem?_replicate,if_pos hs])
  rw [this]
  simp only [List.length_replicate] at h1
  simp only [List.length_singleton,cp]
  omega
 ·obtain ⟨hf,ht⟩:=hF e he
  by_cases h:s = fr e
  ·right; left; rw [start_at hs hf,if_pos h,h]; exact List.mem_cons_self
  ·left
   have h1:vl (Pa.start V s) (fr e) = 4611686018427387904:=by rw [start_at hs hf,if_neg h]
   have h2:gv (Pa.start V s) e = 4611686018427387904:=by
    unfold gv; rw [h1]; unfold addI
    have:=dst_in e.2.2
    rw [show dst 4611686018427387904 = 4611686018427387904 from by decide]
    split <;> omega
   rw [h2]
   rw [start_at hs ht]; split <;> omega
theorem Wl.perm {H':List Wy} (h:Wl V L s l H) (hp:H'.Perm H):Wl V L s l H' :=
 ⟨h.inv,h.abv,h.low,fun p g => h.ways p (hp.mem_iff.1 g),by rw [hp.length_eq]; exact h.few⟩
theorem Pend.perm {U:List Ed} {H':List Wy} (h:Pend L l H U) (hp:H'.Perm H):Pend L l H' U:=fun e he => by
 rcases h e he with g | g | g
 ·exact Or.inl g
 ·exact Or.inr (Or.inl (hp.mem_iff.2 g))
 ·exact Or.inr (Or.inr g)
theorem wn_perm {H':List Wy} (hp:H'.Perm H):wn l H' = wn l H:=by unfold wn; rw [hp.length_eq]
theorem Wl.skip {p:Wy} (h:Wl V L s l (p :: H)) (hP:Pend L l (p :: H) []) (hg:vl l p.1 < p.2):Wl V L s l H/\Pend L l H []:=by
 refine ⟨⟨h.inv,h.abv,h.low,fun q hq => h.ways q (List.mem_cons_of_mem _ hq),by have:=h.few; rw [List.length_cons] at this; push_cast at this; omega⟩,fun e he => ?_⟩
 rcases hP e he with g | g | g
 ·exact Or.inl g
 ·rcases List.mem_cons.1 g with g | g
  ·have e1:p.1 = fr e:=by rw [<- g]
   have e2:p.2 = vl l (fr e):=by rw [<- g]
   rw [e1,e2] at hg; omega
  ·exact Or.inr (Or.inl g)
 ·exact Or.inr (Or.inr g)
theorem Wl.take {u:Nat} {d:Int} (h:Wl V L s l ((u,d) :: H)) (hP:Pend L l ((u,d) :: H) []) (hw:∀ e ∈ L,0 <= e.1):Wl V L s l H/\Pend L l H (outE L (u:Int)):=by
 refine ⟨⟨h.inv,h.abv,h.low,fun q hq => h.ways q (List.mem_cons_of_mem _ hq),by have:=h.few; rw [List.length_cons] at this; push_cast at this; omega⟩,fun e he => ?_⟩
 rcases hP e he with g | g | g
 ·exact Or.inl g
 ·rcases List.mem_cons.1 g with g | g
  ·right; right
   have e1:fr e = u:=congrArg Prod.fst g
   refine List.mem_filter.2 ⟨he,?_⟩
   have:=hw e he
   unfold fr at e1
   simp; omega
  ·exact Or.inr (Or.inl g)
 ·cases g
theorem Pend.over {e:Ed} {U:List Ed} (hP:Pend L l H (e :: U)) (hg:vl l (Pa.to e) <= gv l e):Pend L l H U:=fun x hx => by
 rcases hP x hx with g | g | g
 ·exact Or.inl g
 ·exact Or.inr (Or.inl g)
 ·rcases List.mem_cons.1 g with g | g
  ·rw [g]; exact Or.inl hg
  ·exact Or.inr (Or.inr g)
theorem wl_sum {a w:Int} (ha:0 <= a) (hw:0 <= w) (h:addI a w < 4611686018427387904):addI a w = a + w:=by
 revert h; unfold addI dst; (repeat' split) <;> omega
theorem Wl.relax (hF:Fits V L) (hs:s < V) {e:Ed} {U:List Ed} (h:Wl V L s l H) (hP:Pend L l H (e :: U)) (he:e ∈ L) (hw:0 <= e.2.2/\e.2.2 <= 2147483648) (hV:V <= 40) (hlt:gv l e < vl l (Pa.to e)) :
 Wl V L s (rlx l e) ((Pa.to e,gv l e) :: H)/\Pend L (rlx l e) ((Pa.to e,gv l e) :: H) U/\vl (rlx l e) (fr e) = vl l (fr e)/\rlx l e = l.set (Pa.to e) (gv l e)/\wn (rlx l e) ((Pa.to e,gv l e) :: H) < wn l H:=by
 obtain ⟨hf,ht⟩:=hF e he
 have hT:=far_tight (L:=L) hF hs
 have htl:Pa.to e < l.length:=by rw [h.inv.len]; exact ht
 have hgi:=Pa.gv_in l e
 have hti:=h.inv.in_ _ ht
 have hfi:=h.inv.in_ _ hf
 have hsum:gv l e = vl l (fr e) + e.2.2:=wl_sum hfi.1 hw.1 (by unfold gv at hlt; omega)
 have hne:fr e ≠ Pa.to e:=fun g => by rw [<- g] at hlt; omega
 have hr:rlx l e = l.set (Pa.to e) (gv l e):=by unfold rlx; rw [show min (vl l (Pa.to e)) (gv l e) = gv l e by omega]
 have hat:∀ k,vl (rlx l e) k = if Pa.to e = k then gv l e else vl l k:=fun k => by rw [hr,Pa.vl_set _ _ _ _ htl]
 have hle:∀ k,vl (rlx l e) k <= vl l k:=fun k => by rw [hat]; split <;> (try subst_vars) <;> omega
 have hfr:vl (rlx l e) (fr e) = vl l (fr e):=by rw [hat,if_neg (fun g => hne g.symm)]
 have hflow:vl l (fr e) <= (fin l - 1) * 2147483648:=by
  rcases h.low _ hf with g | g
  ·omega
  ·exact g
 have hfin:fin (rlx l e) = fin l + (if vl l (Pa.to e) = 4611686018427387904 then 1 else 0):=by
  rw [hr,fin_set _ _ _ htl,if_neg (show ¬ gv l e = 4611686018427387904 by omega)]; split <;> omega
 have hf2:=(fin_le l).2
 rw [h.inv.len] at hf2
 have hcp:tot ((rlx l e).map cp) <= tot (l.map cp) - 1:=by
  rw [hr,cp_set _ _ _ htl]
  have h1:gv l e <= 40 * 2147483648:=by omega
  unfold cp
  rcases h.low _ ht with g | g <;> omega
 have hpos:=cp_pos (l:=rlx l e) fun k hk => by
  rw [Pa.rlx_len,h.inv.len] at hk
  rw [hat]; have:=h.inv.in_ k hk; split <;> omega
 refine ⟨⟨h.inv.rlx hF e he,h.abv.rlx hT hF h.inv.len e he,fun v hv => ?_,fun p hp => ?_,?_⟩,fun x hx => ?_,hfr,hr,?_⟩
 ·rw [hat,hfin]
  split
  ·right; subst_vars
   rcases h.low _ ht with g | g
   ·rw [if_pos g]; omega
   ·split <;> omega
  ·rcases h.low v hv with g | g
   ·exact Or.inl g
   ·right; split <;> omega
 ·rcases List.mem_cons.1 hp with rfl | hp
  ·exact ⟨ht,by rw [hat,if_pos rfl]; exact Int.le_refl _,by show gv l e < _; omega⟩
  ·obtain ⟨h1,h2,h3⟩:=h.ways p hp
   exact ⟨h1,by have:=hle p.1; omega,h3⟩
 ·have:=h.few
  rw [List.length_cons]; push_cast; omega
 ·obtain ⟨hxf,hxt⟩:=hF x hx
  by_cases hx1:fr x = Pa.to e
  ·right; left; rw [hat,if_pos hx1.symm,hx1]; exact List.mem_cons_self
  ·have e1:vl (rlx l e) (fr x) = vl l (fr x):=by rw [hat,if_neg (fun g => hx1 g.symm)]
   have e2:gv (rlx l e) x = gv l x:=by unfold gv; rw [e1]
   rcases hP x hx with g | g | g
   ·left; rw [e2]; have:=hle (Pa.to x); omega
   ·right; left; rw [e1]; exact List.mem_cons_of_mem _ g
   ·rcases List.mem_cons.1 g with g | g
    ·subst g; left; rw [e2,hat,if_pos rfl]; exact Int.le_refl _
    ·exact Or.inr (Or.inr g)
 ·unfold wn; rw [List.length_cons]; omega
theorem wl_done (hF:Fits V L) (hs:s < V) (h:Wl V L s l []) (hP:Pend L l [] []):l = far V s L :=
 far_is hF hs h.inv.len (by rw [h.inv.src]; omega) (fun v hv => (h.inv.in_ v hv).2) (fun e he => by
  rcases hP e he with g | g | g
  ·exact g
  ·cases g
  ·cases g) h.abv
end
open Gr Fx Rk Lb Al In Sq
open Pa (vl bt vl_of vl_at bt_of bt_at vl_ext itr itr_next itr_keep itr_rest cnt cnt_le far Abv Fits fits_of gv addI_mono far_tight Tight Rc fr rlx rlxA)
theorem nodup_cnt:∀ (l:List Nat) (r:List Bool),l.Nodup->(∀ u ∈ l,u < r.length/\bt r u = false)->cnt (l.foldl (fun r u => r.set u true) r) = cnt r + (l.length:Int)/\(l.foldl (fun r u => r.set u true) r).length = r.length
 | [],r,_,_ => by simp
 | u :: l,r,hn,h => by
  obtain ⟨h1,h2⟩:=List.nodup_cons.1 hn
  obtain ⟨g1,g2⟩:=h u List.mem_cons_self
  obtain ⟨i1,i2⟩:=nodup_cnt l (r.set u true) h2 fun w hw => by
   obtain ⟨a,b⟩:=h w (List.mem_cons_of_mem _ hw)
   refine ⟨by simpa using a,?_⟩
   rw [Pa.bt_set _ _ _ _ g1,if_neg (fun e => h1 (by rw [e]; exact hw))]; exact b
  rw [List.foldl_cons,i1,i2,Pa.cnt_set r u g1 g2,List.length_cons,List.length_set]
  exact ⟨by push_cast; omega,rfl⟩
theorem nodup_le {V:Nat} {l:List Nat} (hn:l.Nodup) (h:∀ u ∈ l,u < V):l.length <= V:=by
 obtain ⟨h1,h2⟩:=nodup_cnt l (List.replicate V false) hn fun u hu => ⟨by simpa using h u hu,by
  unfold bt; rw [List.getD_eq_getElem?_getD,List.getElem?_replicate]; split <;> rfl⟩
 have h3:=cnt_le (l.foldl (fun r u => r.set u true) (List.replicate V false))
 have h4:=(cnt_le (List.replicate V false)).1
 rw [h1,h2] at h3
 simp at h3
 omega
def put1 (v t a b:Nat) (p:List Int × List Nat):List Int × List Nat:=if a = t/\vl p.1 b < 0 then (p.1.set b (v:Int),p.2 ++ [b]) else p
def edg (v t:Nat) (p:List Int × List Nat) (e:Ed):List Int × List Nat:=put1 v t (Pa.to e) (fr e) (put1 v t (fr e) (Pa.to e) p)
def rowB (L:List Ed) (v t:Nat) (p:List Int × List Nat):List Int × List Nat:=L.foldl (edg v t) p
structure Bf (V:Nat) (L:List Ed) (v:Nat) (l0:List Int) (p:List Int × List Nat):Prop where
 len:p.1.length = V
 lab:∀ u,u < V->(u ∈ p.2->vl p.1 u = (v:Int))/\(u ∉ p.2->vl p.1 u = vl l0 u)
 fresh:∀ u ∈ p.2,u < V/\vl l0 u < 0/\Con L v u
 nodup:p.2.Nodup
structure Ext (p q:List Int × List Nat):Prop where
 todo:∃ n,q.2 = p.2 ++ n
 kept:∀ u,0 <= vl p.1 u->0 <= vl q.1 u
theorem Ext.refl (p:List Int × List Nat):Ext p p:=⟨⟨[],by simp⟩,fun _ h => h⟩
theorem Ext.trans {p q r:List Int × List Nat} (h:Ext p q) (g:Ext q r):Ext p r:=by
 obtain ⟨n,hn⟩:=h.todo
 obtain ⟨m,hm⟩:=g.todo
 exact ⟨⟨n ++ m,by rw [hm,hn,List.append_assoc]⟩,fun u hu => g.kept u (h.kept u hu)⟩
theorem Ext.mem {p q:List Int × List Nat} (h:Ext p q) {u:Nat} (hu:u ∈ p.2):u ∈ q.2:=by
 obtain ⟨n,hn⟩:=h.todo; rw [hn]; exact List.mem_append_left _ hu
section
variable {V:Nat} {L:List Ed} {v:Nat} {l0:List Int}
theorem put1_ok {p:List Int × List Nat} (h:Bf V L v l0 p) {t a b:Nat} (ht:t ∈ p.2) (hb:b < V) (hab:a = t->Con L t b) :
 Bf V L v l0 (put1 v t a b p)/\Ext p (put1 v t a b p)/\(a = t->0 <= vl (put1 v t a b p).1 b):=by
 unfold put1
 split
 ·rename_i hc
  have hnb:b ∉ p.2:=fun hm => by have:=(h.lab b hb).1 hm; omega
  have hl0:vl l0 b < 0:=by have:=(h.lab b hb).2 hnb; omega
  have hbl:b < p.1.length:=by rw [h.len]; exact hb
  refine ⟨⟨by simp [h.len],fun u hu => ⟨fun hm => ?_,fun hm => ?_⟩,fun u hu => ?_,?_⟩,⟨⟨[b],rfl⟩,fun u hu => ?_⟩,fun _ => ?_⟩
  ·rw [Pa.vl_set _ _ _ _ hbl]
   split
   ·rfl
   ·rename_i hne
    rcases List.mem_append.1 hm with hm | hm
    ·exact (h.lab u hu).1 hm
    ·exact absurd (List.mem_singleton.1 hm).symm hne
  ·rw [Pa.vl_set _ _ _ _ hbl,if_neg (fun e => hm (by rw [<- e]; simp))]
   exact (h.lab u hu).2 fun g => hm (List.mem_append_left _ g)
  ·rcases List.mem_append.1 hu with hu | hu
   ·exact h.fresh u hu
   ·rw [List.mem_singleton.1 hu]
    exact ⟨hb,hl0,((h.fresh t ht).2.2).trans (hab hc.1)⟩
  ·rw [List.nodup_append]
   exact ⟨h.nodup,by simp,fun x hx y hy e => hnb (by rw [List.mem_singleton.1 hy] at e; rw [<- e]; exact hx)⟩
  ·show 0 <= vl (p.1.set b (v:Int)) u
   rw [Pa.vl_set _ _ _ _ hbl]; split
   ·omega
   ·exact hu
  ·show 0 <= vl (p.1.set b (v:Int)) b
   rw [Pa.vl_set _ _ _ _ hbl,if_pos rfl]; omega
 ·rename_i hc
  exact ⟨h,Ext.refl p,fun e => by
   have:¬ vl p.1 b < 0:=fun g => hc ⟨e,g⟩
   omega⟩
theorem edg_ok (hF:Fits V L) {p:List Int × List Nat} (h:Bf V L v l0 p) {t:Nat} (ht:t ∈ p.2) {e:Ed} (he:e ∈ L) :
 Bf V L v l0 (edg v t p e)/\Ext p (edg v t p e)/\(fr e = t->0 <= vl (edg v t p e).1 (Pa.to e))/\(Pa.to e = t->0 <= vl (edg v t p e).1 (fr e)):=by
 obtain ⟨h1,h2⟩:=hF e he
 obtain ⟨a1,a2,a3⟩:=put1_ok h ht h2 (a:=fr e) fun g => by rw [<- g]; exact .fwd he .refl
 obtain ⟨b1,b2,b3⟩:=put1_ok a1 (a2.mem ht) h1 (a:=Pa.to e) fun g => by rw [<- g]; exact .bwd he .refl
 exact ⟨b1,a2.trans b2,fun g => b2.kept _ (a3 g),b3⟩
theorem row_ok (hF:Fits V L) {t:Nat}:∀ (M:List Ed) (p:List Int × List Nat),(∀ e ∈ M,e ∈ L)->Bf V L v l0 p->t ∈ p.2 ->
 Bf V L v l0 (rowB M v t p)/\Ext p (rowB M v t p)/\∀ e ∈ M,(fr e = t->0 <= vl (rowB M v t p).1 (Pa.to e))/\(Pa.to e = t->0 <= vl (rowB M v t p).1 (fr e))
 | [],p,_,h,_ => ⟨h,Ext.refl p,fun e he => by cases he⟩
 | e :: M,p,hM,h,ht => by
  obtain ⟨a1,a2,a3,a4⟩:=edg_ok hF h ht (hM e List.mem_cons_self)
  obtain ⟨b1,b2,b3⟩:=row_ok hF M (edg v t p e) (fun x hx => hM x (List.mem_cons_of_mem _ hx)) a1 (a2.mem ht)
  refine ⟨b1,a2.trans b2,fun x hx => ?_⟩
  rcases List.mem_cons.1 hx with rfl | hx
  ·exact ⟨fun g => b2.kept _ (a3 g),fun g => b2.kept _ (a4 g)⟩
  ·exact b3 x hx
end
def Gone (L:List Ed) (i:Nat) (p:List Int × List Nat):Prop:=∀ j t,j < i->p.2[j]? = some t->∀ e ∈ L,(fr e = t->0 <= vl p.1 (Pa.to e))/\(Pa.to e = t->0 <= vl p.1 (fr e))
theorem gone_next {V:Nat} {L:List Ed} {v:Nat} {l0:List Int} (hF:Fits V L) {i t:Nat} {p:List Int × List Nat} (h:Bf V L v l0 p) (hg:Gone L i p) (ht:p.2[i]? = some t) :
 Bf V L v l0 (rowB L v t p)/\Ext p (rowB L v t p)/\Gone L (i + 1) (rowB L v t p):=by
 obtain ⟨h1,h2,h3⟩:=row_ok (v:=v) (l0:=l0) hF (t:=t) L p (fun _ h => h) h (List.mem_of_getElem? ht)
 refine ⟨h1,h2,fun j x hj hx e he => ?_⟩
 obtain ⟨n,hn⟩:=h2.todo
 have hil:=(List.getElem?_eq_some_iff.1 ht).1
 rw [hn,List.getElem?_append_left (by omega)] at hx
 by_cases hji:j = i
 ·subst hji
  obtain rfl:t = x:=Option.some.inj (ht.symm.trans hx)
  exact h3 e he
 ·obtain ⟨g1,g2⟩:=hg j x (by omega) hx e he
  exact ⟨fun q => h2.kept _ (g1 q),fun q => h2.kept _ (g2 q)⟩
structure Lb0 (V:Nat) (L:List Ed) (v:Nat) (l:List Int):Prop where
 len:l.length = V
 has:∀ u,u < v->u < V->0 <= vl l u
 none_:∀ u,u < V->vl l u < 0->vl l u = -1
 near:∀ e ∈ L,(0 <= vl l (fr e) ↔ 0 <= vl l (Pa.to e))
 is_:∀ u,u < V->0 <= vl l u->∃ t:Nat,t < V/\Con L u t/\vl l u = (t:Int)
 le:∀ u,u < V->0 <= vl l u->∀ t:Nat,Con L u t->vl l u <= (t:Int)
theorem lb0_start (V:Nat) (L:List Ed) (hF:Fits V L):Lb0 V L 0 (List.replicate V (-1)):=by
 have hv:∀ u,u < V->vl (List.replicate V (-1)) u = -1:=fun u hu => vl_of (by rw [List.getElem?_replicate,if_pos hu])
 refine ⟨by simp,fun u hu => by omega,fun u hu _ => hv u hu,fun e he => ?_,fun u hu h => ?_,fun u hu h => ?_⟩
 ·rw [hv _ (hF e he).1,hv _ (hF e he).2]
 ·rw [hv u hu] at h; omega
 ·rw [hv u hu] at h; omega
theorem lb0_skip {V:Nat} {L:List Ed} {v:Nat} {l:List Int} (h:Lb0 V L v l) (hv:0 <= vl l v):Lb0 V L (v + 1) l :=
 ⟨h.len,fun u hu hV => by
  by_cases e:u = v
  ·rw [e]; exact hv
  ·exact h.has u (by omega) hV,h.none_,h.near,h.is_,h.le⟩
theorem bf_start {V:Nat} {L:List Ed} {v:Nat} {l:List Int} (h:Lb0 V L v l) (hV:v < V) (hv:vl l v < 0):Bf V L v l (l.set v (v:Int),[v]):=by
 have hl:v < l.length:=by rw [h.len]; exact hV
 refine ⟨by simp [h.len],fun u hu => ⟨fun hm => ?_,fun hm => ?_⟩,fun u hu => ?_,by simp⟩
 ·obtain rfl:=List.mem_singleton.1 hm
  show vl (l.set u (u:Int)) u = _
  rw [Pa.vl_set _ _ _ _ hl,if_pos rfl]
 ·show vl (l.set v (v:Int)) u = _
  rw [Pa.vl_set _ _ _ _ hl,if_neg fun e => hm (by rw [e]; simp)]
 ·obtain rfl:=List.mem_singleton.1 hu
  exact ⟨hV,hv,.refl⟩
theorem lb0_next {V:Nat} {L:List Ed} (hF:Fits V L) {v:Nat} {l:List Int} {p:List Int × List Nat} (h:Lb0 V L v l) (hV:v < V) (hb:Bf V L v l p) (hvp:v ∈ p.2) (hg:Gone L p.2.length p):Lb0 V L (v + 1) p.1:=by
 have hgone:∀ t ∈ p.2,∀ e ∈ L,(fr e = t->0 <= vl p.1 (Pa.to e))/\(Pa.to e = t->0 <= vl p.1 (fr e)):=fun t ht e he => by
  obtain ⟨j,hj⟩:=List.getElem?_of_mem ht
  exact hg j t (List.getElem?_eq_some_iff.1 hj).1 hj e he
 -- what is near a new one is new
 have hnew:∀ t ∈ p.2,∀ e ∈ L,(fr e = t->Pa.to e ∈ p.2)/\(Pa.to e = t->fr e ∈ p.2):=fun t ht e he => by
  obtain ⟨h1,h2⟩:=hF e he
  obtain ⟨g1,g2⟩:=hgone t ht e he
  have hf:=(hb.fresh t ht).2.1
  refine ⟨fun q => ?_,fun q => ?_⟩
  ·apply Classical.byContradiction; intro hn
   have e1:=(hb.lab _ h2).2 hn
   have e2:=g1 q
   rw [e1] at e2
   have:=(h.near e he).2 e2
   rw [q] at this; omega
  ·apply Classical.byContradiction; intro hn
   have e1:=(hb.lab _ h1).2 hn
   have e2:=g2 q
   rw [e1] at e2
   have:=(h.near e he).1 e2
   rw [q] at this; omega
 have hcon:∀ t ∈ p.2,∀ u,Con L t u->u ∈ p.2:=fun t ht u hu => by
  induction hu with
  | refl => exact ht
  | fwd he _ ih => exact (hnew _ ih _ he).1 rfl
  | bwd he _ ih => exact (hnew _ ih _ he).2 rfl
 refine ⟨hb.len,fun u hu huV => ?_,fun u hu hneg => ?_,fun e he => ?_,fun u hu hp => ?_,fun u hu hp t ht => ?_⟩
 ·by_cases hm:u ∈ p.2
  ·rw [(hb.lab u huV).1 hm]; omega
  ·rw [(hb.lab u huV).2 hm]
   by_cases e:u = v
   ·subst e; exact absurd hvp hm
   ·exact h.has u (by omega) huV
 ·by_cases hm:u ∈ p.2
  ·rw [(hb.lab u hu).1 hm] at hneg; omega
  ·rw [(hb.lab u hu).2 hm] at hneg ⊢; exact h.none_ u hu hneg
 ·obtain ⟨h1,h2⟩:=hF e he
  by_cases hm:fr e ∈ p.2
  ·have hm2:=(hnew _ hm e he).1 rfl
   rw [(hb.lab _ h1).1 hm,(hb.lab _ h2).1 hm2]
  ·have hm2:Pa.to e ∉ p.2:=fun q => hm ((hnew _ q e he).2 rfl)
   rw [(hb.lab _ h1).2 hm,(hb.lab _ h2).2 hm2]; exact h.near e he
 ·by_cases hm:u ∈ p.2
  ·exact ⟨v,hV,(hb.fresh u hm).2.2.symm,(hb.lab u hu).1 hm⟩
  ·rw [(hb.lab u hu).2 hm] at hp ⊢; exact h.is_ u hu hp
 ·by_cases hm:u ∈ p.2
  ·rw [(hb.lab u hu).1 hm]
   have ht2:=hcon u hm t ht
   obtain ⟨g1,g2,_⟩:=hb.fresh t ht2
   by_cases hlt:t < v
   ·have:=h.has t hlt g1; omega
   ·omega
  ·rw [(hb.lab u hu).2 hm] at hp ⊢; exact h.le u hu hp t ht
theorem lb0_done {V:Nat} {L:List Ed} {l:List Int} (h:Lb0 V L V l):LabC V L l :=
 ⟨h.len,fun v hv => h.is_ v hv (h.has v hv hv),fun v hv t ht => h.le v hv (h.has v hv hv) t ht⟩
theorem bf_few {V:Nat} {L:List Ed} {v:Nat} {l0:List Int} {p:List Int × List Nat} (h:Bf V L v l0 p):p.2.length <= V:=nodup_le h.nodup fun u hu => (h.fresh u hu).1
def nearest (l:List Int) (d:List Bool):Nat->Int
 | 0 => -1
 | n + 1 => if bt d n = false/\(nearest l d n < 0\/vl l n < vl l (nearest l d n).toNat) then (n:Int) else nearest l d n
theorem nearest_is (l:List Int) (d:List Bool):∀ n:Nat,(nearest l d n = -1/\∀ v,v < n->bt d v = true)\/∃ t:Nat,nearest l d n = (t:Int)/\t < n/\bt d t = false/\∀ v,v < n->bt d v = false->vl l t <= vl l v
 | 0 => Or.inl ⟨rfl,fun v hv => by omega⟩
 | n + 1 => by
  unfold nearest
  rcases nearest_is l d n with ⟨h1,h2⟩ | ⟨t,h1,h2,h3,h4⟩
  ·rw [h1]
   cases hd:bt d n with
   | false =>
    rw [if_pos ⟨rfl,Or.inl (by omega)⟩]
    refine Or.inr ⟨n,rfl,by omega,hd,fun v hv hv2 => ?_⟩
    by_cases e:v = n
    ·rw [e]; omega
    ·rw [h2 v (by omega)] at hv2; cases hv2
   | true =>
    rw [if_neg (by simp)]
    refine Or.inl ⟨rfl,fun v hv => ?_⟩
    by_cases e:v = n
    ·rw [e]; exact hd
    ·exact h2 v (by omega)
  ·rw [h1]
   by_cases hc:bt d n = false/\((t:Int) < 0\/vl l n < vl l (t:Int).toNat)
   ·rw [if_pos hc]
    have hc2:vl l n < vl l t:=by
     rcases hc.2 with g | g
     ·omega
     ·simpa using g
    refine Or.inr ⟨n,rfl,by omega,hc.1,fun v hv hv2 => ?_⟩
    by_cases e:v = n
    ·rw [e]; omega
    ·have:=h4 v (by omega) hv2; omega
   ·rw [if_neg hc]
    refine Or.inr ⟨t,rfl,by omega,h3,fun v hv hv2 => ?_⟩
    by_cases e:v = n
    ·subst e
     have:¬ vl l v < vl l t:=fun g => hc ⟨hv2,Or.inr (by simpa using g)⟩
     omega
    ·exact h4 v (by omega) hv2
theorem addI_up {a b:Int} (ha:InR a) (_hb:0 <= b):a <= addI a b:=by
 rcases addI_ge a b with h | h
 ·unfold InR at ha; omega
 ·exact h.1
structure Dj (V:Nat) (L:List Ed) (s n:Nat) (l:List Int) (d:List Bool):Prop where
 inv:Pa.Inv V L s l
 abv:Abv V (far V s L) l
 dlen:d.length = V
 num:cnt d = (n:Int)
 first:∀ u v,u < V->v < V->bt d u = true->bt d v = false->vl l u <= vl l v
 gone:∀ e ∈ L,bt d (fr e) = true->vl l (Pa.to e) <= gv l e
theorem rlx_out {V:Nat} {L:List Ed} {s t:Nat} (hF:Fits V L) (hs:s < V) (hw:∀ e ∈ L,0 <= e.2.2) (ht:t < V):∀ (M:List Ed) (l:List Int),(∀ e ∈ M,e ∈ L/\fr e = t)->Pa.Inv V L s l->Abv V (far V s L) l ->
 Pa.Inv V L s (rlxA M l)/\Abv V (far V s L) (rlxA M l)/\vl (rlxA M l) t = vl l t/\(∀ v,v < V->vl (rlxA M l) v <= vl l v/\(vl (rlxA M l) v = vl l v\/vl l t <= vl (rlxA M l) v))/\∀ e ∈ M,vl (rlxA M l) (Pa.to e) <= gv l e
 | [],l,_,hi,ha => ⟨hi,ha,rfl,fun v _ => ⟨by show vl l v <= vl l v; omega,Or.inl rfl⟩,fun e he => by cases he⟩
 | e :: M,l,hM,hi,ha => by
  obtain ⟨he,hfe⟩:=hM e List.mem_cons_self
  have hT:=far_tight (L:=L) hF hs
  obtain ⟨_,hto⟩:=hF e he
  have hTl:Pa.to e < l.length:=by rw [hi.len]; exact hto
  have hi':=hi.rlx hF e he
  have ha':=ha.rlx hT hF hi.len e he
  have hup:vl l t <= gv l e:=by
   unfold gv; rw [hfe]; exact addI_up (hi.in_ t ht) (hw e he)
  have hat:vl (rlx l e) t = vl l t:=by
   rw [Pa.rlx_at hTl]; split
   ·rename_i h; rw [h]; omega
   ·rfl
  obtain ⟨b1,b2,b3,b4,b5⟩:=rlx_out hF hs hw ht M (rlx l e) (fun x hx => hM x (List.mem_cons_of_mem _ hx)) hi' ha'
  refine ⟨b1,b2,b3.trans hat,fun v hv => ?_,fun x hx => ?_⟩
  ·have h1:=b4 v hv
   rw [hat] at h1
   have h2:vl (rlx l e) v <= vl l v/\(vl (rlx l e) v = vl l v\/vl l t <= vl (rlx l e) v):=by
    rw [Pa.rlx_at hTl]; split
    ·rename_i h; subst h
     refine ⟨by omega,?_⟩
     rcases Int.le_total (vl l (Pa.to e)) (gv l e) with g | g
     ·left; omega
     ·right; omega
    ·exact ⟨by omega,Or.inl rfl⟩
   show vl (rlxA M (rlx l e)) v <= _/\(vl (rlxA M (rlx l e)) v = _\/_ <= vl (rlxA M (rlx l e)) v)
   omega
  ·show vl (rlxA M (rlx l e)) (Pa.to x) <= gv l x
   rcases List.mem_cons.1 hx with rfl | hx
   ·have h1:=(b4 _ hto).1
    rw [Pa.rlx_at hTl,if_pos rfl] at h1
    omega
   ·have h1:=b5 x hx
    have hfx:=(hM x (List.mem_cons_of_mem _ hx)).2
    unfold gv at h1 ⊢
    rw [hfx,hat] at h1
    rw [hfx]; exact h1
theorem dj_start {V s:Nat} {L:List Ed} (hF:Fits V L) (hs:s < V):Dj V L s 0 (Pa.start V s) (List.replicate V false):=by
 have hd:∀ u,bt (List.replicate V false) u = false:=fun u => by
  unfold bt; rw [List.getD_eq_getElem?_getD,List.getElem?_replicate]; split <;> rfl
 have hc:∀ n:Nat,cnt (List.replicate n false) = 0:=fun n => by
  induction n with
  | zero => rfl
  | succ n ih => rw [List.replicate_succ,cnt,ih]; rfl
 have hT:=far_tight (L:=L) hF hs
 refine ⟨Pa.inv_start L hs,fun k hk => ?_,by simp,by rw [hc]; rfl,fun u v _ _ h => (by rw [hd] at h; cases h),fun e _ h => (by rw [hd] at h; cases h)⟩
 have hv:vl (Pa.start V s) k = if s = k then 0 else 4611686018427387904:=by
  unfold Pa.start; rw [Pa.vl_set _ _ _ _ (by simp; exact hs)]
  split
  ·rfl
  ·exact vl_of (by rw [List.getElem?_replicate,if_pos hk])
 rw [hv]; split
 ·rename_i h; subst h; rw [hT.src]; omega
 ·exact (hT.in_ k hk).2
theorem dj_near {V s n:Nat} {L:List Ed} {l:List Int} {d:List Bool} (h:Dj V L s n l d) (hn:n < V):∃ t:Nat,nearest l d V = (t:Int)/\t < V/\bt d t = false/\∀ v,v < V->bt d v = false->vl l t <= vl l v:=by
 rcases nearest_is l d V with ⟨_,h2⟩ | h2
 ·exfalso
  have e:d = List.replicate V true:=by
   apply List.ext_getElem?; intro v
   rcases Nat.lt_or_ge v V with hv | hv
   ·rw [bt_at (by rw [h.dlen]; exact hv),h2 v hv,List.getElem?_replicate,if_pos hv]
   ·rw [List.getElem?_eq_none (by rw [h.dlen]; exact hv),List.getElem?_eq_none (by simpa using hv)]
  have hc:∀ n:Nat,cnt (List.replicate n true) = (n:Int):=fun n => by
   induction n with
   | zero => rfl
   | succ n ih => rw [List.replicate_succ,cnt,ih]; simp; omega
  have:=h.num
  rw [e,hc] at this
  omega
 ·exact h2
theorem dj_next {V s n t:Nat} {L:List Ed} {l:List Int} {d:List Bool} (hF:Fits V L) (hw:∀ e ∈ L,0 <= e.1/\0 <= e.2.2) (hs:s < V) (h:Dj V L s n l d) (ht:t < V) (hd:bt d t = false) (hmin:∀ v,v < V->bt d v = false->vl l t <= vl l v) :
 Dj V L s (n + 1) (rlxA (outE L (t:Int)) l) (d.set t true):=by
 have hM:∀ e ∈ outE L (t:Int),e ∈ L/\fr e = t:=fun e he => by
  obtain ⟨h1,h2⟩:=List.mem_filter.1 he
  have:e.1 = (t:Int):=by simpa using h2
  exact ⟨h1,by unfold fr; omega⟩
 obtain ⟨b1,b2,b3,b4,b5⟩:=rlx_out hF hs (fun e he => (hw e he).2) ht (outE L (t:Int)) l hM h.inv h.abv
 have htl:t < d.length:=by rw [h.dlen]; exact ht
 -- what is settled rests
 have hrest:∀ u,u < V->bt d u = true->vl (rlxA (outE L (t:Int)) l) u = vl l u:=fun u hu hdu => by
  obtain ⟨g1,g2⟩:=b4 u hu
  have:=h.first u t hu ht hdu hd
  omega
 refine ⟨b1,b2,by simp [h.dlen],by rw [Pa.cnt_set d t htl hd,h.num]; push_cast; rfl,fun u v hu hv hdu hdv => ?_,fun e he hde => ?_⟩
 ·rw [Pa.bt_set _ _ _ _ htl] at hdu hdv
  by_cases htv:t = v
  ·rw [if_pos htv] at hdv; cases hdv
  ·rw [if_neg htv] at hdv
   obtain ⟨g1,g2⟩:=b4 v hv
   have g3:=hmin v hv hdv
   by_cases htu:t = u
   ·subst htu; rw [b3]; omega
   ·rw [if_neg htu] at hdu
    rw [hrest u hu hdu]
    have:=h.first u t hu ht hdu hd
    omega
 ·obtain ⟨hf,hto⟩:=hF e he
  rw [Pa.bt_set _ _ _ _ htl] at hde
  by_cases htf:t = fr e
  ·have hmem:e ∈ outE L (t:Int):=List.mem_filter.2 ⟨he,by have:=(hw e he).1; simp; unfold fr at htf; omega⟩
   have g1:=b5 e hmem
   have e2:gv (rlxA (outE L (t:Int)) l) e = gv l e:=by unfold gv; rw [<- htf,b3]
   rw [e2]; exact g1
  ·rw [if_neg htf] at hde
   have g1:=h.gone e he hde
   have g2:=(b4 _ hto).1
   have e2:gv (rlxA (outE L (t:Int)) l) e = gv l e:=by unfold gv; rw [hrest _ hf hde]
   rw [e2]; omega
theorem dj_done {V s:Nat} {L:List Ed} {l:List Int} {d:List Bool} (hF:Fits V L) (hs:s < V) (h:Dj V L s V l d):l = far V s L:=by
 have hall:∀ v,v < V->bt d v = true:=fun v hv => by
  cases hb:bt d v with
  | true => rfl
  | false =>
   have h1:=Pa.cnt_set d v (by rw [h.dlen]; exact hv) hb
   have h2:=(cnt_le (d.set v true)).2
   rw [h1,h.num,List.length_set,h.dlen] at h2
   omega
 exact far_is hF hs h.inv.len (by rw [h.inv.src]; omega) (fun v hv => (h.inv.in_ v hv).2) (fun e he => h.gone e he (hall _ (hF e he).1)) h.abv
end Go.Proofs.YtdcaekmgfcpbmaaGreat.Mn
