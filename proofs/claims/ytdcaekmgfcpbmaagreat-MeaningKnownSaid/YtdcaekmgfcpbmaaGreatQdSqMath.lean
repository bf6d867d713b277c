/-
  What is proved here: plain facts on the supersteps, one behind another: states from the first one on may be; labels and distances never rise; what rests stays so; ranks together are at most One; there is a first state that is done. No program.
-/
import Derived.Test.YtdcaekmgfcpbmaaGreatQdInMathx
import Derived.Test.YtdcaekmgfcpbmaaGreatQdPtG6x
import Derived.Test.YtdcaekmgfcpbmaaGreatQdAlP2x
namespace Go.Proofs.YtdcaekmgfcpbmaaGreat.Sq
open Gr Fx Rk Lb Al Pt In
open Pa (vl bt vl_of vl_at bt_of bt_at vl_ext itr itr_next itr_keep)
def InR (x:Int):Prop:=0 <= x/\x <= 4611686018427387904
theorem addI_plain {a b:Int} (h0:0 <= a) (h1:0 <= b) (h2:a + b <= 4611686018427387904):addI a b = a + b:=by
 unfold addI
 rw [dst_id a h0 (by omega),dst_id b h1 (by omega),if_neg (by omega)]
theorem apt_in (a b:Int):InR (apt a b):=by
 have ha:=dst_in a; have hb:=dst_in b
 unfold apt InR; split <;> omega
theorem comb_in {k a b:Int} (ha:InR a) (hb:InR b):InR (comb k a b):=by
 unfold comb
 split
 ·exact addI_in a b
 ·unfold InR at *; split <;> omega
theorem jonS_in (k a b:Int):InR (jonS k a b):=by
 unfold jonS; split
 ·exact addI_in a b
 ·unfold InR; omega
theorem jonM_in {k a b:Int} (ha:InR a) (hb:InR b):InR (jonM k a b):=by
 unfold jonM; split
 ·unfold InR at *; omega
 ·split
  ·exact addI_in a b
  ·unfold InR; omega
theorem foldS_in (k:Int):∀ (l:List Int) (a:Int),InR a->InR (l.foldl (jonS k) a)
 | [],_,h => h
 | _ :: l,_,_ => foldS_in k l _ (jonS_in _ _ _)
theorem foldM_in (k:Int):∀ (l:List Int) (a:Int),InR a->(∀ x ∈ l,InR x)->InR (l.foldl (jonM k) a)
 | [],_,h,_ => h
 | x :: l,_,h,g => foldM_in k l _ (jonM_in h (g x List.mem_cons_self)) fun y hy => g y (List.mem_cons_of_mem _ hy)
def OIn (o:Option Int):Prop:=∀ x,o = some x->InR x
theorem jn_in {k:Int} {a b:Option Int} (ha:OIn a) (hb:OIn b):OIn (jn k a b):=by
 cases a with
 | none => exact hb
 | some x =>
  cases b with
  | none => exact ha
  | some y => intro z hz; simp [jn] at hz; subst hz; exact comb_in (ha x rfl) (hb y rfl)
theorem mailM_in (k v:Int):∀ l:List Ms,(∀ x ∈ l,InR x.2)->OIn (mailM k v l)
 | [],_ => by intro z hz; cases hz
 | x :: l,h => by
  rw [mailM_cons]
  refine jn_in ?_ (mailM_in k v l fun y hy => h y (List.mem_cons_of_mem _ hy))
  intro z hz
  split at hz
  ·simp at hz; subst hz; exact h x List.mem_cons_self
  ·cases hz
theorem vl_in {l:List Int} (h:∀ x ∈ l,InR x) (v:Nat):InR (vl l v):=by
 rcases Nat.lt_or_ge v l.length with hv | hv
 ·exact h _ (List.mem_of_getElem? (vl_at hv))
 ·unfold vl; rw [List.getD_eq_getElem?_getD,List.getElem?_eq_none hv]; unfold InR; simp
def outE (L:List Ed) (v:Int):List Ed:=L.filter fun e => decide (e.1 = v)
def bckE (L:List Ed) (v:Int):List Ed:=L.filter fun e => decide (e.2.1 = v)
theorem raw_in {k v x:Int} {ch:Bool} {L M:List Ed} (hx:InR x):∀ m ∈ rawM k v x ch L M,InR m.2:=by
 intro m hm
 unfold rawM at hm
 split at hm
 ·obtain ⟨e,_,rfl⟩:=List.mem_map.1 hm
  show InR (giveI x L.length)
  unfold giveI
  split
  ·unfold InR; omega
  ·have:=share_le x (L.length:Int) hx.1 (by omega)
   unfold InR at *; omega
 ·split at hm
  ·split at hm
   ·obtain ⟨e,_,rfl⟩:=List.mem_map.1 hm; exact hx
   ·split at hm
    ·obtain ⟨e,_,rfl⟩:=List.mem_map.1 hm; exact addI_in _ _
    ·cases hm
  ·cases hm
def rawS (k:Int) (V:Nat) (L:List Ed) (vals:List Int) (chg:List Bool):List (List Ms):=(List.range V).map fun (v:Nat) => rawM k (v:Int) (vl vals v) (bt chg v) (outE L (v:Int)) (bckE L (v:Int))
def rowsS (k:Int) (V:Nat) (L:List Ed) (vals:List Int) (chg:List Bool):List (List Ms):=(List.range V).map fun (v:Nat) => sendM k (v:Int) (vl vals v) (bt chg v) (outE L (v:Int)) (bckE L (v:Int))
theorem rows_raw (k:Int) (V:Nat) (L:List Ed) (vals:List Int) (chg:List Bool):rowsS k V L vals chg = (rawS k V L vals chg).map (putM k []):=by
 unfold rowsS rawS; rw [List.map_map]; rfl
theorem mail_puts (k v:Int):∀ rs:List (List Ms),mailM k v (rs.map (putM k [])).flatten = mailM k v rs.flatten
 | [] => rfl
 | r :: rs => by rw [List.map_cons,List.flatten_cons,List.flatten_cons,mailM_app,mailM_app,mailM_fold,mail_puts k v rs]
theorem flat_in {k:Int} {V:Nat} {L:List Ed} {vals:List Int} {chg:List Bool} (h:∀ x ∈ vals,InR x):∀ m ∈ (rawS k V L vals chg).flatten,InR m.2:=by
 intro m hm
 obtain ⟨r,hr,hm⟩:=List.mem_flatten.1 hm
 obtain ⟨v,_,rfl⟩:=List.mem_map.1 hr
 exact raw_in (vl_in h v) m hm
def inbS (k:Int) (V:Nat) (L:List Ed) (vals:List Int) (chg:List Bool):List Ml:=mergeM k ((List.range V).map fun (v:Nat) => (v:Int)) (rowsS k V L vals chg)
theorem inb_len (k:Int) (V:Nat) (L:List Ed) (vals:List Int) (chg:List Bool):(inbS k V L vals chg).length = V:=by simp [inbS,mergeM]
theorem inb_at (k:Int) (V:Nat) (L:List Ed) (vals:List Int) (chg:List Bool) (v:Nat) (hv:v < V):(inbS k V L vals chg)[v]? = some (mlOf (mailM k (v:Int) (rawS k V L vals chg).flatten)):=by
 unfold inbS mergeM
 rw [rows_raw,List.map_map,List.getElem?_map,List.getElem?_range hv]
 simp only [Option.map_some,Function.comp,mail_puts]
theorem inb_in {k:Int} {V:Nat} {L:List Ed} {vals:List Int} {chg:List Bool} (h:∀ x ∈ vals,InR x):∀ m ∈ inbS k V L vals chg,m.1 = true->InR m.2:=by
 intro m hm ht
 obtain ⟨v,hv⟩:=List.getElem?_of_mem hm
 have hl:v < V:=by have:=(List.getElem?_eq_some_iff.1 hv).1; rwa [inb_len] at this
 rw [inb_at k V L vals chg v hl] at hv
 have hm2:=mailM_in k (v:Int) _ (flat_in (k:=k) (V:=V) (L:=L) (chg:=chg) h)
 cases hc:mailM k (v:Int) (rawS k V L vals chg).flatten with
 | none => rw [hc] at hv; simp [mlOf] at hv; subst hv; cases ht
 | some x => rw [hc] at hv; simp [mlOf] at hv; subst hv; exact hm2 x hc
structure Sq where
 vals:List Int
 chg:List Bool
 inb:List Ml
 sum:Int
 most:Int
def sumS (k:Int) (V:Nat) (L:List Ed) (vals:List Int):Int:=((List.range V).map fun (v:Nat) => prtS k (vl vals v) (outE L (v:Int)).length).foldl (jonS k) 0
def mosS (k:Int) (V:Nat) (was vals:List Int) (chg:List Bool):Int:=((List.range V).map fun (v:Nat) => prtM k (vl was v) (vl vals v) (bt chg v)).foldl (jonM k) 0
def toldS (k:Int) (V:Nat) (L:List Ed) (was vals:List Int) (chg:List Bool):Sq:=⟨vals,chg,inbS k V L vals chg,sumS k V L vals,mosS k V was vals chg⟩
def MayS (V:Nat) (s:Sq):Prop:=s.vals.length = V/\s.chg.length = V/\s.inb.length = V/\(∀ x ∈ s.vals,InR x)/\(∀ m ∈ s.inb,m.1 = true->InR m.2)/\InR s.sum/\InR s.most
theorem zero_in:InR 0:=by unfold InR; omega
theorem prtM_in (k a v:Int) (c:Bool):InR (prtM k a v c):=by
 unfold prtM; split
 ·exact apt_in _ _
 ·split
  ·split <;> (unfold InR; omega)
  ·exact zero_in
theorem told_may {k:Int} {V:Nat} {L:List Ed} {was vals:List Int} {chg:List Bool} (h1:vals.length = V) (h2:chg.length = V) (h3:∀ x ∈ vals,InR x):MayS V (toldS k V L was vals chg) :=
 ⟨h1,h2,inb_len ..,h3,inb_in h3,foldS_in _ _ _ zero_in,foldM_in _ _ _ zero_in fun x hx => by obtain ⟨v,_,rfl⟩:=List.mem_map.1 hx; exact prtM_in ..⟩
def strV (k so:Int) (V:Nat):List Int:=(List.range V).map fun (v:Nat) => sttM k (V:Int) (v:Int) so
def strC (k so:Int) (V:Nat):List Bool:=(List.range V).map fun (v:Nat) => sttB k (v:Int) so
def strS (k so:Int) (V:Nat) (L:List Ed):Sq:={ toldS k V L (strV k so V) (strV k so V) (strC k so V) with most:=0 }
theorem stt_in {k V v so:Int} (h0:0 <= v) (h1:v < 512):InR (sttM k V v so):=by
 unfold sttM
 split
 ·unfold giveI; split
  ·exact zero_in
  ·have:=share_le 4294967296 V (by omega) (by omega); unfold InR; omega
 ·split
  ·unfold InR; omega
  ·split
   ·unfold Pa.stt; split <;> (unfold InR; omega)
   ·exact zero_in
theorem strV_in {k so:Int} {V:Nat} (hV:V <= 512):∀ x ∈ strV k so V,InR x:=by
 intro x hx
 obtain ⟨v,hv,rfl⟩:=List.mem_map.1 hx
 have:=List.mem_range.1 hv
 exact stt_in (by omega) (by omega)
theorem str_may {k so:Int} {V:Nat} {L:List Ed} (hV:V <= 512):MayS V (strS k so V L):=by
 have h:=told_may (k:=k) (L:=L) (was:=strV k so V) (vals:=strV k so V) (chg:=strC k so V) (V:=V) (by simp [strV]) (by simp [strC]) (strV_in hV)
 exact ⟨h.1,h.2.1,h.2.2.1,h.2.2.2.1,h.2.2.2.2.1,h.2.2.2.2.2.1,zero_in⟩
def ml (l:List Ml) (v:Nat):Ml:=l.getD v (false,0)
theorem ml_of {l:List Ml} {v:Nat} {x:Ml} (h:l[v]? = some x):ml l v = x:=by unfold ml; rw [List.getD_eq_getElem?_getD,h]; rfl
def nxtV (k dm:Int) (V:Nat) (s:Sq):List Int:=(List.range V).map fun (v:Nat) => cmpM k (V:Int) dm (vl s.vals v) (ml s.inb v).1 (ml s.inb v).2 s.sum
def nxtC (k dm:Int) (V:Nat) (s:Sq):List Bool:=(List.range V).map fun (v:Nat) => cmpB k (V:Int) dm (vl s.vals v) (ml s.inb v).1 (ml s.inb v).2 s.sum
def nxtS (k dm:Int) (V:Nat) (L:List Ed) (s:Sq):Sq:=toldS k V L s.vals (nxtV k dm V s) (nxtC k dm V s)
theorem nxtV_at {k dm:Int} {V:Nat} {s:Sq} {v:Nat} (hv:v < V):vl (nxtV k dm V s) v = cmpM k (V:Int) dm (vl s.vals v) (ml s.inb v).1 (ml s.inb v).2 s.sum :=
 vl_of (by unfold nxtV; rw [List.getElem?_map,List.getElem?_range hv]; rfl)
theorem nxtC_at {k dm:Int} {V:Nat} {s:Sq} {v:Nat} (hv:v < V):bt (nxtC k dm V s) v = cmpB k (V:Int) dm (vl s.vals v) (ml s.inb v).1 (ml s.inb v).2 s.sum :=
 bt_of (by unfold nxtC; rw [List.getElem?_map,List.getElem?_range hv]; rfl)
theorem nxtV_len (k dm:Int) (V:Nat) (s:Sq):(nxtV k dm V s).length = V:=by simp [nxtV]
theorem nxtC_len (k dm:Int) (V:Nat) (s:Sq):(nxtC k dm V s).length = V:=by simp [nxtC]
theorem cmp_le {k V dm x m s:Int} {h:Bool} (hk:k = 2\/k = 3):cmpM k V dm x h m s <= x:=by
 unfold cmpM
 rcases hk with rfl | rfl
 ·simp only [show ¬ (2:Int) = 1 by omega,if_false,if_true]; unfold takM; split <;> omega
 ·simp only [show ¬ (3:Int) = 1 by omega,show ¬ (3:Int) = 2 by omega,if_false,if_true]; unfold Pa.tkm; split <;> omega
theorem cmp_in {k V dm x m s:Int} {h:Bool} (hk:k ≠ 1) (hx:InR x) (hm:h = true->InR m):InR (cmpM k V dm x h m s):=by
 unfold cmpM
 rw [if_neg hk]
 split
 ·unfold takM; split
  ·rename_i g; exact hm g.1
  ·exact hx
 ·split
  ·unfold Pa.tkm; split
   ·rename_i g; have:=hm g; unfold InR at *; omega
   ·exact hx
  ·exact zero_in
theorem ml_in {V:Nat} {s:Sq} (h:MayS V s) (v:Nat):(ml s.inb v).1 = true->InR (ml s.inb v).2:=by
 intro ht
 rcases Nat.lt_or_ge v s.inb.length with hv | hv
 ·have e:=ml_of (List.getElem?_eq_getElem hv)
  rw [e] at ht ⊢
  exact h.2.2.2.2.1 _ (List.getElem_mem hv) ht
 ·unfold ml at ht; rw [List.getD_eq_getElem?_getD,List.getElem?_eq_none hv] at ht; cases ht
theorem nxt_may {k dm:Int} {V:Nat} {L:List Ed} {s:Sq} (hk:k ≠ 1) (h:MayS V s):MayS V (nxtS k dm V L s) :=
 told_may (nxtV_len ..) (nxtC_len ..) fun x hx => by
  obtain ⟨v,_,rfl⟩:=List.mem_map.1 hx
  exact cmp_in hk (vl_in h.2.2.2.1 v) (ml_in h v)
theorem nxt_le {k dm:Int} {V:Nat} {L:List Ed} {s:Sq} (hk:k = 2\/k = 3) {v:Nat} (hv:v < V):vl (nxtS k dm V L s).vals v <= vl s.vals v:=by
 show vl (nxtV k dm V s) v <= _
 rw [nxtV_at hv]; exact cmp_le hk
theorem foldA_ge:∀ (l:List Int) (a:Int),InR a->(∀ x ∈ l,InR x)->a <= l.foldl addI a/\∀ x ∈ l,x <= l.foldl addI a
 | [],a,_,_ => ⟨by simp,fun x hx => by simp at hx⟩
 | y :: l,a,ha,hl => by
  have hy:=hl y List.mem_cons_self
  obtain ⟨i1,i2⟩:=foldA_ge l (addI a y) (addI_in a y) fun x hx => hl x (List.mem_cons_of_mem _ hx)
  have h3:a <= addI a y/\y <= addI a y:=by
   rcases addI_ge a y with h | h
   ·unfold InR at ha hy; omega
   ·exact h
  refine ⟨by show a <= l.foldl addI (addI a y); omega,fun x hx => ?_⟩
  show x <= l.foldl addI (addI a y)
  rcases List.mem_cons.1 hx with rfl | hx
  ·omega
  ·exact i2 x hx
theorem jonM_add {k:Int} (hk:k = 2\/k = 3):jonM k = addI:=by
 funext a b; unfold jonM; rw [if_neg (by omega),if_pos hk]
theorem most_zero {k:Int} (hk:k = 2\/k = 3) {V:Nat} {was vals:List Int} {chg:List Bool} (h:mosS k V was vals chg = 0) (v:Nat) (hv:v < V):bt chg v = false:=by
 unfold mosS at h
 rw [jonM_add hk] at h
 have h2:=(foldA_ge ((List.range V).map fun (v:Nat) => prtM k (vl was v) (vl vals v) (bt chg v)) 0 zero_in (fun x hx => by obtain ⟨v,_,rfl⟩:=List.mem_map.1 hx; exact prtM_in ..)).2 (prtM k (vl was v) (vl vals v) (bt chg v)) (List.mem_map.2 ⟨v,List.mem_range.2 hv,rfl⟩)
 rw [h] at h2
 unfold prtM at h2
 rw [if_neg (by omega),if_pos hk] at h2
 cases hc:bt chg v with
 | false => rfl
 | true => rw [hc] at h2; simp at h2
def psum (v:Int):List Ms->Int
 | [] => 0
 | x :: l => (if x.1 = v then x.2 else 0) + psum v l
def tsum:List Ms->Int
 | [] => 0
 | x :: l => x.2 + tsum l
theorem tsum_app:∀ l m:List Ms,tsum (l ++ m) = tsum l + tsum m
 | [],m => by simp [tsum]
 | x :: l,m => by rw [List.cons_append,tsum,tsum,tsum_app l m]; omega
theorem mail_psum (v:Int):∀ T:List Ms,(∀ m ∈ T,0 <= m.2)->tsum T <= 4611686018427387904->(mailM 1 v T).getD 0 = psum v T/\0 <= psum v T/\psum v T <= tsum T
 | [],_,_ => by simp [mailM_nil,psum,tsum]
 | x :: T,h,ht => by
  have hx:=h x List.mem_cons_self
  have hT:∀ m ∈ T,0 <= m.2:=fun m hm => h m (List.mem_cons_of_mem _ hm)
  rw [tsum] at ht
  obtain ⟨i0,i1,i2⟩:=mail_psum v T hT (by omega)
  rw [psum,tsum,mailM_cons]
  by_cases hv:x.1 = v
  ·rw [if_pos hv,if_pos hv]
   refine ⟨?_,by omega,by omega⟩
   cases hc:mailM 1 v T with
   | none => rw [hc] at i0; simp at i0; simp [jn]; omega
   | some y => rw [hc] at i0; simp at i0; subst i0; simp only [jn,Option.getD_some,comb_one]; exact addI_plain hx i1 (by omega)
  ·rw [if_neg hv,if_neg hv]
   exact ⟨by rw [<- i0,Int.zero_add]; rfl,by omega,by omega⟩
theorem sm_add (f g:Nat->Int):∀ l:List Nat,sm (l.map fun v => f v + g v) = sm (l.map f) + sm (l.map g)
 | [] => by simp [sm]
 | x :: l => by simp only [List.map_cons,sm]; rw [sm_add f g l]; omega
theorem sm_const_zero:∀ l:List Nat,sm (l.map fun _ => (0:Int)) = 0
 | [] => rfl
 | _ :: l => by rw [List.map_cons,sm,sm_const_zero l]; rfl
theorem sm_one_at (t:Int) (y:Int) (h0:0 <= t):∀ V:Nat,sm ((List.range V).map fun (v:Nat) => if t = (v:Int) then y else 0) = if t < (V:Int) then y else 0
 | 0 => by rw [if_neg (by omega)]; rfl
 | V + 1 => by
  rw [List.range_succ,List.map_append,List.map_cons,List.map_nil,sm_snoc,sm_one_at t y h0 V]
  by_cases h1:t < (V:Int)
  ·rw [if_pos h1,if_neg (by omega),if_pos (by omega)]; omega
  ·by_cases h2:t = (V:Int)
   ·rw [if_neg h1,if_pos h2,if_pos (by omega)]; omega
   ·rw [if_neg h1,if_neg h2,if_neg (by omega)]; rfl
theorem psum_all (V:Nat):∀ T:List Ms,(∀ m ∈ T,0 <= m.1/\m.1 < (V:Int))->sm ((List.range V).map fun (v:Nat) => psum (v:Int) T) = tsum T
 | [],_ => by simp only [psum,tsum]; exact sm_const_zero _
 | x :: T,h => by
  have hx:=h x List.mem_cons_self
  have e:((List.range V).map fun (v:Nat) => psum (v:Int) (x :: T)) = (List.range V).map fun (v:Nat) => (if x.1 = (v:Int) then x.2 else 0) + psum (v:Int) T:=rfl
  rw [e,sm_add (fun (v:Nat) => if x.1 = (v:Int) then x.2 else 0) (fun (v:Nat) => psum (v:Int) T),sm_one_at x.1 x.2 hx.1,if_pos hx.2,psum_all V T fun m hm => h m (List.mem_cons_of_mem _ hm),tsum]
theorem sm_le (f g:Nat->Int):∀ l:List Nat,(∀ v ∈ l,f v <= g v)->sm (l.map f) <= sm (l.map g)
 | [],_ => by simp [sm]
 | x :: l,h => by
  have:=sm_le f g l fun v hv => h v (List.mem_cons_of_mem _ hv)
  have:=h x List.mem_cons_self
  simp only [List.map_cons,sm]; omega
theorem tsum_flat (f:Nat->List Ms):∀ l:List Nat,tsum ((l.map f).flatten) = sm (l.map fun v => tsum (f v))
 | [] => rfl
 | x :: l => by rw [List.map_cons,List.flatten_cons,tsum_app,tsum_flat f l,List.map_cons,sm]
theorem tsum_sentR (x:Int) (n:Nat):∀ L:List Ed,tsum (sentR x n L) = (L.length:Int) * giveI x n
 | [] => by simp [sentR,tsum]
 | e :: L => by
  show giveI x n + tsum (sentR x n L) = _
  rw [tsum_sentR x n L,List.length_cons]; push_cast; rw [Int.add_mul,Int.one_mul]; omega
theorem give_all {x:Int} (hx:0 <= x) (L:List Ed):0 <= tsum (sentR x L.length L)/\tsum (sentR x L.length L) + prtS 1 x L.length <= x:=by
 rw [tsum_sentR]
 unfold prtS giveI
 by_cases h:L.length = 0
 ·rw [h]; simp; omega
 ·rw [if_neg (by omega),if_pos rfl,if_neg h]
  have h1:=(share_mul x (L.length:Int) (by omega)).1
  have h2:0 <= x / (L.length:Int):=Int.ediv_nonneg hx (by omega)
  have h3:0 <= (L.length:Int) * (x / (L.length:Int)):=Int.mul_nonneg (by omega) h2
  rw [Int.mul_comm] at h1
  omega
theorem sm_vals {l:List Int} {V:Nat} (h:l.length = V):sm ((List.range V).map fun (v:Nat) => vl l v) = sm l:=by
 congr 1
 apply List.ext_getElem?; intro v
 rcases Nat.lt_or_ge v V with hv | hv
 ·rw [List.getElem?_map,List.getElem?_range hv,vl_at (by omega)]; rfl
 ·rw [List.getElem?_eq_none (by simpa using hv),List.getElem?_eq_none (by omega)]
theorem foldS_one:∀ (l:List Int) (a:Int),0 <= a->(∀ x ∈ l,0 <= x)->a + sm l <= 4611686018427387904->l.foldl (jonS 1) a = a + sm l
 | [],a,_,_,_ => by simp [sm]
 | x :: l,a,ha,h,hs => by
  have hx:=h x List.mem_cons_self
  have h2:=sm_nonneg l fun y hy => h y (List.mem_cons_of_mem _ hy)
  rw [sm] at hs
  rw [List.foldl_cons,show jonS 1 a x = a + x by unfold jonS; rw [if_pos (Or.inl rfl)]; exact addI_plain ha hx (by omega),foldS_one l (a + x) (by omega) (fun y hy => h y (List.mem_cons_of_mem _ hy)) (by omega),sm]; omega
theorem take_nonneg (n d m s:Int):0 <= takeI n d m s:=by
 unfold takeI; split
 ·omega
 ·have h1:0 <= (4294967296 - d) / n:=Int.ediv_nonneg (by omega) (by omega)
  have h2:0 <= d * addI m (s / n) / 4294967296:=Int.ediv_nonneg (Int.mul_nonneg (by omega) (addI_in _ _).1) (by omega)
  omega
theorem tk_map (n d s:Int) (f:Nat->Int):∀ l:List Nat,tk n d s (l.map f) = sm (l.map fun v => takeI n d (f v) s)
 | [] => rfl
 | x :: l => by rw [List.map_cons,List.map_cons,tk,sm,tk_map n d s f l]
theorem to_in {V:Nat} {L:List Ed} (hc:chk (V:Int) L = 0) {vals:List Int} {chg:List Bool}:∀ m ∈ (rawS 1 V L vals chg).flatten,0 <= m.1/\m.1 < (V:Int):=by
 obtain ⟨_,_,_,hf,_⟩:=(chk_zero _ _).1 hc
 intro m hm
 obtain ⟨r,hr,hm⟩:=List.mem_flatten.1 hm
 obtain ⟨v,_,rfl⟩:=List.mem_map.1 hr
 unfold rawM at hm
 rw [if_pos rfl] at hm
 obtain ⟨e,he,rfl⟩:=List.mem_map.1 hm
 have:=(fitE_iff _ _).1 (hf e (List.mem_filter.1 he).1)
 show 0 <= e.2.1/\e.2.1 < (V:Int)
 omega
theorem told_one {V:Nat} {L:List Ed} {vals:List Int} {chg:List Bool} (hl:vals.length = V) (h0:∀ x ∈ vals,0 <= x) (h1:sm vals <= 4294967296) :
 tsum (rawS 1 V L vals chg).flatten + sumS 1 V L vals <= 4294967296/\0 <= tsum (rawS 1 V L vals chg).flatten/\0 <= sumS 1 V L vals/\(∀ m ∈ (rawS 1 V L vals chg).flatten,0 <= m.2):=by
 have hv:∀ v:Nat,0 <= vl vals v:=fun v => by
  rcases Nat.lt_or_ge v vals.length with h | h
  ·exact h0 _ (List.mem_of_getElem? (vl_at h))
  ·unfold vl; rw [List.getD_eq_getElem?_getD,List.getElem?_eq_none h]; simp
 have e1:tsum (rawS 1 V L vals chg).flatten = sm ((List.range V).map fun (v:Nat) => tsum (sentR (vl vals v) (outE L (v:Int)).length (outE L (v:Int)))):=by
  unfold rawS; rw [tsum_flat]; rfl
 have hp:∀ v:Nat,0 <= prtS 1 (vl vals v) (outE L (v:Int)).length:=fun v => by unfold prtS; rw [if_pos rfl]; split <;> omega
 have e3:sm ((List.range V).map fun (v:Nat) => tsum (sentR (vl vals v) (outE L (v:Int)).length (outE L (v:Int)))) + sm ((List.range V).map fun (v:Nat) => prtS 1 (vl vals v) (outE L (v:Int)).length) <= sm vals:=by
  rw [<- sm_add,<- sm_vals hl]
  exact sm_le _ _ _ fun v _ => (give_all (hv v) _).2
 have n1:0 <= sm ((List.range V).map fun (v:Nat) => tsum (sentR (vl vals v) (outE L (v:Int)).length (outE L (v:Int)))):=sm_nonneg _ fun x hx => by obtain ⟨v,_,rfl⟩:=List.mem_map.1 hx; exact (give_all (hv v) _).1
 have n2:0 <= sm ((List.range V).map fun (v:Nat) => prtS 1 (vl vals v) (outE L (v:Int)).length):=sm_nonneg _ fun x hx => by obtain ⟨v,_,rfl⟩:=List.mem_map.1 hx; exact hp v
 have e2:sumS 1 V L vals = sm ((List.range V).map fun (v:Nat) => prtS 1 (vl vals v) (outE L (v:Int)).length):=by
  unfold sumS
  rw [foldS_one _ 0 (by omega) (fun x hx => by obtain ⟨v,_,rfl⟩:=List.mem_map.1 hx; exact hp v) (by omega)]; omega
 refine ⟨by rw [e1,e2]; omega,by rw [e1]; exact n1,by rw [e2]; exact n2,fun m hm => ?_⟩
 obtain ⟨r,hr,hm⟩:=List.mem_flatten.1 hm
 obtain ⟨v,_,rfl⟩:=List.mem_map.1 hr
 unfold rawM at hm
 rw [if_pos rfl] at hm
 obtain ⟨e,he,rfl⟩:=List.mem_map.1 hm
 show 0 <= giveI (vl vals v) _
 unfold giveI; split
 ·omega
 ·exact Int.ediv_nonneg (hv v) (by omega)
theorem rank_next {V:Nat} {L:List Ed} (hc:chk (V:Int) L = 0) {dm:Int} (hd0:0 <= dm) (hd1:dm <= 4294967296) {was vals:List Int} {chg:List Bool} {mo:Int} (hl:vals.length = V) (h0:∀ x ∈ vals,0 <= x) (h1:sm vals <= 4294967296) :
 (∀ x ∈ nxtV 1 dm V { toldS 1 V L was vals chg with most:=mo },0 <= x)/\sm (nxtV 1 dm V { toldS 1 V L was vals chg with most:=mo }) <= 4294967296:=by
 obtain ⟨t1,t2,t3,t4⟩:=told_one (L:=L) (chg:=chg) hl h0 h1
 have hV:=((chk_zero _ _).1 hc).1
 have e:nxtV 1 dm V { toldS 1 V L was vals chg with most:=mo } = (List.range V).map fun (v:Nat) => takeI (V:Int) dm (psum (v:Int) (rawS 1 V L vals chg).flatten) (sumS 1 V L vals):=by
  unfold nxtV
  refine List.map_congr_left fun v hv => ?_
  have hv':=List.mem_range.1 hv
  have hm:=mail_psum (v:Int) _ t4 (by omega)
  show cmpM 1 V dm (vl vals v) (ml (inbS 1 V L vals chg) v).1 (ml (inbS 1 V L vals chg) v).2 (sumS 1 V L vals) = _
  rw [ml_of (inb_at 1 V L vals chg v hv')]
  unfold cmpM
  rw [if_pos rfl]
  congr 1
  unfold gotI
  cases hq:mailM 1 (v:Int) (rawS 1 V L vals chg).flatten with
  | none => rw [hq] at hm; simp at hm; simp [mlOf]; omega
  | some y => rw [hq] at hm; simp at hm; simp [mlOf]; omega
 rw [e]
 refine ⟨fun x hx => by obtain ⟨v,_,rfl⟩:=List.mem_map.1 hx; exact take_nonneg ..,?_⟩
 rw [<- tk_map]
 refine (tk_one (V:Int) dm _ hV hd0 hd1 t3 _ (fun x hx => ?_) (by simp) ?_).2
 ·obtain ⟨v,_,rfl⟩:=List.mem_map.1 hx
  exact (mail_psum (v:Int) _ t4 (by omega)).2.1
 ·rw [psum_all V _ (to_in hc)]; exact t1
def stS (k so dm:Int) (V:Nat) (L:List Ed) (n:Nat):Sq:=itr (nxtS k dm V L) n (strS k so V L)
theorem stS_next (k so dm:Int) (V:Nat) (L:List Ed) (n:Nat):stS k so dm V L (n + 1) = nxtS k dm V L (stS k so dm V L n):=itr_next _ _ _
def FormS (k:Int) (V:Nat) (L:List Ed) (s:Sq):Prop:=s.inb = inbS k V L s.vals s.chg/\s.sum = sumS k V L s.vals
theorem form_is {k:Int} {V:Nat} {L:List Ed} {s:Sq} (h:FormS k V L s) (was:List Int):s = { toldS k V L was s.vals s.chg with most:=s.most }:=by
 obtain ⟨a,b,c,d,e⟩:=s
 obtain ⟨h1,h2⟩:=h
 simp only at h1 h2
 subst h1 h2
 rfl
theorem sum_share (V:Nat) (hV:1 <= V):sm (strV 1 0 V) <= 4294967296:=by
 have e:strV 1 0 V = List.replicate V (4294967296 / (V:Int)):=by
  unfold strV
  apply List.ext_getElem?; intro v
  rcases Nat.lt_or_ge v V with hv | hv
  ·rw [List.getElem?_map,List.getElem?_range hv,List.getElem?_replicate,if_pos hv]
   simp only [Option.map_some]
   unfold sttM giveI; rw [if_pos rfl,if_neg (by omega)]
  ·rw [List.getElem?_eq_none (by simpa using hv),List.getElem?_eq_none (by simpa using hv)]
 have h:∀ (n:Nat) (q:Int),sm (List.replicate n q) = (n:Int) * q:=by
  intro n q
  induction n with
  | zero => simp [sm]
  | succ n ih => rw [List.replicate_succ,sm,ih]; push_cast; rw [Int.add_mul,Int.one_mul]; omega
 rw [e,h]
 have:=(share_mul 4294967296 (V:Int) (by omega)).1
 rw [Int.mul_comm] at this
 exact this
theorem strV_so (so:Int) (V:Nat):strV 1 so V = strV 1 0 V:=by unfold strV sttM; simp
structure GoS (k:Int) (V:Nat) (L:List Ed) (s:Sq):Prop where
 may:MayS V s
 form:FormS k V L s
 one:k = 1->sm s.vals <= 4294967296
theorem go_start {k so:Int} {V:Nat} {L:List Ed} (hc:chk (V:Int) L = 0):GoS k V L (strS k so V L):=by
 obtain ⟨h1,h2,_,_,_⟩:=(chk_zero _ _).1 hc
 refine ⟨str_may (by omega),⟨rfl,rfl⟩,fun e => ?_⟩
 subst e
 show sm (strV 1 so V) <= _
 rw [strV_so]; exact sum_share V (by omega)
theorem go_next {k dm:Int} {V:Nat} {L:List Ed} {s:Sq} (hc:chk (V:Int) L = 0) (hd:k = 1->0 <= dm/\dm <= 4294967296) (h:GoS k V L s):GoS k V L (nxtS k dm V L s):=by
 by_cases hk:k = 1
 ·subst hk
  obtain ⟨d0,d1⟩:=hd rfl
  have hr:=rank_next (chg:=s.chg) (was:=[]) (mo:=s.most) hc d0 d1 h.may.1 (fun x hx => (h.may.2.2.2.1 x hx).1) (h.one rfl)
  rw [<- form_is h.form []] at hr
  refine ⟨told_may (nxtV_len ..) (nxtC_len ..) fun x hx => ⟨hr.1 x hx,?_⟩,⟨rfl,rfl⟩,fun _ => hr.2⟩
  obtain ⟨i,hi⟩:=List.getElem?_of_mem hx
  have:=(sm_at _ i x hr.1 hi).2
  omega
 ·exact ⟨nxt_may hk h.may,⟨rfl,rfl⟩,fun e => absurd e hk⟩
theorem go_all {k so dm:Int} {V:Nat} {L:List Ed} (hc:chk (V:Int) L = 0) (hd:k = 1->0 <= dm/\dm <= 4294967296):∀ n,GoS k V L (stS k so dm V L n)
 | 0 => go_start hc
 | n + 1 => by rw [stS_next]; exact go_next hc hd (go_all hc hd n)
theorem go_falls {k so dm:Int} {V:Nat} {L:List Ed} (hk:k = 2\/k = 3) (n v:Nat) (hv:v < V):vl (stS k so dm V L (n + 1)).vals v <= vl (stS k so dm V L n).vals v:=by
 rw [stS_next]; exact nxt_le hk hv
theorem least_of {p:Nat->Bool}:∀ N:Nat,p N = true->∃ n,n <= N/\p n = true/\∀ i,i < n->p i = false:=by
 intro N
 induction N using Nat.strongRecOn with
 | _ N ih =>
  intro h
  by_cases hx:∃ i,i < N/\p i = true
  ·obtain ⟨i,hi,hp⟩:=hx
   obtain ⟨n,h1,h2,h3⟩:=ih i hi hp
   exact ⟨n,by omega,h2,h3⟩
  ·exact ⟨N,Nat.le_refl _,h,fun i hi => by
    cases hp:p i with
    | false => rfl
    | true => exact absurd ⟨i,hi,hp⟩ hx⟩
theorem first_done {k st ep:Int} (hk:k = 1\/k = 2\/k = 3) (h0:0 <= st) (m:Nat->Int) :
 ∃ n:Nat,(n:Int) <= st/\donB k st ep (n:Int) (m n) = true/\∀ i:Nat,i < n->donB k st ep (i:Int) (m i) = false:=by
 obtain ⟨n,h1,h2,h3⟩:=least_of (p:=fun n => donB k st ep (n:Int) (m n)) st.toNat (by
  have e:((st.toNat:Nat):Int) = st:=by omega
  simp only [e]
  unfold donB
  rcases hk with rfl | rfl | rfl <;> simp)
 exact ⟨n,by omega,h2,h3⟩
end Go.Proofs.YtdcaekmgfcpbmaaGreat.Sq
