/-
  What is proved here: plain facts on rows of numbers: a row that is put in order and compacted is the row into which each number was put in its place; what is taken of mail; which labels may be. No program. What is proved here: plain facts on messages: put into a row one after another, or sorted and put together, they are one row; how values and totals are put together. No program. What is proved here: plain facts on mail: what all messages of a row come to at a vertex, in whatever order, however cut, folded ahead or not, split by workers or not. No program.
-/
import Derived.Test.YtdcaekmgfcpbmaaGreatQdPtMathx
import Derived.Lib.SlicesCompact
import Derived.Test.YtdcaekmgfcpbmaaGreatQdRkMathx
namespace Go.Proofs.YtdcaekmgfcpbmaaGreat.Lb
open Go Go.Lib Gr
def ins (n:Int):List Int->List Int
 | [] => [n]
 | x :: l => if x < n then x :: ins n l else if x = n then x :: l else n :: x :: l
def Up (l:List Int):Prop:=l.Pairwise fun a b => a < b
theorem mem_ins {n y:Int}:∀ {l:List Int},y ∈ ins n l ↔ y = n\/y ∈ l
 | [] => by simp [ins]
 | x :: l => by
  unfold ins
  by_cases h1:x < n
  ·rw [if_pos h1,List.mem_cons,mem_ins,List.mem_cons]
   constructor
   ·rintro (h | h | h)
    ·exact Or.inr (Or.inl h)
    ·exact Or.inl h
    ·exact Or.inr (Or.inr h)
   ·rintro (h | h | h)
    ·exact Or.inr (Or.inl h)
    ·exact Or.inl h
    ·exact Or.inr (Or.inr h)
  ·rw [if_neg h1]
   by_cases h2:x = n
   ·rw [if_pos h2]; subst h2; simp
   ·rw [if_neg h2]; simp
theorem up_ins {n:Int}:∀ {l:List Int},Up l->Up (ins n l)
 | [],_ => by simp [ins,Up]
 | x :: l,h => by
  obtain ⟨h1,h2⟩:=List.pairwise_cons.1 h
  unfold ins
  by_cases g1:x < n
  ·rw [if_pos g1]
   refine List.pairwise_cons.2 ⟨fun y hy => ?_,up_ins h2⟩
   rcases mem_ins.1 hy with rfl | hy
   ·exact g1
   ·exact h1 y hy
  ·rw [if_neg g1]
   by_cases g2:x = n
   ·rw [if_pos g2]; exact h
   ·rw [if_neg g2]
    refine List.pairwise_cons.2 ⟨fun y hy => ?_,h⟩
    rcases List.mem_cons.1 hy with rfl | hy
    ·omega
    ·have:=h1 y hy; omega
theorem len_ins {n:Int}:∀ {l:List Int},(ins n l).length <= l.length + 1
 | [] => by simp [ins]
 | x :: l => by
  unfold ins
  split
  ·have:=@len_ins n l; simp; omega
  ·split <;> simp
theorem ins_at {n:Int}:∀ (l:List Int) (k:Nat),(∀ (j:Nat) (x:Int),j < k->l[j]? = some x->x < n)->k <= l.length->(∀ x,l[k]? = some x->¬ x < n) ->
 ins n l = if l[k]? = some n then l else l.take k ++ ([n] ++ l.drop k)
 | [],k,_,h,_ => by
  have:k = 0:=by simpa using h
  subst this
  simp [ins]
 | x :: l,0,_,_,h => by
  have h1:=h x rfl
  unfold ins
  rw [if_neg h1]
  by_cases h2:x = n
  ·simp [h2]
  ·simp [h2]
 | x :: l,k + 1,ha,hk,h => by
  have h1:=ha 0 x (by omega) rfl
  unfold ins
  rw [if_pos h1,ins_at l k (fun j y hj hy => ha (j + 1) y (by omega) (by simpa using hy)) (by simpa using hk) (fun y hy => h y (by simpa using hy))]
  simp only [List.getElem?_cons_succ,List.take_succ_cons,List.drop_succ_cons]
  split <;> simp
def putAll (l xs:List Int):List Int:=xs.foldl (fun l n => ins n l) l
theorem putAll_snoc (l xs:List Int) (x:Int):putAll l (xs ++ [x]) = ins x (putAll l xs):=by simp [putAll,List.foldl_append]
theorem putAll_len:∀ (xs l:List Int),(putAll l xs).length <= l.length + xs.length
 | [],l => by simp [putAll]
 | x :: xs,l => by
  have h1:=putAll_len xs (ins x l)
  have h2:=@len_ins x l
  have:putAll l (x :: xs) = putAll (ins x l) xs:=rfl
  rw [this]; simp; omega
theorem putAll_up:∀ (xs l:List Int),Up l->Up (putAll l xs)
 | [],_,h => h
 | x :: xs,l,h => putAll_up xs (ins x l) (up_ins h)
theorem mem_putAll {y:Int}:∀ (xs l:List Int),y ∈ putAll l xs ↔ y ∈ l\/y ∈ xs
 | [],l => by simp [putAll]
 | x :: xs,l => by
  have:putAll l (x :: xs) = putAll (ins x l) xs:=rfl
  rw [this,mem_putAll xs,mem_ins,List.mem_cons]
  constructor
  ·rintro ((h | h) | h)
   ·exact Or.inr (Or.inl h)
   ·exact Or.inl h
   ·exact Or.inr (Or.inr h)
  ·rintro (h | h | h)
   ·exact Or.inl (Or.inr h)
   ·exact Or.inl (Or.inl h)
   ·exact Or.inr h
theorem up_one:∀ {l m:List Int},Up l->Up m->(∀ y,y ∈ l ↔ y ∈ m)->l = m
 | [],[],_,_,_ => rfl
 | [],b :: m,_,_,h => by have:=(h b).2 (by simp); simp at this
 | a :: l,[],_,_,h => by have:=(h a).1 (by simp); simp at this
 | a :: l,b :: m,hl,hm,h => by
  obtain ⟨l1,l2⟩:=List.pairwise_cons.1 hl
  obtain ⟨m1,m2⟩:=List.pairwise_cons.1 hm
  have e:a = b:=by
   rcases List.mem_cons.1 ((h a).1 List.mem_cons_self) with g | g
   ·exact g
   ·rcases List.mem_cons.1 ((h b).2 List.mem_cons_self) with k | k
    ·exact k.symm
    ·have:=l1 b k; have:=m1 a g; omega
  subst e
  congr 1
  refine up_one l2 m2 fun y => ?_
  constructor
  ·intro hy
   rcases List.mem_cons.1 ((h y).1 (List.mem_cons_of_mem _ hy)) with g | g
   ·have:=l1 y hy; omega
   ·exact g
  ·intro hy
   rcases List.mem_cons.1 ((h y).2 (List.mem_cons_of_mem _ hy)) with g | g
   ·have:=m1 y hy; omega
   ·exact g
theorem comp_up (d:Array Int) (hs:∀ i j,i < j->j < d.size->d[i]! <= d[j]!):∀ m,m <= d.size->Up (compactUpTo d m)/\∀ y,y ∈ compactUpTo d m ↔ ∃ j,j < m/\y = d[j]!
 | 0,_ => by
  refine ⟨by simp [compactUpTo,Up],fun y => ?_⟩
  simp [compactUpTo]
 | m + 1,hm => by
  obtain ⟨h1,h2⟩:=comp_up d hs m (by omega)
  rw [compactUpTo_succ]
  cases hk:keeps d m with
  | true =>
   simp only [if_true]
   have hne:m = 0\/d[m]! ≠ d[m - 1]!:=by simpa [keeps] using hk
   refine ⟨List.pairwise_append.2 ⟨h1,by simp,fun x hx y hy => ?_⟩,fun y => ?_⟩
   ·simp at hy; subst hy
    obtain ⟨j,hj,rfl⟩:=(h2 x).1 hx
    rcases hne with h0 | hne
    ·omega
    ·have a1:=hs (m - 1) m (by omega) (by omega)
     rcases Nat.lt_or_ge j (m - 1) with hlt | hge
     ·have a2:=hs j (m - 1) hlt (by omega); omega
     ·have:j = m - 1:=by omega
      subst this; omega
   ·rw [List.mem_append,h2]
    constructor
    ·rintro (⟨j,hj,rfl⟩ | hy)
     ·exact ⟨j,by omega,rfl⟩
     ·simp at hy; exact ⟨m,by omega,hy⟩
    ·rintro ⟨j,hj,rfl⟩
     rcases Nat.lt_or_ge j m with hlt | hge
     ·exact Or.inl ⟨j,hlt,rfl⟩
     ·have:j = m:=by omega
      subst this; right; simp
  | false =>
   simp only [Bool.false_eq_true,if_false,List.append_nil]
   have hne:m ≠ 0/\d[m]! = d[m - 1]!:=by simpa [keeps] using hk
   refine ⟨h1,fun y => ?_⟩
   rw [h2]
   constructor
   ·rintro ⟨j,hj,rfl⟩; exact ⟨j,by omega,rfl⟩
   ·rintro ⟨j,hj,rfl⟩
    rcases Nat.lt_or_ge j m with hlt | hge
    ·exact ⟨j,hlt,rfl⟩
    ·have:j = m:=by omega
     subst this
     exact ⟨j - 1,by omega,hne.2⟩
def srt (l:List Int):List Int:=l.mergeSort fun x y => decide (x <= y)
theorem srt_len (l:List Int):(srt l).length = l.length:=List.length_mergeSort l
theorem srt_up (l:List Int):(srt l).Pairwise fun a b => a <= b:=by
 have:=List.pairwise_mergeSort (le:=fun x y:Int => decide (x <= y)) (fun a b c h1 h2 => by simp at *; omega) (fun a b => by simp; omega) l
 exact this.imp fun h => by simpa using h
theorem comp_srt (l:List Int):compact (srt l) = putAll [] l:=by
 have hs:∀ i j,i < j->j < (srt l).toArray.size->(srt l).toArray[i]! <= (srt l).toArray[j]!:=by
  intro i j hij hj
  have hj':j < (srt l).length:=by simpa using hj
  rw [getElem!_pos _ i (by simp; omega),getElem!_pos _ j (by simp; omega)]
  simp only [List.getElem_toArray]
  exact (List.pairwise_iff_getElem.1 (srt_up l)) i j (by omega) hj' hij
 obtain ⟨h1,h2⟩:=comp_up (srt l).toArray hs (srt l).length (by simp)
 refine up_one h1 (putAll_up l [] (by simp [Up])) fun y => ?_
 show y ∈ compactUpTo (srt l).toArray (srt l).length ↔ _
 have hm:y ∈ srt l ↔ y ∈ l:=List.mem_mergeSort
 rw [h2,mem_putAll,<- hm]
 simp only [List.not_mem_nil,false_or]
 constructor
 ·rintro ⟨j,hj,rfl⟩
  rw [getElem!_pos _ j (by simpa using hj)]
  simp
 ·intro hy
  obtain ⟨j,hj,rfl⟩:=List.mem_iff_getElem.1 hy
  exact ⟨j,hj,by rw [getElem!_pos _ j (by simpa using hj)]; simp⟩
def tos (v:Int) (L:List Ed):List Int:=(L.map fun e => e.2.1).filter fun x => decide (x ≠ v)
def froms (v:Int) (L:List Ed):List Int:=(L.map fun e => e.1).filter fun x => decide (x ≠ v)
def nearL (v:Int) (L M:List Ed):List Int:=putAll [] (tos v L ++ froms v M)
theorem tos_len (v:Int) (L:List Ed):(tos v L).length <= L.length:=by
 have:=List.length_filter_le (fun x => decide (x ≠ v)) (L.map fun e => e.2.1); simpa [tos] using this
theorem froms_len (v:Int) (L:List Ed):(froms v L).length <= L.length:=by
 have:=List.length_filter_le (fun x => decide (x ≠ v)) (L.map fun e => e.1); simpa [froms] using this
theorem tos_snoc (v:Int) (L:List Ed) (e:Ed):tos v (L ++ [e]) = if e.2.1 = v then tos v L else tos v L ++ [e.2.1]:=by
 unfold tos
 rw [List.map_append,List.filter_append]
 by_cases h:e.2.1 = v <;> simp [h]
theorem froms_snoc (v:Int) (L:List Ed) (e:Ed):froms v (L ++ [e]) = if e.1 = v then froms v L else froms v L ++ [e.1]:=by
 unfold froms
 rw [List.map_append,List.filter_append]
 by_cases h:e.1 = v <;> simp [h]
def takM (v:Int) (has:Bool) (x:Int):Int:=if has = true/\x < v then x else v
def takB (v:Int) (has:Bool) (x:Int):Bool:=has && decide (x < v)
def labOk (l:List Int) (k:Nat):Bool:=match l[k]? with | some x => decide (0 <= x) && decide (x <= (k:Int)) && decide (l[x.toNat]? = some x) | none => false
def mne (l:List Int) (k:Nat):Bool:=decide (l[k]? = some (k:Int))
def mrkF (l:List Int):Nat->Nat->Nat->Int × Bool
 | 0,_,m => ((m:Int),true)
 | g + 1,k,m => if labOk l k then mrkF l g (k + 1) (if mne l k then m + 1 else m) else (0,false)
def mrk (l:List Int):Int × Bool:=mrkF l l.length 0 0
end Go.Proofs.YtdcaekmgfcpbmaaGreat.Lb
namespace Go.Proofs.YtdcaekmgfcpbmaaGreat.Al
open Gr Fx Rk Lb
abbrev Ms:=Int × Int
def comb (k a b:Int):Int:=if k = 1 then addI a b else if k = 2\/k = 3 then min a b else 0
theorem comb_one (a b:Int):comb 1 a b = addI a b:=rfl
theorem comb_comm (k a b:Int):comb k a b = comb k b a:=by
 unfold comb; split
 ·exact addI_comm a b
 ·split <;> omega
theorem comb_right (k v a b:Int):comb k (comb k v a) b = comb k (comb k v b) a:=by
 unfold comb
 by_cases h:k = 1
 ·simp only [if_pos h]; rw [addI_assoc,addI_comm a b,<- addI_assoc]
 ·simp only [if_neg h]; split <;> omega
theorem comb_assoc (k a b c:Int):comb k (comb k a b) c = comb k a (comb k b c):=by
 unfold comb
 by_cases h:k = 1
 ·simp only [if_pos h]; rw [addI_assoc]
 ·simp only [if_neg h]; split <;> omega
def insM (k:Int):List Ms->Ms->List Ms
 | [],m => [m]
 | x :: l,m => if x.1 < m.1 then x :: insM k l m else if x.1 = m.1 then (m.1,comb k x.2 m.2) :: l else m :: x :: l
def UpM (l:List Ms):Prop:=l.Pairwise fun a b => a.1 < b.1
theorem mem_insM {k:Int} {m y:Ms}:∀ {l:List Ms},y ∈ insM k l m->y.1 = m.1\/y ∈ l
 | [],h => by simp [insM] at h; exact Or.inl (by rw [h])
 | x :: l,h => by
  unfold insM at h
  split at h
  ·rcases List.mem_cons.1 h with rfl | h
   ·exact Or.inr List.mem_cons_self
   ·rcases mem_insM h with h | h
    ·exact Or.inl h
    ·exact Or.inr (List.mem_cons_of_mem _ h)
  ·split at h
   ·rcases List.mem_cons.1 h with rfl | h
    ·exact Or.inl rfl
    ·exact Or.inr (List.mem_cons_of_mem _ h)
   ·rcases List.mem_cons.1 h with rfl | h
    ·exact Or.inl rfl
    ·exact Or.inr h
theorem up_insM {k:Int} {m:Ms}:∀ {l:List Ms},UpM l->UpM (insM k l m)
 | [],_ => by simp [insM,UpM]
 | x :: l,h => by
  obtain ⟨h1,h2⟩:=List.pairwise_cons.1 h
  unfold insM
  split
  ·rename_i c
   refine List.pairwise_cons.2 ⟨fun y hy => ?_,up_insM h2⟩
   rcases mem_insM hy with g | g
   ·rw [g]; exact c
   ·exact h1 y g
  ·split
   ·rename_i c d
    refine List.pairwise_cons.2 ⟨fun y hy => ?_,h2⟩
    have:=h1 y hy
    show m.1 < y.1
    omega
   ·rename_i c d
    refine List.pairwise_cons.2 ⟨fun y hy => ?_,h⟩
    rcases List.mem_cons.1 hy with rfl | g
    ·omega
    ·have:=h1 y g; omega
theorem insM_right (k:Int) (a b:Ms):∀ {l:List Ms},UpM l->insM k (insM k l a) b = insM k (insM k l b) a
 | [],_ => by
  obtain ⟨a1,a2⟩:=a; obtain ⟨b1,b2⟩:=b
  simp only [insM]
  rcases Int.lt_trichotomy a1 b1 with h | h | h
  ·rw [if_pos h,if_neg (by omega),if_neg (by omega)]
  ·subst h; simp [comb_comm k a2 b2]
  ·rw [if_neg (by omega),if_neg (by omega),if_pos h]
 | x :: l,hu => by
  obtain ⟨h1,h2⟩:=List.pairwise_cons.1 hu
  have ih:=insM_right k a b h2
  obtain ⟨x1,x2⟩:=x; obtain ⟨a1,a2⟩:=a; obtain ⟨b1,b2⟩:=b
  rcases Int.lt_trichotomy x1 a1 with ha | ha | ha
  ·rcases Int.lt_trichotomy x1 b1 with hb | hb | hb
   ·simp only [insM,if_pos ha,if_pos hb]; rw [ih]
   ·subst hb; simp [insM,ha]
   ·simp only [insM,if_pos ha,if_neg (show ¬ x1 < b1 by omega),if_neg (show ¬ x1 = b1 by omega),if_neg (show ¬ b1 = a1 by omega),if_pos (show b1 < a1 by omega)]
  ·subst ha
   rcases Int.lt_trichotomy x1 b1 with hb | hb | hb
   ·simp [insM,hb]
   ·subst hb; simp [insM,comb_right k x2 a2 b2]
   ·simp [insM,hb,show ¬ x1 < b1 by omega,show ¬ x1 = b1 by omega]
  ·rcases Int.lt_trichotomy x1 b1 with hb | hb | hb
   ·simp [insM,hb,show ¬ x1 < a1 by omega,show ¬ x1 = a1 by omega,show a1 < b1 by omega]
   ·subst hb; simp [insM,ha,show ¬ x1 < a1 by omega,show ¬ x1 = a1 by omega]
   ·rcases Int.lt_trichotomy a1 b1 with h | h | h
    ·simp [insM,h,show ¬ x1 < a1 by omega,show ¬ x1 = a1 by omega,show ¬ x1 < b1 by omega,show ¬ x1 = b1 by omega,show ¬ b1 < a1 by omega,show ¬ b1 = a1 by omega]
    ·subst h; simp [insM,show ¬ x1 < a1 by omega,show ¬ x1 = a1 by omega,comb_comm k a2 b2]
    ·simp [insM,h,show ¬ x1 < a1 by omega,show ¬ x1 = a1 by omega,show ¬ x1 < b1 by omega,show ¬ x1 = b1 by omega,show ¬ a1 < b1 by omega,show ¬ a1 = b1 by omega]
def putM (k:Int) (l xs:List Ms):List Ms:=xs.foldl (insM k) l
theorem putM_snoc (k:Int) (l xs:List Ms) (x:Ms):putM k l (xs ++ [x]) = insM k (putM k l xs) x:=by simp [putM,List.foldl_append]
theorem putM_perm (k:Int) {xs ys:List Ms} (h:xs.Perm ys):∀ {l:List Ms},UpM l->putM k l xs = putM k l ys:=by
 induction h with
 | nil => intro l _; rfl
 | cons x _ ih => intro l hl; exact ih (up_insM hl)
 | swap x y zs => intro l hl; show putM k (insM k (insM k l y) x) zs = putM k (insM k (insM k l x) y) zs; rw [insM_right k y x hl]
 | trans _ _ ih1 ih2 => intro l hl; rw [ih1 hl,ih2 hl]
def stp (k:Int):List Ms->Ms->List Ms
 | [],m => [m]
 | [x],m => if x.1 = m.1 then [(x.1,comb k x.2 m.2)] else [x,m]
 | x :: y :: l,m => x :: stp k (y :: l) m
theorem stp_snoc (k:Int) (z m:Ms):∀ l:List Ms,stp k (l ++ [z]) m = if z.1 = m.1 then l ++ [(z.1,comb k z.2 m.2)] else l ++ [z,m]
 | [] => rfl
 | [x] => by
  show x :: stp k [z] m = _
  rw [show stp k [z] m = if z.1 = m.1 then [(z.1,comb k z.2 m.2)] else [z,m] from rfl]; split <;> rfl
 | x :: y :: l => by
  show x :: stp k ((y :: l) ++ [z]) m = _
  rw [stp_snoc k z m (y :: l)]; split <;> rfl
theorem stp_ins (k:Int) (m:Ms):∀ {l:List Ms},UpM l->(∀ x ∈ l,x.1 <= m.1)->stp k l m = insM k l m
 | [],_,_ => rfl
 | [x],_,h => by
  have:=h x List.mem_cons_self
  unfold stp insM
  by_cases e:x.1 = m.1
  ·rw [if_pos e,if_neg (by omega),if_pos e,e]
  ·rw [if_neg e,if_pos (by omega)]; rfl
 | x :: y :: l,hu,h => by
  obtain ⟨h1,h2⟩:=List.pairwise_cons.1 hu
  have hy:=h1 y List.mem_cons_self
  have hm:=h y (List.mem_cons_of_mem _ List.mem_cons_self)
  show x :: stp k (y :: l) m = insM k (x :: y :: l) m
  rw [insM,if_pos (show x.1 < m.1 by omega),stp_ins k m h2 (fun z hz => h z (List.mem_cons_of_mem _ hz))]
def SrtM (l:List Ms):Prop:=l.Pairwise fun a b => a.1 <= b.1
def grp (k:Int) (l xs:List Ms):List Ms:=xs.foldl (stp k) l
theorem grp_snoc (k:Int) (l xs:List Ms) (x:Ms):grp k l (xs ++ [x]) = stp k (grp k l xs) x:=by simp [grp,List.foldl_append]
theorem grp_put (k:Int):∀ (xs:List Ms) {l:List Ms},SrtM xs->UpM l->(∀ x ∈ l,∀ y ∈ xs,x.1 <= y.1)->grp k l xs = putM k l xs
 | [],_,_,_,_ => rfl
 | m :: xs,l,hs,hu,hl => by
  obtain ⟨h1,h2⟩:=List.pairwise_cons.1 hs
  show grp k (stp k l m) xs = putM k (insM k l m) xs
  rw [stp_ins k m hu (fun x hx => hl x hx m List.mem_cons_self)]
  refine grp_put k xs h2 (up_insM hu) fun x hx y hy => ?_
  rcases mem_insM hx with g | g
  ·rw [g]; exact h1 y hy
  ·exact hl x g y (List.mem_cons_of_mem _ hy)
theorem grp_sorted (k:Int) {S L:List Ms} (hs:SrtM S) (hp:S.Perm L):grp k [] S = putM k [] L:=by
 rw [grp_put k S hs (by simp [UpM]) (by simp)]
 exact putM_perm k hp (by simp [UpM])
theorem insM_end (k:Int) (m:Ms):∀ {l:List Ms},(∀ x ∈ l,x.1 < m.1)->insM k l m = l ++ [m]
 | [],_ => rfl
 | x :: l,h => by
  rw [insM,if_pos (h x List.mem_cons_self),insM_end k m (fun y hy => h y (List.mem_cons_of_mem _ hy))]; rfl
theorem putM_up (k:Int):∀ (xs l:List Ms),UpM (l ++ xs)->putM k l xs = l ++ xs
 | [],l,_ => by simp [putM]
 | m :: xs,l,h => by
  have h0:=List.pairwise_append.1 h
  show putM k (insM k l m) xs = _
  rw [insM_end k m (fun x hx => h0.2.2 x hx m List.mem_cons_self),putM_up k xs (l ++ [m]) (by simpa using h)]; simp
theorem grp_len (k:Int) (m:Ms):∀ l:List Ms,(stp k l m).length <= l.length + 1
 | [] => by simp [stp]
 | [x] => by unfold stp; split <;> simp
 | x :: y :: l => by have:=grp_len k m (y :: l); simp [stp] at this ⊢; omega
theorem insM_len (k:Int) (m:Ms):∀ l:List Ms,(insM k l m).length <= l.length + 1
 | [] => by simp [insM]
 | x :: l => by
  have:=insM_len k m l
  unfold insM; split
  ·simp; omega
  ·split <;> simp
theorem putM_len (k:Int):∀ (xs l:List Ms),(putM k l xs).length <= l.length + xs.length
 | [],l => by simp [putM]
 | m :: xs,l => by have:=putM_len k xs (insM k l m); have:=insM_len k m l; show (putM k (insM k l m) xs).length <= _; simp at *; omega
def sentR (v:Int) (n:Nat) (L:List Ed):List Ms:=L.map fun e => (e.2.1,giveI v n)
def sentL (v:Int) (L:List Int):List Ms:=L.map fun u => (u,v)
def sentP (v:Int) (L:List Ed):List Ms:=L.map fun e => (e.2.1,addI v e.2.2)
def rawM (k v x:Int) (ch:Bool) (L M:List Ed):List Ms :=
 if k = 1 then sentR x L.length L else if ch = true then (if k = 2 then sentL x (nearL v L M) else if k = 3 then sentP x L else []) else []
def sendM (k v x:Int) (ch:Bool) (L M:List Ed):List Ms:=putM k [] (rawM k v x ch L M)
theorem sentL_up (v:Int) {L:List Int} (h:Up L):UpM (sentL v L):=by
 unfold UpM sentL
 exact List.pairwise_map.2 (h.imp fun {a b} g => g)
end Go.Proofs.YtdcaekmgfcpbmaaGreat.Al
namespace Go.Proofs.YtdcaekmgfcpbmaaGreat.In
open Gr Fx Rk Lb Al Pt
def mst (k v:Int) (o:Option Int) (x:Ms):Option Int:=if x.1 = v then (match o with | none => some x.2 | some y => some (comb k y x.2)) else o
def mailM (k v:Int) (l:List Ms):Option Int:=l.foldl (mst k v) none
def jn (k:Int):Option Int->Option Int->Option Int
 | none,b => b
 | some a,none => some a
 | some a,some b => some (comb k a b)
theorem mailM_snoc (k v:Int) (l:List Ms) (x:Ms):mailM k v (l ++ [x]) = mst k v (mailM k v l) x:=by simp [mailM,List.foldl_append]
theorem jn_none (k:Int) (a:Option Int):jn k a none = a:=by cases a <;> rfl
theorem jn_comm (k:Int) (a b:Option Int):jn k a b = jn k b a:=by
 cases a <;> cases b <;> simp [jn,comb_comm]
theorem jn_assoc (k:Int) (a b c:Option Int):jn k (jn k a b) c = jn k a (jn k b c):=by
 cases a <;> cases b <;> cases c <;> simp [jn,comb_assoc]
theorem mst_jn (k v:Int) (o:Option Int) (x:Ms):mst k v o x = jn k o (if x.1 = v then some x.2 else none):=by
 unfold mst
 split
 ·cases o <;> rfl
 ·rw [jn_none]
theorem foldl_mst (k v:Int):∀ (l:List Ms) (o:Option Int),l.foldl (mst k v) o = jn k o (mailM k v l)
 | [],o => by simp [mailM,jn_none]
 | x :: l,o => by
  show l.foldl (mst k v) (mst k v o x) = jn k o (l.foldl (mst k v) (mst k v none x))
  rw [foldl_mst k v l,foldl_mst k v l,mst_jn,mst_jn,jn_assoc]
  rfl
theorem mailM_app (k v:Int) (l m:List Ms):mailM k v (l ++ m) = jn k (mailM k v l) (mailM k v m):=by
 unfold mailM; rw [List.foldl_append]; exact foldl_mst k v m _
theorem mailM_one (k v:Int) (x:Ms):mailM k v [x] = if x.1 = v then some x.2 else none:=by
 show mst k v none x = _
 unfold mst; rfl
theorem mailM_cons (k v:Int) (x:Ms) (l:List Ms):mailM k v (x :: l) = jn k (if x.1 = v then some x.2 else none) (mailM k v l):=by
 rw [show x :: l = [x] ++ l from rfl,mailM_app,mailM_one]
theorem mailM_nil (k v:Int):mailM k v [] = none:=rfl
theorem mailM_insM (k v:Int) (m:Ms):∀ {l:List Ms},UpM l->mailM k v (insM k l m) = jn k (mailM k v l) (if m.1 = v then some m.2 else none)
 | [],_ => by show mailM k v [m] = _; rw [mailM_one,mailM_nil]; rfl
 | x :: l,h => by
  obtain ⟨_,h2⟩:=List.pairwise_cons.1 h
  unfold insM
  split
  ·rw [mailM_cons,mailM_cons,mailM_insM k v m h2,jn_assoc]
  ·split
   ·rename_i _ e
    rw [mailM_cons,mailM_cons,jn_assoc,jn_comm k (mailM k v l),<- jn_assoc]
    congr 1
    simp only [e]
    split <;> rfl
   ·rw [mailM_cons,jn_comm]
theorem mailM_putM (k v:Int):∀ (xs:List Ms) {l:List Ms},UpM l->mailM k v (putM k l xs) = jn k (mailM k v l) (mailM k v xs)
 | [],l,_ => by rw [mailM_nil,jn_none]; rfl
 | x :: xs,l,h => by
  show mailM k v (putM k (insM k l x) xs) = _
  rw [mailM_putM k v xs (up_insM h),mailM_insM k v x h,mailM_cons,jn_assoc]
theorem mailM_fold (k v:Int) (l:List Ms):mailM k v (putM k [] l) = mailM k v l:=by
 rw [mailM_putM k v l (by simp [UpM]),mailM_nil]; rfl
abbrev Ml:=Bool × Int
def mlOf:Option Int->Ml
 | none => (false,0)
 | some x => (true,x)
def mergeM (k:Int) (own:List Int) (rows:List (List Ms)):List Ml:=own.map fun v => mlOf (mailM k v rows.flatten)
theorem mergeM_len (k:Int) (own:List Int) (rows:List (List Ms)):(mergeM k own rows).length = own.length:=by simp [mergeM]
def sameB (a b:List Ml):Bool:=a.length == b.length && (a.zip b).all fun p => p.1.1 == p.2.1 && (!p.1.1 || p.1.2 == p.2.2)
theorem sameB_refl (a:List Ml):sameB a a = true:=by
 unfold sameB
 simp only [beq_self_eq_true,Bool.true_and,List.all_eq_true]
 intro p hp
 have h:∀ (l:List Ml),∀ q ∈ l.zip l,q.1 = q.2:=by
  intro l
  induction l with
  | nil => intro q hq; simp at hq
  | cons x l ih =>
   intro q hq
   rcases List.mem_cons.1 (by simpa using hq) with rfl | hq
   ·rfl
   ·exact ih q hq
 rw [h a p hp]
 simp
end Go.Proofs.YtdcaekmgfcpbmaaGreat.In
