/-
  What is proved here: what the library's sort and compact do to a row of numbers that the call has made. Condition: fewer than 10^9 numbers. What is proved here: contracts of label.withOther and label.Near, and of the document's own put and Near: a vertex's neighbours. Conditions: at most 100000 edges each way. What is proved here: contracts of the document's own put and Near: a number in its place; a vertex's neighbours. Conditions: at most 100000 edges each way. What is proved here: the contract of the document's own Near: a vertex's neighbours. Conditions: at most 100000 edges each way.
-/
import Derived.Test.YtdcaekmgfcpbmaaGreatQdMnT2x
import Derived.Test.YtdcaekmgfcpbmaaGreatQdLbShelf
import Derived.Sort.OwnSortedInts
import Derived.Lib.RowBridge
import Derived.Laws.CopyOwn
namespace Go.Proofs.YtdcaekmgfcpbmaaGreat.Lb
open Go.RowKit Go.Sort Gr Wd Ws
theorem below_own {w w':World} {B:Nat} {g:Nat} (hg:B <= g) (h:w.grownBy w' (some g)) (hB:B <= w.heap.size):Below B w w' :=
 ⟨h.os,h.tape,h.output,h.size,fun k hk => h.block k (by omega) (fun e => by injection e with e; omega)⟩
set_option maxRecDepth 100000 in
theorem sort_own (w:World) (B:Nat) (v:Value) (l:List Int) (h:IOwn w B v l) (hB:B <= w.heap.size) (hn:l.length < 1000000000) :
 Calls Tryz.prog 179 #[v] w fun e w' => e = .returned (.tuple #[])/\Hid (IOwn w' B v (srt l))/\Hid (Below B w w'):=by
 obtain ⟨h0,⟨rfl,hz⟩ | ⟨g,cap,cur,rfl,h2,h3,h4,h5,h6,h7⟩⟩:=h
 ·obtain rfl:l = []:=List.eq_nil_of_length_eq_zero hz
  refine (Any.slices_Sort_int_none Tryz.lays189 none 0 w).mono fun e w' ⟨he,hw⟩ => ⟨he,?_,?_⟩
  ·subst hw; rw [show srt [] = [] by simp [srt]]; exact jH (IOwn.none_ _ _)
  ·subst hw; exact jH (Below.refl _ _)
 ·have h7':cur.toList.take l.length = l.map (Value.int .i64):=by rw [Nat.mul_one] at h7; exact h7
  refine (Any.slices_Sort_int Tryz.lays189 g 0 cap l w (holds_of_blockI h3 h7') (lt_of_block h3) (by omega)).mono fun e w' ⟨he,n,os,hw⟩ => ⟨he,?_,?_⟩
  ·subst hw
   refine jH ?_
   unfold IOwn
   rw [srt_len]
   exact ownsRow_sortedI (srt_len l) h2 h3 h4 h5 h6
  ·subst hw
   exact jH (below_own h2 (grownBy_sortedI _) hB)
set_option maxRecDepth 100000 in
theorem compact_own (w:World) (B:Nat) (v:Value) (l:List Int) (h:IOwn w B v l) (hB:B <= w.heap.size) (hn:l.length < 1000000000) :
 Calls Tryz.prog 180 #[v] w fun e w' => ∃ r,e = .returned r/\Hid (IOwn w' B r (Lib.compact l))/\Hid (Below B w w'):=by
 obtain ⟨h0,⟨rfl,hz⟩ | ⟨g,cap,cur,rfl,h2,h3,h4,h5,h6,h7⟩⟩:=h
 ·obtain rfl:l = []:=List.eq_nil_of_length_eq_zero hz
  refine (Any.slices_Compact_int_empty Tryz.lays2n20 none 0 w).mono fun e w' ⟨he,hw⟩ => ⟨_,he,?_,?_⟩
  ·subst hw; exact jH (IOwn.none_ _ _)
  ·subst hw; exact jH (Below.refl _ _)
 ·have h7':cur.toList.take l.length = l.map (Value.int .i64):=by rw [Nat.mul_one] at h7; exact h7
  have hcl:=Lib.compact_length_le l
  refine (Any.slices_Compact_int Tryz.lays2n20 g 0 cap l w (holds_of_blockI h3 h7') (by omega) h4).mono fun e w' ⟨he,q,hw⟩ => ⟨_,he,?_,?_⟩
  ·obtain ⟨ts,hts⟩:∃ ts,ts = Lib.compact l ++ List.replicate (l.length - (Lib.compact l).length) 0:=⟨_,rfl⟩
   have htl:ts.length = l.length:=by rw [hts]; simp; omega
   have hpre:ts.take (Lib.compact l).length = Lib.compact l:=by rw [hts,List.take_left]
   rw [<- hts] at hw
   subst hw
   refine jH ⟨by simp [ints],.inr ⟨g,cap,putCells (Value.int .i64) 0 ts.toArray cur,rfl,h2,?_,by omega,h5,?_,?_⟩⟩
   ·have:=heap_sortedI (w:=w) (n:=q) (os:=#[]) ts.toArray h3
    rw [Sort.grow_empty] at this
    exact this
   ·simp [putCells,h6]
   ·have:=take_putCellsI cur ts (by omega)
    rw [Nat.mul_one]
    have e1:(putCells (Value.int .i64) 0 ts.toArray cur).toList.take (Lib.compact l).length = ((putCells (Value.int .i64) 0 ts.toArray cur).toList.take ts.length).take (Lib.compact l).length:=by
     rw [List.take_take,Nat.min_eq_left (by omega)]
    rw [e1,this,<- List.map_take,hpre]; rfl
  ·subst hw
   have:=grownBy_sortedI (w:=w) (g:=g) (n:=q) (os:=#[]) (Lib.compact l ++ List.replicate (l.length - (Lib.compact l).length) 0).toArray
   rw [Sort.grow_empty] at this
   exact jH (below_own h2 this hB)
open Go.RowKit Gr Wd Ws
theorem own_lt_i {w:World} {B:Nat} {v:Value} {l:List Int} (h:IOwn w B v l) (j:Nat) (e:v.ownBlock = some j):B <= j:=(own_lt h j e).1
set_option maxRecDepth 100000 in
theorem other_any (x:Value) (l:List Int) (B:Nat) (v o:Int) (w:World) (h:IOwn w B x l) (hB:B <= w.heap.size) (hn:l.length < 1000000) :
 Calls Tryz.prog 178 #[x,.int .i64 v,.int .i64 o] w fun e w' => ∃ r,e = .returned r/\Hid (IOwn w' B r (if o = v then l else l ++ [o]))/\Hid (Below B w w'):=by
 obtain ⟨A,c,rfl,hA⟩:=h.form
 have HO:=jH h; clear h hA
 by_cases hov:o = v
 ·rw [if_pos hov]; subst hov
  go_enter Tryz.func178,Tryz.ntmps178
  go_wp2
  go_ret
  exact ⟨_,rfl,HO,jH (Below.refl _ _)⟩
 ·rw [if_neg hov]
  have hnew:=heap_alloc_new w (.cells #[.int .i64 o] 3)
  have HN:=jH hnew; clear hnew
  have HO1:=jH (HO.out.alloc (.cells #[.int .i64 o] 3))
  have HB1:=jH ((Below.refl B w).alloc hB (.cells #[.int .i64 o] 3))
  go_enter Tryz.func178,Tryz.ntmps178
  go_wp2_with (at_builtin; refine app_i rfl (.tmp 11) (.tmp 13) rfl B _ l o rfl HO1.out _ rfl HN.out ?c1 ?c2 ?_)
  case c1 => omega
  case c2 => have:=HB1.out.size; omega
  intro v' w2 ho2 hg2
  have HB3:=jH (Below.grown HB1.out hg2 (by have:=HB1.out.size; omega) fun j e => own_lt_i HO1.out j e)
  have HO3:=jH ho2; clear ho2 hg2
  go_wp2
  go_ret
  exact ⟨_,rfl,HO3,HB3⟩
def N1Rel (w:World) (v:Int) (L:List Ed) (g:Nat) (x i:Value) (wr:World):Prop :=
 ∃ k:Nat,k + g = L.length/\i = .int .i64 (k:Int)/\IOwn wr w.heap.size x (tos v (L.take k))/\Below w.heap.size w wr
def N2Rel (w:World) (v:Int) (L M:List Ed) (g:Nat) (x i:Value) (wr:World):Prop :=
 ∃ k:Nat,k + g = M.length/\i = .int .i64 (k:Int)/\IOwn wr w.heap.size x (tos v L ++ froms v (M.take k))/\Below w.heap.size w wr
theorem take_len {α:Type} (L:List α) (k:Nat):(L.take k).length <= L.length:=by rw [List.length_take]; omega
set_option maxRecDepth 100000 in
set_option maxHeartbeats 1000000 in
theorem near_any (v:Int) (A B:Option Addr) (c d:Nat) (L M:List Ed) (w:World) (hL:EAt w A L) (hM:EAt w B M) (hl:L.length <= 100000) (hm:M.length <= 100000) :
 Calls Tryz.prog 177 #[.int .i64 v,.slice A L.length c,.slice B M.length d] w fun e w' => ∃ r,e = .returned r/\Hid (IOwn w' w.heap.size r (nearL v L M))/\Hid (Below w.heap.size w w'):=by
 have HL:=jH hL; have HM:=jH hM; clear hL hM
 go_enter Tryz.func177,Tryz.ntmps177
 go_wp2
 go_loopg [7,14] L.length (fun g x i wr => N1Rel w v L g x i wr)
 case atStart => exact ⟨0,by omega,rfl,IOwn.none_ _ _,Below.refl _ w⟩
 case round =>
  obtain ⟨k,hk,rfl,ho,hb⟩:=hrel
  by_cases hlt:k < L.length
  ·obtain ⟨e,he⟩:=at_lt L k hlt
   obtain ⟨bk,o,rfl,c0,c1,c2⟩:=(HL.out.below hb) k e he
   obtain ⟨e0,e1,e2⟩:=e
   have hb1:Below w.heap.size w (wr.alloc (.cells #[.int .i64 e0,.int .i64 e1,.int .i64 e2] 33)):=hb.alloc hb.size _
   have hlen:(tos v (L.take k)).length < 1000000:=by have h1:=tos_len v (L.take k); have h2:=take_len L k; omega
   have HC:=jH (other_any _ _ w.heap.size v e1 _ (ho.alloc (.cells #[.int .i64 e0,.int .i64 e1,.int .i64 e2] 33)) hb1.size hlen)
   have HE:=jH he; have HB:=jH hb1
   obtain ⟨y0,y1,y2,_⟩:=eb_cells (heap_alloc_new wr (.cells #[.int .i64 e0,.int .i64 e1,.int .i64 e2] 33))
   clear hb hb1 ho he hlen
   go_wp2_with fail
   refine HC.out.mono ?_
   rintro er w1 ⟨r,rfl,hO,hb2⟩
   go_wp2
   go_roundg (gk - 1)
   case measure => omega
   case rel =>
    refine ⟨k + 1,by omega,by go_num,?_,HB.out.trans hb2.out⟩
    rw [take_at HE.out,tos_snoc]; exact hO.out
  ·have HK:Hid (k = L.length):=jH (by omega)
   have hfull:=ho; rw [HK.out,List.take_length] at hfull
   have HO:=jH hfull; have HB:=jH hb; clear ho hb hfull
   obtain ⟨G,rfl⟩:∃ G:Nat,G = gk:=⟨_,rfl⟩
   clear HK
   go_wp2
   go_loopg [7,26] M.length (fun g x i wr => N2Rel w v L M g x i wr)
   case atStart => exact ⟨0,by omega,rfl,by simpa [froms] using HO.out,HB.out⟩
   case round =>
    obtain ⟨k2,hk2,rfl,ho,hb⟩:=hrel
    clear HO HB
    by_cases hlt2:k2 < M.length
    ·obtain ⟨e,he⟩:=at_lt M k2 hlt2
     obtain ⟨bk,o,rfl,c0,c1,c2⟩:=(HM.out.below hb) k2 e he
     obtain ⟨e0,e1,e2⟩:=e
     have hb1:Below w.heap.size w (wr.alloc (.cells #[.int .i64 e0,.int .i64 e1,.int .i64 e2] 33)):=hb.alloc hb.size _
     have hlen:(tos v L ++ froms v (M.take k2)).length < 1000000:=by have h1:=tos_len v L; have h2:=froms_len v (M.take k2); have h3:=take_len M k2; rw [List.length_append]; omega
     have HC:=jH (other_any _ _ w.heap.size v e0 _ (ho.alloc (.cells #[.int .i64 e0,.int .i64 e1,.int .i64 e2] 33)) hb1.size hlen)
     have HE:=jH he; have HB:=jH hb1
     obtain ⟨y0,y1,y2,_⟩:=eb_cells (heap_alloc_new wr (.cells #[.int .i64 e0,.int .i64 e1,.int .i64 e2] 33))
     clear hb hb1 ho he hlen
     go_wp2_with fail
     refine HC.out.mono ?_
     rintro er w1 ⟨r,rfl,hO,hb2⟩
     go_wp2
     go_roundg (gk - 1)
     case measure => omega
     case rel =>
      refine ⟨k2 + 1,by omega,by go_num,?_,HB.out.trans hb2.out⟩
      have h9:=hO.out
      rw [take_at HE.out,froms_snoc]
      by_cases h0:e0 = v
      ·rw [if_pos h0] at h9 ⊢; exact h9
      ·rw [if_neg h0] at h9 ⊢; rw [<- List.append_assoc]; exact h9
    ·have HK2:Hid (k2 = M.length):=jH (by omega)
     have hfull:=ho; rw [HK2.out,List.take_length] at hfull
     have hlen:(tos v L ++ froms v M).length < 1000000000:=by have h1:=tos_len v L; have h2:=froms_len v M; rw [List.length_append]; omega
     have HC:=jH (sort_own wr w.heap.size _ _ hfull hb.size hlen)
     have HLN:=jH hlen
     have HB:=jH hb; clear ho hb hfull hlen
     go_wp2_with fail
     refine HC.out.mono ?_
     rintro er w1 ⟨rfl,hO,hb2⟩
     have hb3:=HB.out.trans hb2.out
     have HD:=jH (compact_own w1 w.heap.size _ _ hO.out (by have:=hb3.size; omega) (by rw [srt_len]; exact HLN.out))
     have HB3:=jH hb3; clear hb3 hb2 HC
     go_wp2_with fail
     refine HD.out.mono ?_
     rintro er w2 ⟨r,rfl,hO2,hb4⟩
     go_wp2
     go_ret
     refine ⟨_,rfl,jH ?_,jH (HB3.out.trans hb4.out)⟩
     have:=hO2.out
     rw [comp_srt] at this
     exact this
theorem cells_take {w:World} {A:Option Addr} {l:List Int} (h:IAt w A l) (a:Addr) (hA:A = some a):∀ j u,(ints l)[j]? = some u->w.cell? (a.add j) = some u:=by
 intro j u hu
 rw [ints_at] at hu
 cases hx:l[j]? with
 | none => rw [hx] at hu; cases hu
 | some x =>
  rw [hx] at hu
  obtain ⟨bk,o,hb,c0⟩:=h j x hx
  rw [hA] at hb
  obtain rfl:=Option.some.inj hb
  rw [Ws.add_plain,c0]; simpa using hu
theorem ints_one (l:List Int):∀ u ∈ ints l,u.oneCell' = true:=by
 intro u hu
 simp only [ints,List.mem_map] at hu
 obtain ⟨x,_,rfl⟩:=hu; rfl
theorem iat_none {w:World} {l:List Int} (h:IAt w none l):l = []:=by
 cases l with
 | nil => rfl
 | cons e L => obtain ⟨_,_,h0,_⟩:=h 0 e rfl; cases h0
theorem app_ints {w:World} {ops:Array Oper} {rest:List Oper} {o:Oper} {a:Act} {Q:Exit->Act->World->Prop} (hgd:o.guard = none) (s x:Operand)
 (ho:o.op = .call { callee:=.builtin .append,args:=#[s,x],argTypes:=#[57,57] }) (B:Nat) (v:Value) (K L:List Int) (hs:a.eval s = v) (hown:IOwn w B v K)
 (ad:Addr) (c:Nat) (hx:a.eval x = .slice (some ad) L.length c) (hL:IAt w (some ad) L) (hn:K.length + L.length < 1000000000) (hB:B <= w.heap.size)
 (h:∀ v' w',IOwn w' B v' (K ++ L)->w.grownBy w' v.ownBlock->wpList Tryz.prog ops Q rest (a.put o.dst v') w'):wpList Tryz.prog ops Q (o :: rest) a w:=by
 obtain ⟨i0,hi,hz0,hz1,hz2⟩:=info_parts infoI
 refine wpList_append_own w hgd s x 57 ho B 3 i0 _ 1 8 Tryz.underlying57 hi hz0 hz1 hz2 rfl (by decide) v K.length (ints K) hs hown ad L.length c (ints L) hx (by rw [ints_len,Nat.mul_one]) (cells_take hL ad rfl) (ints_one L) ?_ ?_ hB ?_
 ·unfold maxLen; omega
 ·omega
 ·intro v' w' h1 h2 _
  refine h v' w' ?_ h2
  unfold IOwn
  rw [show ints (K ++ L) = ints K ++ ints L by simp [ints],List.length_append]
  exact h1
open Go.RowKit Gr Wd Ws
theorem IOwn.room {w:World} {B:Nat} {v:Value} {L:List Int} (h:IOwn w B v L):∃ A c,v = .slice A L.length c/\IAt w A L/\L.length <= c/\c <= maxLen/\((A = none/\c = 0)\/∃ g,A = some ⟨g,0,none⟩):=by
 obtain ⟨A0,c0,hv,hat⟩:=h.form
 obtain ⟨h0,h1 | ⟨g,cap,cur,h1,h2,h3,h4,h5,h6,h7⟩⟩:=h
 ·have:L = []:=List.eq_nil_of_length_eq_zero h1.2
  subst this
  exact ⟨none,0,h1.1,IAt.nil _ _,Nat.le_refl _,Nat.zero_le _,Or.inl ⟨rfl,rfl⟩⟩
 ·rw [h1] at hv
  injection hv with hA hn hc
  subst hA hc
  exact ⟨_,cap,h1,hat,h4,h5,Or.inr ⟨g,rfl⟩⟩
theorem app_irest {w:World} {ops:Array Oper} {rest:List Oper} {o:Oper} {a:Act} {Q:Exit->Act->World->Prop} (hgd:o.guard = none) (s x:Operand)
 (ho:o.op = .call { callee:=.builtin .append,args:=#[s,x],argTypes:=#[57,57] }) (B:Nat) (v:Value) (K L:List Int) (hs:a.eval s = v) (hown:IOwn w B v K)
 (A:Option Addr) (n c:Nat) (hx:a.eval x = .slice A n c) (hL:IAt w A L) (hnL:L.length = n) (hn:K.length + n < 1000000000) (hB:B <= w.heap.size)
 (h:∀ v' w',IOwn w' B v' (K ++ L)->w.grownBy w' v.ownBlock->wpList Tryz.prog ops Q rest (a.put o.dst v') w'):wpList Tryz.prog ops Q (o :: rest) a w:=by
 subst hnL
 cases A with
 | some ad => exact app_ints hgd s x ho B v K L hs hown ad c hx hL hn hB h
 | none =>
  obtain rfl:=iat_none hL
  obtain ⟨i0,hi,_⟩:=info_parts infoI
  have u22:=run_underlying Tryz.underlying57
  obtain ⟨A',c',rfl,_,hcap,_⟩:=hown.room
  have hr:(Builtin.append_ #[57,57] o.type #[.slice A' K.length c',.slice none 0 c]).run Tryz.prog w = .ok (.slice A' K.length c') w:=by
   cases A' <;> simp [Builtin.append_,Builtin.lenOf,Builtin.firstCells,u22,sizeOf,typeInfo,hi,hcap,storeCells]
  refine wpList_plain hgd fun _ hK => ?_
  unfold Oper.wp execOp
  simp only [ho,resolve,invoke,builtin,Sem.run_bind,Sem.run_pure,Result.andThen_ok,List.map_toArray,List.map_cons,List.map_nil,hs,hx,hr,List.length_nil]
  exact hK _ _ (h _ _ (by rw [List.append_nil]; exact hown) ⟨rfl,rfl,rfl,Nat.le_refl _,fun _ _ _ => rfl⟩)
theorem IAt.take {w:World} {A:Option Addr} {L:List Int} (h:IAt w A L) (k:Nat):IAt w A (L.take k):=fun i e hi => h i e (by
 rw [List.getElem?_take] at hi; split at hi
 ·exact hi
 ·cases hi)
theorem IAt.drop {w:World} {g o:Nat} {L:List Int} (h:IAt w (some ⟨g,o,none⟩) L) (k:Nat):IAt w (some ⟨g,o + k,none⟩) (L.drop k):=fun i e hi => by
 rw [List.getElem?_drop] at hi
 obtain ⟨bk,o',e1,c0⟩:=h (k + i) e hi
 cases e1
 exact ⟨g,o + k,rfl,by rw [Nat.add_assoc]; exact c0⟩
theorem IOwn.mono {w:World} {B B':Nat} {v:Value} {l:List Int} (h:IOwn w B v l) (hb:B' <= B):IOwn w B' v l:=own_mono h hb
def PuRel (w:World) (l:List Int) (n:Int) (g:Nat) (i:Value) (wr:World):Prop :=
 ∃ k:Nat,k + g = l.length/\i = .int .i64 (k:Int)/\w = wr/\∀ (j:Nat) (x:Int),j < k->l[j]? = some x->x < n
theorem less_on {l:List Int} {n x:Int} {k:Nat} (h:∀ (j:Nat) (y:Int),j < k->l[j]? = some y->y < n) (hx:l[k]? = some x) (hl:x < n):∀ (j:Nat) (y:Int),j < k + 1->l[j]? = some y->y < n:=by
 intro j y hj hy
 by_cases e:j = k
 ·subst e; rw [hx] at hy; injection hy with hy; omega
 ·exact h j y (by omega) hy
set_option maxRecDepth 100000 in
set_option maxHeartbeats 2000000 in
theorem put_any (x:Value) (l:List Int) (B:Nat) (n:Int) (w:World) (h:IOwn w B x l) (hB:B <= w.heap.size) (hlen:l.length < 1000000) :
 Calls Tryz.prog 121 #[x,.int .i64 n] w fun e w' => ∃ r,e = .returned r/\Hid (IOwn w' B r (ins n l))/\Hid (Below w.heap.size w w'):=by
 obtain ⟨A,c,rfl,hat,hc,hcm,hA⟩:=h.room
 have hcm2:c <= 9223372036854775807:=by unfold maxLen at hcm; omega
 have HAt:=jH hat; have HO:=jH h; have HA:=jH hA; clear hat h hA hcm
 obtain ⟨N,hN⟩:∃ N,N = l.length:=⟨_,rfl⟩
 have HN:=jH hN
 rw [<- hN] at hc hlen ⊢
 clear hN
 go_enter Tryz.func121,Tryz.ntmps121
 go_wp2
 go_loopg [5] N (fun g i wr => PuRel w l n g i wr)
 case atStart => exact ⟨0,by have:=HN.out; omega,rfl,rfl,fun j x hj => absurd hj (by omega)⟩
 case round =>
  obtain ⟨k,hk,rfl,rfl,hles⟩:=hrel
  rw [<- HN.out] at hk
  have HLE:=jH hles; clear hles
  have hkN:k <= N:=by omega
  by_cases hlt:k < N
  ·obtain ⟨y,hy⟩:=at_lt l k (by rw [<- HN.out]; exact hlt)
   obtain ⟨bk,o,hA0,c0⟩:=HAt.out k y hy
   obtain rfl:o = 0:=by
    rcases HA.out with ⟨h,_⟩ | ⟨g',h⟩
    ·rw [h] at hA0; cases hA0
    ·rw [h] at hA0; cases hA0; rfl
   subst hA0
   rw [Nat.zero_add] at c0
   have HY:=jH hy; clear hy
   by_cases hyn:y < n
   ·go_wp2
    go_roundg (gk - 1)
    case measure => omega
    case rel => exact ⟨k + 1,by have:=HN.out; omega,by go_num,rfl,less_on HLE.out HY.out hyn⟩
   ·have hins:=ins_at l k HLE.out (by rw [<- HN.out]; omega) (fun z hz => by rw [HY.out] at hz; injection hz with hz; omega)
    by_cases hyn2:y = n
    ·rw [if_pos (by rw [HY.out,hyn2])] at hins
     have HI:=jH hins; clear hins
     subst hyn2
     go_wp2
     go_ret
     refine ⟨_,rfl,?_,jH (Below.refl _ _)⟩
     have:=HO.out
     rw [<- HN.out] at this
     rw [HI.out]
     exact jH this
    ·rw [if_neg (by rw [HY.out]; intro e; injection e with e; exact hyn2 e)] at hins
     have HI:=jH hins; clear hins
     have hat1:=HAt.out.take k
     have hkc:k < c:=by omega
     have hlk:(l.take k).length = k:=by simp; have:=HN.out; omega
     have hld:(l.drop k).length = N - k:=by simp; have:=HN.out; omega
     have hs1:([]:List Int).length + k < 1000000000:=by simp; omega
     have hs2:(l.take k).length < 1000000000:=by simp; omega
     have hs3:(l.take k ++ [n]).length + (N - k) < 1000000000:=by rw [List.length_append,hlk]; simp; omega
     go_wp2_with (at_builtin; refine app_irest rfl (.tmp 34) (.tmp 37) rfl w.heap.size _ [] (l.take k) rfl (IOwn.none_ _ _) _ _ _ rfl hat1 hlk hs1 (Nat.le_refl _) ?_)
     intro v1 w1 ho1 hg1
     have hb1:Below w.heap.size w w1:=Below.grown (Below.refl _ w) hg1 (Nat.le_refl _) nofun
     have HN1:=jH (heap_alloc_new w1 (.cells #[.int .i64 n] 3))
     have HO1:=jH (ho1.alloc (.cells #[.int .i64 n] 3))
     have HB2:=jH (hb1.alloc hb1.size (.cells #[.int .i64 n] 3))
     clear ho1 hg1 hb1 hat1
     have HO1':Hid (IOwn (w1.alloc (.cells #[.int .i64 n] 3)) w.heap.size v1 (l.take k)):=HO1
     go_wp2_with (at_builtin; refine app_i rfl (.tmp 39) (.tmp 41) rfl w.heap.size _ (l.take k) n rfl HO1.out _ rfl HN1.out hs2 HB2.out.size ?_)
     intro v2 w2 ho2 hg2
     have hb3:=Below.grown HB2.out hg2 HB2.out.size fun j e => own_lt_i HO1.out j e
     have hat3:=(HAt.out.below hb3).drop k
     rw [Nat.zero_add] at hat3
     have HB3:=jH hb3; have HO2:=jH ho2
     clear ho2 hg2 hb3
     go_wp2_with (at_builtin; refine app_irest rfl (.tmp 43) (.tmp 46) rfl w.heap.size _ (l.take k ++ [n]) (l.drop k) rfl HO2.out _ _ _ rfl hat3 hld hs3 HB3.out.size ?_)
     intro v3 w3 ho3 hg3
     have hb4:=Below.grown HB3.out hg3 HB3.out.size fun j e => own_lt_i HO2.out j e
     have HB4:=jH hb4; have HO3:=jH (IOwn.mono ho3 hB); clear ho3 hg3 hb4 hat3
     go_wp2
     go_ret
     refine ⟨_,rfl,jH ?_,HB4⟩
     have:=HO3.out
     rw [HI.out]
     exact this
  ·have hkN2:k = N:=by omega
   have hins:=ins_at l k HLE.out (by rw [<- HN.out]; omega) (fun z hz => by rw [List.getElem?_eq_none (by rw [<- HN.out]; omega)] at hz; cases hz)
   have hn0:l[k]? = none:=List.getElem?_eq_none (by rw [<- HN.out]; omega)
   rw [if_neg (by rw [hn0]; simp)] at hins
   have HI:=jH hins
   rw [hkN2,HN.out,List.take_length,List.drop_length] at HI
   clear hins hn0 hk hlt
   subst hkN2
   have hll:l.length = k:=HN.out.symm
   have hs1:([]:List Int).length + k < 1000000000:=by simp; omega
   have hs2:l.length < 1000000000:=by omega
   rcases HA.out with ⟨rfl,rfl⟩ | ⟨g,rfl⟩
   ·obtain rfl:k = 0:=by omega
    obtain rfl:l = []:=List.eq_nil_of_length_eq_zero hll
    have hat1:=IAt.nil w none
    go_wp2_with (at_builtin; refine app_irest rfl (.tmp 34) (.tmp 37) rfl w.heap.size _ [] [] rfl (IOwn.none_ _ _) _ _ _ rfl hat1 rfl hs1 (Nat.le_refl _) ?_)
    intro v1 w1 ho1 hg1
    have ho1':IOwn w1 w.heap.size v1 []:=ho1
    have hb1:Below w.heap.size w w1:=Below.grown (Below.refl _ w) hg1 (Nat.le_refl _) nofun
    have HN1:=jH (heap_alloc_new w1 (.cells #[.int .i64 n] 3))
    have HO1:=jH (ho1'.alloc (.cells #[.int .i64 n] 3))
    have HB2:=jH (hb1.alloc hb1.size (.cells #[.int .i64 n] 3))
    clear ho1 ho1' hg1 hb1 hat1
    go_wp2_with (at_builtin; refine app_i rfl (.tmp 39) (.tmp 41) rfl w.heap.size _ [] n rfl HO1.out _ rfl HN1.out hs2 HB2.out.size ?_)
    intro v2 w2 ho2 hg2
    have ho2':IOwn w2 w.heap.size v2 [n]:=ho2
    have hb3:=Below.grown HB2.out hg2 HB2.out.size fun j e => own_lt_i HO1.out j e
    have HB3:=jH hb3; have HO2:=jH ho2'
    have hat3:=IAt.nil w2 none
    have hs3:([n]:List Int).length + 0 < 1000000000:=by simp
    clear ho2 ho2' hg2 hb3
    go_wp2_with (at_builtin; refine app_irest rfl (.tmp 43) (.tmp 46) rfl w.heap.size _ [n] [] rfl HO2.out _ _ _ rfl hat3 rfl hs3 HB3.out.size ?_)
    intro v3 w3 ho3 hg3
    have hb4:=Below.grown HB3.out hg3 HB3.out.size fun j e => own_lt_i HO2.out j e
    have ho3':IOwn w3 w.heap.size v3 [n]:=ho3
    have HB4:=jH hb4; have HO3:=jH (IOwn.mono ho3' hB); clear ho3 ho3' hg3 hb4 hat3
    go_wp2
    go_ret
    exact ⟨_,rfl,HO3,HB4⟩
   ·have hat1:=HAt.out
    go_wp2_with (at_builtin; refine app_irest rfl (.tmp 34) (.tmp 37) rfl w.heap.size _ [] l rfl (IOwn.none_ _ _) _ _ _ rfl hat1 hll hs1 (Nat.le_refl _) ?_)
    intro v1 w1 ho1 hg1
    have ho1':IOwn w1 w.heap.size v1 l:=ho1
    have hb1:Below w.heap.size w w1:=Below.grown (Below.refl _ w) hg1 (Nat.le_refl _) nofun
    have HN1:=jH (heap_alloc_new w1 (.cells #[.int .i64 n] 3))
    have HO1:=jH (ho1'.alloc (.cells #[.int .i64 n] 3))
    have HB2:=jH (hb1.alloc hb1.size (.cells #[.int .i64 n] 3))
    clear ho1 ho1' hg1 hb1 hat1
    go_wp2_with (at_builtin; refine app_i rfl (.tmp 39) (.tmp 41) rfl w.heap.size _ l n rfl HO1.out _ rfl HN1.out hs2 HB2.out.size ?_)
    intro v2 w2 ho2 hg2
    have ho2':IOwn w2 w.heap.size v2 (l ++ [n]):=ho2
    have hb3:=Below.grown HB2.out hg2 HB2.out.size fun j e => own_lt_i HO1.out j e
    have HB3:=jH hb3; have HO2:=jH ho2'
    have hs3:(l ++ [n]).length + 0 < 1000000000:=by simp; omega
    clear ho2 ho2' hg2 hb3
    by_cases hkc:k < c
    ·have hat3:=IAt.nil w2 (some ⟨g,k,none⟩)
     go_wp2_with (at_builtin; refine app_irest rfl (.tmp 43) (.tmp 46) rfl w.heap.size _ (l ++ [n]) [] rfl HO2.out _ _ _ rfl hat3 rfl hs3 HB3.out.size ?_)
     intro v3 w3 ho3 hg3
     have hb4:=Below.grown HB3.out hg3 HB3.out.size fun j e => own_lt_i HO2.out j e
     have ho3':IOwn w3 w.heap.size v3 (l ++ [n]):=by simpa using ho3
     have HB4:=jH hb4; have HO3:=jH (IOwn.mono ho3' hB); clear ho3 ho3' hg3 hb4 hat3
     go_wp2
     go_ret
     refine ⟨_,rfl,jH ?_,HB4⟩
     have:=HO3.out
     rw [HI.out]
     exact this
    ·have hkc2:k = c:=by omega
     subst hkc2
     have hat3:=IAt.nil w2 (some ⟨g,0,none⟩)
     go_wp2_with (at_builtin; refine app_irest rfl (.tmp 43) (.tmp 46) rfl w.heap.size _ (l ++ [n]) [] rfl HO2.out _ _ _ rfl hat3 rfl hs3 HB3.out.size ?_)
     intro v3 w3 ho3 hg3
     have hb4:=Below.grown HB3.out hg3 HB3.out.size fun j e => own_lt_i HO2.out j e
     have ho3':IOwn w3 w.heap.size v3 (l ++ [n]):=by simpa using ho3
     have HB4:=jH hb4; have HO3:=jH (IOwn.mono ho3' hB); clear ho3 ho3' hg3 hb4 hat3
     go_wp2
     go_ret
     refine ⟨_,rfl,jH ?_,HB4⟩
     have:=HO3.out
     rw [HI.out]
     exact this
open Go.RowKit Gr Wd Ws
def M1Rel (w:World) (v:Int) (L:List Ed) (g:Nat) (x i:Value) (wr:World):Prop :=
 ∃ k:Nat,k + g = L.length/\i = .int .i64 (k:Int)/\IOwn wr w.heap.size x (putAll [] (tos v (L.take k)))/\Below w.heap.size w wr
def M2Rel (w:World) (v:Int) (L M:List Ed) (g:Nat) (x i:Value) (wr:World):Prop :=
 ∃ k:Nat,k + g = M.length/\i = .int .i64 (k:Int)/\IOwn wr w.heap.size x (putAll [] (tos v L ++ froms v (M.take k)))/\Below w.heap.size w wr
theorem put_small (l:List Int) (n:Nat) (h:l.length <= n):(putAll [] l).length <= n:=by have:=putAll_len l []; simp at this; omega
set_option maxRecDepth 100000 in
set_option maxHeartbeats 1000000 in
theorem rnear_any (v:Int) (A B:Option Addr) (c d:Nat) (L M:List Ed) (w:World) (hL:EAt w A L) (hM:EAt w B M) (hl:L.length <= 100000) (hm:M.length <= 100000) :
 Calls Tryz.prog 112 #[.int .i64 v,.slice A L.length c,.slice B M.length d] w fun e w' => ∃ r,e = .returned r/\Hid (IOwn w' w.heap.size r (nearL v L M))/\Hid (Below w.heap.size w w'):=by
 have HL:=jH hL; have HM:=jH hM; clear hL hM
 go_enter Tryz.func112,Tryz.ntmps112
 go_wp2
 go_loopg [7,8] L.length (fun g x i wr => M1Rel w v L g x i wr)
 case atStart => exact ⟨0,by omega,rfl,IOwn.none_ _ _,Below.refl _ w⟩
 case round =>
  obtain ⟨k,hk,rfl,ho,hb⟩:=hrel
  by_cases hlt:k < L.length
  ·obtain ⟨e,he⟩:=at_lt L k hlt
   obtain ⟨bk,o,rfl,c0,c1,c2⟩:=(HL.out.below hb) k e he
   obtain ⟨e0,e1,e2⟩:=e
   have hlen:(putAll [] (tos v (L.take k))).length < 1000000:=by have h1:=tos_len v (L.take k); have h2:=take_len L k; have h3:=put_small _ _ h1; omega
   have HC:=jH (put_any _ _ w.heap.size e1 _ ho hb.size hlen)
   have HE:=jH he; have HB:=jH hb; have HO:=jH ho
   clear hb ho he hlen
   by_cases hev:e1 = v
   ·subst hev
    go_wp2
    go_roundg (gk - 1)
    case measure => omega
    case rel =>
     refine ⟨k + 1,by omega,by go_num,?_,HB.out⟩
     rw [take_at HE.out,tos_snoc,if_pos rfl]; exact HO.out
   ·go_wp2_with fail
    refine HC.out.mono ?_
    rintro er w1 ⟨r,rfl,hO,hb2⟩
    go_wp2
    go_roundg (gk - 1)
    case measure => omega
    case rel =>
     refine ⟨k + 1,by omega,by go_num,?_,HB.out.trans (hb2.out.mono HB.out.size)⟩
     rw [take_at HE.out,tos_snoc,if_neg hev,putAll_snoc]; exact hO.out
  ·have HK:Hid (k = L.length):=jH (by omega)
   have hfull:=ho; rw [HK.out,List.take_length] at hfull
   have HO:=jH hfull; have HB:=jH hb; clear ho hb hfull
   obtain ⟨G,rfl⟩:∃ G:Nat,G = gk:=⟨_,rfl⟩
   clear HK
   go_wp2
   go_loopg [7,9] M.length (fun g x i wr => M2Rel w v L M g x i wr)
   case atStart => exact ⟨0,by omega,rfl,by simpa [froms] using HO.out,HB.out⟩
   case round =>
    obtain ⟨k2,hk2,rfl,ho,hb⟩:=hrel
    clear HO HB
    by_cases hlt2:k2 < M.length
    ·obtain ⟨e,he⟩:=at_lt M k2 hlt2
     obtain ⟨bk,o,rfl,c0,c1,c2⟩:=(HM.out.below hb) k2 e he
     obtain ⟨e0,e1,e2⟩:=e
     have hlen:(putAll [] (tos v L ++ froms v (M.take k2))).length < 1000000:=by
      have h1:=tos_len v L; have h2:=froms_len v (M.take k2); have h3:=take_len M k2
      have h4:=put_small (tos v L ++ froms v (M.take k2)) 200000 (by rw [List.length_append]; omega)
      omega
     have HC:=jH (put_any _ _ w.heap.size e0 _ ho hb.size hlen)
     have HE:=jH he; have HB:=jH hb; have HO:=jH ho
     clear hb ho he hlen
     by_cases hev:e0 = v
     ·subst hev
      go_wp2
      go_roundg (gk - 1)
      case measure => omega
      case rel =>
       refine ⟨k2 + 1,by omega,by go_num,?_,HB.out⟩
       rw [take_at HE.out,froms_snoc,if_pos rfl]; exact HO.out
     ·go_wp2_with fail
      refine HC.out.mono ?_
      rintro er w1 ⟨r,rfl,hO,hb2⟩
      go_wp2
      go_roundg (gk - 1)
      case measure => omega
      case rel =>
       refine ⟨k2 + 1,by omega,by go_num,?_,HB.out.trans (hb2.out.mono HB.out.size)⟩
       rw [take_at HE.out,froms_snoc,if_neg hev,<- List.append_assoc,putAll_snoc]; exact hO.out
    ·have HK2:Hid (k2 = M.length):=jH (by omega)
     have hfull:=ho; rw [HK2.out,List.take_length] at hfull
     have HO:=jH hfull; have HB:=jH hb; clear ho hb hfull
     go_wp2
     go_ret
     exact ⟨_,rfl,HO,HB⟩
end Go.Proofs.YtdcaekmgfcpbmaaGreat.Lb
