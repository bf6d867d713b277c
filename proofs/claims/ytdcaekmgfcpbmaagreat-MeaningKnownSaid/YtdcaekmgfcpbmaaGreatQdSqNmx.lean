/-
  What is proved here: contracts of the function that hands out each vertex with its edges. Conditions: at most 100000 vertices. What is proved here: words for the memory of tell: its boxes and rows, and how they go on. No condition. What is proved here: words for a state that is being made: its box, its two rows, and boxes that stay. No condition.
-/
import Derived.Test.YtdcaekmgfcpbmaaGreatQdSqC
import Derived.Test.YtdcaekmgfcpbmaaGreatQdSqRf
import Derived.Shelf.Abstract
import Derived.Shelf.AbstractIn
import Derived.Shelf.RegionOpen
import Derived.WalkKit
import Derived.OwnWalkIn
import Derived.TacticsInMore
import Derived.LoopNIn
import Derived.LoopIn
import Derived.RegionIn
namespace Go.Proofs.YtdcaekmgfcpbmaaGreat.Sq
open Go.RowKit Go.Shelf Gr Wd Ws Fx Rk Lb Al In
attribute [local go_sem] Oper.semAt_some
structure Vx where
 v:Nat
 o:Value
 b:Value
def encsV (x:Vx):Array Value:=#[.int .i64 (x.v:Int),.agg #[x.o,x.b]]
def RV (Ls:List Eg) (x:Vx) (W:World):Prop:=∃ (L:Eg) (B:Nat),Ls[x.v]? = some L/\EOwn W B x.o L.1/\EOwn W B x.b L.2
theorem WOwn.at {w:World} {B:Nat} {v:Value} {Ls:List Eg} (h:WOwn w B v Ls):∃ (A:Option Addr) (c:Nat),v = .slice A Ls.length c/\∀ (k:Nat) (L:Eg),Ls[k]? = some L->∃ bk o A1 c1 A2 c2,A = some ⟨bk,o,none⟩/\w.cell? ⟨bk,o + k * 2,none⟩ = some (.slice A1 L.1.length c1)/\w.cell? ⟨bk,o + k * 2 + 1,none⟩ = some (.slice A2 L.2.length c2)/\EOwn w B (.slice A1 L.1.length c1) L.1/\EOwn w B (.slice A2 L.2.length c2) L.2:=by
 obtain ⟨xs,⟨h0,h1 | ⟨g,cap,cur,h1,h2,h3,h4,h5,h6,h7⟩⟩,he⟩:=h
 ·have:Ls = []:=List.eq_nil_of_length_eq_zero h1.2
  subst this
  exact ⟨none,0,h1.1,fun k L hk => by simp at hk⟩
 ·refine ⟨some ⟨g,0,none⟩,cap,h1,fun k L hx => ?_⟩
  have hk:=lt_at hx
  obtain ⟨x,y,hx1,hx2,hx3,hx4⟩:=he.2 k L hx
  obtain ⟨A1,c1,rfl,_⟩:=hx3.form
  obtain ⟨A2,c2,rfl,_⟩:=hx4.form
  have key:∀ j,j < Ls.length * 2->w.cell? ⟨g,0 + j,none⟩ = xs[j]?:=fun j hj => by
   rw [Nat.zero_add,cell_of_row w g j _ 103 (0,0) h3]
   have e1:cur[j]? = (cur.toList.take (Ls.length * 2))[j]?:=by
    rw [List.getElem?_take,if_pos hj,Array.getElem?_toList]
   rw [e1,h7]
  refine ⟨g,0,A1,c1,A2,c2,rfl,?_,?_,hx3,hx4⟩
  ·rw [key _ (by omega)]; exact hx1
  ·rw [Nat.add_assoc,key _ (by omega)]; exact hx2
def Kq (W W':World):Prop:=∀ (i:Nat) (c:Array Value) (T:TypeId) (fz:Nat × Nat),(T = 71\/T = 103\/T = 33)->W.heap[i]? = some (.cells c T fz)->W'.heap[i]? = W.heap[i]?
theorem Kq.refl (W:World):Kq W W:=fun _ _ _ _ _ _ => rfl
theorem Kq.trans {A B C:World} (h:Kq A B) (k:Kq B C):Kq A C:=fun i c T fz hT hi => by
 have h1:=h i c T fz hT hi
 exact (k i c T fz hT (h1.trans hi)).trans h1
theorem Kq.below {A B:World} (h:Below A.heap.size A B):Kq A B:=fun i _ _ _ _ hi => h.block i (lt_of_block hi)
theorem Kq.grown {w w':World} {B s n:Nat} {T:TypeId} {v:Value} {xs:List Value} (h:w.ownsRow B T s v n xs) (hg:w.grownBy w' v.ownBlock) (h1:T ≠ 71) (h2:T ≠ 103) (h3:T ≠ 33):Kq w w':=fun i c T' fz hT hi => by
 rw [box_other hi h (by
  rcases hT with rfl | rfl | rfl
  ·exact Ne.symm h1
  ·exact Ne.symm h2
  ·exact Ne.symm h3) hg,hi]
theorem Kq.moved {w w':World} {b:Nat} {T:TypeId} {c:Array Value} (hb:w.heap[b]? = some (.cells c T (0,0))) (ho:∀ k,k ≠ b->w'.heap[k]? = w.heap[k]?) (h1:T ≠ 71) (h2:T ≠ 103) (h3:T ≠ 33):Kq w w':=fun i c' T' fz hT hi => ho i fun e => by
 subst e; rw [hb] at hi; injection hi with hi; injection hi with _ hi _
 rcases hT with rfl | rfl | rfl
 ·exact h1 hi
 ·exact h2 hi
 ·exact h3 hi
theorem Kq.obj {n:Nat} (W:World) (l:Nat) (o o':Obj) (_:n <= l) (h:W.heap[l]? = some o) (ho:o.isCells = false) (_:o.isWalk = false):Kq W (W.putObj l o'):=fun i c T fz _ hi => by
 refine World.putObj_heap_other ?_
 intro e; subst e; rw [h] at hi; injection hi with hi; subst hi; cases ho
theorem own_kq {w w':World} {B s n:Nat} {T:TypeId} {v:Value} {xs:List Value} (h:w.ownsRow B T s v n xs) (hT:T = 71\/T = 103\/T = 33) (hk:Kq w w'):w'.ownsRow B T s v n xs :=
 own_kept h fun g c fz _ hc => hk g c T fz hT hc
theorem WOwn.kq {w w':World} {B:Nat} {v:Value} {Ls:List Eg} (h:WOwn w B v Ls) (hk:Kq w w'):WOwn w' B v Ls:=by
 obtain ⟨xs,h1,h2⟩:=h
 exact ⟨xs,own_kq h1 (.inr (.inl rfl)) hk,h2.1,fun k L hL => by obtain ⟨x,y,e1,e2,e3,e4⟩:=h2.2 k L hL; exact ⟨x,y,e1,e2,own_kq e3 (.inr (.inr rfl)) hk,own_kq e4 (.inr (.inr rfl)) hk⟩⟩
structure ItV (W:World) (b B:Nat) (k st so dm ep:Int) (v:Value) (Ls:List Eg):Prop where
 box:W.heap[b]? = some (.cells #[.int .u8 k,.int .i64 st,.int .i64 so,.int .i64 dm,.int .i64 ep,v] 71 (0,0))
 row:WOwn W B v Ls
theorem ItV.kq {W W':World} {b B:Nat} {k st so dm ep:Int} {v:Value} {Ls:List Eg} (h:ItV W b B k st so dm ep v Ls) (hk:Kq W W'):ItV W' b B k st so dm ep v Ls :=
 ⟨(hk b _ _ _ (.inl rfl) h.box).trans h.box,h.row.kq hk⟩
theorem vertices_any (k st so dm ep:Int) (A:Option Addr) (n c:Nat) (w:World) :
 Calls Tryz.prog 58 #[.agg #[.int .u8 k,.int .i64 st,.int .i64 so,.int .i64 dm,.int .i64 ep,.slice A n c]] w fun e w' => e = .returned (.func (.func 78) #[] #[.pointer (some ⟨w.heap.size,0,none⟩)])/\w' = w.alloc (.cells #[.int .u8 k,.int .i64 st,.int .i64 so,.int .i64 dm,.int .i64 ep,.slice A n c] 71):=by
 go_enter Tryz.func58,Tryz.ntmps58
 go_wp2
 go_ret
 exact ⟨rfl,rfl⟩
theorem told_bool {e:Ending} {W:World} {X Y:World->Prop} (h:(e = .returned (.bool true)/\X W)\/(e = .returned (.bool false)/\Y W)):∃ b:Bool,e = .returned (.bool b)/\Hid ((b = true->X W)/\(b = false->Y W)):=by
 rcases h with ⟨rfl,h⟩ | ⟨rfl,h⟩
 ·exact ⟨true,rfl,jH ⟨fun _ => h,fun h => by cases h⟩⟩
 ·exact ⟨false,rfl,jH ⟨fun h => (by cases h),fun _ => h⟩⟩
theorem below_grown {w w':World} (h:Below w.heap.size w w'):w.grownBy w' none:=⟨h.os,h.tape,h.output,h.size,fun i hi _ => h.block i hi⟩
def TdRel (J:List Vx->World->Prop) (b B:Nat) (k st so dm ep:Int) (v:Value) (Ls:List Eg) (m:Nat) (i:Value) (wr:World):Prop :=
 ∃ (j:Nat) (pre:List Vx),j <= m/\i = .int .i64 (j:Int)/\pre.length = j/\Hid (pre.map Vx.v = List.range j)/\Hid (J pre wr)/\Hid (ItV wr b B k st so dm ep v Ls)
set_option maxRecDepth 100000 in
set_option maxHeartbeats 4000000 in
theorem vert_told (n:Nat) (hn:1 <= n) (b B:Nat) (k st so dm ep:Int) (v:Value) (Ls:List Eg) (m:Nat) (w:World) (h:ItV w b B k st so dm ep v Ls) (hm:Ls.length = m) (hl:m <= 100000) :
 Pt.Told Fence.wide n Tryz.prog 78 #[.pointer (some ⟨b,0,none⟩)] encsV (RV Ls) Kq (fun xs => xs.map Vx.v = List.range m) (fun _ => True) m w:=by
 intro lp J Jx W hW hJ hJx hY h0
 have mixed:=mixedI
 have H:=jH (h.kq (Kq.below hW)); have HM:=jH hm; clear h hm hW
 have hY2:∀ pre x W1,J pre W1->RV Ls x W1->pre.length < m->YieldAt Fence.wide (n - 1) Tryz.prog lp (encsV x) W1 fun e W' => ∃ b:Bool,e = .returned (.bool b)/\Hid ((b = true->J (pre ++ [x]) W'/\Kq W1 W')/\(b = false->Jx (pre ++ [x]) W')) :=
  fun pre x W1 h1 h2 h3 => (hY pre x W1 h1 h2 h3).mono fun e W' h => told_bool (X:=fun W => J (pre ++ [x]) W/\Kq W1 W) (Y:=fun W => Jx (pre ++ [x]) W) h
 clear hY
 have f51:Fence.wide.fn 78:=trivial
 refine callsIn_of_wp Tryz.func78 rfl f51 ?_ rfl
 simp only [Tryz.ntmps78,List.size_toArray,List.length_cons,List.length_nil,Nat.reduceAdd,Nat.reduceSub,Array.replicate_succ,Array.replicate_zero,List.push_toArray,List.append_toArray,List.nil_append,List.cons_append]
 obtain ⟨Av,cv,rfl,_⟩:=H.out.row.form
 rw [HM.out] at H
 obtain ⟨_,_,_,_,_,x5,xl⟩:=six H.out.box
 gi_wp2
 gi_loopw [8] (fun i wr => TdRel J b B k st so dm ep (.slice Av m cv) Ls m i wr) (fun i _ => m - (intOf i).toNat)
 case atStart => exact ⟨0,[],Nat.zero_le _,rfl,rfl,jH rfl,jH h0,H⟩
 case round =>
  obtain ⟨j,pre,hj,rfl,hlen,HP,HJ,HI⟩:=hrel
  clear x5 xl H
  by_cases hlt:j < m
  ·obtain ⟨L,hL⟩:=at_lt Ls j (by rw [HM.out]; exact hlt)
   obtain ⟨A',c',e',hWA⟩:=HI.out.row.at
   rw [HM.out] at e'
   cases e'
   obtain ⟨bk,o,A1,c1,A2,c2,rfl,y0,y1,hE1,hE2⟩:=hWA j L hL
   obtain ⟨n1,hn1⟩:∃ n1,n1 = L.1.length:=⟨_,rfl⟩
   obtain ⟨n2,hn2⟩:∃ n2,n2 = L.2.length:=⟨_,rfl⟩
   rw [<- hn1] at y0; rw [<- hn2] at y1
   have HN1:=jH hn1; have HN2:=jH hn2; have HE1:=jH hE1; have HE2:=jH hE2; have HL:=jH hL
   clear hn1 hn2 hE1 hE2 hL hWA
   obtain ⟨W4,hW4⟩:∃ W4,W4 = wr.alloc (.cells #[.slice A1 n1 c1,.slice A2 n2 c2] 103):=⟨_,rfl⟩
   have hb4:Below wr.heap.size wr W4:=by rw [hW4]; exact (Below.refl _ wr).alloc (Nat.le_refl _) _
   have HI4:=jH (HI.out.kq (Kq.below hb4))
   have hRV:RV Ls ⟨j,.slice A1 n1 c1,.slice A2 n2 c2⟩ W4:=⟨L,B,HL.out,by rw [HN1.out]; exact HE1.out.below hb4,by rw [HN2.out]; exact HE2.out.below hb4⟩
   obtain ⟨fn,tmps,assign,body,hy,hR⟩:=hY2 pre ⟨j,.slice A1 n1 c1,.slice A2 n2 c2⟩ W4 (hJ pre wr W4 none HJ.out (below_grown hb4) (fun r e => by cases e)) hRV (by omega)
   dsimp only [encsV] at hy
   clear hb4 hRV
   rw [hW4] at hy hR
   gi_wp2
   refine hR.mono ?_
   rintro e w6 ⟨q,rfl,HH⟩
   clear hy hR y0 y1
   rw [<- hW4] at HH
   cases q with
   | true =>
    have HH2:=jH (HH.out.1 rfl)
    gi_wp2
    go_roundw
    case rel => exact ⟨j + 1,pre ++ [_],by omega,by simp,by simp [hlen],jH (by rw [List.map_append,HP.out,List.range_succ]; rfl),jH HH2.out.1,jH (HI4.out.kq HH2.out.2)⟩
    case measure => simp [intOf]; omega
   | false =>
    have HH2:=jH (HH.out.2 rfl)
    gi_wp2
    refine bodyPost_ret (results_none rfl _ _ _) rfl ?_
    exact ⟨⟨_,rfl⟩,.inr ⟨pre ++ [_],trivial,HH2.out⟩⟩
  ·obtain rfl:j = m:=by omega
   gi_wp2
   go_end0
   exact ⟨⟨_,rfl⟩,.inl ⟨pre,HP.out,HJ.out⟩⟩
open Go.RowKit Go.Shelf Gr Wd Ws Fx Rk Lb Al In
open Pa (vl bt vl_of vl_at bt_of bt_at)
theorem obj_kept {A B:World} {row:Option Nat} (hg:A.grownBy B row) (hr:∀ r,row = some r->∃ o,A.heap[r]? = some o/\o.isCells = false) {i:Nat} {c:Array Value} {T:TypeId} {fz:Nat × Nat} (h:A.heap[i]? = some (.cells c T fz)):B.heap[i]? = some (.cells c T fz) :=
 (hg.block i (lt_of_block h) fun e => by
  obtain ⟨o,ho,hc⟩:=hr i e.symm
  rw [h] at ho; injection ho with ho; subst ho; cases hc).trans h
theorem row_kept {A B:World} {row:Option Nat} (hg:A.grownBy B row) (hr:∀ r,row = some r->∃ o,A.heap[r]? = some o/\o.isCells = false) {B0 s n:Nat} {T:TypeId} {v:Value} {xs:List Value} (h:A.ownsRow B0 T s v n xs):B.ownsRow B0 T s v n xs :=
 own_kept h fun _ _ _ _ hc => (obj_kept hg hr hc).trans hc.symm
theorem keeps_below {W W':World} (h:Below W.heap.size W W'):KeepsOthers W W':=⟨h.size,fun k _ hk _ => (h.block k (lt_of_block hk)).trans hk⟩
theorem keeps_grown {w w':World} {B s n:Nat} {T:TypeId} {v:Value} {xs:List Value} (h:w.ownsRow B T s v n xs) (hg:w.grownBy w' v.ownBlock):KeepsOthers w w' :=
 ⟨hg.size,fun k o hk ho => (hg.block k (lt_of_block hk) fun e => by
  obtain ⟨_,c1,hc1⟩:=own_lt h k e.symm
  rw [hc1] at hk; injection hk with hk; subst hk; cases ho).trans hk⟩
def KK (W W':World):Prop:=KeepsOthers W W'/\Kq W W'
theorem KK.trans {A B C:World} (h:KK A B) (k:KK B C):KK A C:=⟨h.1.trans k.1,h.2.trans k.2⟩
theorem KK.below {A B:World} (h:Below A.heap.size A B):KK A B:=⟨keeps_below h,Kq.below h⟩
theorem KK.grown {w w':World} {B s n:Nat} {T:TypeId} {v:Value} {xs:List Value} (h:w.ownsRow B T s v n xs) (hg:w.grownBy w' v.ownBlock) (h1:T ≠ 71) (h2:T ≠ 103) (h3:T ≠ 33):KK w w':=⟨keeps_grown h hg,Kq.grown h hg h1 h2 h3⟩
theorem KK.set {w:World} {b i:Nat} {T:TypeId} {c:Array Value} (hb:w.heap[b]? = some (.cells c T (0,0))) (u:Value) (h1:T ≠ 71) (h2:T ≠ 103) (h3:T ≠ 33):KK w (w.setCell ⟨b,i,none⟩ u) :=
 ⟨KeepsOthers.setCell _ _ _,Kq.moved hb (fun _ hk => set_other _ _ _ _ _ hk) h1 h2 h3⟩
structure RX (W:World) (b B:Nat) (L:List Ed) (v:Nat) (A1 A2:Option Addr) (n1 n2 c1 c2:Nat):Prop where
 box:W.heap[b]? = some (.cells #[.slice A1 n1 c1,.slice A2 n2 c2] 103 (0,0))
 o:EOwn W B (.slice A1 n1 c1) (outE L (v:Int))
 k:EOwn W B (.slice A2 n2 c2) (bckE L (v:Int))
theorem RX.below {W W':World} {b B:Nat} {L:List Ed} {v:Nat} {A1 A2:Option Addr} {n1 n2 c1 c2:Nat} (h:RX W b B L v A1 A2 n1 n2 c1 c2) (hb:Below W.heap.size W W'):RX W' b B L v A1 A2 n1 n2 c1 c2:=⟨keep h.box hb,own_below h.o hb,own_below h.k hb⟩
theorem RX.grown {W W':World} {b B:Nat} {L:List Ed} {v:Nat} {A1 A2:Option Addr} {n1 n2 c1 c2:Nat} {B0 s n:Nat} {T:TypeId} {u:Value} {xs:List Value} (h:RX W b B L v A1 A2 n1 n2 c1 c2) (hv:W.ownsRow B0 T s u n xs) (hg:W.grownBy W' u.ownBlock) (h1:103 ≠ T) (h2:33 ≠ T):RX W' b B L v A1 A2 n1 n2 c1 c2 :=
 ⟨box_other h.box hv h1 hg,own_other h.o hv h2 hg,own_other h.k hv h2 hg⟩
theorem RX.set {W:World} {b B:Nat} {L:List Ed} {v:Nat} {A1 A2:Option Addr} {n1 n2 c1 c2 b' i:Nat} {T:TypeId} {c:Array Value} (h:RX W b B L v A1 A2 n1 n2 c1 c2) (hb:W.heap[b']? = some (.cells c T (0,0))) (u:Value) (h1:103 ≠ T) (h2:33 ≠ T):RX (W.setCell ⟨b',i,none⟩ u) b B L v A1 A2 n1 n2 c1 c2:=by
 have ho:∀ j,j ≠ b'->(W.setCell ⟨b',i,none⟩ u).heap[j]? = W.heap[j]?:=fun _ hj => set_other _ _ _ _ _ hj
 refine ⟨(ho b fun e => ?_).trans h.box,own_moved h.o hb h2 ho,own_moved h.k hb h2 ho⟩
 subst e
 have:=h.box
 rw [hb] at this; injection this with this; injection this with _ this _
 exact h1 this.symm
def I63 (x:Int):Prop:=-9223372036854775808 <= x/\x <= 9223372036854775807
theorem InR.i63 {x:Int} (h:InR x):I63 x:=by unfold InR at h; unfold I63; omega
def rowF (k:Int) (L:List Ed) (vals:List Int) (chg:List Bool) (v:Nat):List Ms:=sendM k (v:Int) (vl vals v) (bt chg v) (outE L (v:Int)) (bckE L (v:Int))
def sumF (k:Int) (L:List Ed) (vals:List Int) (ns:List Nat):Int:=(ns.map fun (v:Nat) => prtS k (vl vals v) (outE L (v:Int)).length).foldl (jonS k) 0
def mosF (k:Int) (was vals:List Int) (chg:List Bool) (ns:List Nat):Int:=(ns.map fun (v:Nat) => prtM k (vl was v) (vl vals v) (bt chg v)).foldl (jonM k) 0
theorem sumF_next (k:Int) (L:List Ed) (vals:List Int) (ns:List Nat) (v:Nat):sumF k L vals (ns ++ [v]) = jonS k (sumF k L vals ns) (prtS k (vl vals v) (outE L (v:Int)).length):=by unfold sumF; rw [List.map_append,List.foldl_append]; rfl
theorem mosF_next (k:Int) (was vals:List Int) (chg:List Bool) (ns:List Nat) (v:Nat):mosF k was vals chg (ns ++ [v]) = jonM k (mosF k was vals chg ns) (prtM k (vl was v) (vl vals v) (bt chg v)):=by unfold mosF; rw [List.map_append,List.foldl_append]; rfl
structure TlH (w W:World) (n0 b:Nat) (k st so dm ep:Int) (ve:Value) (Aa:Option Addr) (na ca:Nat) (L:List Ed) (was vals:List Int) (chg:List Bool) (l1 l2 l3:List Nat) (va ua vs us:Value):Prop where
 below:Below w.heap.size w W
 cb:W.heap[n0]? = some (.cells #[.int .u8 k,.int .i64 st,.int .i64 so,.int .i64 dm,.int .i64 ep,ve] 71 (0,0))
 pb:W.heap[n0 + 1]? = some (.cells #[.pointer (some ⟨b,0,none⟩)] 110 (0,0))
 hb:W.heap[n0 + 1 + 1]? = some (.cells #[.slice Aa na ca] 27 (0,0))
 ab:W.heap[n0 + 1 + 1 + 1]? = some (.cells #[va] 57 (0,0))
 sb:W.heap[n0 + 1 + 1 + 1 + 1]? = some (.cells #[vs] 130 (0,0))
 tb:W.heap[n0 + 1 + 1 + 1 + 1 + 1]? = some (.cells #[.int .i64 (sumF k L vals l3),.int .i64 (mosF k was vals chg l3)] 132 (0,0))
 ao:IOwn W (n0 + 6) ua (l1.map fun (v:Nat) => (v:Int))
 so:ROwn W (n0 + 6) us (l2.map (rowF k L vals chg))
theorem al6 (w:World) (a b c d e f:Obj):((((((w.alloc a).alloc b).alloc c).alloc d).alloc e).alloc f).heap[w.heap.size]? = some a/\((((((w.alloc a).alloc b).alloc c).alloc d).alloc e).alloc f).heap[w.heap.size + 1]? = some b/\((((((w.alloc a).alloc b).alloc c).alloc d).alloc e).alloc f).heap[w.heap.size + 2]? = some c/\((((((w.alloc a).alloc b).alloc c).alloc d).alloc e).alloc f).heap[w.heap.size + 3]? = some d/\((((((w.alloc a).alloc b).alloc c).alloc d).alloc e).alloc f).heap[w.heap.size + 4]? = some e/\((((((w.alloc a).alloc b).alloc c).alloc d).alloc e).alloc f).heap[w.heap.size + 5]? = some f/\Below w.heap.size w ((((((w.alloc a).alloc b).alloc c).alloc d).alloc e).alloc f):=by
 obtain ⟨h1,h2,h3,h4,h5⟩:=al4 w a b c d
 have h6:=heap_alloc_new ((((w.alloc a).alloc b).alloc c).alloc d) e
 rw [show ((((w.alloc a).alloc b).alloc c).alloc d).heap.size = w.heap.size + 4 by simp] at h6
 have h7:=heap_alloc_new (((((w.alloc a).alloc b).alloc c).alloc d).alloc e) f
 rw [show (((((w.alloc a).alloc b).alloc c).alloc d).alloc e).heap.size = w.heap.size + 5 by simp] at h7
 have h8:=h5.alloc h5.size e
 exact ⟨at_alloc (at_alloc h1 e) f,at_alloc (at_alloc h2 e) f,at_alloc (at_alloc h3 e) f,at_alloc (at_alloc h4 e) f,at_alloc h6 f,h7,h8.alloc h8.size f⟩
section
variable {w W W':World} {n0 b na ca:Nat} {k st so dm ep:Int} {ve:Value} {Aa:Option Addr} {L:List Ed} {was vals:List Int} {chg:List Bool} {l1 l2 l3:List Nat} {va ua vs us u:Value}
theorem TlH.made (w:World) (b na ca:Nat) (k st so dm ep:Int) (ve:Value) (Aa:Option Addr) (L:List Ed) (was vals:List Int) (chg:List Bool) :
 TlH w ((((((w.alloc (.cells #[.int .u8 k,.int .i64 st,.int .i64 so,.int .i64 dm,.int .i64 ep,ve] 71)).alloc (.cells #[.pointer (some ⟨b,0,none⟩)] 110)).alloc (.cells #[.slice Aa na ca] 27)).alloc (.cells #[.slice none 0 0] 57)).alloc (.cells #[.slice none 0 0] 130)).alloc (.cells #[.int .i64 0,.int .i64 0] 132)) w.heap.size b k st so dm ep ve Aa na ca L was vals chg [] [] [] (.slice none 0 0) (.slice none 0 0) (.slice none 0 0) (.slice none 0 0):=by
 obtain ⟨h1,h2,h3,h4,h5,h6,h7⟩:=al6 w (.cells #[.int .u8 k,.int .i64 st,.int .i64 so,.int .i64 dm,.int .i64 ep,ve] 71) (.cells #[.pointer (some ⟨b,0,none⟩)] 110) (.cells #[.slice Aa na ca] 27) (.cells #[.slice none 0 0] 57) (.cells #[.slice none 0 0] 130) (.cells #[.int .i64 0,.int .i64 0] 132)
 exact ⟨h7,h1,h2,h3,h4,h5,h6,IOwn.none_ _ _,ROwn.none_ _ _⟩
theorem TlH.step (h:TlH w W n0 b k st so dm ep ve Aa na ca L was vals chg l1 l2 l3 va ua vs us) (hb:Below W.heap.size W W'):TlH w W' n0 b k st so dm ep ve Aa na ca L was vals chg l1 l2 l3 va ua vs us :=
 ⟨step_below h.below h.below.size hb,keep h.cb hb,keep h.pb hb,keep h.hb hb,keep h.ab hb,keep h.sb hb,keep h.tb hb,own_below h.ao hb,h.so.below hb⟩
theorem TlH.kept (h:TlH w W n0 b k st so dm ep ve Aa na ca L was vals chg l1 l2 l3 va ua vs us) {row:Option Nat} (hg:W.grownBy W' row) (hr:∀ r,row = some r->∃ o,W.heap[r]? = some o/\o.isCells = false) (hn:∀ r,row = some r->w.heap.size <= r):TlH w W' n0 b k st so dm ep ve Aa na ca L was vals chg l1 l2 l3 va ua vs us:=by
 refine ⟨Below.grown h.below hg h.below.size hn,obj_kept hg hr h.cb,obj_kept hg hr h.pb,obj_kept hg hr h.hb,obj_kept hg hr h.ab,obj_kept hg hr h.sb,obj_kept hg hr h.tb,row_kept hg hr h.ao,?_⟩
 obtain ⟨xs,h1,h2⟩:=h.so
 exact ⟨xs,row_kept hg hr h1,h2.1,fun i M hi => by obtain ⟨x,e1,e2⟩:=h2.2 i M hi; exact ⟨x,e1,row_kept hg hr e2⟩⟩
theorem TlH.grownA {v:Nat} {b':Int} (h:TlH w W n0 b k st so dm ep ve Aa na ca L was vals chg l1 l2 l3 va ua vs us) (hg:W.grownBy W' ua.ownBlock) (hl:w.heap.size <= n0 + 6) (ho:IOwn W' (n0 + 6) u (l1.map (fun (v:Nat) => (v:Int)) ++ [(b':Int)])) (hb':b' = ((v:Nat):Int)):TlH w W' n0 b k st so dm ep ve Aa na ca L was vals chg (l1 ++ [v]) l2 l3 va u vs us:=by
 have h1:=h.ao
 exact ⟨h.below.trans (own_grown h1 hg hl h.below.size),box_other h.cb h1 (by decide) hg,box_other h.pb h1 (by decide) hg,box_other h.hb h1 (by decide) hg,box_other h.ab h1 (by decide) hg,box_other h.sb h1 (by decide) hg,box_other h.tb h1 (by decide) hg,by rw [List.map_append]; subst hb'; exact ho,h.so.other h1 (by decide) (by decide) hg⟩
theorem TlH.putA (h:TlH w W n0 b k st so dm ep ve Aa na ca L was vals chg l1 l2 l3 va ua vs us) (hl:w.heap.size <= n0):TlH w (W.setCell ⟨n0 + 1 + 1 + 1,0,none⟩ ua) n0 b k st so dm ep ve Aa na ca L was vals chg l1 l2 l3 ua ua vs us:=by
 have ho:∀ j,j ≠ n0 + 1 + 1 + 1->(W.setCell ⟨n0 + 1 + 1 + 1,0,none⟩ ua).heap[j]? = W.heap[j]?:=fun j hj => set_other _ _ _ _ _ hj
 exact ⟨h.below.setCell (p:=⟨n0 + 1 + 1 + 1,0,none⟩) (by show w.heap.size <= n0 + 1 + 1 + 1; omega) ua,(ho _ (by omega)).trans h.cb,(ho _ (by omega)).trans h.pb,(ho _ (by omega)).trans h.hb,set_heap (i:=0) h.ab ua,(ho _ (by omega)).trans h.sb,(ho _ (by omega)).trans h.tb,own_moved h.ao h.ab (by decide) ho,h.so.moved h.ab (by decide) (by decide) ho⟩
theorem TlH.grownS (h:TlH w W n0 b k st so dm ep ve Aa na ca L was vals chg l1 l2 l3 va ua vs us) (hg:W.grownBy W' us.ownBlock) (hl:w.heap.size <= n0 + 6) {v:Nat} (ho:ROwn W' (n0 + 6) u (l2.map (rowF k L vals chg) ++ [rowF k L vals chg v])):TlH w W' n0 b k st so dm ep ve Aa na ca L was vals chg l1 (l2 ++ [v]) l3 va ua vs u:=by
 obtain ⟨xs,h1,_⟩:=h.so
 exact ⟨h.below.trans (own_grown h1 hg hl h.below.size),box_other h.cb h1 (by decide) hg,box_other h.pb h1 (by decide) hg,box_other h.hb h1 (by decide) hg,box_other h.ab h1 (by decide) hg,box_other h.sb h1 (by decide) hg,box_other h.tb h1 (by decide) hg,own_other h.ao h1 (by decide) hg,by rw [List.map_append]; exact ho⟩
theorem TlH.putS (h:TlH w W n0 b k st so dm ep ve Aa na ca L was vals chg l1 l2 l3 va ua vs us) (hl:w.heap.size <= n0):TlH w (W.setCell ⟨n0 + 1 + 1 + 1 + 1,0,none⟩ us) n0 b k st so dm ep ve Aa na ca L was vals chg l1 l2 l3 va ua us us:=by
 have ho:∀ j,j ≠ n0 + 1 + 1 + 1 + 1->(W.setCell ⟨n0 + 1 + 1 + 1 + 1,0,none⟩ us).heap[j]? = W.heap[j]?:=fun j hj => set_other _ _ _ _ _ hj
 exact ⟨h.below.setCell (p:=⟨n0 + 1 + 1 + 1 + 1,0,none⟩) (by show w.heap.size <= n0 + 1 + 1 + 1 + 1; omega) us,(ho _ (by omega)).trans h.cb,(ho _ (by omega)).trans h.pb,(ho _ (by omega)).trans h.hb,(ho _ (by omega)).trans h.ab,set_heap (i:=0) h.sb us,(ho _ (by omega)).trans h.tb,own_moved h.ao h.sb (by decide) ho,h.so.moved h.sb (by decide) (by decide) ho⟩
theorem TlH.putT (h:TlH w W n0 b k st so dm ep ve Aa na ca L was vals chg l1 l2 l3 va ua vs us) (hl:w.heap.size <= n0) (v:Nat):TlH w ((W.setCell ⟨n0 + 1 + 1 + 1 + 1 + 1,0,none⟩ (.int .i64 (sumF k L vals (l3 ++ [v])))).setCell ⟨n0 + 1 + 1 + 1 + 1 + 1,1,none⟩ (.int .i64 (mosF k was vals chg (l3 ++ [v])))) n0 b k st so dm ep ve Aa na ca L was vals chg l1 l2 (l3 ++ [v]) va ua vs us:=by
 obtain ⟨x,hx⟩:∃ x:Value,x = .int .i64 (sumF k L vals (l3 ++ [v])):=⟨_,rfl⟩
 obtain ⟨y,hy⟩:∃ y:Value,y = .int .i64 (mosF k was vals chg (l3 ++ [v])):=⟨_,rfl⟩
 rw [<- hx,<- hy]
 have ho:∀ j,j ≠ n0 + 1 + 1 + 1 + 1 + 1->((W.setCell ⟨n0 + 1 + 1 + 1 + 1 + 1,0,none⟩ x).setCell ⟨n0 + 1 + 1 + 1 + 1 + 1,1,none⟩ y).heap[j]? = W.heap[j]?:=fun j hj => (set_other _ _ _ _ _ hj).trans (set_other _ _ _ _ _ hj)
 have h2:=set_heap (i:=1) (set_heap (i:=0) h.tb x) y
 exact ⟨(h.below.setCell (p:=⟨n0 + 1 + 1 + 1 + 1 + 1,0,none⟩) (by show w.heap.size <= n0 + 1 + 1 + 1 + 1 + 1; omega) x).setCell (p:=⟨n0 + 1 + 1 + 1 + 1 + 1,1,none⟩) (by show w.heap.size <= n0 + 1 + 1 + 1 + 1 + 1; omega) y,(ho _ (by omega)).trans h.cb,(ho _ (by omega)).trans h.pb,(ho _ (by omega)).trans h.hb,(ho _ (by omega)).trans h.ab,(ho _ (by omega)).trans h.sb,by rw [<- hx,<- hy]; exact h2,own_moved h.ao h.tb (by decide) ho,h.so.moved h.tb (by decide) (by decide) ho⟩
end
open Go.RowKit Go.Shelf Gr Wd Ws Fx Rk Lb Al In
abbrev Fxd:=List (Nat × Array Value × TypeId)
structure NxH (w W:World) (bo B:Nat) (fx:Fxd) (a0 a3 a4 a5:Value) (l1:List Int) (l2:List Bool) (va ua vb ub:Value):Prop where
 below:Below w.heap.size w W
 fixed:∀ p ∈ fx,W.heap[p.1]? = some (.cells p.2.1 p.2.2 (0,0))
 ob:W.heap[bo]? = some (.cells #[a0,va,vb,a3,a4,a5] 45 (0,0))
 qo:QOwn W B ua l1
 mo:BOwn W B ub l2
 apart:∀ p ∈ fx,p.1 ≠ bo/\2 ≠ p.2.2/\4 ≠ p.2.2
 lo:w.heap.size <= bo/\w.heap.size <= B
section
variable {w W W':World} {bo B:Nat} {fx:Fxd} {a0 a3 a4 a5:Value} {l1 l1':List Int} {l2 l2':List Bool} {va ua vb ub u:Value}
theorem NxH.step (h:NxH w W bo B fx a0 a3 a4 a5 l1 l2 va ua vb ub) (hb:Below W.heap.size W W'):NxH w W' bo B fx a0 a3 a4 a5 l1 l2 va ua vb ub :=
 ⟨step_below h.below h.below.size hb,fun p hp => keep (h.fixed p hp) hb,keep h.ob hb,h.qo.below hb,h.mo.below hb,h.apart,h.lo⟩
theorem NxH.kept (h:NxH w W bo B fx a0 a3 a4 a5 l1 l2 va ua vb ub) {row:Option Nat} (hg:W.grownBy W' row) (hr:∀ r,row = some r->∃ o,W.heap[r]? = some o/\o.isCells = false) (hn:∀ r,row = some r->w.heap.size <= r):NxH w W' bo B fx a0 a3 a4 a5 l1 l2 va ua vb ub :=
 ⟨Below.grown h.below hg h.below.size hn,fun p hp => obj_kept hg hr (h.fixed p hp),obj_kept hg hr h.ob,row_kept hg hr h.qo,row_kept hg hr h.mo,h.apart,h.lo⟩
theorem NxH.grownQ (h:NxH w W bo B fx a0 a3 a4 a5 l1 l2 va ua vb ub) (hg:W.grownBy W' ua.ownBlock) (ho:QOwn W' B u l1'):NxH w W' bo B fx a0 a3 a4 a5 l1' l2 va u vb ub :=
 ⟨h.below.trans (own_grown h.qo hg h.lo.2 h.below.size),fun p hp => box_other (h.fixed p hp) h.qo (Ne.symm (h.apart p hp).2.1) hg,box_other h.ob h.qo (by decide) hg,ho,own_other h.mo h.qo (by decide) hg,h.apart,h.lo⟩
theorem NxH.grownB (h:NxH w W bo B fx a0 a3 a4 a5 l1 l2 va ua vb ub) (hg:W.grownBy W' ub.ownBlock) (ho:BOwn W' B u l2'):NxH w W' bo B fx a0 a3 a4 a5 l1 l2' va ua vb u :=
 ⟨h.below.trans (own_grown h.mo hg h.lo.2 h.below.size),fun p hp => box_other (h.fixed p hp) h.mo (Ne.symm (h.apart p hp).2.2) hg,box_other h.ob h.mo (by decide) hg,own_other h.qo h.mo (by decide) hg,ho,h.apart,h.lo⟩
theorem NxH.putQ (h:NxH w W bo B fx a0 a3 a4 a5 l1 l2 va ua vb ub):NxH w (W.setCell ⟨bo,1,none⟩ ua) bo B fx a0 a3 a4 a5 l1 l2 ua ua vb ub:=by
 have ho:∀ j,j ≠ bo->(W.setCell ⟨bo,1,none⟩ ua).heap[j]? = W.heap[j]?:=fun _ hj => set_other _ _ _ _ _ hj
 exact ⟨h.below.setCell (p:=⟨bo,1,none⟩) h.lo.1 ua,fun p hp => (ho _ (h.apart p hp).1).trans (h.fixed p hp),set_heap (i:=1) h.ob ua,own_moved h.qo h.ob (by decide) ho,own_moved h.mo h.ob (by decide) ho,h.apart,h.lo⟩
theorem NxH.putB (h:NxH w W bo B fx a0 a3 a4 a5 l1 l2 va ua vb ub):NxH w (W.setCell ⟨bo,2,none⟩ ub) bo B fx a0 a3 a4 a5 l1 l2 va ua ub ub:=by
 have ho:∀ j,j ≠ bo->(W.setCell ⟨bo,2,none⟩ ub).heap[j]? = W.heap[j]?:=fun _ hj => set_other _ _ _ _ _ hj
 exact ⟨h.below.setCell (p:=⟨bo,2,none⟩) h.lo.1 ub,fun p hp => (ho _ (h.apart p hp).1).trans (h.fixed p hp),set_heap (i:=2) h.ob ub,own_moved h.qo h.ob (by decide) ho,own_moved h.mo h.ob (by decide) ho,h.apart,h.lo⟩
end
theorem own_by {w w':World} {b B n s:Nat} {T T':TypeId} {v:Value} {xs:List Value} {c:Array Value} (h:w.ownsRow B T s v n xs) (hb:w.heap[b]? = some (.cells c T' (0,0))) (hT:T ≠ T') (hg:w.grownBy w' (some b)):w'.ownsRow B T s v n xs :=
 own_kept h fun g _ _ _ hc => hg.block g (lt_of_block hc) fun e => by
  have e:=Option.some.inj e
  subst e; rw [hb] at hc; injection hc with hc; injection hc with _ hc _
  exact hT hc.symm
theorem own_shut {w:World} {D B n s:Nat} {T:TypeId} {v:Value} {xs:List Value} {ds:Option (List Deferred)} (h:w.ownsRow B T s v n xs) (hK:w.heap[D]? = some (.deferred ds)) (o:Obj):(w.putObj D o).ownsRow B T s v n xs :=
 own_kept h fun g _ _ _ hc => World.putObj_heap_other fun e => by rw [e,hK] at hc; cases hc
theorem shut_below {w W:World} {D:Nat} {ds:Option (List Deferred)} (h:Below w.heap.size w W) (hD:w.heap.size <= D) (hK:W.heap[D]? = some (.deferred ds)) (o:Obj):Below w.heap.size w (W.putObj D o) :=
 h.trans (belowK_b (w:=w) (Nat.le_refl _) W D _ o hD hK rfl rfl)
theorem put6_moved {w:World} {b B n s:Nat} {T T':TypeId} {v:Value} {xs:List Value} {c:Array Value} (h:w.ownsRow B T s v n xs) (hb:w.heap[b]? = some (.cells c T' (0,0))) (hT:T ≠ T') (u0 u1 u2 u3 u4 u5:Value):(put6 w b u0 u1 u2 u3 u4 u5).ownsRow B T s v n xs :=
 own_moved h hb hT fun j hj => put6_other w b j u0 u1 u2 u3 u4 u5 hj
def SOwn (w:World) (B:Nat) (x:Value) (st:Int) (s:Sq):Prop:=∃ va vc vi,x = .agg #[.int .i64 st,va,vc,vi,.int .i64 s.sum,.int .i64 s.most]/\QOwn w B va s.vals/\BOwn w B vc s.chg/\KOwn w B vi s.inb
theorem SOwn.below {w w':World} {B:Nat} {x:Value} {st:Int} {s:Sq} (h:SOwn w B x st s) (hb:Below w.heap.size w w'):SOwn w' B x st s:=by
 obtain ⟨va,vc,vi,e,h1,h2,h3⟩:=h
 exact ⟨va,vc,vi,e,h1.below hb,h2.below hb,h3.below hb⟩
theorem SOwn.mono {w:World} {B B':Nat} {x:Value} {st:Int} {s:Sq} (h:SOwn w B x st s) (hb:B' <= B):SOwn w B' x st s:=by
 obtain ⟨va,vc,vi,e,h1,h2,h3⟩:=h
 exact ⟨va,vc,vi,e,h1.mono hb,h2.mono hb,h3.mono hb⟩
theorem SOwn.form {w:World} {B:Nat} {x:Value} {st:Int} {s:Sq} (h:SOwn w B x st s):∃ Av cv Ac cc Ai ci,x = .agg #[.int .i64 st,.slice Av s.vals.length cv,.slice Ac s.chg.length cc,.slice Ai s.inb.length ci,.int .i64 s.sum,.int .i64 s.most]/\IAt w Av s.vals/\BAt w Ac s.chg/\KAt w Ai s.inb:=by
 obtain ⟨va,vc,vi,e,h1,h2,h3⟩:=h
 obtain ⟨Av,cv,rfl,g1⟩:=h1.form
 obtain ⟨Ac,cc,rfl,g2⟩:=h2.form
 obtain ⟨Ai,ci,rfl,g3,_⟩:=h3.room
 exact ⟨Av,cv,Ac,cc,Ai,ci,e,g1,g2,g3⟩
end Go.Proofs.YtdcaekmgfcpbmaaGreat.Sq
