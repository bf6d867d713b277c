/-
  What is proved here: a contract of meaning.distances. Conditions: the graph may be, and has at most 40 vertices and 100000 edges (beyond, what waits might not find room in memory: nothing is asked there); the source is one of its vertices. What is proved here: contracts of meaning.Labels and meaning.Distances. Conditions: at most 100000 edges; of Distances: a graph that may be has at most 40 vertices.
-/
import Derived.Test.YtdcaekmgfcpbmaaGreatQdMnHs
import Derived.Test.YtdcaekmgfcpbmaaGreatQdMnBfsx
import Derived.Test.YtdcaekmgfcpbmaaGreatQdMnT2x
import Derived.Test.YtdcaekmgfcpbmaaGreatQdMnLcx
namespace Go.Proofs.YtdcaekmgfcpbmaaGreat.Mn
open Go.RowKit Gr Wd Ws Fx Rk Lb Al
open Pa (vl bt vl_of vl_at bt_of bt_at Fits fits_of fr far gv)
open Sq (outE)
def sts (s:Nat):Nat->List Int
 | 0 => []
 | k + 1 => sts s k ++ [Pa.stt (k:Int) (s:Int)]
theorem sts_len (s:Nat):∀ k,(sts s k).length = k
 | 0 => rfl
 | k + 1 => by rw [sts,List.length_append,sts_len s k]; rfl
theorem sts_at (s:Nat):∀ k j,j < k->vl (sts s k) j = Pa.stt (j:Int) (s:Int)
 | 0,j,h => by omega
 | k + 1,j,h => by
  rw [sts]
  rcases Nat.lt_or_ge j k with hj | hj
  ·rw [<- sts_at s k j hj]
   unfold vl
   rw [List.getD_eq_getElem?_getD,List.getD_eq_getElem?_getD,List.getElem?_append_left (by rw [sts_len]; exact hj)]
  ·have e:j = k:=by omega
   subst e
   exact vl_of (by rw [List.getElem?_append_right (by rw [sts_len]; exact Nat.le_refl _),sts_len]; simp)
theorem sts_start (m s:Nat) (hs:s < m):sts s m = Pa.start m s:=by
 refine Pa.vl_ext (by rw [sts_len]; unfold Pa.start; simp) fun k hk => ?_
 rw [sts_len] at hk
 rw [sts_at s m k hk,start_at hs hk]
 unfold Pa.stt
 by_cases h:s = k
 ·subst h; simp
 ·rw [if_neg h,if_neg (by omega)]
theorem Sd.other {b B g g' n cp j:Nat} {H:List Wy} {w w':World} {c:Array Value} {T:TypeId} (hs:Sd B b g g' w w') (hp:Hp b B g n cp H w) (hj:w.heap[j]? = some (.cells c T (0,0))) (hT:T ≠ 86) (hT2:T ≠ 88):w'.heap[j]? = some (.cells c T (0,0)):=by
 obtain ⟨_,cc,hcc⟩:=hp.row.blk
 refine (hs.keep j c T hj (Or.inl hT) (fun e => ?_) (fun e => ?_)).1
 ·subst e; rw [hp.box] at hj; injection hj with hj; injection hj with _ hj _; exact hT2 hj.symm
 ·subst e; rw [hcc] at hj; injection hj with hj; injection hj with _ hj _; exact hT hj.symm
theorem Sd.own {b B B' g g' n cp s m:Nat} {H:List Wy} {w w':World} {T:TypeId} {v:Value} {xs:List Value} (hs:Sd B b g g' w w') (hp:Hp b B g n cp H w) (h:w.ownsRow B' T s v m xs) (hT:T ≠ 86) (hT2:T ≠ 88):w'.ownsRow B' T s v m xs :=
 own_kept h fun j _ _ hj hc => by
  obtain ⟨_,c1,h1⟩:=own_lt h j hj
  rw [h1] at hc
  injection hc with hc
  injection hc with hc1 hc2 hc3
  rw [hs.other hp h1 hT hT2,h1]
structure DsH (w W:World) (V s b bh gh nh cph gf cpf:Nat) (S:Value) (L:List Ed) (l:List Int) (H:List Wy):Prop where
 below:Below w.heap.size w W
 gbox:W.heap[b]? = some (.cells #[.int .i64 (V:Int),S] 24 (0,0))
 row:NOwn W 2 w.heap.size (.slice (some ⟨gf,0,none⟩) V cpf) l
 hp:Hp bh w.heap.size gh nh cph H W
 wl:Wl V L s l H
section
variable {w W W':World} {V s b bh gh nh cph gf cpf:Nat} {S:Value} {L:List Ed} {l:List Int} {H:List Wy}
theorem DsH.step (h:DsH w W V s b bh gh nh cph gf cpf S L l H) (hb:Below W.heap.size W W'):DsH w W' V s b bh gh nh cph gf cpf S L l H :=
 ⟨step_below h.below h.below.size hb,keepB h.gbox hb,h.row.below hb,h.hp.below hb,h.wl⟩
theorem DsH.heap {gh' nh' cph':Nat} {l':List Int} {H':List Wy} (h:DsH w W V s b bh gh nh cph gf cpf S L l H) (hp:Hp bh w.heap.size gh' nh' cph' H' W') (hs:Sd w.heap.size bh gh gh' W W') (hl:l' = l) (hw:Wl V L s l' H'):DsH w W' V s b bh gh' nh' cph' gf cpf S L l' H' :=
 ⟨h.below.trans hs.below,hs.other h.hp h.gbox (by decide) (by decide),by subst hl; exact hs.own h.hp h.row (by decide) (by decide),hp,hw⟩
theorem DsH.len (h:DsH w W V s b bh gh nh cph gf cpf S L l H):l.length = V:=h.wl.inv.len
theorem DsH.lo (h:DsH w W V s b bh gh nh cph gf cpf S L l H):w.heap.size <= gf:=h.row.blk.1
end
structure DtH (w W:World) (V b bh gh nh cph gf cpf:Nat) (S:Value) (l:List Int) (H:List Wy):Prop where
 below:Below w.heap.size w W
 gbox:W.heap[b]? = some (.cells #[.int .i64 (V:Int),S] 24 (0,0))
 row:NOwn W 2 w.heap.size (.slice (some ⟨gf,0,none⟩) V cpf) l
 hp:Hp bh w.heap.size gh nh cph H W
theorem DsH.set {w W:World} {V s b bh gh nh cph gf cpf:Nat} {S:Value} {L:List Ed} {l:List Int} {H:List Wy} (h:DsH w W V s b bh gh nh cph gf cpf S L l H) (k:Nat) (x:Int):DtH w (W.setCell ⟨gf,k,none⟩ (.int .i64 x)) V b bh gh nh cph gf cpf S (l.set k x) H:=by
 obtain ⟨h1,c,hc⟩:=h.row.blk
 exact ⟨h.below.setCell (p:=⟨gf,k,none⟩) h1 _,nbox_set h.gbox hc (by decide),h.row.set h.len k x,⟨nbox_set h.hp.box hc (by decide),nown_set h.hp.row hc (by decide),h.hp.cap,h.hp.len,⟨h.hp.lo.1,by simp [World.setCell]; exact h.hp.lo.2⟩⟩⟩
theorem DtH.heap {w W W':World} {V s b bh gh nh cph gf cpf gh' nh' cph':Nat} {S:Value} {L:List Ed} {l:List Int} {H H':List Wy} (h:DtH w W V b bh gh nh cph gf cpf S l H) (hp:Hp bh w.heap.size gh' nh' cph' H' W') (hs:Sd w.heap.size bh gh gh' W W') (hw:Wl V L s l H'):DsH w W' V s b bh gh' nh' cph' gf cpf S L l H' :=
 ⟨h.below.trans hs.below,hs.other h.hp h.gbox (by decide) (by decide),hs.own h.hp h.row (by decide) (by decide),hp,hw⟩
structure EdH (w W:World) (V s b bh gf cpf bw u:Nat) (d:Int) (S:Value) (L:List Ed) (B2:Nat) (ve:Value) (N q:Nat) (l:List Int) (H:List Wy) (gh nh cph:Nat):Prop where
 ds:DsH w W V s b bh gh nh cph gf cpf S L l H
 pend:Pend L l H ((outE L (u:Int)).drop q)
 val:vl l u = d
 num:wn l H <= N
 way:W.heap[bw]? = some (.cells #[.int .i64 (u:Int),.int .i64 d] 86 (0,0))
 off:bw ≠ gh
 out:EOwn W B2 ve (outE L (u:Int))
section
variable {w W W':World} {V s b bh gf cpf bw u B2 N q gh nh cph:Nat} {d:Int} {S ve:Value} {L:List Ed} {l:List Int} {H:List Wy}
theorem EdH.step (h:EdH w W V s b bh gf cpf bw u d S L B2 ve N q l H gh nh cph) (hb:Below W.heap.size W W'):EdH w W' V s b bh gf cpf bw u d S L B2 ve N q l H gh nh cph :=
 ⟨h.ds.step hb,h.pend,h.val,h.num,keepB h.way hb,h.off,h.out.below hb⟩
theorem EdH.over (h:EdH w W V s b bh gf cpf bw u d S L B2 ve N q l H gh nh cph) {e:Ed} (he:(outE L (u:Int))[q]? = some e) (hg:vl l (Pa.to e) <= gv l e):EdH w W V s b bh gf cpf bw u d S L B2 ve N (q + 1) l H gh nh cph:=by
 have hp:=h.pend
 rw [drop_at he] at hp
 exact ⟨h.ds,hp.over hg,h.val,h.num,h.way,h.off,h.out⟩
theorem EdH.push (h:EdH w W V s b bh gf cpf bw u d S L B2 ve N q l H gh nh cph) (hc:chk (V:Int) L = 0) (hs:s < V) (hV:V <= 40) {t:Nat} {z G:Int} (he:(outE L (u:Int))[q]? = some ((u:Int),(t:Int),z)) (hG:addI d z = G) (hlt:G < vl l t)
 {gh' nh' cph':Nat} {H':List Wy} (hpm:H'.Perm ((t,G) :: H)) (hp:Hp bh w.heap.size gh' nh' cph' H' W') (hsd:Sd w.heap.size bh gh gh' (W.setCell ⟨gf,t,none⟩ (.int .i64 G)) W'):EdH w W' V s b bh gf cpf bw u d S L B2 ve N (q + 1) (l.set t G) H' gh' nh' cph':=by
 have hF:=fits_of hc
 obtain ⟨hel,_⟩:=List.mem_filter.1 (List.mem_of_getElem? he)
 obtain ⟨_,_,_,hfit,_⟩:=(chk_zero _ _).1 hc
 have hfe:=(fitE_iff _ _).1 (hfit _ hel)
 have e1:fr ((u:Int),(t:Int),z) = u:=by unfold fr; simp
 have e2:Pa.to ((u:Int),(t:Int),z) = t:=by unfold Pa.to; simp
 have e3:gv l ((u:Int),(t:Int),z) = G:=by unfold gv; rw [e1,h.val]; exact hG
 have hpd:=h.pend
 rw [drop_at he] at hpd
 obtain ⟨r1,r2,r3,r4,r5⟩:=h.ds.wl.relax hF hs hpd hel (by have:=hfe; simp only [] at this; omega) hV (by rw [e3,e2]; exact hlt)
 rw [e1] at r3
 rw [e2,e3] at r1 r2 r4 r5
 rw [r4] at r1 r2 r3 r5
 have hD:=h.ds.set t G
 obtain ⟨_,c,hcc⟩:=h.ds.row.blk
 have hw1:(W.setCell ⟨gf,t,none⟩ (.int .i64 G)).heap[bw]? = some (.cells #[.int .i64 (u:Int),.int .i64 d] 86 (0,0)):=nbox_set h.way hcc (by decide)
 have hbb:bw ≠ bh:=fun e => by
  have hx:=hD.hp.box
  rw [<- e,hw1] at hx
  injection hx with hx; injection hx with _ hx _
  exact absurd hx (by decide)
 obtain ⟨k1,k2⟩:=hsd.keep bw _ _ hw1 (Or.inr rfl) hbb h.off
 exact ⟨hD.heap hp hsd (r1.perm hpm),r2.perm hpm,r3.trans h.val,by rw [wn_perm hpm]; have:=h.num; omega,k1,k2,hsd.own hD.hp (nown_set h.out hcc (by decide)) (by decide) (by decide)⟩
end
set_option maxRecDepth 100000 in
set_option maxHeartbeats 8000000 in
theorem distances_any (V s:Nat) (A:Option Addr) (n c:Nat) (L:List Ed) (w:World) (hL:EAt w A L) (hn:L.length = n) (hm:n <= 100000) (hV:V <= 40) (hs:s < V) (hc:chk (V:Int) L = 0) :
 Calls Tryz.prog 28 #[.agg #[.int .i64 (V:Int),.slice A n c],.int .i64 (s:Int)] w fun e w' => ∃ g cp,e = .returned (.slice (some ⟨g,0,none⟩) V cp)/\Hid (NOwn w' 2 w.heap.size (.slice (some ⟨g,0,none⟩) V cp) (far V s L)/\Below w.heap.size w w'):=by
 have mixed:=mixedP
 have HL:=jH hL; have HN:=jH hn; have HC:=jH hc
 clear hL hn hc
 obtain ⟨b,hb⟩:∃ b,b = w.heap.size:=⟨_,rfl⟩
 obtain ⟨W1,hW1⟩:∃ W1,W1 = w.alloc (.cells #[.int .i64 (V:Int),.slice A n c] 24):=⟨_,rfl⟩
 have HB1:Hid (Below w.heap.size w W1):=jH (by rw [hW1]; exact (Below.refl _ w).alloc (Nat.le_refl _) _)
 have HX1:Hid (W1.heap[b]? = some (.cells #[.int .i64 (V:Int),.slice A n c] 24 (0,0))):=jH (by rw [hW1,hb]; exact heap_alloc_new w _)
 obtain ⟨g0,g1,_⟩:=two_cells HX1.out
 obtain ⟨i0,hi,hz0,hz1,hz2⟩:=info_parts info2
 obtain ⟨W2,hmk,hown2,hg2⟩:=run_make_own (P:=Tryz.prog) (w:=W1) w.heap.size 27 2 i0 _ 1 Tryz.underlying27 hi hz0 hz1 .i64 .i64 V (by rw [hz2]; omega) (by unfold maxLen; omega) HB1.out.size
 have hb2:Below W1.heap.size W1 W2:=⟨hg2.os,hg2.tape,hg2.output,hg2.size,fun i hi => hg2.block i hi nofun⟩
 obtain ⟨g2,hg2'⟩:∃ g,g = W1.heap.size:=⟨_,rfl⟩
 rw [<- hg2'] at hmk hown2
 have HO2:Hid (NOwn W2 2 w.heap.size (.slice (some ⟨g2,0,none⟩) 0 V) (sts s 0)):=jH hown2
 have HB2:=jS HB1 hb2
 have HX2:=jK HX1 hb2
 clear hown2 hg2 hb2 hi hz0 hz1 hz2 hg2'
 go_enter Tryz.func28,Tryz.ntmps28
 go_upto_region 1 with fail
 rw [<- hW1,show w.heap.size = b from hb.symm]
 have HBb:=jH hb
 clear hW1 hb
 go_upto_region 2 with fail
 clear hmk g0 g1 HB1 HX1
 obtain ⟨g0,g1,_⟩:=two_cells HX2.out
 go_wp2_with fail
 clear g0 g1
 go_loopg [5,17] V (fun gk vv iv wr => ∃ (k:Nat) (A5:Option Addr) (n5 c5:Nat),iv = .int .i64 (k:Int)/\vv = .slice A5 n5 c5/\k + gk = V/\Hid (NOwn wr 2 w.heap.size (.slice A5 n5 c5) (sts s k))/\Hid (Below w.heap.size w wr)/\Hid (wr.heap[b]? = some (.cells #[.int .i64 (V:Int),.slice A n c] 24 (0,0))))
 case atStart => exact ⟨0,_,_,_,rfl,rfl,by omega,HO2,HB2,HX2⟩
 case round =>
  clear HO2 HB2 HX2
  obtain ⟨k,A5,n5,c5,rfl,rfl,hk,HO,HB,HX⟩:=hrel
  by_cases hlt:k < V
  ·obtain ⟨y,hy⟩:∃ y,Pa.stt (k:Int) (s:Int) = y:=⟨_,rfl⟩
   have HC1:=jH (fun W => Pa.start_any (k:Int) (s:Int) W)
   rw [hy] at HC1
   have HNX:Hid (sts s (k + 1) = sts s k ++ [y]):=jH (by rw [<- hy]; rfl)
   clear hy
   have HO1:=jH (HO.out.alloc (.cells #[.int .i64 y] 2))
   have HN1:=jH (heap_alloc_new wr (.cells #[.int .i64 y] 2))
   have hb1:Below wr.heap.size wr (wr.alloc (.cells #[.int .i64 y] 2)):=(Below.refl _ wr).alloc (Nat.le_refl _) _
   have HB1:=jS HB hb1
   have HX1:=jK HX hb1
   have HSL:Hid ((sts s k).length < 1000000000):=jH (by rw [sts_len]; omega)
   have HSZ:=jH HB1.out.size
   clear hb1
   go_wp2_with fail
   refine (HC1.out _).mono ?_
   rintro e w4 ⟨rfl,rfl⟩
   go_wp2_with (at_builtin; refine app_n rfl (.tmp 20) (.tmp 24) 27 2 rfl Tryz.underlying27 info2 w.heap.size _ (sts s k) y rfl HO1.out _ rfl HN1.out HSL.out HSZ.out ?_)
   intro v2 w5 ho2 hg2
   obtain ⟨A7,c7,rfl,_⟩:=ho2.form
   rw [<- HNX.out] at ho2 ⊢
   have HB5:=jH (HB1.out.trans (nown_grown HO1.out hg2 (Nat.le_refl _) HB1.out.size))
   have HX5:=jH (nbox_other HX1.out HO1.out (by decide) hg2)
   have HO5:=jH ho2
   clear ho2 hg2 HO1 HN1 HSL HSZ HB1 HX1 HO HB HX HC1
   obtain ⟨n6,hn6⟩:∃ n6,n6 = (sts s (k + 1)).length:=⟨_,rfl⟩
   rw [<- hn6] at HO5 ⊢
   clear hn6
   go_wp2
   go_roundg (gk - 1)
   case measure => omega
   case rel => exact ⟨k + 1,A7,n6,c7,by go_num,rfl,by omega,HO5,HB5,HX5⟩
  ·have hkm:k = V:=by omega
   subst hkm
   obtain ⟨gf,cp,hv,hg⟩:=HO.out.some_ (by rw [sts_len]; omega)
   rw [sts_len] at hv
   cases hv
   obtain ⟨cpf,rfl⟩:∃ cq,cq = c5:=⟨_,rfl⟩
   have HO9:Hid (NOwn wr 2 w.heap.size (.slice (some ⟨gf,0,none⟩) k cpf) (Pa.start k s)):=jH (by rw [<- sts_start k s hs]; exact HO.out)
   obtain ⟨k0,k1⟩:=HO9.out.at_ (by unfold Pa.start; simp) hs
   rw [start_at hs hs,if_pos rfl] at k0
   obtain ⟨gh,hgh⟩:∃ x,x = wr.heap.size:=⟨_,rfl⟩
   obtain ⟨W8,hW8⟩:∃ x,x = wr.alloc (.cells #[.int .i64 (s:Int),.int .i64 0] 86):=⟨_,rfl⟩
   obtain ⟨bh,hbh⟩:∃ x,x = gh + 1:=⟨_,rfl⟩
   have hs8:W8.heap.size = bh:=by rw [hW8,hbh,hgh]; simp
   obtain ⟨W9,hW9⟩:∃ x,x = W8.alloc (.cells #[.slice (some ⟨gh,0,none⟩) 1 1] 88):=⟨_,rfl⟩
   have hb8:Below wr.heap.size wr W8:=by rw [hW8]; exact (Below.refl _ wr).alloc (Nat.le_refl _) _
   have hb9:Below W8.heap.size W8 W9:=by rw [hW9]; exact (Below.refl _ W8).alloc (Nat.le_refl _) _
   have hx8:W8.heap[gh]? = some (.cells #[.int .i64 (s:Int),.int .i64 0] 86 (0,0)):=by rw [hW8,hgh]; exact heap_alloc_new wr _
   have hx9:W9.heap[bh]? = some (.cells #[.slice (some ⟨gh,0,none⟩) 1 1] 88 (0,0)):=by rw [hW9,<- hs8]; exact heap_alloc_new W8 _
   have hw8:WOw W8 w.heap.size (.slice (some ⟨gh,0,none⟩) 1 1) [(s,0)]:=⟨rfl,Or.inr ⟨gh,1,_,rfl,by rw [hgh]; exact HB.out.size,hx8,Nat.le_refl _,by decide,rfl,rfl⟩⟩
   have hhp:Hp bh w.heap.size gh 1 1 [(s,0)] W9:=⟨hx9,hw8.below hb9,Nat.le_refl _,rfl,⟨by rw [<- hs8]; exact Nat.le_trans HB.out.size hb8.size,Nat.le_trans (Nat.le_trans HB.out.size hb8.size) hb9.size⟩⟩
   have hst:=wl_start (fits_of HC.out) hs
   have HD:Hid (DsH w W9 k s b bh gh 1 1 gf cpf (.slice A n c) L (Pa.start k s) [(s,0)]/\Pend L (Pa.start k s) [(s,0)] []):=jH ⟨⟨step_below (step_below HB.out HB.out.size hb8) (Nat.le_trans HB.out.size hb8.size) hb9,keepB (keepB HX.out hb8) hb9,(HO9.out.below hb8).below hb9,hhp,hst.1⟩,hst.2⟩
   have HW9:=jH hW9; have HBH:=jH hbh; have HW8:=jH hW8; have HGH:=jH hgh
   clear hW9 hs8 hbh hW8 hgh hb8 hb9 hx8 hx9 hw8 hhp hst HO hg HX
   go_upto_region 8 with fail
   rw [<- HGH.out,<- HW8.out,<- HW9.out,<- HBH.out]
   clear HGH HW8 HW9 HBH k0 k1 HB HO9
   go_wp2_with fail
   obtain ⟨G0,rfl⟩:∃ G0:Nat,G0 = gk:=⟨_,rfl⟩
   obtain ⟨V,rfl⟩:∃ V,V = k:=⟨_,rfl⟩
   obtain ⟨N0,hN0⟩:∃ N,N = wn (Pa.start V s) [(s,0)]:=⟨_,rfl⟩
   have HN0:=jH hN0; clear hN0
   go_loopg [] N0 (fun gk wr => ∃ (l:List Int) (H:List Wy) (nh gh' cph:Nat),Hid (wn l H = gk)/\Hid (DsH w wr V s b bh gh' nh cph gf cpf (.slice A n c) L l H/\Pend L l H []))
   case atStart => exact ⟨_,_,_,_,_,jH HN0.out.symm,HD⟩
   case round =>
    clear HD
    obtain ⟨l,H,nh,gh',cph,HWN,HD⟩:=hrel
    obtain ⟨z0,z1,_⟩:=one_cell HD.out.1.hp.box
    have hlen:=HD.out.1.hp.len
    by_cases hz:nh = 0
    ·subst hz
     have HF:Hid (l = far V s L):=jH (by
      have hH:H = []:=List.eq_nil_of_length_eq_zero hlen
      have h:=HD.out
      rw [hH] at h
      exact wl_done (fits_of HC.out) hs h.1.wl h.2)
     go_wp2_with fail
     refine (len_any _ _ _ _).mono ?_
     rintro e w3 ⟨rfl,rfl⟩
     go_wp2
     go_ret
     refine ⟨gf,cpf,rfl,jH ⟨?_,HD.out.1.below⟩⟩
     rw [<- HF.out]; exact HD.out.1.row
    ·obtain ⟨m,hm'⟩:∃ m,nh = m + 1:=⟨nh - 1,by omega⟩
     subst hm'
     have hmm:m < 3999999999999:=by have:=HD.out.1.wl.len_le hV; omega
     go_wp2_with fail
     refine (len_any _ _ _ _).mono ?_
     rintro e w3 ⟨rfl,rfl⟩
     go_wp2_with fail
     refine (hpop_any bh w.heap.size gh' m cph H wr hmm HD.out.1.hp).mono ?_
     rintro e w3 ⟨u,d,H3,rfl,h3⟩
     have hta:=assert_way u d
     have hwl:=HD.out.1.wl.perm h3.out.1
     have hpd:=HD.out.2.perm h3.out.1
     obtain ⟨hu,hud,hdi⟩:=hwl.ways (u,d) List.mem_cons_self
     have HU:Hid (u < V):=jH hu
     have HMS:Hid (wn l H = wn l H3 + 1):=jH (by rw [<- wn_perm h3.out.1]; unfold wn; rw [List.length_cons]; omega)
     -- the way's box
     obtain ⟨bw,hbw⟩:∃ x,x = w3.heap.size:=⟨_,rfl⟩
     obtain ⟨W4,hW4⟩:∃ x,x = w3.alloc (.cells #[.int .i64 (u:Int),.int .i64 d] 86):=⟨_,rfl⟩
     have hb4:Below w3.heap.size w3 W4:=by rw [hW4]; exact (Below.refl _ w3).alloc (Nat.le_refl _) _
     have hx4:W4.heap[bw]? = some (.cells #[.int .i64 (u:Int),.int .i64 d] 86 (0,0)):=by rw [hW4,hbw]; exact heap_alloc_new w3 _
     have hne:bw ≠ gh':=fun e => by
      obtain ⟨_,cc,hcc⟩:=h3.out.2.1.row.blk
      have:=lt_of_block hcc
      omega
     have HX4:=jH hx4; have HNE:=jH hne
     have HS3:=jH h3.out.2.2; have HP3:=jH h3.out.2.1
     have HB4:=jH hb4; have HWL:=jH hwl; have HPD:=jH hpd; have HUD:Hid (vl l u <= d):=jH hud
     have HBW:=jH hbw; have HW4:=jH hW4
     clear hbw hW4 hb4 hx4 hne hwl hpd hud hdi h3 hlen z0 z1 hu
     go_upto_region 10 with fail
     rw [<- HBW.out,<- HW4.out]
     clear HBW HW4 hta
     obtain ⟨x,hx⟩:∃ x,vl l u = x:=⟨_,rfl⟩
     have HXE:=jH hx
     rw [hx] at HUD
     clear hx
     by_cases hlt:x < d
     ·have HSK:=jH (HWL.out.skip HPD.out (by show vl l u < d; rw [HXE.out]; exact hlt))
      have HD4:=jH ((HD.out.1.heap HP3.out HS3.out rfl HSK.out.1).step HB4.out)
      obtain ⟨y0,_⟩:=HD4.out.row.at_ HD4.out.len HU.out
      rw [HXE.out] at y0
      obtain ⟨x0,x1,_⟩:=two_cells HX4.out
      have huV:=HU.out
      clear HD HS3 HP3 HB4 HWL HPD
      go_wp2_with fail
      go_quiet (fail)
      go_wp2
      have HD5:=fun q => jH (HD4.out.step (Ws.below_drewN (Below.refl _ W4) q))
      go_roundg (gk - 1)
      case measure => have:=HWN.out; have:=HMS.out; omega
      case rel => exact ⟨l,H3,m,gh',cph,jH (by have:=HWN.out; have:=HMS.out; omega),jH ⟨(HD5 _).out,HSK.out.2⟩⟩
     ·have hxd:x = d:=by have:=HUD.out; omega
      subst hxd
      have HTK:=jH (HWL.out.take HPD.out (fun e he => by
       obtain ⟨_,_,_,hfit,_⟩:=(chk_zero _ _).1 HC.out
       have:=(fitE_iff _ _).1 (hfit e he); omega))
      have HD4:=jH ((HD.out.1.heap HP3.out HS3.out rfl HTK.out.1).step HB4.out)
      obtain ⟨y0,_⟩:=HD4.out.row.at_ HD4.out.len HU.out
      rw [HXE.out] at y0
      obtain ⟨x0,x1,_⟩:=two_cells HX4.out
      have huV:=HU.out
      clear HD HS3 HP3 HB4 HWL HPD
      obtain ⟨g0,g1,_⟩:=two_cells HD4.out.gbox
      have HOUT:Hid (∀ W:World,Below W4.heap.size W4 W->Calls Tryz.prog 52 #[.agg #[.int .i64 (V:Int),.slice A n c],.int .i64 (u:Int)] W fun e w' => ∃ y,e = .returned y/\Hid (EOwn w' W.heap.size y (outE L (u:Int))/\Below W4.heap.size W4 w')):=jH (fun W hW => by
       have h:=out_any (V:Int) (u:Int) A c L W (HL.out.below (step_below HD4.out.below HD4.out.below.size hW)) (by rw [HN.out]; exact hm)
       rw [HN.out] at h
       refine h.mono ?_
       rintro e w' ⟨y,rfl,h1,h2⟩
       exact ⟨y,rfl,jH ⟨h1,step_below hW hW.size h2⟩⟩)
      have HN0:Hid (wn l H3 <= wn l H3):=jH (Nat.le_refl _)
      go_wp2_with fail
      go_quiet (fail)
      go_wp2_with fail
      refine (HOUT.out _ (Ws.below_drewN (Below.refl _ W4) _)).mono ?_
      rintro e w5 ⟨y,rfl,h5⟩
      obtain ⟨A2,c2,rfl,_⟩:=h5.out.1.form
      obtain ⟨n2,hn2⟩:∃ n2,n2 = (outE L (u:Int)).length:=⟨_,rfl⟩
      rw [<- hn2] at h5 ⊢
      have HN2:=jH hn2
      have hn2b:n2 <= 100000:=by
       have:=List.length_filter_le (fun e:Ed => decide (e.1 = (u:Int))) L
       have h3:n2 <= L.length:=by rw [hn2]; exact this
       rw [HN.out] at h3; omega
      obtain ⟨B2,hB2⟩:∃ B2:Nat,EOwn w5 B2 (.slice A2 n2 c2) (outE L (u:Int)):=⟨_,h5.out.1⟩
      have HE:Hid (EdH w w5 V s b bh gf cpf bw u x (.slice A n c) L B2 (.slice A2 n2 c2) (wn l H3) 0 l H3 gh' m cph):=jH ⟨HD4.out.step h5.out.2,HTK.out.2,HXE.out,Nat.le_refl _,keepB HX4.out h5.out.2,HNE.out,hB2⟩
      clear hn2 h5 hB2 HOUT HD4 HTK HXE HX4 HNE y0 x0 x1 g0 g1
      go_wp2_with fail
      obtain ⟨G1,rfl⟩:∃ G1:Nat,G1 = gk:=⟨_,rfl⟩
      go_loopg [57] n2 (fun gk iv wr => ∃ (q:Nat) (l1:List Int) (H1:List Wy) (gh1 nh1 cp1:Nat),iv = .int .i64 (q:Int)/\q + gk = n2/\Hid (EdH w wr V s b bh gf cpf bw u x (.slice A n c) L B2 (.slice A2 n2 c2) (wn l H3) q l1 H1 gh1 nh1 cp1))
      case atStart => exact ⟨0,_,_,_,_,_,rfl,by omega,HE⟩
      case round =>
       clear HE
       obtain ⟨q,l1,H1,gh1,nh1,cp1,rfl,hq,HE⟩:=hrel
       by_cases hlt2:q < n2
       ·obtain ⟨e,he⟩:=at_lt (outE L (u:Int)) q (by rw [<- HN2.out]; exact hlt2)
        obtain ⟨hel,hef⟩:=List.mem_filter.1 (List.mem_of_getElem? he)
        obtain ⟨t,z,ht,hev⟩:∃ (t:Nat) (z:Int),t < V/\e = ((u:Int),(t:Int),z):=by
         obtain ⟨_,_,_,hfit,_⟩:=(chk_zero _ _).1 HC.out
         have h1:=(fitE_iff _ _).1 (hfit _ hel)
         have h2:e.1 = (u:Int):=by simpa using hef
         refine ⟨e.2.1.toNat,e.2.2,by omega,?_⟩
         rw [show ((e.2.1.toNat:Nat):Int) = e.2.1 by omega,<- h2]
        subst hev
        have HEA:=jH he
        clear he hel hef
        obtain ⟨A2',c2',hA2,hat,_⟩:=HE.out.out.form
        cases hA2
        obtain ⟨bk,o,rfl,c0,c1,c2⟩:=hat q _ HEA.out
        clear hat
        obtain ⟨be,hbe⟩:∃ be,be = wr.heap.size:=⟨_,rfl⟩
        obtain ⟨W1,hW1⟩:∃ W1,W1 = wr.alloc (.cells #[.int .i64 (u:Int),.int .i64 (t:Int),.int .i64 z] 33):=⟨_,rfl⟩
        have hb1:Below wr.heap.size wr W1:=by rw [hW1]; exact (Below.refl _ wr).alloc (Nat.le_refl _) _
        have HE1:=jH (HE.out.step hb1)
        have HB1:Hid (W1.heap[be]? = some (.cells #[.int .i64 (u:Int),.int .i64 (t:Int),.int .i64 z] 33 (0,0))):=jH (by rw [hW1,hbe]; exact heap_alloc_new wr _)
        have HW1:=jH hW1; have HBE:=jH hbe
        clear hW1 hbe hb1
        go_upto_region 14 with fail
        rw [<- HBE.out,<- HW1.out]
        clear HBE HW1 c0 c1 c2 HE
        obtain ⟨x0,x1,_⟩:=two_cells HE1.out.way
        obtain ⟨p0,p1,p2,_⟩:=eb_cells HB1.out
        obtain ⟨G,hG⟩:∃ G,addI x z = G:=⟨_,rfl⟩
        have HGV:=jH (fun W => Pa.give_any x (u:Int) (t:Int) z W)
        rw [hG] at HGV
        have HG:=jH hG
        clear hG
        go_wp2_with fail
        refine (HGV.out _).mono ?_
        rintro e w6 ⟨rfl,hb6⟩
        have HE6:=jH (HE1.out.step hb6)
        have HB6:=jK HB1 hb6
        clear hb6 HE1 HB1 HGV x0 x1 p0 p1 p2
        obtain ⟨p0,p1,p2,_⟩:=eb_cells HB6.out
        obtain ⟨y0,y1⟩:=HE6.out.ds.row.at_ HE6.out.ds.len ht
        obtain ⟨Y,hY⟩:∃ Y,vl l1 t = Y:=⟨_,rfl⟩
        rw [hY] at y0
        have HY:=jH hY
        clear hY
        by_cases hGY:G < Y
        ·have HD7:=jH (HE6.out.ds.set t G)
         obtain ⟨_,cc,hcc⟩:=HE6.out.ds.row.blk
         obtain ⟨q0,q1,q2,_⟩:=eb_cells (nbox_set (i:=t) (u:=.int .i64 G) HB6.out hcc (by decide))
         have hnh:nh1 < 3999999999999:=by have:=HE6.out.ds.wl.len_le hV; have:=HE6.out.ds.hp.len; omega
         clear hcc
         go_wp2_with fail
         refine (hpush_any bh w.heap.size gh1 nh1 cp1 t G H1 _ hnh HD7.out.hp).mono ?_
         rintro e w8 ⟨rfl,g8,c8,H8,h8⟩
         have HE8:=jH (HE6.out.push HC.out hs hV HEA.out HG.out (by rw [HY.out]; exact hGY) h8.out.1 h8.out.2.1 h8.out.2.2)
         clear h8 HD7 HE6 HB6 p0 p1 p2 y0 y1 q0 q1 q2
         go_wp2
         go_roundg (gk - 1)
         case measure => omega
         case rel => exact ⟨q + 1,_,H8,g8,nh1 + 1,c8,by go_num,by omega,HE8⟩
        ·have HE8:=jH (HE6.out.over HEA.out (by
          have e1:fr ((u:Int),(t:Int),z) = u:=by unfold fr; simp
          have e2:Pa.to ((u:Int),(t:Int),z) = t:=by unfold Pa.to; simp
          unfold gv
          rw [e1,e2,HE6.out.val,HG.out,HY.out]; omega))
         clear HE6 HB6
         go_wp2
         go_roundg (gk - 1)
         case measure => omega
         case rel => exact ⟨q + 1,l1,H1,gh1,nh1,cp1,by go_num,by omega,HE8⟩
       ·have HPN:Hid (Pend L l1 H1 []):=jH (by
         have h:=HE.out.pend
         rw [List.drop_eq_nil_of_le (by rw [<- HN2.out]; omega)] at h
         exact h)
        go_wp2
        go_roundg (wn l1 H1)
        case measure => have:=HWN.out; have:=HMS.out; have:=HE.out.num; omega
        case rel => exact ⟨l1,H1,nh1,gh1,cp1,jH rfl,jH ⟨HE.out.ds,HPN.out⟩⟩
open Go.RowKit Gr Wd Ws Fx Rk Lb Al
open Pa (vl bt vl_of vl_at bt_of bt_at Fits fits_of fr far)
def Ans (w w':World) (e:Ending) (l:List Int) (E:Int):Prop:=∃ v,e = .returned (.tuple #[v,.int .i64 E])/\Hid (NOwn w' 2 w.heap.size v l/\Below w.heap.size w w')
def LabR (V:Int) (L:List Ed) (l:List Int):Prop:=(chk V L = 0->LabC V.toNat L l)/\(chk V L ≠ 0->l = [])
def disE (V:Int) (L:List Ed) (s:Int):Int:=if chk V L = 0 then (if 0 <= s/\s < V then 0 else 2) else chk V L
def disL (V:Int) (L:List Ed) (s:Int):List Int:=if disE V L s = 0 then far V.toNat s.toNat L else []
theorem LabR.one {V:Int} {L:List Ed} {a b:List Int} (ha:LabR V L a) (hb:LabR V L b):a = b:=by
 by_cases h:chk V L = 0
 ·exact (ha.1 h).one (hb.1 h)
 ·rw [ha.2 h,hb.2 h]
theorem chk_v {V:Int} {L:List Ed} (h:chk V L = 0):∃ Vn:Nat,V = (Vn:Int)/\1 <= Vn/\Vn <= 512:=by
 obtain ⟨h1,h2,_,_,_⟩:=(chk_zero _ _).1 h
 exact ⟨V.toNat,by omega,by omega,by omega⟩
set_option maxRecDepth 100000 in
set_option maxHeartbeats 1000000 in
theorem Labels_any (V:Int) (A:Option Addr) (n c:Nat) (L:List Ed) (w:World) (hL:EAt w A L) (hn:L.length = n) (hm:n <= 100000) :
 Calls Tryz.prog 9 #[.agg #[.int .i64 V,.slice A n c]] w fun e w' => ∃ l,Ans w w' e l (chk V L)/\Hid (LabR V L l):=by
 have mixed:=mixedP
 have HL:=jH hL; have HN:=jH hn
 clear hL hn
 obtain ⟨W1,hW1⟩:∃ W1,W1 = w.alloc (.cells #[.int .i64 V,.slice A n c] 24):=⟨_,rfl⟩
 obtain ⟨b,hb⟩:∃ b,b = w.heap.size:=⟨_,rfl⟩
 have HB1:Hid (Below w.heap.size w W1):=jH (by rw [hW1]; exact (Below.refl _ w).alloc (Nat.le_refl _) _)
 have HX1:Hid (W1.heap[b]? = some (.cells #[.int .i64 V,.slice A n c] 24 (0,0))):=jH (by rw [hW1,hb]; exact heap_alloc_new w _)
 obtain ⟨g0,g1,_⟩:=two_cells HX1.out
 obtain ⟨E,hE⟩:∃ E,chk V L = E:=⟨_,rfl⟩
 have HC:=jH (check_any V A c L W1 (HL.out.below HB1.out) (by rw [HN.out]; omega))
 rw [HN.out,hE] at HC
 rw [hE]
 have HE:=jH hE; clear hE
 go_enter Tryz.func9,Tryz.ntmps9
 go_upto_region 1 with fail
 rw [<- hW1,show w.heap.size = b from hb.symm]
 have HBb:=jH hb
 clear hW1 hb
 go_wp2_with fail
 refine HC.out.mono ?_
 rintro e w2 ⟨rfl,hb2⟩
 have HB2:=jS HB1 hb2
 have HX2:=jK HX1 hb2
 clear hb2 g0 g1 HC HB1 HX1
 obtain ⟨g0,g1,_⟩:=two_cells HX2.out
 by_cases hE0:E = 0
 ·subst hE0
  obtain ⟨Vn,rfl,hV0,hV⟩:=chk_v HE.out
  have HC2:=jH (labels_any Vn A n c L w2 (HL.out.below HB2.out) HN.out hm hV hV0 HE.out)
  go_wp2_with fail
  refine HC2.out.mono ?_
  rintro e w3 ⟨v,l,rfl,h3⟩
  go_wp2
  go_ret2
  refine ⟨l,⟨v,rfl,jH ⟨h3.out.2.1.mono HB2.out.size,step_below HB2.out HB2.out.size h3.out.2.2⟩⟩,jH ⟨fun _ => ?_,fun h => absurd HE.out h⟩⟩
  rw [show (Vn:Int).toNat = Vn by simp]; exact h3.out.1
 ·go_wp2
  go_ret2
  exact ⟨[],⟨_,rfl,jH ⟨NOwn.none_ _ _ _,HB2.out⟩⟩,jH ⟨fun h => absurd (HE.out.symm.trans h) hE0,fun _ => rfl⟩⟩
set_option maxRecDepth 100000 in
set_option maxHeartbeats 1000000 in
theorem Distances_any (V s:Int) (A:Option Addr) (n c:Nat) (L:List Ed) (w:World) (hL:EAt w A L) (hn:L.length = n) (hm:n <= 100000) (hV40:chk V L = 0->V <= 40) :
 Calls Tryz.prog 13 #[.agg #[.int .i64 V,.slice A n c],.int .i64 s] w fun e w' => Ans w w' e (disL V L s) (disE V L s):=by
 have mixed:=mixedP
 have HL:=jH hL; have HN:=jH hn
 clear hL hn
 obtain ⟨W1,hW1⟩:∃ W1,W1 = w.alloc (.cells #[.int .i64 V,.slice A n c] 24):=⟨_,rfl⟩
 obtain ⟨b,hb⟩:∃ b,b = w.heap.size:=⟨_,rfl⟩
 have HB1:Hid (Below w.heap.size w W1):=jH (by rw [hW1]; exact (Below.refl _ w).alloc (Nat.le_refl _) _)
 have HX1:Hid (W1.heap[b]? = some (.cells #[.int .i64 V,.slice A n c] 24 (0,0))):=jH (by rw [hW1,hb]; exact heap_alloc_new w _)
 obtain ⟨g0,g1,_⟩:=two_cells HX1.out
 obtain ⟨E,hE⟩:∃ E,chk V L = E:=⟨_,rfl⟩
 have HC:=jH (check_any V A c L W1 (HL.out.below HB1.out) (by rw [HN.out]; omega))
 rw [HN.out,hE] at HC
 rw [hE] at hV40
 have HE:=jH hE; clear hE
 go_enter Tryz.func13,Tryz.ntmps13
 go_upto_region 1 with fail
 rw [<- hW1,show w.heap.size = b from hb.symm]
 have HBb:=jH hb
 clear hW1 hb
 go_wp2_with fail
 refine HC.out.mono ?_
 rintro e w2 ⟨rfl,hb2⟩
 have HB2:=jS HB1 hb2
 have HX2:=jK HX1 hb2
 clear hb2 g0 g1 HC HB1 HX1
 obtain ⟨g0,g1,_⟩:=two_cells HX2.out
 by_cases hE0:E = 0
 ·subst hE0
  obtain ⟨Vn,rfl,hV0,hV⟩:=chk_v HE.out
  have hV4:=hV40 rfl
  clear hV40
  by_cases hs:0 <= s/\s < (Vn:Int)
  ·obtain ⟨sn,rfl⟩:∃ sn:Nat,s = (sn:Int):=⟨s.toNat,by omega⟩
   have HD:Hid (disE (Vn:Int) L (sn:Int) = 0):=jH (by unfold disE; rw [if_pos HE.out,if_pos hs])
   have HDL:Hid (disL (Vn:Int) L (sn:Int) = far Vn sn L):=jH (by unfold disL; rw [if_pos HD.out]; simp)
   have hs1:(sn:Int) < (Vn:Int):=hs.2
   clear hs
   have HC2:=jH (distances_any Vn sn A n c L w2 (HL.out.below HB2.out) HN.out hm (by omega) (by omega) HE.out)
   go_wp2_with fail
   refine HC2.out.mono ?_
   rintro e w3 ⟨g,cp,rfl,h3⟩
   go_wp2
   go_ret2
   rw [HD.out,HDL.out]
   exact ⟨_,rfl,jH ⟨h3.out.1.mono HB2.out.size,step_below HB2.out HB2.out.size h3.out.2⟩⟩
  ·have HD:Hid (disE (Vn:Int) L s = 2):=jH (by unfold disE; rw [if_pos HE.out,if_neg hs])
   have HDL:Hid (disL (Vn:Int) L s = []):=jH (by unfold disL; rw [HD.out]; rfl)
   by_cases h0:s < 0
   ·clear hs
    go_wp2
    go_ret2
    rw [HD.out,HDL.out]
    exact ⟨_,rfl,jH ⟨NOwn.none_ _ _ _,HB2.out⟩⟩
   ·have h1:(Vn:Int) <= s:=by omega
    clear hs
    go_wp2
    go_ret2
    rw [HD.out,HDL.out]
    exact ⟨_,rfl,jH ⟨NOwn.none_ _ _ _,HB2.out⟩⟩
 ·have HD:Hid (disE V L s = E):=jH (by unfold disE; rw [if_neg (by rw [HE.out]; exact hE0),HE.out])
  have HDL:Hid (disL V L s = []):=jH (by unfold disL; rw [HD.out,if_neg hE0])
  go_wp2
  go_ret2
  rw [HD.out,HDL.out]
  exact ⟨_,rfl,jH ⟨NOwn.none_ _ _ _,HB2.out⟩⟩
end Go.Proofs.YtdcaekmgfcpbmaaGreat.Mn
