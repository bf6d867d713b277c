/-
  What is proved here: a contract of the document's Labels: the least vertices that hang together. Conditions: at most 100000 edges.
-/
import Derived.Test.YtdcaekmgfcpbmaaGreatQdMnPrx
import Derived.Test.YtdcaekmgfcpbmaaGreatQdMnBfsx
namespace Go.Proofs.YtdcaekmgfcpbmaaGreat.Mn
open Go.RowKit Gr Wd Ws Fx Rk Lb Al
open Pa (vl bt vl_of vl_at bt_of bt_at Fits fits_of fr)
theorem zeros (n:Nat):(madeCells (Value.int .i64 0).cells (n * 1)).toList = ints (List.replicate n 0):=by
 unfold madeCells ints
 apply List.ext_getElem?
 intro i
 rcases Nat.lt_or_ge i n with h | h
 ·simp [Value.cells,h,Nat.mod_one]
 ·simp [Value.cells,h]
def nts (l:List Nat):List Int:=l.map fun (x:Nat) => (x:Int)
theorem nts_len (l:List Nat):(nts l).length = l.length:=by unfold nts; simp
theorem nts_at {l:List Nat} {k x:Nat} (h:l[k]? = some x):vl (nts l) k = (x:Int):=vl_of (by unfold nts; rw [List.getElem?_map,h]; rfl)
structure FrH (w W:World) (b gl:Nat) (V:Nat) (S:Value) (l:List Int):Prop where
 below:Below w.heap.size w W
 gbox:W.heap[b]? = some (.cells #[.int .i64 (V:Int),S] 24 (0,0))
 row:NOwn W 2 w.heap.size (.slice (some ⟨gl,0,none⟩) V V) l
 len:l.length = V
theorem FrH.step {w W W':World} {b gl V:Nat} {S:Value} {l:List Int} (h:FrH w W b gl V S l) (hb:Below W.heap.size W W'):FrH w W' b gl V S l :=
 ⟨step_below h.below h.below.size hb,keepB h.gbox hb,h.row.below hb,h.len⟩
theorem FrH.set {w W:World} {b gl V:Nat} {S:Value} {l:List Int} (h:FrH w W b gl V S l) (k:Nat) (x:Int):FrH w (W.setCell ⟨gl,k,none⟩ (.int .i64 x)) b gl V S (l.set k x):=by
 obtain ⟨h1,c,hc⟩:=h.row.blk
 exact ⟨h.below.setCell (p:=⟨gl,k,none⟩) h1 _,nbox_set h.gbox hc (by decide),h.row.set h.len k x,by rw [List.length_set]; exact h.len⟩
structure BfH (w W:World) (b gl V:Nat) (S:Value) (p:List Int × List Nat) (vd:Value):Prop where
 fr:FrH w W b gl V S p.1
 todo:NOwn W 3 w.heap.size vd (nts p.2)
theorem BfH.step {w W W':World} {b gl V:Nat} {S vd:Value} {p:List Int × List Nat} (h:BfH w W b gl V S p vd) (hb:Below W.heap.size W W'):BfH w W' b gl V S p vd:=⟨h.fr.step hb,h.todo.below hb⟩
theorem BfH.set {w W:World} {b gl V:Nat} {S vd:Value} {p:List Int × List Nat} (h:BfH w W b gl V S p vd) (k:Nat) (x:Int) (o:Obj):BfH w ((W.setCell ⟨gl,k,none⟩ (.int .i64 x)).alloc o) b gl V S (p.1.set k x,p.2) vd:=by
 obtain ⟨h1,c,hc⟩:=h.fr.row.blk
 have h2:BfH w (W.setCell ⟨gl,k,none⟩ (.int .i64 x)) b gl V S (p.1.set k x,p.2) vd:=⟨h.fr.set k x,nown_set h.todo hc (by decide)⟩
 exact h2.step ((Below.refl _ _).alloc (Nat.le_refl _) o)
theorem BfH.more {w W W':World} {b gl V:Nat} {S vd vd':Value} {p:List Int × List Nat} {k:Nat} (h:BfH w W b gl V S p vd) (h':NOwn W' 3 w.heap.size vd' (nts p.2 ++ [(k:Int)])) (hg:W.grownBy W' vd.ownBlock):BfH w W' b gl V S (p.1,p.2 ++ [k]) vd' :=
 ⟨⟨h.fr.below.trans (nown_grown h.todo hg (Nat.le_refl _) h.fr.below.size),nbox_other h.fr.gbox h.todo (by decide) hg,nown_other h.fr.row h.todo (by decide) hg,h.fr.len⟩,by
  have e:nts (p.2 ++ [k]) = nts p.2 ++ [(k:Int)]:=by unfold nts; rw [List.map_append]; rfl
  rw [e]; exact h'⟩
theorem rowB_take {L:List Ed} {k v t:Nat} {p:List Int × List Nat} {e:Ed} (he:L[k]? = some e):rowB (L.take (k + 1)) v t p = edg v t (rowB (L.take k) v t p) e:=by
 rw [take_at he]; unfold rowB; rw [List.foldl_append]; rfl
theorem edg_at (v t f x:Nat) (z:Int) (p:List Int × List Nat):edg v t p ((f:Int),(x:Int),z) = put1 v t x f (put1 v t f x p):=by
 unfold edg fr Pa.to; simp
theorem put1_no {v t a b:Nat} {p:List Int × List Nat} (h:¬ (a = t/\vl p.1 b < 0)):put1 v t a b p = p:=by unfold put1; rw [if_neg h]
theorem put1_yes {v t a b:Nat} {p:List Int × List Nat} (h:a = t/\vl p.1 b < 0):put1 v t a b p = (p.1.set b (v:Int),p.2 ++ [b]):=by unfold put1; rw [if_pos h]
theorem new_set (W:World) (a:Addr) (u:Value) (o:Obj) (d:Nat):(((W.drewN d).setCell a u).alloc o).heap[W.heap.size]? = some o:=by
 have h:=heap_alloc_new ((W.drewN d).setCell a u) o
 rwa [show ((W.drewN d).setCell a u).heap.size = W.heap.size by simp [World.setCell]] at h
set_option maxRecDepth 100000 in
set_option maxHeartbeats 16000000 in
theorem rLabels_any (V:Int) (A:Option Addr) (n c:Nat) (L:List Ed) (w:World) (hL:EAt w A L) (hn:L.length = n) (hm:n <= 100000) :
 Calls Tryz.prog 10 #[.agg #[.int .i64 V,.slice A n c]] w fun e w' => ∃ l,Ans w w' e l (chk V L)/\Hid (LabR V L l):=by
 have mixed:=mixedP
 have HL:=jH hL; have HN:=jH hn
 clear hL hn
 obtain ⟨W1,hW1⟩:∃ W1,W1 = w.alloc (.cells #[.int .i64 V,.slice A n c] 24):=⟨_,rfl⟩
 obtain ⟨b,hb⟩:∃ b,b = w.heap.size:=⟨_,rfl⟩
 have HB1:Hid (Below w.heap.size w W1):=jH (by rw [hW1]; exact (Below.refl _ w).alloc (Nat.le_refl _) _)
 have HX1:Hid (W1.heap[b]? = some (.cells #[.int .i64 V,.slice A n c] 24 (0,0))):=jH (by rw [hW1,hb]; exact heap_alloc_new w _)
 obtain ⟨g0,g1,_⟩:=two_cells HX1.out
 obtain ⟨E,hE⟩:∃ E,chk V L = E:=⟨_,rfl⟩
 have HC:=jH (rcheck_any V A c L W1 (HL.out.below HB1.out) (by rw [HN.out]; omega))
 rw [HN.out,hE] at HC
 rw [hE]
 have HE:=jH hE; clear hE
 go_enter Tryz.func10,Tryz.ntmps10
 go_upto_region 1 with fail
 rw [<- hW1,show w.heap.size = b from hb.symm]
 have HBb:=jH hb
 clear hW1 hb
 go_wp2_with fail
 refine HC.out.mono ?_
 rintro e w2 ⟨rfl,hb2⟩
 have HB2:=jS HB1 hb2
 have HX2:=jK HX1 hb2
 clear hb2 g0 g1 HC HB1 HX1
 obtain ⟨g0,g1,_⟩:=two_cells HX2.out
 by_cases hE0:E = 0
 ·subst hE0
  obtain ⟨Vn,rfl,hV0,hV⟩:=chk_v HE.out
  obtain ⟨i0,hi,hz0,hz1,hz2⟩:=info_parts info2
  obtain ⟨W3,hmk,hown3,hg3⟩:=run_make_full (P:=Tryz.prog) (w:=w2) w.heap.size 27 2 i0 _ 1 Tryz.underlying27 hi hz0 hz1 .i64 .i64 Vn (by rw [hz2]; omega) (by unfold maxLen; omega) HB2.out.size
  rw [zeros] at hown3
  have hb3:Below w2.heap.size w2 W3:=⟨hg3.os,hg3.tape,hg3.output,hg3.size,fun i hi => hg3.block i hi nofun⟩
  obtain ⟨gl,hgl⟩:∃ g,g = w2.heap.size:=⟨_,rfl⟩
  rw [<- hgl] at hmk hown3
  have HF3:Hid (FrH w W3 b gl Vn (.slice A n c) (List.replicate Vn 0)):=jH ⟨step_below HB2.out HB2.out.size hb3,keepB HX2.out hb3,by unfold NOwn; rw [List.length_replicate]; exact hown3,by simp⟩
  clear hown3 hg3 hb3 hi hz0 hz1 hz2 hgl
  go_upto_region 5 with fail
  clear hmk g0 g1 HX2 HB2
  go_wp2_with fail
  go_loopg [6] Vn (fun gk iv wr => ∃ (k:Nat) (l:List Int),iv = .int .i64 (k:Int)/\k + gk = Vn/\Hid (FrH w wr b gl Vn (.slice A n c) l/\∀ j,j < k->vl l j = -1))
  case atStart => exact ⟨0,_,rfl,by omega,jH ⟨HF3.out,fun j hj => by omega⟩⟩
  case round =>
   clear HF3
   obtain ⟨k,l,rfl,hk,HF⟩:=hrel
   obtain ⟨g0,g1,_⟩:=two_cells HF.out.1.gbox
   by_cases hlt:k < Vn
   ·obtain ⟨y0,y1⟩:=HF.out.1.row.at_ HF.out.1.len hlt
    have HF2:=jH (HF.out.1.set k (-1))
    have HV2:Hid (∀ j,j < k + 1->vl (l.set k (-1)) j = -1):=jH (fun j hj => by
     rw [Pa.vl_set _ _ _ _ (by rw [HF.out.1.len]; exact hlt)]
     split
     ·rfl
     ·exact HF.out.2 j (by omega))
    go_wp2
    go_roundg (gk - 1)
    case measure => omega
    case rel => exact ⟨k + 1,_,by go_num,by omega,jH ⟨HF2.out,HV2.out⟩⟩
   ·have hkv:k = Vn:=by omega
    subst hkv
    have HL0:Hid (FrH w wr b gl k (.slice A n c) l/\Lb0 k L 0 l):=jH ⟨HF.out.1,by
     have e:l = List.replicate k (-1):=Pa.vl_ext (by rw [HF.out.1.len]; simp) fun j hj => by
      rw [HF.out.1.len] at hj
      rw [HF.out.2 j hj]
      exact (vl_of (by rw [List.getElem?_replicate,if_pos hj])).symm
     rw [e]; exact lb0_start k L (fits_of HE.out)⟩
    clear HF
    go_wp2_with fail
    clear g0 g1
    obtain ⟨G0,rfl⟩:∃ G0:Nat,G0 = gk:=⟨_,rfl⟩
    obtain ⟨Vn,rfl⟩:∃ V,V = k:=⟨_,rfl⟩
    go_loopg [7] Vn (fun gk iv wr => ∃ (v:Nat) (l:List Int),iv = .int .i64 (v:Int)/\v + gk = Vn/\Hid (FrH w wr b gl Vn (.slice A n c) l/\Lb0 Vn L v l))
    case atStart => exact ⟨0,_,rfl,by omega,HL0⟩
    case round =>
     clear HL0
     obtain ⟨v,l,rfl,hv,HF⟩:=hrel
     obtain ⟨g0,g1,_⟩:=two_cells HF.out.1.gbox
     by_cases hlt:v < Vn
     ·obtain ⟨y0,y1⟩:=HF.out.1.row.at_ HF.out.1.len hlt
      obtain ⟨Y,hY⟩:∃ Y,vl l v = Y:=⟨_,rfl⟩
      rw [hY] at y0
      have HY:=jH hY; clear hY
      by_cases hY0:0 <= Y
      ·have HS:=jH (lb0_skip HF.out.2 (by rw [HY.out]; exact hY0))
       go_wp2
       go_roundg (gk - 1)
       case measure => omega
       case rel => exact ⟨v + 1,l,by go_num,by omega,jH ⟨HF.out.1,HS.out⟩⟩
      ·have HBS:=jH (bf_start HF.out.2 hlt (by rw [HY.out]; omega))
       obtain ⟨gt,hgt⟩:∃ g,g = wr.heap.size:=⟨_,rfl⟩
       obtain ⟨W4,hW4⟩:∃ W4,W4 = wr.alloc (.cells #[.int .i64 (v:Int)] 3):=⟨_,rfl⟩
       have hb4:Below wr.heap.size wr W4:=by rw [hW4]; exact (Below.refl _ wr).alloc (Nat.le_refl _) _
       have ht4:NOwn W4 3 w.heap.size (.slice (some ⟨gt,0,none⟩) 1 1) (nts [v]):=⟨rfl,Or.inr ⟨gt,1,_,rfl,by rw [hgt]; exact HF.out.1.below.size,by rw [hW4,hgt]; exact heap_alloc_new wr _,Nat.le_refl _,by decide,rfl,rfl⟩⟩
       have HF4:=jH (HF.out.1.step hb4)
       obtain ⟨u0,u1⟩:=HF4.out.row.at_ HF4.out.len hlt
       have HB5:Hid (BfH w (W4.setCell ⟨gl,v,none⟩ (.int .i64 (v:Int))) b gl Vn (.slice A n c) (l.set v (v:Int),[v]) (.slice (some ⟨gt,0,none⟩) 1 1)):=jH (by
        obtain ⟨_,cc,hcc⟩:=HF4.out.row.blk
        exact ⟨HF4.out.set v _,nown_set ht4 hcc (by decide)⟩)
       have HW4:=jH hW4; have HGT:=jH hgt
       clear hW4 hgt hb4 ht4
       go_upto_region 14 with fail
       rw [<- HGT.out,<- HW4.out]
       clear HW4 HGT y0 y1 g0 g1 HF4
       go_upto_region 15 with fail
       clear u0 u1
       go_wp2_with fail
       obtain ⟨G1,rfl⟩:∃ G1:Nat,G1 = gk:=⟨_,rfl⟩
       go_loopg [8,9] Vn (fun gk vd iv wr => ∃ (i nd cd:Nat) (Ad:Option Addr) (p:List Int × List Nat),iv = .int .i64 (i:Int)/\vd = .slice Ad nd cd/\i + gk = Vn/\p.2.length = nd/\nd <= Vn/\i <= nd/\Hid (BfH w wr b gl Vn (.slice A n c) p (.slice Ad nd cd)/\Bf Vn L v l p/\Gone L i p/\v ∈ p.2))
       case atStart => exact ⟨0,_,_,_,_,rfl,rfl,by omega,rfl,by omega,by omega,jH ⟨HB5.out,HBS.out,fun j t hj => by omega,by simp⟩⟩
       case round =>
        clear HB5 HBS
        obtain ⟨i,nd,cd,Ad,p,rfl,rfl,hi,hnd,hndV,hind,HB⟩:=hrel
        obtain ⟨g0,g1,_⟩:=two_cells HB.out.1.fr.gbox
        by_cases hlt2:i < nd
        ·obtain ⟨t,ht⟩:∃ t,p.2[i]? = some t:=⟨_,List.getElem?_eq_getElem (by rw [hnd]; exact hlt2)⟩
         have HT:=jH ht
         have HGN:=jH (gone_next (fits_of HE.out) HB.out.2.1 HB.out.2.2.1 ht)
         have HTM:=jH (List.mem_of_getElem? ht)
         clear ht
         have HPN:=jH hnd
         clear hnd
         go_wp2_with fail
         clear g0 g1
         obtain ⟨G2,rfl⟩:∃ G2:Nat,G2 = gk:=⟨_,rfl⟩
         go_loopg [8,10] n (fun gk vd iv wr => ∃ (k nz cq:Nat) (Aq:Option Addr) (q:List Int × List Nat),iv = .int .i64 (k:Int)/\vd = .slice Aq nz cq/\k + gk = n/\q.2.length = nz/\nz <= Vn/\i < nz/\Hid (BfH w wr b gl Vn (.slice A n c) q (.slice Aq nz cq)/\Bf Vn L v l q/\q = rowB (L.take k) v t p/\q.2[i]? = some t))
         case atStart => exact ⟨0,_,_,_,p,rfl,rfl,by omega,HPN.out,hndV,hlt2,jH ⟨HB.out.1,HB.out.2.1,by simp [rowB],HT.out⟩⟩
         case round =>
          obtain ⟨k,nz,cq,Aq,q,rfl,rfl,hk,hnq,hnqV,hinq,HQ⟩:=hrel
          obtain ⟨g0,g1,_⟩:=two_cells HQ.out.1.fr.gbox
          by_cases hlt3:k < n
          ·obtain ⟨f,x,z,he,hf,hx⟩:=edge_at HE.out (show k < L.length by rw [HN.out]; exact hlt3)
           obtain ⟨bk,o,rfl,c0,c1,_⟩:=(HL.out.below HQ.out.1.fr.below) k _ he
           have HNX:Hid (rowB (L.take (k + 1)) v t p = put1 v t x f (put1 v t f x q)):=jH (by rw [rowB_take he,<- HQ.out.2.2.1,edg_at])
           have HP1:=jH (put1_ok HQ.out.2.1 (t:=t) (a:=f) (b:=x) (List.mem_of_getElem? HQ.out.2.2.2) hx (fun e => by rw [<- e]; exact (show Con L f x from by
            have h:=Con.fwd (u:=f) (List.mem_of_getElem? he) (by unfold fr; simp; exact .refl)
            have e2:Pa.to ((f:Int),(x:Int),z) = x:=by unfold Pa.to; simp
            rw [e2] at h; exact h)))
           have HCX:Hid (Con L x f):=jH (by
            have h:=Con.bwd (u:=x) (List.mem_of_getElem? he) (by unfold Pa.to; simp; exact .refl)
            have e2:fr ((f:Int),(x:Int),z) = f:=by unfold fr; simp
            rw [e2] at h; exact h)
           clear he
           obtain ⟨ad,av,hAd,_⟩:=HQ.out.1.todo.form
           have hlen2:(nts q.2).length = nz:=by rw [nts_len]; exact hnq
           obtain ⟨gq,cqq,hvq,_⟩:=HQ.out.1.todo.some_ (by rw [hlen2]; omega)
           rw [hlen2] at hvq
           cases hvq
           obtain ⟨t0,_⟩:=HQ.out.1.todo.at_ hlen2 hinq
           rw [nts_at HQ.out.2.2.2] at t0
           obtain ⟨l0,l1⟩:=HQ.out.1.fr.row.at_ HQ.out.1.fr.len hx
           obtain ⟨m0,m1⟩:=HQ.out.1.fr.row.at_ HQ.out.1.fr.len hf
           obtain ⟨X,hX⟩:∃ X,vl q.1 x = X:=⟨_,rfl⟩
           rw [hX] at l0
           clear hAd hlen2
           obtain ⟨M,hM⟩:∃ M,vl q.1 f = M:=⟨_,rfl⟩
           rw [hM] at m0
           have HX:=jH hX; have HM:=jH hM
           clear hX hM
           have HQ5:=fun d => jH (HQ.out.1.step (Ws.below_drewN (Below.refl _ wr) d))
           have HB6:=jH HQ.out.2.1; have HI6:=jH HQ.out.2.2.2
           clear HQ HB HGN HTM
           by_cases hC:f = t/\X < 0
           ·have HY1:Hid (put1 v t f x q = (q.1.set x (v:Int),q.2 ++ [x])):=jH (put1_yes ⟨hC.1,by rw [HX.out]; exact hC.2⟩)
            obtain ⟨hft,hX0⟩:=hC
            subst hft
            have HS:=fun d => jH ((HQ5 d).out.set x (v:Int) (.cells #[.int .i64 (x:Int)] 3))
            have HMM:=fun d => jH (new_set wr ⟨gl,x,none⟩ (.int .i64 (v:Int)) (.cells #[.int .i64 (x:Int)] 3) d)
            have HLL:Hid ((nts q.2).length < 1000000000):=jH (by rw [nts_len]; omega)
            have HNQ:=jH hnq
            clear hnq
            go_wp2_with fail
            go_quiet (fail)
            go_wp2_with (at_builtin; refine app_n rfl (.tmp 89) (.tmp 91) 57 3 rfl Tryz.underlying57 info3 w.heap.size _ (nts q.2) (x:Int) rfl (HS _).out.todo _ rfl (HMM _).out HLL.out (HS _).out.fr.below.size ?_)
            intro v2 w6 ho2 hg2
            obtain ⟨A7,c7,rfl,_⟩:=ho2.form
            have HR:=jH ((HS _).out.more ho2 hg2)
            obtain ⟨n7,hn7⟩:∃ n7,n7 = (nts q.2 ++ [(x:Int)]).length:=⟨_,rfl⟩
            rw [<- hn7] at HR ⊢
            have hn8:n7 = nz + 1:=by rw [hn7,List.length_append,nts_len,HNQ.out]; rfl
            clear ho2 hg2 HS HMM HLL HQ5 hn7 c0 c1 l0 l1 m0 m1 t0 g0 g1
            subst hn8
            have hlr:(nts (q.2 ++ [x])).length = nz + 1:=by rw [nts_len,List.length_append,HNQ.out]; rfl
            obtain ⟨gr,crr,hvr,_⟩:=HR.out.todo.some_ (by rw [hlr]; omega)
            rw [hlr] at hvr
            cases hvr
            have hir:(q.2 ++ [x])[i]? = some f:=by rw [List.getElem?_append_left (by rw [HNQ.out]; exact hinq)]; exact HI6.out
            have HIR:=jH hir
            obtain ⟨t0,_⟩:=HR.out.todo.at_ hlr (show i < nz + 1 by omega)
            rw [nts_at hir] at t0
            obtain ⟨m0,m1⟩:=HR.out.fr.row.at_ HR.out.fr.len hf
            have HBR:Hid (Bf Vn L v l (q.1.set x (v:Int),q.2 ++ [x])):=jH (by rw [<- HY1.out]; exact HP1.out.1)
            have hfew:nz + 1 <= Vn:=by
             have:=bf_few HBR.out
             simp only [List.length_append,HNQ.out,List.length_singleton] at this
             exact this
            have HLEN:Hid ((q.2 ++ [x]).length = nz + 1):=jH (by rw [List.length_append,HNQ.out]; rfl)
            clear hir hlr
            by_cases hxf:x = f
            ·have hM2:vl (q.1.set x (v:Int)) f = (v:Int):=by rw [Pa.vl_set _ _ _ _ (by have:=HB6.out.len; omega),if_pos hxf]
             rw [hM2] at m0
             have HRW:Hid ((q.1.set x (v:Int),q.2 ++ [x]) = rowB (L.take (k + 1)) v f p):=jH (by
              rw [HNX.out,HY1.out,put1_no (fun h => by have h2:=h.2; simp only [] at h2; rw [hM2] at h2; omega)])
             clear hM2
             subst hxf
             go_wp2
             go_roundg (gk - 1)
             case measure => omega
             case rel => exact ⟨k + 1,_,_,_,(q.1.set x (v:Int),q.2 ++ [x]),by go_num,rfl,by omega,HLEN.out,hfew,by omega,jH ⟨HR.out,HBR.out,HRW.out,HIR.out⟩⟩
            ·have HRW:Hid ((q.1.set x (v:Int),q.2 ++ [x]) = rowB (L.take (k + 1)) v f p):=jH (by
              rw [HNX.out,HY1.out,put1_no (fun h => hxf h.1)])
             have hne:((x:Int) = (f:Int)) = False:=by simp; omega
             go_wp2
             go_roundg (gk - 1)
             case measure => omega
             case rel => exact ⟨k + 1,_,_,_,(q.1.set x (v:Int),q.2 ++ [x]),by go_num,rfl,by omega,HLEN.out,hfew,by omega,jH ⟨HR.out,HBR.out,HRW.out,HIR.out⟩⟩
           ·have HY1:Hid (put1 v t f x q = q):=jH (put1_no (fun h => hC ⟨h.1,by rw [<- HX.out]; exact h.2⟩))
            by_cases hD:x = t/\M < 0
            ·have HY2:Hid (put1 v t x f q = (q.1.set f (v:Int),q.2 ++ [f])):=jH (put1_yes ⟨hD.1,by rw [HM.out]; exact hD.2⟩)
             have HBQ:=jH (put1_ok HB6.out (t:=t) (a:=x) (b:=f) (List.mem_of_getElem? HI6.out) hf (fun e => by rw [<- e]; exact HCX.out)).1
             rw [HY2.out] at HBQ
             obtain ⟨hxt,hM0⟩:=hD
             subst hxt
             have hfx:¬ f = x:=fun e => hC ⟨e,by rw [<- HX.out,<- e,HM.out]; exact hM0⟩
             have hne:((f:Int) = (x:Int)) = False:=by simp; omega
             have HS:=fun d => jH ((HQ5 d).out.set f (v:Int) (.cells #[.int .i64 (f:Int)] 3))
             have HMM:=fun d => jH (new_set wr ⟨gl,f,none⟩ (.int .i64 (v:Int)) (.cells #[.int .i64 (f:Int)] 3) d)
             have HLL:Hid ((nts q.2).length < 1000000000):=jH (by rw [nts_len]; omega)
             have HNQ:=jH hnq
             have HRW:Hid ((q.1.set f (v:Int),q.2 ++ [f]) = rowB (L.take (k + 1)) v x p):=jH (by rw [HNX.out,HY1.out,HY2.out])
             clear hnq hC hfx
             go_wp2_with fail
             go_quiet (fail)
             go_wp2_with (at_builtin; refine app_n rfl (.tmp 110) (.tmp 112) 57 3 rfl Tryz.underlying57 info3 w.heap.size _ (nts q.2) (f:Int) rfl (HS _).out.todo _ rfl (HMM _).out HLL.out (HS _).out.fr.below.size ?_)
             intro v2 w6 ho2 hg2
             obtain ⟨A7,c7,rfl,_⟩:=ho2.form
             have HR:=jH ((HS _).out.more ho2 hg2)
             obtain ⟨n7,hn7⟩:∃ n7,n7 = (nts q.2 ++ [(f:Int)]).length:=⟨_,rfl⟩
             rw [<- hn7] at HR ⊢
             have HN8:Hid (n7 = nz + 1):=jH (by rw [hn7,List.length_append,nts_len,HNQ.out]; rfl)
             clear ho2 hg2 HS HMM HLL HQ5 hn7 c0 c1 l0 l1 m0 m1 t0 g0 g1
             have HIR:Hid ((q.2 ++ [f])[i]? = some x):=jH (by rw [List.getElem?_append_left (by rw [HNQ.out]; exact hinq)]; exact HI6.out)
             have HLEN:Hid ((q.2 ++ [f]).length = n7):=jH (by rw [List.length_append,HNQ.out,HN8.out]; rfl)
             have HFEW:Hid (n7 <= Vn):=jH (by
              have:=bf_few HBQ.out
              rw [HLEN.out] at this
              exact this)
             go_wp2
             go_roundg (gk - 1)
             case measure => omega
             case rel => exact ⟨k + 1,_,_,_,(q.1.set f (v:Int),q.2 ++ [f]),by go_num,rfl,by omega,HLEN.out,HFEW.out,by rw [HN8.out]; omega,jH ⟨HR.out,HBQ.out,HRW.out,HIR.out⟩⟩
            ·have HRW:Hid (q = rowB (L.take (k + 1)) v t p):=jH (by rw [HNX.out,HY1.out,put1_no (fun h => hD ⟨h.1,by rw [<- HM.out]; exact h.2⟩)])
             have HNQ:=jH hnq
             clear hnq HY1
             by_cases hft:f = t
             ·subst hft
              have hX0:0 <= X:=by
               apply Classical.byContradiction; intro h
               exact hC ⟨rfl,by omega⟩
              by_cases hxt:x = f
              ·subst hxt
               have hM0:0 <= M:=by
                apply Classical.byContradiction; intro h
                exact hD ⟨rfl,by omega⟩
               clear hC hD
               go_wp2_with fail
               go_quiet (fail)
               go_wp2
               go_roundg (gk - 1)
               case measure => omega
               case rel => exact ⟨k + 1,_,_,_,q,by go_num,rfl,by omega,HNQ.out,hnqV,hinq,jH ⟨(HQ5 _).out,HB6.out,HRW.out,HI6.out⟩⟩
              ·have hne:((x:Int) = (f:Int)) = False:=by simp; omega
               clear hC hD
               go_wp2_with fail
               go_quiet (fail)
               go_wp2
               go_roundg (gk - 1)
               case measure => omega
               case rel => exact ⟨k + 1,_,_,_,q,by go_num,rfl,by omega,HNQ.out,hnqV,hinq,jH ⟨(HQ5 _).out,HB6.out,HRW.out,HI6.out⟩⟩
             ·have hne1:((f:Int) = (t:Int)) = False:=by simp; omega
              by_cases hxt:x = t
              ·subst hxt
               have hM0:0 <= M:=by
                apply Classical.byContradiction; intro h
                exact hD ⟨rfl,by omega⟩
               clear hC hD
               go_wp2_with fail
               go_quiet (fail)
               go_wp2
               go_roundg (gk - 1)
               case measure => omega
               case rel => exact ⟨k + 1,_,_,_,q,by go_num,rfl,by omega,HNQ.out,hnqV,hinq,jH ⟨(HQ5 _).out,HB6.out,HRW.out,HI6.out⟩⟩
              ·have hne:((x:Int) = (t:Int)) = False:=by simp; omega
               clear hC hD
               go_wp2_with fail
               go_quiet (fail)
               go_wp2
               go_roundg (gk - 1)
               case measure => omega
               case rel => exact ⟨k + 1,_,_,_,q,by go_num,rfl,by omega,HNQ.out,hnqV,hinq,jH ⟨(HQ5 _).out,HB6.out,HRW.out,HI6.out⟩⟩
          ·have hk2:k = n:=by omega
           have HNQ:=jH hnq
           have HRB:Hid (q = rowB L v t p):=jH (by rw [HQ.out.2.2.1,hk2,<- HN.out,List.take_length])
           have HG3:Hid (Gone L (i + 1) q/\v ∈ q.2):=jH (by
            rw [HRB.out]
            exact ⟨HGN.out.2.2,HGN.out.2.1.mem HB.out.2.2.2⟩)
           clear hnq hk2 HB
           go_wp2
           go_roundg (G2 - 1)
           case measure => omega
           case rel => exact ⟨i + 1,_,_,_,q,by go_num,rfl,by omega,HNQ.out,hnqV,by omega,jH ⟨HQ.out.1,HQ.out.2.1,HG3.out.1,HG3.out.2⟩⟩
        ·have HND:=jH hnd
         have HLN:=jH (lb0_next (fits_of HE.out) HF.out.2 hlt HB.out.2.1 HB.out.2.2.2 (by
          have h:=HB.out.2.2.1
          rw [show i = p.2.length by omega] at h; exact h))
         clear hnd
         go_wp2
         go_roundg (G1 - 1)
         case measure => omega
         case rel => exact ⟨v + 1,p.1,by go_num,by omega,jH ⟨HB.out.1.fr,HLN.out⟩⟩
     ·have HVV:Hid (v = Vn):=jH (by omega)
      go_wp2
      go_ret2
      refine ⟨l,⟨_,rfl,jH ⟨HF.out.1.row,HF.out.1.below⟩⟩,jH ⟨fun _ => ?_,fun h => absurd HE.out h⟩⟩
      have h:=HF.out.2
      rw [HVV.out] at h
      rw [show (Vn:Int).toNat = Vn by simp]; exact lb0_done h
 ·go_wp2
  go_ret2
  exact ⟨[],⟨_,rfl,jH ⟨NOwn.none_ _ _ _,HB2.out⟩⟩,jH ⟨fun h => absurd (HE.out.symm.trans h) hE0,fun _ => rfl⟩⟩
end Go.Proofs.YtdcaekmgfcpbmaaGreat.Mn
