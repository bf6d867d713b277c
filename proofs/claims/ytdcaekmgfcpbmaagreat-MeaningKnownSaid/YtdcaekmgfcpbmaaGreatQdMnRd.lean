/-
  What is proved here: a contract of the document's Distances: the least sums. Conditions: at most 100000 edges.
-/
import Derived.Test.YtdcaekmgfcpbmaaGreatQdMnRl
namespace Go.Proofs.YtdcaekmgfcpbmaaGreat.Mn
open Go.RowKit Gr Wd Ws Fx Rk Lb Al
open Pa (vl bt vl_of vl_at bt_of bt_at Fits fits_of fr far rlxA)
open Sq (outE)
def BOw (w:World) (B:Nat) (v:Value) (r:List Bool):Prop:=w.ownsRow B 4 1 v r.length (r.map Value.bool)
theorem BOw.below {w w':World} {B:Nat} {v:Value} {r:List Bool} (h:BOw w B v r) (hb:Below w.heap.size w w'):BOw w' B v r:=own_below h hb
theorem BOw.at_ {w:World} {B g cp:Nat} {r:List Bool} {n:Nat} (hn:r.length = n) (h:BOw w B (.slice (some ⟨g,0,none⟩) n cp) r) {k:Nat} (hk:k < n):w.cell? ⟨g,k,none⟩ = some (.bool (bt r k))/\w.frozen? ⟨g,k,none⟩ = false:=by
 subst hn
 refine ⟨?_,World.ownsRow.frozenAt h k⟩
 rw [World.ownsRow.cellAt h k (by omega),List.getElem?_map,bt_at hk]; rfl
theorem BOw.set {w:World} {B g cp:Nat} {r:List Bool} {n:Nat} (hn:r.length = n) (h:BOw w B (.slice (some ⟨g,0,none⟩) n cp) r) (k:Nat) (x:Bool):BOw (w.setCell ⟨g,k,none⟩ (.bool x)) B (.slice (some ⟨g,0,none⟩) n cp) (r.set k x):=by
 subst hn
 have:=(World.ownsRow.stored h k (.bool x)).1
 unfold BOw
 rw [List.length_set,List.map_set]; exact this
theorem info4:(Tryz.prog.info? 4).map (fun i => (i.zero,i.size,i.bytes)) = some (some (.bool false),1,1):=by kernel_rfl
theorem falses (n:Nat):(madeCells (Value.bool false).cells (n * 1)).toList = (List.replicate n false).map Value.bool:=by
 unfold madeCells
 apply List.ext_getElem?
 intro i
 rcases Nat.lt_or_ge i n with h | h
 ·simp [Value.cells,h,Nat.mod_one]
 ·simp [Value.cells,h]
structure DrH (w W:World) (b gl gd V:Nat) (S:Value) (l:List Int) (d:List Bool):Prop where
 fr:FrH w W b gl V S l
 mks:BOw W w.heap.size (.slice (some ⟨gd,0,none⟩) V V) d
 len:d.length = V
theorem DrH.step {w W W':World} {b gl gd V:Nat} {S:Value} {l:List Int} {d:List Bool} (h:DrH w W b gl gd V S l d) (hb:Below W.heap.size W W'):DrH w W' b gl gd V S l d:=⟨h.fr.step hb,h.mks.below hb,h.len⟩
theorem DrH.set {w W:World} {b gl gd V:Nat} {S:Value} {l:List Int} {d:List Bool} (h:DrH w W b gl gd V S l d) (k:Nat) (x:Int):DrH w (W.setCell ⟨gl,k,none⟩ (.int .i64 x)) b gl gd V S (l.set k x) d:=by
 obtain ⟨h1,c,hc⟩:=h.fr.row.blk
 exact ⟨h.fr.set k x,nown_set h.mks hc (by decide),h.len⟩
theorem DrH.mark {w W:World} {b gl gd V:Nat} {S:Value} {l:List Int} {d:List Bool} (h:DrH w W b gl gd V S l d) (k:Nat):DrH w (W.setCell ⟨gd,k,none⟩ (.bool true)) b gl gd V S l (d.set k true):=by
 obtain ⟨h1,c,hc⟩:=own_lt h.mks gd rfl
 exact ⟨⟨h.fr.below.setCell (p:=⟨gd,k,none⟩) h1 _,nbox_set h.fr.gbox hc (by decide),nown_set h.fr.row hc (by decide),h.fr.len⟩,h.mks.set h.len k true,by rw [List.length_set]; exact h.len⟩
theorem near_no {l:List Int} {d:List Bool} {k:Nat} (h:¬ (bt d k = false/\(nearest l d k < 0\/vl l k < vl l (nearest l d k).toNat))):nearest l d (k + 1) = nearest l d k:=by rw [nearest,if_neg h]
theorem near_yes {l:List Int} {d:List Bool} {k:Nat} (h:bt d k = false/\(nearest l d k < 0\/vl l k < vl l (nearest l d k).toNat)):nearest l d (k + 1) = (k:Int):=by rw [nearest,if_pos h]
theorem rlx_take {M:List Ed} {q:Nat} {l:List Int} {u t:Nat} {z:Int} (he:M[q]? = some ((u:Int),(t:Int),z)):rlxA (M.take (q + 1)) l = (rlxA (M.take q) l).set t (min (vl (rlxA (M.take q) l) t) (addI (vl (rlxA (M.take q) l) u) z)):=by
 rw [take_at he]
 show List.foldl Pa.rlx l (M.take q ++ [_]) = _
 rw [List.foldl_append]
 show Pa.rlx (rlxA (M.take q) l) ((u:Int),(t:Int),z) = _
 have e1:fr ((u:Int),(t:Int),z) = u:=by unfold fr; simp
 have e2:Pa.to ((u:Int),(t:Int),z) = t:=by unfold Pa.to; simp
 unfold Pa.rlx Pa.gv
 rw [e1,e2]
set_option maxRecDepth 100000 in
set_option maxHeartbeats 16000000 in
theorem rDistances_any (V s:Int) (A:Option Addr) (n c:Nat) (L:List Ed) (w:World) (hL:EAt w A L) (hn:L.length = n) (hm:n <= 100000) :
 Calls Tryz.prog 14 #[.agg #[.int .i64 V,.slice A n c],.int .i64 s] w fun e w' => Ans w w' e (disL V L s) (disE V L s):=by
 have mixed:=mixedP
 have HL:=jH hL; have HN:=jH hn
 clear hL hn
 obtain ⟨W1,hW1⟩:∃ W1,W1 = w.alloc (.cells #[.int .i64 V,.slice A n c] 24):=⟨_,rfl⟩
 obtain ⟨b,hb⟩:∃ b,b = w.heap.size:=⟨_,rfl⟩
 have HB1:Hid (Below w.heap.size w W1):=jH (by rw [hW1]; exact (Below.refl _ w).alloc (Nat.le_refl _) _)
 have HX1:Hid (W1.heap[b]? = some (.cells #[.int .i64 V,.slice A n c] 24 (0,0))):=jH (by rw [hW1,hb]; exact heap_alloc_new w _)
 obtain ⟨g0,g1,_⟩:=two_cells HX1.out
 obtain ⟨E,hE⟩:∃ E,chk V L = E:=⟨_,rfl⟩
 have HC:=jH (rcheck_any V A c L W1 (HL.out.below HB1.out) (by rw [HN.out]; omega))
 rw [HN.out,hE] at HC
 have HE:=jH hE; clear hE
 go_enter Tryz.func14,Tryz.ntmps14
 go_upto_region 1 with fail
 rw [<- hW1,show w.heap.size = b from hb.symm]
 have HBb:=jH hb
 clear hW1 hb
 go_wp2_with fail
 refine HC.out.mono ?_
 rintro e w2 ⟨rfl,hb2⟩
 have HB2:=jS HB1 hb2
 have HX2:=jK HX1 hb2
 clear hb2 g0 g1 HC HB1 HX1
 obtain ⟨g0,g1,_⟩:=two_cells HX2.out
 by_cases hE0:E = 0
 ·subst hE0
  obtain ⟨Vn,rfl,hV0,hV⟩:=chk_v HE.out
  by_cases hs:0 <= s/\s < (Vn:Int)
  ·obtain ⟨sn,rfl⟩:∃ sn:Nat,s = (sn:Int):=⟨s.toNat,by omega⟩
   have HD:Hid (disE (Vn:Int) L (sn:Int) = 0):=jH (by unfold disE; rw [if_pos HE.out,if_pos hs])
   have HDL:Hid (disL (Vn:Int) L (sn:Int) = far Vn sn L):=jH (by unfold disL; rw [if_pos HD.out]; simp)
   have hs1:sn < Vn:=by omega
   clear hs
   obtain ⟨i0,hi,hz0,hz1,hz2⟩:=info_parts info2
   obtain ⟨W3,hmk,hown3,hg3⟩:=run_make_full (P:=Tryz.prog) (w:=w2) w.heap.size 27 2 i0 _ 1 Tryz.underlying27 hi hz0 hz1 .i64 .i64 Vn (by rw [hz2]; omega) (by unfold maxLen; omega) HB2.out.size
   rw [zeros] at hown3
   have hb3:Below w2.heap.size w2 W3:=⟨hg3.os,hg3.tape,hg3.output,hg3.size,fun i hi => hg3.block i hi nofun⟩
   obtain ⟨gl,hgl⟩:∃ g,g = w2.heap.size:=⟨_,rfl⟩
   rw [<- hgl] at hmk hown3
   have HF3:Hid (FrH w W3 b gl Vn (.slice A n c) (List.replicate Vn 0)):=jH ⟨step_below HB2.out HB2.out.size hb3,keepB HX2.out hb3,by unfold NOwn; rw [List.length_replicate]; exact hown3,by simp⟩
   clear hown3 hg3 hb3 hi hz0 hz1 hz2 hgl i0
   go_upto_region 8 with fail
   clear hmk g0 g1 HX2 HB2
   obtain ⟨g0,g1,_⟩:=two_cells HF3.out.gbox
   obtain ⟨i0,hi,hz0,hz1,hz2⟩:=info_parts info4
   obtain ⟨W4,hmk,hown4,hg4⟩:=run_make_full (P:=Tryz.prog) (w:=W3) w.heap.size 42 4 i0 _ 1 Tryz.underlying42 hi hz0 hz1 .i64 .i64 Vn (by rw [hz2]; omega) (by unfold maxLen; omega) HF3.out.below.size
   rw [falses] at hown4
   have hb4:Below W3.heap.size W3 W4:=⟨hg4.os,hg4.tape,hg4.output,hg4.size,fun i hi => hg4.block i hi nofun⟩
   obtain ⟨gd,hgd⟩:∃ g,g = W3.heap.size:=⟨_,rfl⟩
   rw [<- hgd] at hmk hown4
   have HF4:Hid (DrH w W4 b gl gd Vn (.slice A n c) (List.replicate Vn 0) (List.replicate Vn false)):=jH ⟨HF3.out.step hb4,by unfold BOw; rw [List.length_replicate]; exact hown4,by simp⟩
   clear hown4 hg4 hb4 hi hz0 hz1 hz2 hgd
   go_upto_region 9 with fail
   clear hmk g0 g1 HF3
   go_wp2_with fail
   have hd1:decide ((sn:Int) < 0) = false:=by simp
   have hd2:decide (Vn <= sn) = false:=decide_eq_false (by omega)
   simp only [hd1,hd2,Bool.or_self]
   clear hd1 hd2
   go_loopg [10] Vn (fun gk iv wr => ∃ (k:Nat) (l:List Int),iv = .int .i64 (k:Int)/\k + gk = Vn/\Hid (DrH w wr b gl gd Vn (.slice A n c) l (List.replicate Vn false)/\∀ j,j < k->vl l j = 4611686018427387904))
   case atStart => exact ⟨0,_,rfl,by omega,jH ⟨HF4.out,fun j hj => by omega⟩⟩
   case round =>
    clear HF4
    obtain ⟨k,l,rfl,hk,HF⟩:=hrel
    obtain ⟨g0,g1,_⟩:=two_cells HF.out.1.fr.gbox
    by_cases hlt:k < Vn
    ·obtain ⟨y0,y1⟩:=HF.out.1.fr.row.at_ HF.out.1.fr.len hlt
     have HF2:=jH (HF.out.1.set k 4611686018427387904)
     have HV2:Hid (∀ j,j < k + 1->vl (l.set k 4611686018427387904) j = 4611686018427387904):=jH (fun j hj => by
      rw [Pa.vl_set _ _ _ _ (by rw [HF.out.1.fr.len]; exact hlt)]
      split
      ·rfl
      ·exact HF.out.2 j (by omega))
     go_wp2
     go_roundg (gk - 1)
     case measure => omega
     case rel => exact ⟨k + 1,_,by go_num,by omega,jH ⟨HF2.out,HV2.out⟩⟩
    ·have hkv:k = Vn:=by omega
     subst hkv
     obtain ⟨y0,y1⟩:=HF.out.1.fr.row.at_ HF.out.1.fr.len hs1
     have HL0:Hid (DrH w (wr.setCell ⟨gl,sn,none⟩ (.int .i64 0)) b gl gd k (.slice A n c) (Pa.start k sn) (List.replicate k false)/\Dj k L sn 0 (Pa.start k sn) (List.replicate k false)):=jH (by
      have e:l = List.replicate k 4611686018427387904:=Pa.vl_ext (by rw [HF.out.1.fr.len]; simp) fun j hj => by
       rw [HF.out.1.fr.len] at hj
       rw [HF.out.2 j hj]
       exact (vl_of (by rw [List.getElem?_replicate,if_pos hj])).symm
      have h:=HF.out.1.set sn 0
      rw [e] at h
      exact ⟨h,dj_start (fits_of HE.out) hs1⟩)
     clear HF
     go_wp2_with fail
     clear g0 g1 y0 y1
     obtain ⟨G0,rfl⟩:∃ G0:Nat,G0 = gk:=⟨_,rfl⟩
     obtain ⟨Vn,rfl⟩:∃ V,V = k:=⟨_,rfl⟩
     go_loopg [11] Vn (fun gk iv wr => ∃ (m:Nat) (l:List Int) (d:List Bool),iv = .int .i64 (m:Int)/\m + gk = Vn/\Hid (DrH w wr b gl gd Vn (.slice A n c) l d/\Dj Vn L sn m l d))
     case atStart => exact ⟨0,_,_,rfl,by omega,HL0⟩
     case round =>
      clear HL0
      obtain ⟨m,l,d,rfl,hmk,HF⟩:=hrel
      obtain ⟨g0,g1,_⟩:=two_cells HF.out.1.fr.gbox
      by_cases hlt:m < Vn
      ·go_wp2_with fail
       obtain ⟨G1,rfl⟩:∃ G1:Nat,G1 = gk:=⟨_,rfl⟩
       obtain ⟨W0,rfl⟩:∃ W0,W0 = wr:=⟨_,rfl⟩
       clear g0 g1
       go_loopg [12,13] Vn (fun gk nv iv wr => ∃ (k:Nat) (r:Int),iv = .int .i64 (k:Int)/\nv = .int .i64 r/\k + gk = Vn/\Hid (nearest l d k = r)/\Hid (DrH w wr b gl gd Vn (.slice A n c) l d))
       case atStart => exact ⟨0,_,rfl,rfl,by omega,jH rfl,jH HF.out.1⟩
       case round =>
        obtain ⟨k,r,rfl,rfl,hk,HR,HD2⟩:=hrel
        obtain ⟨g0,g1,_⟩:=two_cells HD2.out.fr.gbox
        have HDD:=fun q => jH (HD2.out.step (Ws.below_drewN (Below.refl _ wr) q))
        by_cases hlt2:k < Vn
        ·obtain ⟨d0,_⟩:=HD2.out.mks.at_ HD2.out.len hlt2
         obtain ⟨l0,_⟩:=HD2.out.fr.row.at_ HD2.out.fr.len hlt2
         obtain ⟨Y,hY⟩:∃ Y,vl l k = Y:=⟨_,rfl⟩
         obtain ⟨dk,hdk⟩:∃ x,bt d k = x:=⟨_,rfl⟩
         rw [hY] at l0; rw [hdk] at d0
         cases dk with
         | true =>
          have HNX:Hid (nearest l d (k + 1) = r):=jH (by rw [near_no (by rw [hdk]; simp)]; exact HR.out)
          clear hY hdk
          go_wp2_with fail
          go_quiet (fail)
          go_wp2
          go_roundg (gk - 1)
          case measure => omega
          case rel => exact ⟨k + 1,r,by go_num,rfl,by omega,HNX,HDD _⟩
         | false =>
          rcases nearest_is l d k with ⟨h1,_⟩ | ⟨j,h1,hjk,_,_⟩
          ·obtain rfl:r = -1:=by rw [<- HR.out]; exact h1
           have HNX:Hid (nearest l d (k + 1) = (k:Int)):=jH (near_yes ⟨hdk,Or.inl (by rw [h1]; omega)⟩)
           clear hY hdk h1
           go_wp2_with fail
           go_quiet (fail)
           go_wp2
           go_roundg (gk - 1)
           case measure => omega
           case rel => exact ⟨k + 1,(k:Int),by go_num,rfl,by omega,HNX,HDD _⟩
          ·obtain rfl:r = (j:Int):=by rw [<- HR.out]; exact h1
           have hjV:j < Vn:=by omega
           obtain ⟨m0,_⟩:=HD2.out.fr.row.at_ HD2.out.fr.len hjV
           obtain ⟨X,hX⟩:∃ X,vl l j = X:=⟨_,rfl⟩
           rw [hX] at m0
           by_cases hYX:Y < X
           ·have HNX:Hid (nearest l d (k + 1) = (k:Int)):=jH (near_yes ⟨hdk,Or.inr (by rw [h1,show ((j:Nat):Int).toNat = j by simp,hX,hY]; exact hYX)⟩)
            clear hY hdk h1 hX
            go_wp2_with fail
            go_quiet (fail)
            go_wp2
            go_roundg (gk - 1)
            case measure => omega
            case rel => exact ⟨k + 1,(k:Int),by go_num,rfl,by omega,HNX,HDD _⟩
           ·have HNX:Hid (nearest l d (k + 1) = (j:Int)):=jH (by
             rw [near_no (fun h => by
              rw [h1,show ((j:Nat):Int).toNat = j by simp,hX,hY] at h
              rcases h.2 with h | h <;> omega)]
             exact h1)
            clear hY hdk h1 hX
            go_wp2_with fail
            go_quiet (fail)
            go_wp2
            go_roundg (gk - 1)
            case measure => omega
            case rel => exact ⟨k + 1,(j:Int),by go_num,rfl,by omega,HNX,HDD _⟩
        ·have hkv:k = Vn:=by omega
         obtain ⟨t,h1,htV,hdt,hmin⟩:=dj_near HF.out.2 hlt
         have hrt:r = (t:Int):=by rw [<- HR.out,hkv]; exact h1
         subst hrt
         have HDJ:Hid (Dj Vn L sn (m + 1) (rlxA (outE L (t:Int)) l) (d.set t true)):=jH (dj_next (fits_of HE.out) (fun e he => by
          obtain ⟨_,_,_,hfit,_⟩:=(chk_zero _ _).1 HE.out
          have:=(fitE_iff _ _).1 (hfit e he); omega) hs1 HF.out.2 htV hdt hmin)
         obtain ⟨d0,d1⟩:=HD2.out.mks.at_ HD2.out.len htV
         have HD3:=jH (HD2.out.mark t)
         have HRO:=jH (rout_any (Vn:Int) (t:Int) A c L (wr.setCell ⟨gd,t,none⟩ (.bool true)) (HL.out.below HD3.out.fr.below) (by rw [HN.out]; exact hm))
         rw [HN.out] at HRO
         clear h1 hdt hmin HF HR HD2 HDD
         go_upto_region 24 with fail
         clear g0 g1 d0 d1
         obtain ⟨g0,g1,_⟩:=two_cells HD3.out.fr.gbox
         go_wp2_with fail
         refine HRO.out.mono ?_
         rintro e w6 ⟨y,rfl,ho,hb6⟩
         have hoo:EOwn w6 (wr.setCell ⟨gd,t,none⟩ (.bool true)).heap.size y (outE L (t:Int)):=ho
         obtain ⟨A2,c2,rfl,_⟩:=hoo.form
         obtain ⟨n2,hn2⟩:∃ n2,n2 = (outE L (t:Int)).length:=⟨_,rfl⟩
         have hn2b:n2 <= 100000:=by
          have:=List.length_filter_le (fun e:Ed => decide (e.1 = (t:Int))) L
          have h3:n2 <= L.length:=by rw [hn2]; exact this
          rw [HN.out] at h3; omega
         rw [<- hn2] at hoo ⊢
         have HN2:=jH hn2
         obtain ⟨B2,hB2⟩:∃ B2:Nat,EOwn w6 B2 (.slice A2 n2 c2) (outE L (t:Int)):=⟨_,hoo⟩
         have HO6:=jH hB2
         have HD6:=jH (HD3.out.step hb6)
         clear ho hoo hn2 hB2 hb6 HRO HD3 g0 g1
         go_wp2_with fail
         obtain ⟨G2,rfl⟩:∃ G2:Nat,G2 = gk:=⟨_,rfl⟩
         go_loopg [15] n2 (fun gk iv wr => ∃ (q:Nat) (l1:List Int),iv = .int .i64 (q:Int)/\q + gk = n2/\Hid (DrH w wr b gl gd Vn (.slice A n c) l1 (d.set t true))/\Hid (l1 = rlxA ((outE L (t:Int)).take q) l)/\Hid (EOwn wr B2 (.slice A2 n2 c2) (outE L (t:Int))))
         case atStart => exact ⟨0,l,rfl,by omega,HD6,jH rfl,HO6⟩
         case round =>
          clear HD6 HO6
          obtain ⟨q,l1,rfl,hq,HD6,HLQ,HO6⟩:=hrel
          by_cases hlt3:q < n2
          ·obtain ⟨e,he⟩:=at_lt (outE L (t:Int)) q (by rw [<- HN2.out]; exact hlt3)
           obtain ⟨hel,hef⟩:=List.mem_filter.1 (List.mem_of_getElem? he)
           obtain ⟨x,z,hx,hev⟩:∃ (x:Nat) (z:Int),x < Vn/\e = ((t:Int),(x:Int),z):=by
            obtain ⟨_,_,_,hfit,_⟩:=(chk_zero _ _).1 HE.out
            have h1:=(fitE_iff _ _).1 (hfit _ hel)
            have h2:e.1 = (t:Int):=by simpa using hef
            refine ⟨e.2.1.toNat,e.2.2,by omega,?_⟩
            rw [show ((e.2.1.toNat:Nat):Int) = e.2.1 by omega,<- h2]
           subst hev
           obtain ⟨A2',c2',hA2,hat,_⟩:=HO6.out.form
           cases hA2
           obtain ⟨bk,o,rfl,c0,c1,cz⟩:=hat q _ he
           have HNX:=jH (rlx_take (l:=l) he)
           rw [<- HLQ.out] at HNX
           obtain ⟨l0,lf⟩:=HD6.out.fr.row.at_ HD6.out.fr.len hx
           obtain ⟨m0,_⟩:=HD6.out.fr.row.at_ HD6.out.fr.len htV
           obtain ⟨X,hX⟩:∃ X,vl l1 x = X:=⟨_,rfl⟩
           obtain ⟨T,hT⟩:∃ T,vl l1 t = T:=⟨_,rfl⟩
           obtain ⟨G,hG⟩:∃ G,addI T z = G:=⟨_,rfl⟩
           rw [hX] at l0; rw [hT] at m0
           have HRA:=jH (fun W => Pa.radd_of T z W)
           rw [hG] at HRA
           have HNY:Hid (rlxA ((outE L (t:Int)).take (q + 1)) l = l1.set x (min X G)):=jH (by rw [HNX.out,hX,hT,hG])
           have HD7:=jH ((HD6.out.step (Below.refl _ wr).drew).set x (min X G))
           have HO7:Hid (EOwn (wr.drew.setCell ⟨gl,x,none⟩ (.int .i64 (min X G))) B2 (.slice (some ⟨bk,o,none⟩) (outE L (t:Int)).length c2) (outE L (t:Int))):=jH (by
            obtain ⟨_,cc,hcc⟩:=(HD6.out.step (Below.refl _ wr).drew).fr.row.blk
            exact nown_set (HO6.out.below (Below.refl _ wr).drew) hcc (by decide))
           have hS:(fun W:World => W.cell? ⟨bk,o + q * 3 + 1,none⟩ = some (.int .i64 (x:Int))/\W.cell? ⟨bk,o + q * 3 + 2,none⟩ = some (.int .i64 z)/\W.cell? ⟨gl,x,none⟩ = some (.int .i64 X)/\W.cell? ⟨gl,t,none⟩ = some (.int .i64 T)) wr.drew:=⟨c1,cz,l0,m0⟩
           clear hat he hel hef hX hT hG HNX c0 HD6 HLQ HO6
           go_upto_region 28 with fail
           refine Tl.headX_region (S:=(fun W:World => W.cell? ⟨bk,o + q * 3 + 1,none⟩ = some (.int .i64 (x:Int))/\W.cell? ⟨bk,o + q * 3 + 2,none⟩ = some (.int .i64 z)/\W.cell? ⟨gl,x,none⟩ = some (.int .i64 X)/\W.cell? ⟨gl,t,none⟩ = some (.int .i64 T))) 25 mixed (by decide) ?_
           try dsimp only
           refine Tl.headX_tk 0 ?v0_1 rfl (by kernel_rfl) (by decide) (by kernel_rfl) (by kernel_rfl) (by kernel_rfl) (fun _ _ _ h => h) (by rfl) (fun W hSw => ?hy0_1) hS ?_
           case hy0_1 => ((try dsimp only at hSw); go_simp; try with_reducible rfl)
           simp only [Act.put,jZ,jY,jX]
           refine Tl.headX_tk 1 ?v1_2 rfl (by kernel_rfl) (by decide) (by kernel_rfl) (by kernel_rfl) (by kernel_rfl) (fun _ _ _ h => h) (by rfl) (fun W hSw => ?hy1_2) hS ?_
           case hy1_2 => ((try dsimp only at hSw); go_simp; try with_reducible rfl)
           simp only [Act.put,jZ,jY,jX]
           refine Tl.headX_tk 2 ?v2_3 rfl (by kernel_rfl) (by decide) (by kernel_rfl) (by kernel_rfl) (by kernel_rfl) (fun _ _ _ h => h) (by rfl) (fun W hSw => ?hy2_3) hS ?_
           case hy2_3 => ((try dsimp only at hSw); go_simp; try with_reducible rfl)
           simp only [Act.put,jZ,jY,jX]
           refine Tl.headX_tk 3 ?v3_4 rfl (by kernel_rfl) (by decide) (by kernel_rfl) (by kernel_rfl) (by kernel_rfl) (fun _ _ _ h => h) (by rfl) (fun W hSw => ?hy3_4) hS ?_
           case hy3_4 => ((try dsimp only at hSw); go_simp; try with_reducible rfl)
           simp only [Act.put,jZ,jY,jX]
           refine Tl.headX_tk 4 ?v4_5 rfl (by kernel_rfl) (by decide) (by kernel_rfl) (by kernel_rfl) (by kernel_rfl) (fun _ _ _ h => h) (by rfl) (fun W hSw => ?hy4_5) hS ?_
           case hy4_5 => ((try dsimp only at hSw); go_simp; try with_reducible rfl)
           simp only [Act.put,jZ,jY,jX]
           refine Tl.headX_tk 5 ?v5_6 rfl (by kernel_rfl) (by decide) (by kernel_rfl) (by kernel_rfl) (by kernel_rfl) (fun _ _ _ h => h) (by rfl) (fun W hSw => ?hy5_6) hS ?_
           case hy5_6 => ((try dsimp only at hSw); go_simp; try with_reducible rfl)
           simp only [Act.put,jZ,jY,jX]
           refine Tl.headX_tk 6 ?v6_7 rfl (by kernel_rfl) (by decide) (by kernel_rfl) (by kernel_rfl) (by kernel_rfl) (fun _ _ _ h => h) (by rfl) (fun W hSw => ?hy6_7) hS ?_
           case hy6_7 => ((try dsimp only at hSw); go_simp; try with_reducible rfl)
           simp only [Act.put,jZ,jY,jX]
           refine Tl.headX_tk 7 ?v7_8 rfl (by kernel_rfl) (by decide) (by kernel_rfl) (by kernel_rfl) (by kernel_rfl) (fun _ _ _ h => h) (by rfl) (fun W hSw => ?hy7_8) hS ?_
           case hy7_8 => ((try dsimp only at hSw); go_simp; try with_reducible rfl)
           simp only [Act.put,jZ,jY,jX]
           refine Tl.headX_tk 8 ?v8_9 rfl (by kernel_rfl) (by decide) (by kernel_rfl) (by kernel_rfl) (by kernel_rfl) (fun _ _ _ h => h) (by rfl) (fun W hSw => ?hy8_9) hS ?_
           case hy8_9 => ((try dsimp only at hSw); go_simp; try with_reducible rfl)
           simp only [Act.put,jZ,jY,jX]
           refine Tl.headX_tk 9 ?v9_10 rfl (by kernel_rfl) (by decide) (by kernel_rfl) (by kernel_rfl) (by kernel_rfl) (fun _ _ _ h => h) (by rfl) (fun W hSw => ?hy9_10) hS ?_
           case hy9_10 => ((try dsimp only at hSw); go_simp; try with_reducible rfl)
           simp only [Act.put,jZ,jY,jX]
           refine Tl.headX_tk 10 ?v10_11 rfl (by kernel_rfl) (by decide) (by kernel_rfl) (by kernel_rfl) (by kernel_rfl) (fun _ _ _ h => h) (by rfl) (fun W hSw => ?hy10_11) hS ?_
           case hy10_11 => ((try dsimp only at hSw); go_simp; try with_reducible rfl)
           simp only [Act.put,jZ,jY,jX]
           refine Tl.headX_tk 11 ?v11_12 rfl (by kernel_rfl) (by decide) (by kernel_rfl) (by kernel_rfl) (by kernel_rfl) (fun _ _ _ h => h) (by rfl) (fun W hSw => ?hy11_12) hS ?_
           case hy11_12 => ((try dsimp only at hSw); go_simp; try with_reducible rfl)
           simp only [Act.put,jZ,jY,jX]
           refine Tl.headX_tk 12 ?v12_13 rfl (by kernel_rfl) (by decide) (by kernel_rfl) (by kernel_rfl) (by kernel_rfl) (fun _ _ _ h => h) (by rfl) (fun W hSw => ?hy12_13) hS ?_
           case hy12_13 => ((try dsimp only at hSw); go_simp; try with_reducible rfl)
           simp only [Act.put,jZ,jY,jX]
           refine Tl.headX_tk 13 ?v13_14 rfl (by kernel_rfl) (by decide) (by kernel_rfl) (by kernel_rfl) (by kernel_rfl) (fun _ _ _ h => h) (by rfl) (fun W hSw => ?hy13_14) hS ?_
           case hy13_14 => ((try dsimp only at hSw); go_simp; try with_reducible rfl)
           simp only [Act.put,jZ,jY,jX]
           refine Tl.headX_tk 14 ?v14_15 rfl (by kernel_rfl) (by decide) (by kernel_rfl) (by kernel_rfl) (by kernel_rfl) (fun _ _ _ h => h) (by rfl) (fun W hSw => ?hy14_15) hS ?_
           case hy14_15 => ((try dsimp only at hSw); go_simp; try with_reducible rfl)
           simp only [Act.put,jZ,jY,jX]
           refine Tl.headX_tk 15 ?v15_16 rfl (by kernel_rfl) (by decide) (by kernel_rfl) (by kernel_rfl) (by kernel_rfl) (fun _ _ _ h => h) (by rfl) (fun W hSw => ?hy15_16) hS ?_
           case hy15_16 => ((try dsimp only at hSw); go_simp; try with_reducible rfl)
           simp only [Act.put,jZ,jY,jX]
           refine Tl.headX_tk 16 ?v16_17 rfl (by kernel_rfl) (by decide) (by kernel_rfl) (by kernel_rfl) (by kernel_rfl) (fun _ _ _ h => h) (by rfl) (fun W hSw => ?hy16_17) hS ?_
           case hy16_17 => ((try dsimp only at hSw); go_simp; try with_reducible rfl)
           simp only [Act.put,jZ,jY,jX]
           refine Tl.headX_tk 17 ?v17_18 rfl (by kernel_rfl) (by decide) (by kernel_rfl) (by kernel_rfl) (by kernel_rfl) (fun _ _ _ h => h) (by rfl) (fun W hSw => ?hy17_18) hS ?_
           case hy17_18 => ((try dsimp only at hSw); go_simp; try with_reducible rfl)
           simp only [Act.put,jZ,jY,jX]
           refine Tl.headX_tk 18 ?v18_19 rfl (by kernel_rfl) (by decide) (by kernel_rfl) (by kernel_rfl) (by kernel_rfl) (fun _ _ _ h => h) (by rfl) (fun W hSw => ?hy18_19) hS ?_
           case hy18_19 => ((try dsimp only at hSw); go_simp; try with_reducible rfl)
           simp only [Act.put,jZ,jY,jX]
           refine Tl.headX_tk 19 ?v19_20 rfl (by kernel_rfl) (by decide) (by kernel_rfl) (by kernel_rfl) (by kernel_rfl) (fun _ _ _ h => h) (by rfl) (fun W hSw => ?hy19_20) hS ?_
           case hy19_20 => ((try dsimp only at hSw); go_simp; try with_reducible rfl)
           simp only [Act.put,jZ,jY,jX]
           refine Tl.headX_tk 20 ?v20_21 rfl (by kernel_rfl) (by decide) (by kernel_rfl) (by kernel_rfl) (by kernel_rfl) (fun _ _ _ h => h) (by rfl) (fun W hSw => ?hy20_21) hS ?_
           case hy20_21 => ((try dsimp only at hSw); go_simp; try with_reducible rfl)
           simp only [Act.put,jZ,jY,jX]
           refine Tl.headX_tk 21 ?v21_22 rfl (by kernel_rfl) (by decide) (by kernel_rfl) (by kernel_rfl) (by kernel_rfl) (fun _ _ _ h => h) (by rfl) (fun W hSw => ?hy21_22) hS ?_
           case hy21_22 => ((try dsimp only at hSw); go_simp; try with_reducible rfl)
           simp only [Act.put,jZ,jY,jX]
           refine Tl.headX_tk 22 ?v22_23 rfl (by kernel_rfl) (by decide) (by kernel_rfl) (by kernel_rfl) (by kernel_rfl) (fun _ _ _ h => h) (by rfl) (fun W hSw => ?hy22_23) hS ?_
           case hy22_23 => ((try dsimp only at hSw); go_simp; try with_reducible rfl)
           simp only [Act.put,jZ,jY,jX]
           refine Tl.headX_cl (R:=fun v w' => v = .int .i64 G/\w' = wr.drew) 23 _ _ rfl (by decide) (by kernel_rfl) (by rfl) ?he23 ((HRA.out _).mono (by rintro e w' ⟨rfl,rfl⟩; exact ⟨_,rfl,rfl,rfl⟩)) ?_
           case he23 => (go_simp; try with_reducible rfl)
           rintro v w7 ⟨rfl,rfl⟩
           refine ⟨hS,?_⟩
           simp only [Act.put,jZ,jY,jX]
           refine Tl.headX_tk 24 ?v24_24 rfl (by kernel_rfl) (by decide) (by kernel_rfl) (by kernel_rfl) (by kernel_rfl) (fun _ _ _ h => h) (by rfl) (fun W hSw => ?hy24_24) hS ?_
           case hy24_24 => ((try dsimp only at hSw); go_simp; try with_reducible rfl)
           simp only [Act.put,jZ,jY,jX]
           refine Tl.headX_rest (by kernel_rfl) ?_
           simp only [List.drop_succ_cons,List.drop_zero]
           clear hS HRA
           go_wp2
           go_roundg (gk - 1)
           case measure => omega
           case rel => exact ⟨q + 1,_,by go_num,by omega,HD7,jH HNY.out.symm,HO7⟩
          ·have HLL:Hid (l1 = rlxA (outE L (t:Int)) l):=jH (by
            rw [HLQ.out,List.take_of_length_le (by rw [<- HN2.out]; omega)])
           go_wp2
           go_roundg (G1 - 1)
           case measure => omega
           case rel => exact ⟨m + 1,l1,d.set t true,by go_num,by omega,jH ⟨HD6.out,by rw [HLL.out]; exact HDJ.out⟩⟩
      ·have HMV:Hid (m = Vn):=jH (by omega)
       have HFR:Hid (l = far Vn sn L):=jH (by
        have h:=HF.out.2
        rw [HMV.out] at h
        exact dj_done (fits_of HE.out) hs1 h)
       go_wp2
       go_ret2
       rw [HD.out,HDL.out,<- HFR.out]
       exact ⟨_,rfl,jH ⟨HF.out.1.fr.row,HF.out.1.fr.below⟩⟩
  ·have HD:Hid (disE (Vn:Int) L s = 2):=jH (by unfold disE; rw [if_pos HE.out,if_neg hs])
   have HDL:Hid (disL (Vn:Int) L s = []):=jH (by unfold disL; rw [HD.out]; rfl)
   by_cases h0:s < 0
   ·clear hs
    go_wp2
    go_ret2
    rw [HD.out,HDL.out]
    exact ⟨_,rfl,jH ⟨NOwn.none_ _ _ _,HB2.out⟩⟩
   ·have h1:(Vn:Int) <= s:=by omega
    clear hs
    go_wp2
    go_ret2
    rw [HD.out,HDL.out]
    exact ⟨_,rfl,jH ⟨NOwn.none_ _ _ _,HB2.out⟩⟩
 ·have HD:Hid (disE V L s = E):=jH (by unfold disE; rw [if_neg (by rw [HE.out]; exact hE0),HE.out])
  have HDL:Hid (disL V L s = []):=jH (by unfold disL; rw [HD.out,if_neg hE0])
  go_wp2
  go_ret2
  rw [HD.out,HDL.out]
  exact ⟨_,rfl,jH ⟨NOwn.none_ _ _ _,HB2.out⟩⟩
end Go.Proofs.YtdcaekmgfcpbmaaGreat.Mn
