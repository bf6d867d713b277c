/-
  What is proved here: the law's function MeaningKnown says true. No condition.
-/
import Derived.Test.YtdcaekmgfcpbmaaGreatQdMnKsx
import Derived.Test.YtdcaekmgfcpbmaaGreatQdMnLmx
import Derived.Test.YtdcaekmgfcpbmaaGreatQdMnLxx
namespace Go.Proofs.YtdcaekmgfcpbmaaGreat.Kn
open Go.RowKit Go.Shelf Gr Wd Ws Fx Rk Lb Al In Sq Mn
theorem ring5 (w:World):Calls Tryz.prog 21 #[.int .i64 5] w fun e w' => (∃ A c,e = .returned (.agg #[.int .i64 5,.slice A 5 c])/\Hid (EAt w' A (ringL 5 5)))/\Hid (Below w.heap.size w w'):=ring_any 5 (by decide) w
theorem ring1 (w:World):Calls Tryz.prog 21 #[.int .i64 1] w fun e w' => (∃ A c,e = .returned (.agg #[.int .i64 1,.slice A 1 c])/\Hid (EAt w' A (ringL 1 1)))/\Hid (Below w.heap.size w w'):=ring_any 1 (by decide) w
def A1Rel (w:World) (gb:Nat) (gk:Nat) (i:Value) (wr:World):Prop:=∃ x:Nat,x + gk = 7/\i = .int .i64 (x:Int)/\Hid (KA w wr gb)
def B1Rel (w:World) (gb b V:Nat) (A:Option Addr) (n c:Nat) (L:List Ed) (gk:Nat) (i:Value) (wr:World):Prop:=∃ y:Int,y + (gk:Int) = (V:Int) + 1/\-1 <= y/\i = .int .i64 y/\Hid (KB w wr gb b V A n c L)
def C1Rel (w:World) (gb b V:Nat) (A:Option Addr) (n c:Nat) (L:List Ed) (nb:Nat) (gk:Nat) (i:Value) (wr:World):Prop:=∃ x:Nat,x + gk = 5/\i = .int .i64 (x:Int)/\Hid (KC w wr gb b V A n c L nb)
def D1Rel (w U:World) (gb b V:Nat) (A:Option Addr) (n c:Nat) (L:List Ed) (nb bj:Nat) (k st so dm ep:Int) (bs B:Nat) (S:Sq) (Av Ac Ai:Option Addr) (nv nc ni cv cc ci:Nat) (gk:Nat) (i:Value) (wr:World):Prop :=
 ∃ y p:Int,y + 2 * (gk:Int) = 11/\-1 <= y/\i = .int .i64 y/\Hid (KE w U wr gb b V A n c L nb bj k st so dm ep bs B p S Av Ac Ai nv nc ni cv cc ci)
set_option maxRecDepth 100000 in
set_option maxHeartbeats 8000000 in
theorem lw_known (w:World):Calls Tryz.prog 6 #[] w fun e w' => e = .returned (.bool true)/\Below w.heap.size w w':=by
 have mixed:=mixedP
 go_enter Tryz.func6,Tryz.ntmps6
 go_wp2_with fail
 refine (kno_mill _).mono ?_
 rintro e w2 ⟨⟨g,rfl,hA⟩,hb⟩
 have HB1:=jH hb.out; have HA:=jH hA.out
 clear hA hb
 go_wp2_with fail
 refine (ring5 _).mono ?_
 rintro e w3 ⟨⟨A5,c5,rfl,h5⟩,hb⟩
 replace HB1:=jS HB1 hb.out; replace HA:=jH (HA.out.below hb.out)
 have H5:=jH h5.out
 clear h5 hb
 go_wp2_with fail
 refine (ring1 _).mono ?_
 rintro e w4 ⟨⟨A1,c1,rfl,h1⟩,hb⟩
 replace HB1:=jS HB1 hb.out; replace HA:=jH (HA.out.below hb.out); replace H5:=jH (H5.out.below hb.out)
 have H1:=jH h1.out
 clear h1 hb
 obtain ⟨W5,hW5⟩:∃ W5,W5 = ((w4.alloc (.cells #[.int .i64 2,.int .i64 0,.int .i64 0,.int .i64 2,.int .i64 1,.int .i64 2147483647] 33)).alloc (.cells #[.int .i64 0,.int .i64 2,.int .i64 0] 33)).alloc (.cells #[.int .i64 6,.slice (some ⟨g,0,none⟩) 5 5,.int .i64 5,.slice A5 5 c5,.int .i64 1,.slice A1 1 c1,.int .i64 4,.slice none 0 0,.int .i64 3,.slice (some ⟨w4.heap.size,0,none⟩) 2 2,.int .i64 0,.slice none 0 0,.int .i64 2,.slice (some ⟨w4.heap.size + 1,0,none⟩) 1 1] 24):=⟨_,rfl⟩
 have hal:=al3 w4 (.cells #[.int .i64 2,.int .i64 0,.int .i64 0,.int .i64 2,.int .i64 1,.int .i64 2147483647] 33) (.cells #[.int .i64 0,.int .i64 2,.int .i64 0] 33) (.cells #[.int .i64 6,.slice (some ⟨g,0,none⟩) 5 5,.int .i64 5,.slice A5 5 c5,.int .i64 1,.slice A1 1 c1,.int .i64 4,.slice none 0 0,.int .i64 3,.slice (some ⟨w4.heap.size,0,none⟩) 2 2,.int .i64 0,.slice none 0 0,.int .i64 2,.slice (some ⟨w4.heap.size + 1,0,none⟩) 1 1] 24)
 rw [<- hW5] at hal
 obtain ⟨n4,e4⟩:∃ n4,n4 = w4.heap.size:=⟨_,rfl⟩
 rw [<- e4] at hal
 obtain ⟨h1,h2,h3,hb⟩:=hal
 have HS:Hid (KA w W5 (n4 + 1 + 1)):=jH ⟨step_below HB1.out HB1.out.size (e4 ▸ hb),graphs_laid (HA.out.below (e4 ▸ hb)) (H5.out.below (e4 ▸ hb)) (H1.out.below (e4 ▸ hb)) (two_laid h1) (bad_laid h2) h3⟩
 clear HB1 HA H5 H1 h1 h2 h3 hb
 go_wp2_with fail
 rw [<- hW5,show w4.heap.size = n4 from e4.symm]
 clear hW5 e4
 obtain ⟨gb,hgb⟩:∃ gb,gb = n4 + 1 + 1:=⟨_,rfl⟩
 rw [<- hgb] at HS ⊢
 clear hgb
 go_loopg [23] 7 (fun gk i wr => A1Rel w gb gk i wr)
 case atStart => exact ⟨0,rfl,rfl,HS⟩
 case round =>
  clear HS
  obtain ⟨i1,hi1,rfl,HS⟩:=hrel
  by_cases h7:i1 < 7
  ·have tk:decide ((i1:Int) < 7) = true:=by simp; omega
   have tg:(i1:Int) < 7:=by omega
   obtain ⟨V,A,n,c,L,a0,a1,hL,hn,hm,hV⟩:=HS.out.graph i1 h7
   have HN:=jH hn; have HM:=jH hm; have HV:=jH hV
   go_upto_region 4 with fail
   obtain ⟨W4,hW4⟩:∃ W4,W4 = wr.alloc (.cells #[.int .i64 (V:Int),.slice A n c] 24):=⟨_,rfl⟩
   obtain ⟨b,hb⟩:∃ b,b = wr.heap.size:=⟨_,rfl⟩
   have HG:Hid (KB w W4 gb b V A n c L):=jH (by
    have h4:Below wr.heap.size wr W4:=by rw [hW4]; exact (Below.refl _ wr).alloc (Nat.le_refl _) _
    exact ⟨HS.out.step h4,by rw [hW4,hb]; exact heap_alloc_new wr _,hL.below h4⟩)
   rw [<- hW4,<- hb]
   clear hW4 hb a0 a1 hL hn hm hV HS tk tg
   obtain ⟨g0,g1,_⟩:=two_cells HG.out.gbx
   go_wp2_with fail
   refine (lw_labels (V:Int) A n c L W4 HG.out.row HN.out (by have:=HM.out; omega)).mono ?_
   rintro e w5 ⟨rfl,hb5⟩
   replace HG:=jH (HG.out.step hb5)
   clear hb5 g0 g1
   obtain ⟨G0,rfl⟩:∃ G0:Nat,G0 = gk:=⟨_,rfl⟩
   go_wp2_with fail
   go_loopg [3] (V + 2) (fun gk i wr => B1Rel w gb b V A n c L gk i wr)
   case atStart => exact ⟨-1,by omega,by omega,rfl,HG⟩
   case round =>
    clear HG
    obtain ⟨y,hy,hy1,rfl,HG⟩:=hrel
    obtain ⟨g0,g1,_⟩:=two_cells HG.out.gbx
    have hV80:=HV.out
    by_cases hyV:y <= (V:Int)
    ·go_wp2_with fail
     refine (lw_dists (V:Int) y A n c L wr HG.out.row HN.out (by have:=HM.out; omega)).mono ?_
     rintro e w6 ⟨rfl,hb6⟩
     replace HG:=jH (HG.out.step hb6)
     clear hb6 g0 g1
     have hwa:IntKind.i64.wrap (y + 1) = y + 1:=IntWalk.i64_in _ (by omega)
     have hwb:IntKind.i64.wrap (y + 2) = y + 2:=IntWalk.i64_in _ (by omega)
     obtain ⟨G1,rfl⟩:∃ G1:Nat,G1 = gk:=⟨_,rfl⟩
     go_wp2_with fail
     obtain ⟨W7,hW7⟩:∃ W7,W7 = w6.alloc (.cells #[.int .u8 2,.int .i64 (y + 1),.int .i64 0,.int .i64 0,.int .i64 0,.int .u8 3,.int .i64 9,.int .i64 y,.int .i64 0,.int .i64 0,.int .u8 3,.int .i64 1,.int .i64 y,.int .i64 0,.int .i64 0,.int .u8 1,.int .i64 (y + 2),.int .i64 0,.int .i64 3650722201,.int .i64 0,.int .u8 0,.int .i64 0,.int .i64 0,.int .i64 0,.int .i64 0] 40):=⟨_,rfl⟩
     obtain ⟨nb,hnb⟩:∃ nb,nb = w6.heap.size:=⟨_,rfl⟩
     have HC:Hid (KC w W7 gb b V A n c L nb):=jH (by
      have h4:Below w6.heap.size w6 W7:=by rw [hW7]; exact (Below.refl _ w6).alloc (Nat.le_refl _) _
      exact ⟨HG.out.step h4,jobs_laid (by rw [hW7,hnb]; exact heap_alloc_new w6 _)⟩)
     rw [<- hW7,<- hnb]
     clear hW7 hnb HG
     go_loopg [53] 5 (fun gk i wr => C1Rel w gb b V A n c L nb gk i wr)
     case atStart => exact ⟨0,rfl,rfl,HC⟩
     case round =>
      clear HC
      obtain ⟨i2,hi2,rfl,HC⟩:=hrel
      by_cases h5:i2 < 5
      ·have tk:decide ((i2:Int) < 5) = true:=by simp; omega
       have tg:(i2:Int) < 5:=by omega
       obtain ⟨k,st,so,dm,ep,j0,j1,j2,j3,j4⟩:=HC.out.job i2 h5
       go_upto_region 14 with fail
       obtain ⟨W8,hW8⟩:∃ W8,W8 = wr.alloc (.cells #[.int .u8 k,.int .i64 st,.int .i64 so,.int .i64 dm,.int .i64 ep] 40):=⟨_,rfl⟩
       obtain ⟨bj,hbj⟩:∃ bj,bj = wr.heap.size:=⟨_,rfl⟩
       have HD:Hid (KD w W8 gb b V A n c L nb bj k st so dm ep):=jH (by
        have h4:Below wr.heap.size wr W8:=by rw [hW8]; exact (Below.refl _ wr).alloc (Nat.le_refl _) _
        exact ⟨HC.out.step h4,by rw [hW8,hbj]; exact heap_alloc_new wr _⟩)
       rw [<- hW8,<- hbj]
       clear hW8 hbj HC tk tg j0 j1 j2 j3 j4
       obtain ⟨g0,g1,_⟩:=two_cells HD.out.c.g.gbx
       obtain ⟨j0,j1,j2,j3,j4,_⟩:=jb_cells HD.out.jbx
       obtain ⟨p,S,E,hrun⟩:=kn_run k st so dm ep (V:Int) A n c L W8 HD.out.c.g.row HN.out HM.out
       have HRUN:=jH hrun
       clear hrun
       go_wp2_with fail
       refine HRUN.out.mono ?_
       rintro e w9 ⟨Av,cv,Ac,cc,Ai,ci,nv,nc,ni,B,rfl,hq,hf,hb⟩
       replace HD:=jH (HD.out.step hb.out)
       clear hb HRUN g0 g1 j0 j1 j2 j3 j4
       go_upto_region 15 with fail
       obtain ⟨W9,hW9⟩:∃ W9,W9 = w9.alloc (.cells #[.int .i64 p,.slice Av nv cv,.slice Ac nc cc,.slice Ai ni ci,.int .i64 S.sum,.int .i64 S.most] 45):=⟨_,rfl⟩
       obtain ⟨bs,hbs⟩:∃ bs,bs = w9.heap.size:=⟨_,rfl⟩
       have HE:Hid (KE w w9 W9 gb b V A n c L nb bj k st so dm ep bs B p S Av Ac Ai nv nc ni cv cc ci):=jH (by
        have h4:Below w9.heap.size w9 W9:=by rw [hW9]; exact (Below.refl _ w9).alloc (Nat.le_refl _) _
        exact ⟨HD.out,h4,by rw [hbs]; exact Nat.le_refl _,by rw [hW9,hbs]; exact heap_alloc_new w9 _,hq.out.1.below h4,hq.out.2.1.below h4,hq.out.2.2.below h4⟩)
       rw [<- hW9,<- hbs]
       have HF:=hf
       clear hW9 hbs HD hq hf
       obtain ⟨g0,g1,_⟩:=two_cells HE.out.now.c.g.gbx
       obtain ⟨j0,j1,j2,j3,j4,_⟩:=jb_cells HE.out.now.jbx
       go_wp2_with fail
       refine (lw_run k st so dm ep (V:Int) y 1 A n c L _ HE.out.now.c.g.row HN.out (by have:=HM.out; omega)).mono ?_
       rintro e wa ⟨rfl,hb⟩
       replace HE:=jH (HE.out.step hb)
       clear hb g0 g1 j0 j1 j2 j3 j4
       obtain ⟨g0,g1,_⟩:=two_cells HE.out.now.c.g.gbx
       obtain ⟨j0,j1,j2,j3,j4,_⟩:=jb_cells HE.out.now.jbx
       go_wp2_with fail
       refine (lw_run k st so dm ep (V:Int) (y + 1) 4611686018427387904 A n c L _ HE.out.now.c.g.row HN.out (by have:=HM.out; omega)).mono ?_
       rintro e wb ⟨rfl,hb⟩
       replace HE:=jH (HE.out.step hb)
       clear hb g0 g1 j0 j1 j2 j3 j4
       obtain ⟨g0,g1,_⟩:=two_cells HE.out.now.c.g.gbx
       obtain ⟨j0,j1,j2,j3,j4,_⟩:=jb_cells HE.out.now.jbx
       obtain ⟨s0,s1,s2,s3,s4,s5,_⟩:=Sq.six HE.out.sbx
       go_wp2_with fail
       refine (lw_means k st so dm ep (V:Int) p S A Av Ac Ai n c nv cv nc cc ni ci L _ HE.out.now.c.g.row HN.out (by have:=HM.out; omega) HE.out.sat HF.out).mono ?_
       rintro e wc ⟨rfl,hb⟩
       replace HE:=jH (HE.out.step hb)
       clear hb g0 g1 j0 j1 j2 j3 j4 s0 s1 s2 s3 s4 s5
       obtain ⟨G2,rfl⟩:∃ G2:Nat,G2 = gk:=⟨_,rfl⟩
       obtain ⟨Y,rfl⟩:∃ Y:Int,Y = y:=⟨_,rfl⟩
       go_wp2_with fail
       go_loopg [8] 6 (fun gk i wr => D1Rel w w9 gb b V A n c L nb bj k st so dm ep bs B S Av Ac Ai nv nc ni cv cc ci gk i wr)
       case atStart => exact ⟨-1,p,by omega,by omega,rfl,HE⟩
       case round =>
        clear HE
        obtain ⟨z,q,hz,hz1,rfl,HE⟩:=hrel
        by_cases hz10:z < 10
        ·obtain ⟨s0,s1,s2,s3,s4,s5,_⟩:=Sq.six HE.out.sbx
         have f0:wr.frozen? ⟨bs,0,none⟩ = false:=Lib.frozen_of_heap HE.out.sbx _
         have HP:=jH (HE.out.put z)
         go_upto_region 21 with fail
         clear s0 s1 s2 s3 s4 s5 f0 HE
         generalize World.setCell _ ⟨bs,0,none⟩ (.int .i64 z) = W10 at HP ⊢
         obtain ⟨g0,g1,_⟩:=two_cells HP.out.now.c.g.gbx
         obtain ⟨j0,j1,j2,j3,j4,_⟩:=jb_cells HP.out.now.jbx
         obtain ⟨s0,s1,s2,s3,s4,s5,_⟩:=Sq.six HP.out.sbx
         go_wp2_with fail
         refine (lw_means k st so dm ep (V:Int) z S A Av Ac Ai n c nv cv nc cc ni ci L _ HP.out.now.c.g.row HN.out (by have:=HM.out; omega) HP.out.sat HF.out).mono ?_
         rintro e wd ⟨rfl,hb⟩
         replace HP:=jH (HP.out.step hb)
         clear hb g0 g1 j0 j1 j2 j3 j4 s0 s1 s2 s3 s4 s5
         have hwz:IntKind.i64.wrap (z + 2) = z + 2:=IntWalk.i64_in _ (by omega)
         go_wp2
         go_roundg (gk - 1)
         case measure => omega
         case rel => exact ⟨z + 2,z,by omega,by omega,rfl,HP⟩
        ·go_wp2
         go_roundg (G2 - 1)
         case measure => omega
         case rel => exact ⟨i2 + 1,by omega,by go_num,jH HE.out.now.c⟩
      ·go_wp2
       go_roundg (G1 - 1)
       case measure => omega
       case rel => exact ⟨y + 1,by omega,by omega,rfl,jH HC.out.g⟩
    ·go_wp2
     go_roundg (G0 - 1)
     case measure => omega
     case rel => exact ⟨i1 + 1,by omega,by go_num,jH HG.out.a⟩
  ·obtain rfl:i1 = 7:=by omega
   clear h7
   go_wp2_with fail
   refine (wrk_any _).mono ?_
   rintro e w9 ⟨rfl,hb⟩
   go_wp2
   go_ret
   exact ⟨rfl,step_below HS.out.below HS.out.below.size hb.out⟩
end Go.Proofs.YtdcaekmgfcpbmaaGreat.Kn
