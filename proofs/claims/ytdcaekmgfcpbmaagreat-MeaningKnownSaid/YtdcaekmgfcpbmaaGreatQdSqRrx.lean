/-
  What is proved here: a contract of the document's own At. Conditions: at most 1000 edges; numbers that fit an int. What is proved here: a contract of the document's own Run. Conditions: at most 1000 edges; numbers that fit an int.
-/
import Derived.Test.YtdcaekmgfcpbmaaGreatQdSqRsx
import Derived.Test.YtdcaekmgfcpbmaaGreatQdSqRunx
import Derived.Test.YtdcaekmgfcpbmaaGreatQdAlQ3x
namespace Go.Proofs.YtdcaekmgfcpbmaaGreat.Sq
open Go.RowKit Go.Shelf Gr Wd Ws Fx Rk Lb Al In
open Pa (vl bt vl_of vl_at bt_of bt_at)
set_option maxRecDepth 100000 in
set_option maxHeartbeats 1000000 in
theorem rat_any (k st so dm ep V:Int) (A:Option Addr) (n c:Nat) (L:List Ed) (kk:Int) (w:World) (hL:EAt w A L) (hn:L.length = n) (hm:n <= 1000) :
 Calls Tryz.prog 68 #[.agg #[.int .i64 V,.slice A n c],.agg #[.int .u8 k,.int .i64 st,.int .i64 so,.int .i64 dm,.int .i64 ep],.int .i64 kk] w fun e w' => Res w w' e (atR k st so dm ep V L kk):=by
 have mixed:=mixedI
 have HL:=jH hL; have HN:=jH hn
 clear hL hn
 obtain ⟨W3,hW3⟩:∃ W3,W3 = ((w.alloc (.cells #[.int .i64 V,.slice A n c] 24)).alloc (.cells #[.int .u8 k,.int .i64 st,.int .i64 so,.int .i64 dm,.int .i64 ep] 40)).alloc (.cells #[.int .i64 0,.slice none 0 0,.slice none 0 0,.slice none 0 0,.int .i64 0,.int .i64 0] 45):=⟨_,rfl⟩
 have hal:=al3 w (.cells #[.int .i64 V,.slice A n c] 24) (.cells #[.int .u8 k,.int .i64 st,.int .i64 so,.int .i64 dm,.int .i64 ep] 40) (.cells #[.int .i64 0,.slice none 0 0,.slice none 0 0,.slice none 0 0,.int .i64 0,.int .i64 0] 45)
 rw [<- hW3] at hal
 obtain ⟨n0,e0⟩:∃ n0,n0 = w.heap.size:=⟨_,rfl⟩
 have HG:Hid (W3.heap[n0]? = some (.cells #[.int .i64 V,.slice A n c] 24 (0,0))):=jH (by rw [e0]; exact hal.1)
 have HJ:Hid (W3.heap[n0 + 1]? = some (.cells #[.int .u8 k,.int .i64 st,.int .i64 so,.int .i64 dm,.int .i64 ep] 40 (0,0))):=jH (by rw [e0]; exact hal.2.1)
 have HR:Hid (W3.heap[n0 + 1 + 1]? = some (.cells #[.int .i64 0,.slice none 0 0,.slice none 0 0,.slice none 0 0,.int .i64 0,.int .i64 0] 45 (0,0))):=jH (by rw [e0]; exact hal.2.2.1)
 have HB:=jH hal.2.2.2
 have HN0:Hid (w.heap.size <= n0):=jH (by omega)
 clear hal
 obtain ⟨g0,g1,_⟩:=two HG.out
 obtain ⟨j0,j1,j2,j3,j4,_⟩:=jb_cells HJ.out
 have HS:=jH (rstart_any' k st so dm ep V A n c L W3 (HL.out.below HB.out) HN.out hm)
 obtain ⟨E,hE⟩:∃ E,E = chkJ k st so dm ep V L:=⟨_,rfl⟩
 have HE:=jH hE
 clear hE
 go_enter Tryz.func68,Tryz.ntmps68
 go_upto_region 1 with fail
 rw [<- hW3,show w.heap.size = n0 from e0.symm]
 clear hW3 e0
 go_wp2_with fail
 refine HS.out.mono ?_
 rintro e w4 ⟨x,rfl,hx,hb4⟩
 have HB4:=jS HB hb4.out
 have HG4:=jK HG hb4.out; have HJ4:=jK HJ hb4.out; have HR4:=jK HR hb4.out
 have HX4:=jH (hx.out.mono HB.out.size)
 clear hx hb4 g0 g1 j0 j1 j2 j3 j4 HG HJ HR HB HS
 by_cases hE0:E = 0
 ·subst hE0
  have hsr:startR k st so dm ep V L = (0,strS k so V.toNat L,0):=by unfold startR; rw [if_pos HE.out.symm]
  rw [hsr] at HX4 ⊢
  clear hsr
  obtain ⟨hz,hst0,hst1,hk,hd0,hd1⟩:=chkJ_zero HE.out.symm
  obtain ⟨Vn,rfl,hV1,hV2,hfit⟩:=chk_facts hz
  have HGO:Hid (∀ q,GoS k Vn L (stS k so dm Vn L q)):=jH (fun q => go_all hz (fun _ => ⟨hd0,hd1⟩) q)
  have HDM:Hid (I63 dm):=jH (by unfold I63; omega)
  clear hfit hz hst0 hst1 hk hd0 hd1
  have HX7:Hid (SOwn w4 w.heap.size x 0 (stS k so dm Vn L 0)):=jH HX4.out
  clear HX4
  obtain ⟨Av,cv,Ac,cc,Ai,ci,rfl,⟨hq0,hm0,hk0⟩⟩:=HX7.out.at'
  obtain ⟨s0,hs0⟩:∃ s0,s0 = stS k so dm Vn L 0:=⟨_,rfl⟩
  rw [<- hs0] at HX7 hq0 hm0 hk0 ⊢
  obtain ⟨a1,ha1⟩:∃ a,a = s0.vals.length:=⟨_,rfl⟩
  obtain ⟨a2,ha2⟩:∃ a,a = s0.chg.length:=⟨_,rfl⟩
  obtain ⟨a3,ha3⟩:∃ a,a = s0.inb.length:=⟨_,rfl⟩
  rw [<- ha1,<- ha2,<- ha3] at HX7 ⊢
  rw [<- ha1] at hq0; rw [<- ha2] at hm0; rw [<- ha3] at hk0
  clear ha1 ha2 ha3
  obtain ⟨W8,hW8⟩:∃ W8,W8 = w4.alloc (.cells #[.int .i64 0,.slice Av a1 cv,.slice Ac a2 cc,.slice Ai a3 ci,.int .i64 s0.sum,.int .i64 s0.most] 45):=⟨_,rfl⟩
  have hb8:Below w4.heap.size w4 W8:=by rw [hW8]; exact (Below.refl _ w4).alloc (Nat.le_refl _) _
  obtain ⟨bo,ebo⟩:∃ bo,bo = w4.heap.size:=⟨_,rfl⟩
  obtain ⟨fx,hfx⟩:∃ fx:Fxd,fx = [(n0,#[.int .i64 (Vn:Int),.slice A n c],24),(n0 + 1,#[.int .u8 k,.int .i64 st,.int .i64 so,.int .i64 dm,.int .i64 ep],40),(n0 + 1 + 1,#[.int .i64 0,.slice none 0 0,.slice none 0 0,.slice none 0 0,.int .i64 0,.int .i64 0],45)]:=⟨_,rfl⟩
  have hrl:=lt_of_block HR4.out
  have HH8:Hid (LpH w W8 bo w.heap.size w.heap.size fx ((0:Nat):Int) (stS k so dm Vn L 0) (.slice none 0 0) []):=jH (by
   refine ⟨step_below HB4.out HB4.out.size hb8,?_,⟨.slice Av a1 cv,.slice Ac a2 cc,.slice Ai a3 ci,?_,(own_below (hs0 ▸ hq0) hb8),(own_below (hs0 ▸ hm0) hb8),(own_below (hs0 ▸ hk0) hb8)⟩,WOwn.none_ _ _,?_,by rw [ebo]; exact HB4.out.size⟩
   ·rw [hfx]; intro p hp
    simp only [List.mem_cons,List.not_mem_nil,or_false] at hp
    rcases hp with rfl | rfl | rfl
    ·exact keep HG4.out hb8
    ·exact keep HJ4.out hb8
    ·exact keep HR4.out hb8
   ·rw [hW8,ebo,<- hs0]; exact heap_alloc_new w4 _
   ·rw [hfx]; intro p hp
    simp only [List.mem_cons,List.not_mem_nil,or_false] at hp
    rcases hp with rfl | rfl | rfl <;> (simp only []; omega))
  have HRB8:=jK HR4 hb8
  have HB8:=jS HB4 hb8
  have HF0:Hid (∀ W i s,LpH w W bo w.heap.size w.heap.size fx i s (.slice none 0 0) []->W.heap[n0]? = some (.cells #[.int .i64 (Vn:Int),.slice A n c] 24 (0,0))):=jH (fun W i s h => h.fixed (n0,#[.int .i64 (Vn:Int),.slice A n c],24) (by rw [hfx]; exact List.mem_cons_self))
  have HF1:Hid (∀ W i s,LpH w W bo w.heap.size w.heap.size fx i s (.slice none 0 0) []->W.heap[n0 + 1]? = some (.cells #[.int .u8 k,.int .i64 st,.int .i64 so,.int .i64 dm,.int .i64 ep] 40 (0,0))):=jH (fun W i s h => h.fixed (n0 + 1,#[.int .u8 k,.int .i64 st,.int .i64 so,.int .i64 dm,.int .i64 ep],40) (by rw [hfx]; exact List.mem_cons_of_mem _ List.mem_cons_self))
  have HF2:Hid (∀ W i s,LpH w W bo w.heap.size w.heap.size fx i s (.slice none 0 0) []->W.heap[n0 + 1 + 1]? = some (.cells #[.int .i64 0,.slice none 0 0,.slice none 0 0,.slice none 0 0,.int .i64 0,.int .i64 0] 45 (0,0))):=jH (fun W i s h => h.fixed (n0 + 1 + 1,#[.int .i64 0,.slice none 0 0,.slice none 0 0,.slice none 0 0,.int .i64 0,.int .i64 0],45) (by rw [hfx]; exact List.mem_cons_of_mem _ (List.mem_cons_of_mem _ List.mem_cons_self)))
  clear hs0 hfx hq0 hm0 hk0 hrl
  go_upto_region 2 with fail
  rw [<- hW8,show w4.heap.size = bo from ebo.symm]
  clear hW8 hb8 ebo HX7 HG4 HJ4 HR4
  by_cases hr:0 <= kk/\kk <= 2000
  case neg =>
   have hq:atR k st so dm ep (Vn:Int) L kk = (0,zS,4):=by unfold atR; rw [if_pos HE.out.symm,if_neg hr]
   obtain ⟨r0,r1,r2,r3,r4,r5,rl⟩:=six HRB8.out
   have f0:=warm HRB8.out 0; have f1:=warm HRB8.out 1; have f2:=warm HRB8.out 2; have f3:=warm HRB8.out 3; have f4:=warm HRB8.out 4; have f5:=warm HRB8.out 5
   have HQ:=jH hq
   clear hq
   by_cases h0:kk < 0
   ·clear hr
    go_wp2
    obtain ⟨hX,hRes⟩:=bad_res HQ.out HB8.out (b:=n0 + 1 + 1) (by have:=HN0.out; omega) HRB8.out
    unfold put6 at hX hRes
    exact bodyPost_ret (v:=.tuple #[.agg #[.int .i64 0,.slice none 0 0,.slice none 0 0,.slice none 0 0,.int .i64 0,.int .i64 0],.int .i64 4]) (res2_s _ _ _ _ _ _ _ _ _ _ _ _ _ Tryz.results68 rfl rfl hX) rfl hRes
   ·have h2:2000 < kk:=by omega
    clear hr
    go_wp2
    obtain ⟨hX,hRes⟩:=bad_res HQ.out HB8.out (b:=n0 + 1 + 1) (by have:=HN0.out; omega) HRB8.out
    unfold put6 at hX hRes
    exact bodyPost_ret (v:=.tuple #[.agg #[.int .i64 0,.slice none 0 0,.slice none 0 0,.slice none 0 0,.int .i64 0,.int .i64 0],.int .i64 4]) (res2_s _ _ _ _ _ _ _ _ _ _ _ _ _ Tryz.results68 rfl rfl hX) rfl hRes
  obtain ⟨m,rfl⟩:∃ m:Nat,kk = (m:Int):=⟨kk.toNat,by omega⟩
  have hm2:m <= 2000:=by omega
  have HZ0:Hid (∀ q,q = m->atR k st so dm ep (Vn:Int) L (m:Int) = ((q:Int),stS k so dm Vn L q,0)):=jH (fun q e => by subst e; unfold atR; rw [if_pos HE.out.symm,if_pos hr]; rfl)
  clear hr HRB8 HB8
  go_wp2_with fail
  go_loopg [] m (fun gk W => ∃ q:Nat,q + gk = m/\Hid (LpH w W bo w.heap.size w.heap.size fx (q:Int) (stS k so dm Vn L q) (.slice none 0 0) []))
  case atStart => exact ⟨0,by omega,HH8⟩
  case round =>
   clear HH8
   obtain ⟨q,hq,HH⟩:=hrel
   by_cases hlt:q < m
   ·skip
    obtain ⟨va,vc,vi,hbs,hq0,hm0,hk0⟩:=HH.out.rows
    have FIT:=jH (fit_go (HGO.out q))
    obtain ⟨S,hS⟩:∃ S,S = stS k so dm Vn L q:=⟨_,rfl⟩
    rw [<- hS] at hbs hq0 hm0 hk0 FIT HH
    have HS:=jH hS
    clear hS
    obtain ⟨Av,cv,rfl,hv0⟩:=hq0.form
    obtain ⟨Ac,cc,rfl,hc0⟩:=hm0.form
    obtain ⟨Ai,ci,rfl,hi0,_⟩:=hk0.room
    have hsv:SAt wr Av Ac Ai S.vals.length S.chg.length S.inb.length S:=⟨hv0,hc0,hi0,rfl,rfl,rfl⟩
    rw [FIT.out.nv,FIT.out.ni] at hbs
    obtain ⟨a2,ha2⟩:∃ a,a = S.chg.length:=⟨_,rfl⟩
    rw [<- ha2] at hbs
    clear ha2 hq0 hm0 hk0 hv0 hc0 hi0
    have HSB:=jH hbs
    clear hbs
    obtain ⟨x0,x1,x2,x3,x4,x5,_⟩:=six HSB.out
    obtain ⟨j0,j1,j2,j3,j4,_⟩:=jb_cells (HF1.out _ _ _ HH.out)
    obtain ⟨g0,g1,_⟩:=two (HF0.out _ _ _ HH.out)
    go_wp2_with fail
    refine (rnext_any k st so dm ep (q:Int) Vn A n c L Av Ac Ai cv cc ci a2 S wr (HL.out.below HH.out.below) HN.out hsv.v hsv.i FIT.out.nv FIT.out.ni FIT.out.v FIT.out.i FIT.out.sm (nxt_i63 FIT.out.v FIT.out.i) HDM.out ⟨by omega,by omega⟩ hV2 (by rw [HN.out]; omega)).mono ?_
    rintro e w9 ⟨x,rfl,hx,hb9⟩
    have HH9:=jH (HH.out.step hb9.out)
    have HX9:=jH (hx.out.mono HH.out.below.size)
    clear hx hb9 hsv HSB g0 g1 j0 j1 j2 j3 j4 x0 x1 x2 x3 x4 x5 FIT
    obtain ⟨Bv,dv,Bc,dc,Bi,di,rfl,⟨hq1,hm1,hk1⟩⟩:=HX9.out.at'
    obtain ⟨T,hT⟩:∃ T,nxtS k dm Vn L S = T:=⟨_,rfl⟩
    rw [hT] at HX9 hq1 hm1 hk1 ⊢
    have HT:Hid (T = stS k so dm Vn L (q + 1)):=jH (by rw [<- hT,HS.out]; exact (stS_next k so dm Vn L q).symm)
    clear hT
    obtain ⟨m1,hm1'⟩:∃ a,a = T.vals.length:=⟨_,rfl⟩
    obtain ⟨m2,hm2'⟩:∃ a,a = T.chg.length:=⟨_,rfl⟩
    obtain ⟨m3,hm3'⟩:∃ a,a = T.inb.length:=⟨_,rfl⟩
    rw [<- hm1',<- hm2',<- hm3'] at HX9 ⊢
    rw [<- hm1'] at hq1; rw [<- hm2'] at hm1; rw [<- hm3'] at hk1
    clear hm1' hm2' hm3'
    have HP:=jH (HH9.out.put (j:=(q:Int) + 1) hq1 hm1 hk1)
    obtain ⟨z1,z2,z3,hzb,_,_,_⟩:=HH9.out.rows
    obtain ⟨y0,y1,y2,y3,y4,y5,yl⟩:=six hzb
    have f0:=warm hzb 0; have f1:=warm hzb 1; have f2:=warm hzb 2; have f3:=warm hzb 3; have f4:=warm hzb 4; have f5:=warm hzb 5
    clear hzb hq1 hm1 hk1 HX9 HH HH9
    go_wp2
    go_roundg (gk - 1)
    case measure => omega
    case rel =>
     refine ⟨q + 1,by omega,?_⟩
     have h:=HP.out
     unfold put6 at h
     rw [<- HT.out,show ((q + 1:Nat):Int) = (q:Int) + 1 from rfl]
     exact jH h
   ·obtain rfl:q = m:=by omega
    have HZ:=jH (HZ0.out q rfl)
    clear HZ0
    obtain ⟨va,vc,vi,hbs,hq0,hm0,hk0⟩:=HH.out.rows
    obtain ⟨Av,cv,rfl,_⟩:=hq0.form
    obtain ⟨Ac,cc,rfl,_⟩:=hm0.form
    obtain ⟨Ai,ci,rfl,_⟩:=hk0.room
    skip
    obtain ⟨S,hS⟩:∃ S,stS k so dm Vn L q = S:=⟨_,rfl⟩
    rw [hS] at hbs hq0 hm0 hk0 HZ
    clear hS
    obtain ⟨a1,ha1⟩:∃ a,a = S.vals.length:=⟨_,rfl⟩
    obtain ⟨a2,ha2⟩:∃ a,a = S.chg.length:=⟨_,rfl⟩
    obtain ⟨a3,ha3⟩:∃ a,a = S.inb.length:=⟨_,rfl⟩
    rw [<- ha1,<- ha2,<- ha3] at hbs
    rw [<- ha1] at hq0; rw [<- ha2] at hm0; rw [<- ha3] at hk0
    clear ha1 ha2 ha3
    have HBS:=jH hbs; have HQ0:=jH hq0; have HM0:=jH hm0; have HK0:=jH hk0
    have HRB:=jH (HF2.out _ _ _ HH.out)
    have HBW:=jH HH.out.below
    clear hbs hq0 hm0 hk0
    obtain ⟨x0,x1,x2,x3,x4,x5,_⟩:=six HBS.out
    obtain ⟨r0,r1,r2,r3,r4,r5,rl⟩:=six HRB.out
    have f0:=warm HRB.out 0; have f1:=warm HRB.out 1; have f2:=warm HRB.out 2; have f3:=warm HRB.out 3; have f4:=warm HRB.out 4; have f5:=warm HRB.out 5
    go_wp2
    have hX:=put6_heap HRB.out (.int .i64 (q:Int)) (.slice Av a1 cv) (.slice Ac a2 cc) (.slice Ai a3 ci) (.int .i64 S.sum) (.int .i64 S.most)
    have hBX:=put6_below HBW.out (b:=n0 + 1 + 1) (by have:=HN0.out; omega) (.int .i64 (q:Int)) (.slice Av a1 cv) (.slice Ac a2 cc) (.slice Ai a3 ci) (.int .i64 S.sum) (.int .i64 S.most)
    have h1:=put6_moved HQ0.out HRB.out (by decide) (.int .i64 (q:Int)) (.slice Av a1 cv) (.slice Ac a2 cc) (.slice Ai a3 ci) (.int .i64 S.sum) (.int .i64 S.most)
    have h2:=put6_moved HM0.out HRB.out (by decide) (.int .i64 (q:Int)) (.slice Av a1 cv) (.slice Ac a2 cc) (.slice Ai a3 ci) (.int .i64 S.sum) (.int .i64 S.most)
    have h3:=put6_moved HK0.out HRB.out (by decide) (.int .i64 (q:Int)) (.slice Av a1 cv) (.slice Ac a2 cc) (.slice Ai a3 ci) (.int .i64 S.sum) (.int .i64 S.most)
    unfold put6 at hX hBX h1 h2 h3
    exact bodyPost_ret (v:=.tuple #[.agg #[.int .i64 (q:Int),.slice Av a1 cv,.slice Ac a2 cc,.slice Ai a3 ci,.int .i64 S.sum,.int .i64 S.most],.int .i64 0]) (res2_s _ _ _ _ _ _ _ _ _ _ _ _ _ Tryz.results68 rfl rfl hX) rfl ⟨_,by rw [HZ.out],jH (by rw [HZ.out]; exact ⟨_,_,_,rfl,h1,h2,h3⟩),jH hBX⟩
 ·have hsr:startR k st so dm ep V L = (0,zS,E):=by unfold startR; rw [if_neg (by rw [<- HE.out]; exact hE0),<- HE.out]
  rw [hsr] at HX4 ⊢
  clear hsr
  have hq:atR k st so dm ep V L kk = (0,zS,E):=by unfold atR; rw [if_neg (by rw [<- HE.out]; exact hE0),<- HE.out]
  obtain ⟨Av,cv,Ac,cc,Ai,ci,rfl,⟨hq0,hm0,hk0⟩⟩:=HX4.out.at'
  obtain ⟨a1,ha1⟩:∃ a,a = zS.vals.length:=⟨_,rfl⟩
  obtain ⟨a2,ha2⟩:∃ a,a = zS.chg.length:=⟨_,rfl⟩
  obtain ⟨a3,ha3⟩:∃ a,a = zS.inb.length:=⟨_,rfl⟩
  obtain ⟨a4,ha4⟩:∃ a,a = zS.sum:=⟨_,rfl⟩
  obtain ⟨a5,ha5⟩:∃ a,a = zS.most:=⟨_,rfl⟩
  rw [<- ha1,<- ha2,<- ha3,<- ha4,<- ha5]
  clear ha1 ha2 ha3 ha4 ha5 hq0 hm0 hk0 HX4
  obtain ⟨W8,hW8⟩:∃ W8,W8 = w4.alloc (.cells #[.int .i64 0,.slice Av a1 cv,.slice Ac a2 cc,.slice Ai a3 ci,.int .i64 a4,.int .i64 a5] 45):=⟨_,rfl⟩
  have hb8:Below w4.heap.size w4 W8:=by rw [hW8]; exact (Below.refl _ w4).alloc (Nat.le_refl _) _
  have HR8:=jK HR4 hb8; have HB8:=jS HB4 hb8
  clear hb8
  go_upto_region 2 with fail
  rw [<- hW8]
  clear hW8
  obtain ⟨r0,r1,r2,r3,r4,r5,rl⟩:=six HR8.out
  have f0:=warm HR8.out 0; have f1:=warm HR8.out 1; have f2:=warm HR8.out 2; have f3:=warm HR8.out 3; have f4:=warm HR8.out 4; have f5:=warm HR8.out 5
  have HQ:=jH hq
  clear hq
  go_wp2
  obtain ⟨hX,hRes⟩:=bad_res HQ.out HB8.out (b:=n0 + 1 + 1) (by have:=HN0.out; omega) HR8.out
  unfold put6 at hX hRes
  exact bodyPost_ret (v:=.tuple #[.agg #[.int .i64 0,.slice none 0 0,.slice none 0 0,.slice none 0 0,.int .i64 0,.int .i64 0],.int .i64 E]) (res2_s _ _ _ _ _ _ _ _ _ _ _ _ _ Tryz.results68 rfl rfl hX) rfl hRes
open Go.RowKit Go.Shelf Gr Wd Ws Fx Rk Lb Al In
open Pa (vl bt vl_of vl_at bt_of bt_at)
set_option maxRecDepth 100000 in
set_option maxHeartbeats 1000000 in
theorem rrun_any (k st so dm ep V:Int) (A:Option Addr) (n c:Nat) (L:List Ed) (N:Nat) (w:World) (hL:EAt w A L) (hn:L.length = n) (hm:n <= 1000) (hN:chkJ k st so dm ep V L = 0->donB k st ep (N:Int) (stS k so dm V.toNat L N).most = true/\N <= 2000/\∀ i:Nat,i < N->donB k st ep (i:Int) (stS k so dm V.toNat L i).most = false) :
 Calls Tryz.prog 66 #[.agg #[.int .i64 V,.slice A n c],.agg #[.int .u8 k,.int .i64 st,.int .i64 so,.int .i64 dm,.int .i64 ep]] w fun e w' => Res w w' e (runR k st so dm ep V L N):=by
 have mixed:=mixedI
 have HL:=jH hL; have HN:=jH hn
 clear hL hn
 obtain ⟨W3,hW3⟩:∃ W3,W3 = ((w.alloc (.cells #[.int .i64 V,.slice A n c] 24)).alloc (.cells #[.int .u8 k,.int .i64 st,.int .i64 so,.int .i64 dm,.int .i64 ep] 40)).alloc (.cells #[.int .i64 0,.slice none 0 0,.slice none 0 0,.slice none 0 0,.int .i64 0,.int .i64 0] 45):=⟨_,rfl⟩
 have hal:=al3 w (.cells #[.int .i64 V,.slice A n c] 24) (.cells #[.int .u8 k,.int .i64 st,.int .i64 so,.int .i64 dm,.int .i64 ep] 40) (.cells #[.int .i64 0,.slice none 0 0,.slice none 0 0,.slice none 0 0,.int .i64 0,.int .i64 0] 45)
 rw [<- hW3] at hal
 obtain ⟨n0,e0⟩:∃ n0,n0 = w.heap.size:=⟨_,rfl⟩
 have HG:Hid (W3.heap[n0]? = some (.cells #[.int .i64 V,.slice A n c] 24 (0,0))):=jH (by rw [e0]; exact hal.1)
 have HJ:Hid (W3.heap[n0 + 1]? = some (.cells #[.int .u8 k,.int .i64 st,.int .i64 so,.int .i64 dm,.int .i64 ep] 40 (0,0))):=jH (by rw [e0]; exact hal.2.1)
 have HR:Hid (W3.heap[n0 + 1 + 1]? = some (.cells #[.int .i64 0,.slice none 0 0,.slice none 0 0,.slice none 0 0,.int .i64 0,.int .i64 0] 45 (0,0))):=jH (by rw [e0]; exact hal.2.2.1)
 have HB:=jH hal.2.2.2
 have HN0:Hid (w.heap.size <= n0):=jH (by omega)
 clear hal
 obtain ⟨g0,g1,_⟩:=two HG.out
 obtain ⟨j0,j1,j2,j3,j4,_⟩:=jb_cells HJ.out
 have HS:=jH (rstart_any' k st so dm ep V A n c L W3 (HL.out.below HB.out) HN.out hm)
 obtain ⟨E,hE⟩:∃ E,E = chkJ k st so dm ep V L:=⟨_,rfl⟩
 have HE:=jH hE
 clear hE
 go_enter Tryz.func66,Tryz.ntmps66
 go_upto_region 1 with fail
 rw [<- hW3,show w.heap.size = n0 from e0.symm]
 clear hW3 e0
 go_wp2_with fail
 refine HS.out.mono ?_
 rintro e w4 ⟨x,rfl,hx,hb4⟩
 have HB4:=jS HB hb4.out
 have HG4:=jK HG hb4.out; have HJ4:=jK HJ hb4.out; have HR4:=jK HR hb4.out
 have HX4:=jH (hx.out.mono HB.out.size)
 clear hx hb4 g0 g1 j0 j1 j2 j3 j4 HG HJ HR HB HS
 by_cases hE0:E = 0
 ·subst hE0
  have hsr:startR k st so dm ep V L = (0,strS k so V.toNat L,0):=by unfold startR; rw [if_pos HE.out.symm]
  rw [hsr] at HX4 ⊢
  clear hsr
  obtain ⟨hz,hst0,hst1,hk,hd0,hd1⟩:=chkJ_zero HE.out.symm
  obtain ⟨Vn,rfl,hV1,hV2,hfit⟩:=chk_facts hz
  have HGO:Hid (∀ q,GoS k Vn L (stS k so dm Vn L q)):=jH (fun q => go_all hz (fun _ => ⟨hd0,hd1⟩) q)
  have HDM:Hid (I63 dm):=jH (by unfold I63; omega)
  clear hfit hz hst0 hst1 hk hd0 hd1
  have HX7:Hid (SOwn w4 w.heap.size x 0 (stS k so dm Vn L 0)):=jH HX4.out
  clear HX4
  obtain ⟨Av,cv,Ac,cc,Ai,ci,rfl,⟨hq0,hm0,hk0⟩⟩:=HX7.out.at'
  obtain ⟨s0,hs0⟩:∃ s0,s0 = stS k so dm Vn L 0:=⟨_,rfl⟩
  rw [<- hs0] at HX7 hq0 hm0 hk0 ⊢
  obtain ⟨a1,ha1⟩:∃ a,a = s0.vals.length:=⟨_,rfl⟩
  obtain ⟨a2,ha2⟩:∃ a,a = s0.chg.length:=⟨_,rfl⟩
  obtain ⟨a3,ha3⟩:∃ a,a = s0.inb.length:=⟨_,rfl⟩
  rw [<- ha1,<- ha2,<- ha3] at HX7 ⊢
  rw [<- ha1] at hq0; rw [<- ha2] at hm0; rw [<- ha3] at hk0
  clear ha1 ha2 ha3
  obtain ⟨W8,hW8⟩:∃ W8,W8 = w4.alloc (.cells #[.int .i64 0,.slice Av a1 cv,.slice Ac a2 cc,.slice Ai a3 ci,.int .i64 s0.sum,.int .i64 s0.most] 45):=⟨_,rfl⟩
  have hb8:Below w4.heap.size w4 W8:=by rw [hW8]; exact (Below.refl _ w4).alloc (Nat.le_refl _) _
  obtain ⟨bo,ebo⟩:∃ bo,bo = w4.heap.size:=⟨_,rfl⟩
  obtain ⟨fx,hfx⟩:∃ fx:Fxd,fx = [(n0,#[.int .i64 (Vn:Int),.slice A n c],24),(n0 + 1,#[.int .u8 k,.int .i64 st,.int .i64 so,.int .i64 dm,.int .i64 ep],40),(n0 + 1 + 1,#[.int .i64 0,.slice none 0 0,.slice none 0 0,.slice none 0 0,.int .i64 0,.int .i64 0],45)]:=⟨_,rfl⟩
  have hrl:=lt_of_block HR4.out
  have HH8:Hid (LpH w W8 bo w.heap.size w.heap.size fx ((0:Nat):Int) (stS k so dm Vn L 0) (.slice none 0 0) []):=jH (by
   refine ⟨step_below HB4.out HB4.out.size hb8,?_,⟨.slice Av a1 cv,.slice Ac a2 cc,.slice Ai a3 ci,?_,(own_below (hs0 ▸ hq0) hb8),(own_below (hs0 ▸ hm0) hb8),(own_below (hs0 ▸ hk0) hb8)⟩,WOwn.none_ _ _,?_,by rw [ebo]; exact HB4.out.size⟩
   ·rw [hfx]; intro p hp
    simp only [List.mem_cons,List.not_mem_nil,or_false] at hp
    rcases hp with rfl | rfl | rfl
    ·exact keep HG4.out hb8
    ·exact keep HJ4.out hb8
    ·exact keep HR4.out hb8
   ·rw [hW8,ebo,<- hs0]; exact heap_alloc_new w4 _
   ·rw [hfx]; intro p hp
    simp only [List.mem_cons,List.not_mem_nil,or_false] at hp
    rcases hp with rfl | rfl | rfl <;> (simp only []; omega))
  have HRB8:=jK HR4 hb8
  have HB8:=jS HB4 hb8
  have HF0:Hid (∀ W i s,LpH w W bo w.heap.size w.heap.size fx i s (.slice none 0 0) []->W.heap[n0]? = some (.cells #[.int .i64 (Vn:Int),.slice A n c] 24 (0,0))):=jH (fun W i s h => h.fixed (n0,#[.int .i64 (Vn:Int),.slice A n c],24) (by rw [hfx]; exact List.mem_cons_self))
  have HF1:Hid (∀ W i s,LpH w W bo w.heap.size w.heap.size fx i s (.slice none 0 0) []->W.heap[n0 + 1]? = some (.cells #[.int .u8 k,.int .i64 st,.int .i64 so,.int .i64 dm,.int .i64 ep] 40 (0,0))):=jH (fun W i s h => h.fixed (n0 + 1,#[.int .u8 k,.int .i64 st,.int .i64 so,.int .i64 dm,.int .i64 ep],40) (by rw [hfx]; exact List.mem_cons_of_mem _ List.mem_cons_self))
  have HF2:Hid (∀ W i s,LpH w W bo w.heap.size w.heap.size fx i s (.slice none 0 0) []->W.heap[n0 + 1 + 1]? = some (.cells #[.int .i64 0,.slice none 0 0,.slice none 0 0,.slice none 0 0,.int .i64 0,.int .i64 0] 45 (0,0))):=jH (fun W i s h => h.fixed (n0 + 1 + 1,#[.int .i64 0,.slice none 0 0,.slice none 0 0,.slice none 0 0,.int .i64 0,.int .i64 0],45) (by rw [hfx]; exact List.mem_cons_of_mem _ (List.mem_cons_of_mem _ List.mem_cons_self)))
  clear hs0 hfx hq0 hm0 hk0 hrl
  go_upto_region 2 with fail
  rw [<- hW8,show w4.heap.size = bo from ebo.symm]
  clear hW8 hb8 ebo HX7 HG4 HJ4 HR4
  clear HRB8 HB8
  obtain ⟨hN1,hN2,hN3⟩:donB k st ep (N:Int) (stS k so dm Vn L N).most = true/\N <= 2000/\∀ i:Nat,i < N->donB k st ep (i:Int) (stS k so dm Vn L i).most = false:=hN HE.out.symm
  have HDN:=jH hN1; have HDF:=jH hN3
  have HZ0:Hid (∀ q,q = N->runR k st so dm ep (Vn:Int) L N = ((q:Int),stS k so dm Vn L q,0)):=jH (fun q e => by subst e; unfold runR; rw [if_pos HE.out.symm]; rfl)
  clear hN hN1 hN3
  go_wp2_with fail
  go_loopg [] N (fun gk W => ∃ q:Nat,q + gk = N/\Hid (LpH w W bo w.heap.size w.heap.size fx (q:Int) (stS k so dm Vn L q) (.slice none 0 0) []))
  case atStart => exact ⟨0,by omega,HH8⟩
  case round =>
   clear HH8
   obtain ⟨q,hq,HH⟩:=hrel
   by_cases hlt:q < N
   ·have HDQ:=jH (HDF.out q hlt)
    obtain ⟨va,vc,vi,hbs,hq0,hm0,hk0⟩:=HH.out.rows
    have FIT:=jH (fit_go (HGO.out q))
    obtain ⟨S,hS⟩:∃ S,S = stS k so dm Vn L q:=⟨_,rfl⟩
    rw [<- hS] at hbs hq0 hm0 hk0 FIT HH HDQ
    have HS:=jH hS
    clear hS
    obtain ⟨Av,cv,rfl,hv0⟩:=hq0.form
    obtain ⟨Ac,cc,rfl,hc0⟩:=hm0.form
    obtain ⟨Ai,ci,rfl,hi0,_⟩:=hk0.room
    have hsv:SAt wr Av Ac Ai S.vals.length S.chg.length S.inb.length S:=⟨hv0,hc0,hi0,rfl,rfl,rfl⟩
    rw [FIT.out.nv,FIT.out.ni] at hbs
    obtain ⟨a2,ha2⟩:∃ a,a = S.chg.length:=⟨_,rfl⟩
    rw [<- ha2] at hbs
    clear ha2 hq0 hm0 hk0 hv0 hc0 hi0
    have HSB:=jH hbs
    clear hbs
    obtain ⟨x0,x1,x2,x3,x4,x5,_⟩:=six HSB.out
    obtain ⟨j0,j1,j2,j3,j4,_⟩:=jb_cells (HF1.out _ _ _ HH.out)
    obtain ⟨g0,g1,_⟩:=two (HF0.out _ _ _ HH.out)
    have HDC:Hid (Calls Tryz.prog 86 #[.agg #[.int .u8 k,.int .i64 st,.int .i64 so,.int .i64 dm,.int .i64 ep],.int .i64 (q:Int),.int .i64 S.most] wr fun e w' => e = .returned (.bool false)/\Below wr.heap.size wr w'):=jH (by
     have h:=rdone_any k st so dm ep (q:Int) S.most wr
     rw [show donB k st ep (q:Int) S.most = false from HDQ.out] at h; exact h)
    go_wp2_with fail
    refine HDC.out.mono ?_
    rintro e wq ⟨rfl,hbq⟩
    have HHq:=jH (HH.out.step hbq)
    have HSBq:=jK HSB hbq
    have hsvq:=hsv.below hbq
    clear hbq x0 x1 x2 x3 x4 x5 g0 g1 j0 j1 j2 j3 j4 HDC HH HSB hsv HDQ
    obtain ⟨x0,x1,x2,x3,x4,x5,_⟩:=six HSBq.out
    obtain ⟨j0,j1,j2,j3,j4,_⟩:=jb_cells (HF1.out _ _ _ HHq.out)
    obtain ⟨g0,g1,_⟩:=two (HF0.out _ _ _ HHq.out)
    go_wp2_with fail
    refine (rnext_any k st so dm ep (q:Int) Vn A n c L Av Ac Ai cv cc ci a2 S wq (HL.out.below HHq.out.below) HN.out hsvq.v hsvq.i FIT.out.nv FIT.out.ni FIT.out.v FIT.out.i FIT.out.sm (nxt_i63 FIT.out.v FIT.out.i) HDM.out ⟨by omega,by omega⟩ hV2 (by rw [HN.out]; omega)).mono ?_
    rintro e w9 ⟨x,rfl,hx,hb9⟩
    have HH9:=jH (HHq.out.step hb9.out)
    have HX9:=jH (hx.out.mono HHq.out.below.size)
    clear hx hb9 hsvq HSBq g0 g1 j0 j1 j2 j3 j4 x0 x1 x2 x3 x4 x5 FIT
    obtain ⟨Bv,dv,Bc,dc,Bi,di,rfl,⟨hq1,hm1,hk1⟩⟩:=HX9.out.at'
    obtain ⟨T,hT⟩:∃ T,nxtS k dm Vn L S = T:=⟨_,rfl⟩
    rw [hT] at HX9 hq1 hm1 hk1 ⊢
    have HT:Hid (T = stS k so dm Vn L (q + 1)):=jH (by rw [<- hT,HS.out]; exact (stS_next k so dm Vn L q).symm)
    clear hT
    obtain ⟨m1,hm1'⟩:∃ a,a = T.vals.length:=⟨_,rfl⟩
    obtain ⟨m2,hm2'⟩:∃ a,a = T.chg.length:=⟨_,rfl⟩
    obtain ⟨m3,hm3'⟩:∃ a,a = T.inb.length:=⟨_,rfl⟩
    rw [<- hm1',<- hm2',<- hm3'] at HX9 ⊢
    rw [<- hm1'] at hq1; rw [<- hm2'] at hm1; rw [<- hm3'] at hk1
    clear hm1' hm2' hm3'
    have HP:=jH (HH9.out.put (j:=(q:Int) + 1) hq1 hm1 hk1)
    obtain ⟨z1,z2,z3,hzb,_,_,_⟩:=HH9.out.rows
    obtain ⟨y0,y1,y2,y3,y4,y5,yl⟩:=six hzb
    have f0:=warm hzb 0; have f1:=warm hzb 1; have f2:=warm hzb 2; have f3:=warm hzb 3; have f4:=warm hzb 4; have f5:=warm hzb 5
    clear hzb hq1 hm1 hk1 HX9 HHq HH9
    go_wp2
    go_roundg (gk - 1)
    case measure => omega
    case rel =>
     refine ⟨q + 1,by omega,?_⟩
     have h:=HP.out
     unfold put6 at h
     rw [<- HT.out,show ((q + 1:Nat):Int) = (q:Int) + 1 from rfl]
     exact jH h
   ·obtain rfl:q = N:=by omega
    have HZ:=jH (HZ0.out q rfl)
    clear HZ0
    obtain ⟨va,vc,vi,hbs,hq0,hm0,hk0⟩:=HH.out.rows
    obtain ⟨Av,cv,rfl,_⟩:=hq0.form
    obtain ⟨Ac,cc,rfl,_⟩:=hm0.form
    obtain ⟨Ai,ci,rfl,_⟩:=hk0.room
    have HDQ:=HDN
    obtain ⟨S,hS⟩:∃ S,stS k so dm Vn L q = S:=⟨_,rfl⟩
    rw [hS] at HDQ
    rw [hS] at hbs hq0 hm0 hk0 HZ
    clear hS
    obtain ⟨a1,ha1⟩:∃ a,a = S.vals.length:=⟨_,rfl⟩
    obtain ⟨a2,ha2⟩:∃ a,a = S.chg.length:=⟨_,rfl⟩
    obtain ⟨a3,ha3⟩:∃ a,a = S.inb.length:=⟨_,rfl⟩
    rw [<- ha1,<- ha2,<- ha3] at hbs
    rw [<- ha1] at hq0; rw [<- ha2] at hm0; rw [<- ha3] at hk0
    clear ha1 ha2 ha3
    have HBS:=jH hbs; have HQ0:=jH hq0; have HM0:=jH hm0; have HK0:=jH hk0
    have HRB:=jH (HF2.out _ _ _ HH.out)
    have HBW:=jH HH.out.below
    clear hbs hq0 hm0 hk0
    obtain ⟨x0,x1,x2,x3,x4,x5,_⟩:=six HBS.out
    obtain ⟨j0,j1,j2,j3,j4,_⟩:=jb_cells (HF1.out _ _ _ HH.out)
    have HDC:Hid (Calls Tryz.prog 86 #[.agg #[.int .u8 k,.int .i64 st,.int .i64 so,.int .i64 dm,.int .i64 ep],.int .i64 (q:Int),.int .i64 S.most] wr fun e w' => e = .returned (.bool true)/\Below wr.heap.size wr w'):=jH (by
     have h:=rdone_any k st so dm ep (q:Int) S.most wr
     rw [show donB k st ep (q:Int) S.most = true from HDQ.out] at h; exact h)
    go_wp2_with fail
    refine HDC.out.mono ?_
    rintro e wq ⟨rfl,hbq⟩
    replace HBS:=jK HBS hbq; replace HRB:=jK HRB hbq; replace HQ0:=jH (HQ0.out.below hbq); replace HM0:=jH (HM0.out.below hbq); replace HK0:=jH (HK0.out.below hbq)
    replace HBW:=jS HBW hbq
    clear hbq x0 x1 x2 x3 x4 x5 j0 j1 j2 j3 j4 HDC
    obtain ⟨x0,x1,x2,x3,x4,x5,_⟩:=six HBS.out
    obtain ⟨r0,r1,r2,r3,r4,r5,rl⟩:=six HRB.out
    have f0:=warm HRB.out 0; have f1:=warm HRB.out 1; have f2:=warm HRB.out 2; have f3:=warm HRB.out 3; have f4:=warm HRB.out 4; have f5:=warm HRB.out 5
    go_wp2
    have hX:=put6_heap HRB.out (.int .i64 (q:Int)) (.slice Av a1 cv) (.slice Ac a2 cc) (.slice Ai a3 ci) (.int .i64 S.sum) (.int .i64 S.most)
    have hBX:=put6_below HBW.out (b:=n0 + 1 + 1) (by have:=HN0.out; omega) (.int .i64 (q:Int)) (.slice Av a1 cv) (.slice Ac a2 cc) (.slice Ai a3 ci) (.int .i64 S.sum) (.int .i64 S.most)
    have h1:=put6_moved HQ0.out HRB.out (by decide) (.int .i64 (q:Int)) (.slice Av a1 cv) (.slice Ac a2 cc) (.slice Ai a3 ci) (.int .i64 S.sum) (.int .i64 S.most)
    have h2:=put6_moved HM0.out HRB.out (by decide) (.int .i64 (q:Int)) (.slice Av a1 cv) (.slice Ac a2 cc) (.slice Ai a3 ci) (.int .i64 S.sum) (.int .i64 S.most)
    have h3:=put6_moved HK0.out HRB.out (by decide) (.int .i64 (q:Int)) (.slice Av a1 cv) (.slice Ac a2 cc) (.slice Ai a3 ci) (.int .i64 S.sum) (.int .i64 S.most)
    unfold put6 at hX hBX h1 h2 h3
    exact bodyPost_ret (v:=.tuple #[.agg #[.int .i64 (q:Int),.slice Av a1 cv,.slice Ac a2 cc,.slice Ai a3 ci,.int .i64 S.sum,.int .i64 S.most],.int .i64 0]) (res2_s _ _ _ _ _ _ _ _ _ _ _ _ _ Tryz.results66 rfl rfl hX) rfl ⟨_,by rw [HZ.out],jH (by rw [HZ.out]; exact ⟨_,_,_,rfl,h1,h2,h3⟩),jH hBX⟩
 ·have hsr:startR k st so dm ep V L = (0,zS,E):=by unfold startR; rw [if_neg (by rw [<- HE.out]; exact hE0),<- HE.out]
  rw [hsr] at HX4 ⊢
  clear hsr
  have hq:runR k st so dm ep V L N = (0,zS,E):=by unfold runR; rw [if_neg (by rw [<- HE.out]; exact hE0),<- HE.out]
  obtain ⟨Av,cv,Ac,cc,Ai,ci,rfl,⟨hq0,hm0,hk0⟩⟩:=HX4.out.at'
  obtain ⟨a1,ha1⟩:∃ a,a = zS.vals.length:=⟨_,rfl⟩
  obtain ⟨a2,ha2⟩:∃ a,a = zS.chg.length:=⟨_,rfl⟩
  obtain ⟨a3,ha3⟩:∃ a,a = zS.inb.length:=⟨_,rfl⟩
  obtain ⟨a4,ha4⟩:∃ a,a = zS.sum:=⟨_,rfl⟩
  obtain ⟨a5,ha5⟩:∃ a,a = zS.most:=⟨_,rfl⟩
  rw [<- ha1,<- ha2,<- ha3,<- ha4,<- ha5]
  clear ha1 ha2 ha3 ha4 ha5 hq0 hm0 hk0 HX4
  obtain ⟨W8,hW8⟩:∃ W8,W8 = w4.alloc (.cells #[.int .i64 0,.slice Av a1 cv,.slice Ac a2 cc,.slice Ai a3 ci,.int .i64 a4,.int .i64 a5] 45):=⟨_,rfl⟩
  have hb8:Below w4.heap.size w4 W8:=by rw [hW8]; exact (Below.refl _ w4).alloc (Nat.le_refl _) _
  have HR8:=jK HR4 hb8; have HB8:=jS HB4 hb8
  clear hb8
  go_upto_region 2 with fail
  rw [<- hW8]
  clear hW8
  obtain ⟨r0,r1,r2,r3,r4,r5,rl⟩:=six HR8.out
  have f0:=warm HR8.out 0; have f1:=warm HR8.out 1; have f2:=warm HR8.out 2; have f3:=warm HR8.out 3; have f4:=warm HR8.out 4; have f5:=warm HR8.out 5
  have HQ:=jH hq
  clear hq
  go_wp2
  obtain ⟨hX,hRes⟩:=bad_res HQ.out HB8.out (b:=n0 + 1 + 1) (by have:=HN0.out; omega) HR8.out
  unfold put6 at hX hRes
  exact bodyPost_ret (v:=.tuple #[.agg #[.int .i64 0,.slice none 0 0,.slice none 0 0,.slice none 0 0,.int .i64 0,.int .i64 0],.int .i64 E]) (res2_s _ _ _ _ _ _ _ _ _ _ _ _ _ Tryz.results66 rfl rfl hX) rfl hRes
end Go.Proofs.YtdcaekmgfcpbmaaGreat.Sq
