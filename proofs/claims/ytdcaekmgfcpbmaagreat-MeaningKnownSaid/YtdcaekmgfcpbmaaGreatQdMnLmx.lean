/-
  What is proved here: a contract of the document's Means, whatever state is asked for, of a job that may be. Conditions: at most 1000 edges; rows of at most 512. What is proved here: Means, the program's and the document's, of a job that may not be: false. Condition: at most 100000 edges. What is proved here: Means, the program's and the document's, answer alike, whatever job and state; the law's function MeaningMeans says true. Conditions: the number of edges fits an int; rows of at most 512.
-/
import Derived.Test.YtdcaekmgfcpbmaaGreatQdMnLxx
import Derived.Test.YtdcaekmgfcpbmaaGreatQdMnRl
import Derived.Test.YtdcaekmgfcpbmaaGreatQdMnRd
import Derived.Test.YtdcaekmgfcpbmaaGreatQdSqRrx
import Derived.Test.YtdcaekmgfcpbmaaGreatQdSqErx
import Derived.Test.YtdcaekmgfcpbmaaGreatQdAlQ4
import Derived.Test.YtdcaekmgfcpbmaaGreatQdMnLwx
namespace Go.Proofs.YtdcaekmgfcpbmaaGreat.Mn
open Go.RowKit Gr Wd Ws Fx Rk Lb Al In Sq
open Pa (vl bt vl_of vl_at bt_of bt_at Fits fits_of fr far)
theorem mt_some {k st so dm ep V:Int} {L:List Ed} (hc:chkJ k st so dm ep V L = 0) (hk:k ≠ 1):∃ l,Mt k so V L l:=by
 obtain ⟨hz,h0,_,hk3,_⟩:=chkJ_zero hc
 obtain ⟨Vn,rfl,hV0,hV⟩:=chk_v hz
 by_cases hk2:k = 2
 ·exact ⟨_,Or.inl ⟨hk2,by simpa using lab_all (so:=0) (dm:=0) hz Vn (Nat.le_refl _)⟩⟩
 ·exact ⟨_,Or.inr ⟨by omega,rfl⟩⟩
set_option maxRecDepth 100000 in
set_option maxHeartbeats 4000000 in
theorem rMeans_any (k st so dm ep V p:Int) (N:Nat) (Sx:Sq) (A Av Ac Ai:Option Addr) (n c nv cv nc cc ni ci:Nat) (L:List Ed) (w:World) (hL:EAt w A L) (hn:L.length = n) (hm:n <= 1000) (hc:chkJ k st so dm ep V L = 0)
 (hN:donB k st ep (N:Int) (stS k so dm V.toNat L N).most = true/\N <= 2000/\∀ i:Nat,i < N->donB k st ep (i:Int) (stS k so dm V.toNat L i).most = false)
 (hS:SAt w Av Ac Ai nv nc ni Sx) (hf:nv <= 512/\nc <= 512/\ni <= 512) :
 Calls Tryz.prog 43 #[.agg #[.int .i64 V,.slice A n c],.agg #[.int .u8 k,.int .i64 st,.int .i64 so,.int .i64 dm,.int .i64 ep],.agg #[.int .i64 p,.slice Av nv cv,.slice Ac nc cc,.slice Ai ni ci,.int .i64 Sx.sum,.int .i64 Sx.most]] w fun e w' => ∃ b,e = .returned (.bool b)/\Hid (MeB k st so dm V p L N Sx b)/\Below w.heap.size w w':=by
 have mixed:=mixedP
 obtain ⟨W3,hW3⟩:∃ W3,W3 = ((w.alloc (.cells #[.int .i64 V,.slice A n c] 24)).alloc (.cells #[.int .u8 k,.int .i64 st,.int .i64 so,.int .i64 dm,.int .i64 ep] 40)).alloc (.cells #[.int .i64 p,.slice Av nv cv,.slice Ac nc cc,.slice Ai ni ci,.int .i64 Sx.sum,.int .i64 Sx.most] 45):=⟨_,rfl⟩
 have hal:=al3 w (.cells #[.int .i64 V,.slice A n c] 24) (.cells #[.int .u8 k,.int .i64 st,.int .i64 so,.int .i64 dm,.int .i64 ep] 40) (.cells #[.int .i64 p,.slice Av nv cv,.slice Ac nc cc,.slice Ai ni ci,.int .i64 Sx.sum,.int .i64 Sx.most] 45)
 rw [<- hW3] at hal
 obtain ⟨n0,e0⟩:∃ n0,n0 = w.heap.size:=⟨_,rfl⟩
 have HG:Hid (W3.heap[n0]? = some (.cells #[.int .i64 V,.slice A n c] 24 (0,0))):=jH (by rw [e0]; exact hal.1)
 have HJ:Hid (W3.heap[n0 + 1]? = some (.cells #[.int .u8 k,.int .i64 st,.int .i64 so,.int .i64 dm,.int .i64 ep] 40 (0,0))):=jH (by rw [e0]; exact hal.2.1)
 have HR:Hid (W3.heap[n0 + 1 + 1]? = some (.cells #[.int .i64 p,.slice Av nv cv,.slice Ac nc cc,.slice Ai ni ci,.int .i64 Sx.sum,.int .i64 Sx.most] 45 (0,0))):=jH (by rw [e0]; exact hal.2.2.1)
 have HB:=jH hal.2.2.2
 obtain ⟨_,hst0,hst1,_⟩:=chkJ_zero hc
 have HL:=jH hL; have HN:=jH hn; have HSX:=jH hS; have HCJ:=jH hc; have HF:=jH hf; have HNN:=jH hN; have HST:=jH (And.intro hst0 hst1)
 clear hal hL hn hS hc hf hN hst0 hst1
 obtain ⟨g0,g1,_⟩:=two_cells HG.out
 obtain ⟨j0,j1,j2,j3,j4,_⟩:=jb_cells HJ.out
 have HC:Hid (Calls Tryz.prog 65 #[.agg #[.int .i64 V,.slice A n c],.agg #[.int .u8 k,.int .i64 st,.int .i64 so,.int .i64 dm,.int .i64 ep]] W3 fun e w' => e = .returned (.int .i64 0)/\Below W3.heap.size W3 w'):=jH (by
  have h:=rcheckj_any k st so dm ep V A c L W3 (HL.out.below HB.out) (by rw [HN.out]; omega)
  rw [HN.out,HCJ.out] at h; exact h)
 by_cases hk:k = 1
 ·subst hk
  go_enter Tryz.func43,Tryz.ntmps43
  go_upto_region 1 with fail
  rw [<- hW3,show w.heap.size = n0 from e0.symm]
  clear hW3 e0
  go_wp2_with fail
  refine HC.out.mono ?_
  rintro e w4 ⟨rfl,hb4⟩
  have HG4:=jK HG hb4; have HJ4:=jK HJ hb4; have HR4:=jK HR hb4
  have HB4:=jS HB hb4
  clear hb4 g0 g1 j0 j1 j2 j3 j4 HG HJ HR HB HC
  obtain ⟨g0,g1,_⟩:=two_cells HG4.out
  obtain ⟨j0,j1,j2,j3,j4,_⟩:=jb_cells HJ4.out
  obtain ⟨S,hS⟩:∃ S,S = stS 1 so dm V.toNat L N:=⟨_,rfl⟩
  have HC:Hid (Calls Tryz.prog 66 #[.agg #[.int .i64 V,.slice A n c],.agg #[.int .u8 1,.int .i64 st,.int .i64 so,.int .i64 dm,.int .i64 ep]] w4 fun e w' => SRes w4 w' e (N:Int) S 0):=jH (by
   refine (rrun_any 1 st so dm ep V A n c L N w4 (HL.out.below HB4.out) HN.out hm (fun _ => HNN.out)).mono fun _ _ h => sres_of h ?_ ?_
   ·unfold runR; rw [if_pos HCJ.out,hS]
   ·rw [hS]; exact few_st HCJ.out _)
  have HSE:=jH hS
  clear hS
  go_upto_region 4 with fail
  go_wp2_with fail
  refine HC.out.mono ?_
  rintro e v1 ⟨av,a1,ac,a2,ai,a3,an1,an2,an3,rfl,hs1,hf1,hb1⟩
  obtain ⟨X1,hX1⟩:∃ X,X = v1.alloc (.cells #[.int .i64 (N:Int),.slice av an1 a1,.slice ac an2 a2,.slice ai an3 a3,.int .i64 S.sum,.int .i64 S.most] 45):=⟨_,rfl⟩
  obtain ⟨bl1,eb1⟩:∃ b,b = v1.heap.size:=⟨_,rfl⟩
  have hb:Below w4.heap.size w4 X1:=by rw [hX1]; exact hb1.out.alloc hb1.out.size _
  have HS1:Hid (SAt X1 av ac ai an1 an2 an3 S):=jH (by rw [hX1]; exact hs1.out.below ((Below.refl _ v1).alloc (Nat.le_refl _) _))
  have HB1:Hid (X1.heap[bl1]? = some (.cells #[.int .i64 (N:Int),.slice av an1 a1,.slice ac an2 a2,.slice ai an3 a3,.int .i64 S.sum,.int .i64 S.most] 45 (0,0))):=jH (by rw [hX1,eb1]; exact heap_alloc_new v1 _)
  have HL1:=jH hf1.out
  have HR1:=jK HR4 hb
  have HBX:=jS HB4 hb
  clear hb hs1 hb1 hf1 g0 g1 j0 j1 j2 j3 j4 HC HG4 HJ4 HR4
  go_upto_region 5 with fail
  rw [<- hX1,show v1.heap.size = bl1 from eb1.symm]
  clear hX1 eb1
  obtain ⟨x0,x1,x2,x3,x4,x5,_⟩:=Sq.six HR1.out
  obtain ⟨y0,y1,y2,y3,y4,y5,_⟩:=Sq.six HB1.out
  have HQ:=jH (rsqSame_any (N:Int) p S Sx av ac ai Av Ac Ai an1 an2 an3 a1 a2 a3 nv nc ni cv cc ci X1 HS1.out (HSX.out.below HBX.out) (by have:=HL1.out; omega) (by have:=HL1.out; omega) (by have:=HL1.out; omega) (by have:=HF.out; omega) (by have:=HF.out; omega) (by have:=HF.out; omega))
  go_wp2_with fail
  refine HQ.out.mono ?_
  rintro e w5 ⟨rfl,hb5⟩
  go_wp2
  go_ret
  exact ⟨_,rfl,jH ⟨fun _ => by rw [HSE.out,sameS_symm],fun h => absurd rfl h⟩,step_below HBX.out HBX.out.size hb5⟩
 have hk1:(k = 1) = False:=by simp [hk]
 go_enter Tryz.func43,Tryz.ntmps43
 go_upto_region 1 with fail
 rw [<- hW3,show w.heap.size = n0 from e0.symm]
 clear hW3 e0
 go_wp2_with fail
 refine HC.out.mono ?_
 rintro e w4 ⟨rfl,hb4⟩
 have HG4:=jK HG hb4; have HJ4:=jK HJ hb4; have HR4:=jK HR hb4
 have HB4:=jS HB hb4
 clear hb4 g0 g1 j0 j1 j2 j3 j4 HG HJ HR HB HC
 obtain ⟨g0,g1,_⟩:=two_cells HG4.out
 obtain ⟨j0,j1,j2,j3,j4,_⟩:=jb_cells HJ4.out
 obtain ⟨x0,x1,x2,x3,x4,x5,_⟩:=Sq.six HR4.out
 by_cases hp0:p < 0
 ·go_wp2
  go_ret
  exact ⟨_,rfl,jH ⟨fun h => absurd h hk,fun _ => Or.inl ⟨Or.inl hp0,rfl⟩⟩,HB4.out⟩
 by_cases hp1:st < p
 ·go_wp2
  go_ret
  exact ⟨_,rfl,jH ⟨fun h => absurd h hk,fun _ => Or.inl ⟨Or.inr hp1,rfl⟩⟩,HB4.out⟩
 by_cases he:p = st
 ·subst he
  obtain ⟨S,hS⟩:∃ S,S = stS k so dm V.toNat L p.toNat:=⟨_,rfl⟩
  have HC:Hid (Calls Tryz.prog 68 #[.agg #[.int .i64 V,.slice A n c],.agg #[.int .u8 k,.int .i64 p,.int .i64 so,.int .i64 dm,.int .i64 ep],.int .i64 p] w4 fun e w' => SRes w4 w' e p S 0):=jH (by
   refine (rat_any k p so dm ep V A n c L p w4 (HL.out.below HB4.out) HN.out hm).mono fun _ _ h => sres_of h ?_ ?_
   ·unfold atR; rw [if_pos HCJ.out,if_pos (by have:=HST.out; omega),hS]
   ·rw [hS]; exact few_st HCJ.out _)
  have HSE:=jH hS
  clear hS
  go_upto_region 9 with fail
  go_wp2_with fail
  refine HC.out.mono ?_
  rintro e v1 ⟨av,a1,ac,a2,ai,a3,an1,an2,an3,rfl,hs1,hf1,hb1⟩
  obtain ⟨X1,hX1⟩:∃ X,X = v1.alloc (.cells #[.int .i64 p,.slice av an1 a1,.slice ac an2 a2,.slice ai an3 a3,.int .i64 S.sum,.int .i64 S.most] 45):=⟨_,rfl⟩
  obtain ⟨bl1,eb1⟩:∃ b,b = v1.heap.size:=⟨_,rfl⟩
  have hb:Below w4.heap.size w4 X1:=by rw [hX1]; exact hb1.out.alloc hb1.out.size _
  have HS1:Hid (SAt X1 av ac ai an1 an2 an3 S):=jH (by rw [hX1]; exact hs1.out.below ((Below.refl _ v1).alloc (Nat.le_refl _) _))
  have HB1:Hid (X1.heap[bl1]? = some (.cells #[.int .i64 p,.slice av an1 a1,.slice ac an2 a2,.slice ai an3 a3,.int .i64 S.sum,.int .i64 S.most] 45 (0,0))):=jH (by rw [hX1,eb1]; exact heap_alloc_new v1 _)
  have HL1:=jH hf1.out
  have HR1:=jK HR4 hb; have HG1:=jK HG4 hb; have HJ1:=jK HJ4 hb
  have HBX:=jS HB4 hb
  clear hb hs1 hb1 hf1 g0 g1 j0 j1 j2 j3 j4 x0 x1 x2 x3 x4 x5 HC HG4 HJ4 HR4
  go_upto_region 10 with fail
  rw [<- hX1,show v1.heap.size = bl1 from eb1.symm]
  clear hX1 eb1
  obtain ⟨x0,x1,x2,x3,x4,x5,_⟩:=Sq.six HR1.out
  obtain ⟨y0,y1,y2,y3,y4,y5,_⟩:=Sq.six HB1.out
  obtain ⟨q,hq⟩:∃ q,decide (S.vals = Sx.vals) = q:=⟨_,rfl⟩
  have HQ:=jH (rval_any av Av an1 nv a1 cv S.vals Sx.vals X1 HS1.out.v (HSX.out.v.below HBX.out) HS1.out.nv HSX.out.nv (by have:=HL1.out; omega) (by have:=HF.out; omega))
  rw [hq] at HQ
  have HQE:=jH hq
  clear hq
  go_wp2_with fail
  refine HQ.out.mono ?_
  rintro e w5 ⟨rfl,hb5⟩
  have HR5:=jK HR1 hb5; have HG5:=jK HG1 hb5; have HJ5:=jK HJ1 hb5
  have HB5:=jS HBX hb5
  clear hb5 x0 x1 x2 x3 x4 x5 y0 y1 y2 y3 y4 y5 HQ HR1 HG1 HJ1
  cases q with
  | true =>
   have hlm:∃ lm,Mt k so V L lm:=mt_some HCJ.out hk
   obtain ⟨lm,hlm⟩:=hlm
   go_wp2
   go_ret
   exact ⟨_,rfl,jH ⟨fun h => absurd h hk,fun _ => Or.inr ⟨by omega,by omega,lm,hlm,by rw [<- HSE.out,show decide (Sx.vals = S.vals) = true from (decide_eq_decide.2 eq_comm).trans HQE.out]; simp⟩⟩,HB5.out⟩
  | false =>
   obtain ⟨g0,g1,_⟩:=two_cells HG5.out
   obtain ⟨j0,j1,j2,j3,j4,_⟩:=jb_cells HJ5.out
   have hk23:=(chkJ_zero HCJ.out).2.2.2.1
   have hml:∀ l,Mt k so V L l->l.length <= 512:=fun l h => by
    obtain ⟨Vn,hv,_,hv2,_⟩:=chk_facts (chkJ_zero HCJ.out).1
    rw [mt_len HCJ.out h,hv]; exact hv2
   have HML:=jH hml
   clear hml
   by_cases hk2:k = 2
   ·subst hk2
    have HLB:=jH (rLabels_any V A n c L w5 (HL.out.below HB5.out) HN.out (by omega))
    rw [(chkJ_zero HCJ.out).1] at HLB
    go_wp2_with fail
    refine HLB.out.mono ?_
    rintro e w8 ⟨lm,⟨vb,rfl,h8⟩,hlb⟩
    have HMT:Hid (Mt 2 so V L lm):=jH (Or.inl ⟨rfl,hlb.out.1 (chkJ_zero HCJ.out).1⟩)
    obtain ⟨A8,c8,rfl,hA8⟩:=h8.out.1.form
    have HR8:=jH (keepB HR5.out h8.out.2)
    have HB8:=jH (step_below HB5.out HB5.out.size h8.out.2)
    have HV:=jH (rval_any A8 Av lm.length nv c8 cv lm Sx.vals w8 hA8 (HSX.out.v.below HB8.out) rfl HSX.out.nv (by have:=HML.out lm HMT.out; omega) (by have:=HF.out; omega))
    clear h8 hA8
    obtain ⟨x0,x1,x2,x3,x4,x5,_⟩:=Sq.six HR8.out
    go_wp2_with fail
    refine HV.out.mono ?_
    rintro e w9 ⟨rfl,hb9⟩
    go_wp2
    go_ret
    exact ⟨_,rfl,jH ⟨fun h => absurd h hk,fun _ => Or.inr ⟨by omega,by omega,lm,HMT.out,by rw [<- HSE.out,show decide (Sx.vals = S.vals) = false from (decide_eq_decide.2 eq_comm).trans HQE.out,Bool.and_false,Bool.or_false]; exact decide_eq_decide.2 eq_comm⟩⟩,step_below HB8.out HB8.out.size hb9⟩
   ·have hk3:k = 3:=by omega
    subst hk3
    have HDS:=jH (rDistances_any V so A n c L w5 (HL.out.below HB5.out) HN.out (by omega))
    obtain ⟨lm,hlm⟩:∃ lm,disL V L so = lm:=⟨_,rfl⟩
    have HMT:Hid (Mt 3 so V L lm):=jH (Or.inr ⟨rfl,by rw [<- hlm]; unfold disL; rw [if_pos (dis_zero HCJ.out)]⟩)
    rw [hlm,dis_zero HCJ.out] at HDS
    clear hlm
    go_wp2_with fail
    refine HDS.out.mono ?_
    rintro e w8 ⟨vb,rfl,h8⟩
    obtain ⟨A8,c8,rfl,hA8⟩:=h8.out.1.form
    have HR8:=jH (keepB HR5.out h8.out.2)
    have HB8:=jH (step_below HB5.out HB5.out.size h8.out.2)
    have HV:=jH (rval_any A8 Av lm.length nv c8 cv lm Sx.vals w8 hA8 (HSX.out.v.below HB8.out) rfl HSX.out.nv (by have:=HML.out lm HMT.out; omega) (by have:=HF.out; omega))
    clear h8 hA8
    obtain ⟨x0,x1,x2,x3,x4,x5,_⟩:=Sq.six HR8.out
    go_wp2_with fail
    refine HV.out.mono ?_
    rintro e w9 ⟨rfl,hb9⟩
    go_wp2
    go_ret
    exact ⟨_,rfl,jH ⟨fun h => absurd h hk,fun _ => Or.inr ⟨by omega,by omega,lm,HMT.out,by rw [<- HSE.out,show decide (Sx.vals = S.vals) = false from (decide_eq_decide.2 eq_comm).trans HQE.out,Bool.and_false,Bool.or_false]; exact decide_eq_decide.2 eq_comm⟩⟩,step_below HB8.out HB8.out.size hb9⟩
 ·have he':(p == st) = false:=by simpa using he
  have hk23:=(chkJ_zero HCJ.out).2.2.2.1
  have hml:∀ l,Mt k so V L l->l.length <= 512:=fun l h => by
   obtain ⟨Vn,hv,_,hv2,_⟩:=chk_facts (chkJ_zero HCJ.out).1
   rw [mt_len HCJ.out h,hv]; exact hv2
  have HML:=jH hml
  clear hml
  by_cases hk2:k = 2
  ·subst hk2
   have HLB:=jH (rLabels_any V A n c L w4 (HL.out.below HB4.out) HN.out (by omega))
   rw [(chkJ_zero HCJ.out).1] at HLB
   go_wp2_with fail
   refine HLB.out.mono ?_
   rintro e w8 ⟨lm,⟨vb,rfl,h8⟩,hlb⟩
   have HMT:Hid (Mt 2 so V L lm):=jH (Or.inl ⟨rfl,hlb.out.1 (chkJ_zero HCJ.out).1⟩)
   obtain ⟨A8,c8,rfl,hA8⟩:=h8.out.1.form
   have HR8:=jH (keepB HR4.out h8.out.2)
   have HB8:=jH (step_below HB4.out HB4.out.size h8.out.2)
   have HV:=jH (rval_any A8 Av lm.length nv c8 cv lm Sx.vals w8 hA8 (HSX.out.v.below HB8.out) rfl HSX.out.nv (by have:=HML.out lm HMT.out; omega) (by have:=HF.out; omega))
   clear h8 hA8
   obtain ⟨x0,x1,x2,x3,x4,x5,_⟩:=Sq.six HR8.out
   go_wp2_with fail
   refine HV.out.mono ?_
   rintro e w9 ⟨rfl,hb9⟩
   go_wp2
   go_ret
   exact ⟨_,rfl,jH ⟨fun h => absurd h hk,fun _ => Or.inr ⟨by omega,by omega,lm,HMT.out,by rw [decide_eq_false he,Bool.false_and,Bool.or_false]; exact decide_eq_decide.2 eq_comm⟩⟩,step_below HB8.out HB8.out.size hb9⟩
  ·have hk3:k = 3:=by omega
   subst hk3
   have HDS:=jH (rDistances_any V so A n c L w4 (HL.out.below HB4.out) HN.out (by omega))
   obtain ⟨lm,hlm⟩:∃ lm,disL V L so = lm:=⟨_,rfl⟩
   have HMT:Hid (Mt 3 so V L lm):=jH (Or.inr ⟨rfl,by rw [<- hlm]; unfold disL; rw [if_pos (dis_zero HCJ.out)]⟩)
   rw [hlm,dis_zero HCJ.out] at HDS
   clear hlm
   go_wp2_with fail
   refine HDS.out.mono ?_
   rintro e w8 ⟨vb,rfl,h8⟩
   obtain ⟨A8,c8,rfl,hA8⟩:=h8.out.1.form
   have HR8:=jH (keepB HR4.out h8.out.2)
   have HB8:=jH (step_below HB4.out HB4.out.size h8.out.2)
   have HV:=jH (rval_any A8 Av lm.length nv c8 cv lm Sx.vals w8 hA8 (HSX.out.v.below HB8.out) rfl HSX.out.nv (by have:=HML.out lm HMT.out; omega) (by have:=HF.out; omega))
   clear h8 hA8
   obtain ⟨x0,x1,x2,x3,x4,x5,_⟩:=Sq.six HR8.out
   go_wp2_with fail
   refine HV.out.mono ?_
   rintro e w9 ⟨rfl,hb9⟩
   go_wp2
   go_ret
   exact ⟨_,rfl,jH ⟨fun h => absurd h hk,fun _ => Or.inr ⟨by omega,by omega,lm,HMT.out,by rw [decide_eq_false he,Bool.false_and,Bool.or_false]; exact decide_eq_decide.2 eq_comm⟩⟩,step_below HB8.out HB8.out.size hb9⟩
open Go.RowKit Gr Wd Ws Fx Rk Lb Al In Sq
set_option maxRecDepth 100000 in
set_option maxHeartbeats 1000000 in
theorem Means_bad (k st so dm ep V p su mo:Int) (A Av Ac Ai:Option Addr) (n c nv cv nc cc ni ci:Nat) (L:List Ed) (w:World) (hL:EAt w A L) (hn:L.length = n) (hm:n <= 100000) (hc:chkJ k st so dm ep V L ≠ 0) :
 Calls Tryz.prog 18 #[.agg #[.int .i64 V,.slice A n c],.agg #[.int .u8 k,.int .i64 st,.int .i64 so,.int .i64 dm,.int .i64 ep],.agg #[.int .i64 p,.slice Av nv cv,.slice Ac nc cc,.slice Ai ni ci,.int .i64 su,.int .i64 mo]] w fun e w' => e = .returned (.bool false)/\Below w.heap.size w w':=by
 have mixed:=mixedP
 obtain ⟨W3,hW3⟩:∃ W3,W3 = ((w.alloc (.cells #[.int .i64 V,.slice A n c] 24)).alloc (.cells #[.int .u8 k,.int .i64 st,.int .i64 so,.int .i64 dm,.int .i64 ep] 40)).alloc (.cells #[.int .i64 p,.slice Av nv cv,.slice Ac nc cc,.slice Ai ni ci,.int .i64 su,.int .i64 mo] 45):=⟨_,rfl⟩
 have hal:=al3 w (.cells #[.int .i64 V,.slice A n c] 24) (.cells #[.int .u8 k,.int .i64 st,.int .i64 so,.int .i64 dm,.int .i64 ep] 40) (.cells #[.int .i64 p,.slice Av nv cv,.slice Ac nc cc,.slice Ai ni ci,.int .i64 su,.int .i64 mo] 45)
 rw [<- hW3] at hal
 obtain ⟨n0,e0⟩:∃ n0,n0 = w.heap.size:=⟨_,rfl⟩
 have HG:Hid (W3.heap[n0]? = some (.cells #[.int .i64 V,.slice A n c] 24 (0,0))):=jH (by rw [e0]; exact hal.1)
 have HJ:Hid (W3.heap[n0 + 1]? = some (.cells #[.int .u8 k,.int .i64 st,.int .i64 so,.int .i64 dm,.int .i64 ep] 40 (0,0))):=jH (by rw [e0]; exact hal.2.1)
 have HB:=jH hal.2.2.2
 obtain ⟨E,hE⟩:∃ E,chkJ k st so dm ep V L = E:=⟨_,rfl⟩
 rw [hE] at hc
 obtain ⟨g0,g1,_⟩:=two_cells HG.out
 obtain ⟨j0,j1,j2,j3,j4,_⟩:=jb_cells HJ.out
 have HC:Hid (Calls Tryz.prog 16 #[.agg #[.int .i64 V,.slice A n c],.agg #[.int .u8 k,.int .i64 st,.int .i64 so,.int .i64 dm,.int .i64 ep]] W3 fun e w' => e = .returned (.int .i64 E)/\Below W3.heap.size W3 w'):=jH (by
  have h:=checkj_any k st so dm ep V A c L W3 (hL.below HB.out) (by rw [hn]; omega)
  rw [hn,hE] at h; exact h)
 have hc1:(E == 0) = false:=by simpa using hc
 have hc2:(E != 0) = true:=by simpa using hc
 clear hal hL hE hc hn hm
 go_enter Tryz.func18,Tryz.ntmps18
 go_upto_region 1 with fail
 rw [<- hW3,show w.heap.size = n0 from e0.symm]
 clear hW3 e0
 go_wp2_with fail
 refine HC.out.mono ?_
 rintro e w4 ⟨rfl,hb4⟩
 go_wp2
 go_ret
 exact ⟨rfl,step_below HB.out HB.out.size hb4⟩
set_option maxRecDepth 100000 in
set_option maxHeartbeats 1000000 in
theorem rMeans_bad (k st so dm ep V p su mo:Int) (A Av Ac Ai:Option Addr) (n c nv cv nc cc ni ci:Nat) (L:List Ed) (w:World) (hL:EAt w A L) (hn:L.length = n) (hm:n <= 100000) (hc:chkJ k st so dm ep V L ≠ 0) :
 Calls Tryz.prog 43 #[.agg #[.int .i64 V,.slice A n c],.agg #[.int .u8 k,.int .i64 st,.int .i64 so,.int .i64 dm,.int .i64 ep],.agg #[.int .i64 p,.slice Av nv cv,.slice Ac nc cc,.slice Ai ni ci,.int .i64 su,.int .i64 mo]] w fun e w' => e = .returned (.bool false)/\Below w.heap.size w w':=by
 have mixed:=mixedP
 obtain ⟨W3,hW3⟩:∃ W3,W3 = ((w.alloc (.cells #[.int .i64 V,.slice A n c] 24)).alloc (.cells #[.int .u8 k,.int .i64 st,.int .i64 so,.int .i64 dm,.int .i64 ep] 40)).alloc (.cells #[.int .i64 p,.slice Av nv cv,.slice Ac nc cc,.slice Ai ni ci,.int .i64 su,.int .i64 mo] 45):=⟨_,rfl⟩
 have hal:=al3 w (.cells #[.int .i64 V,.slice A n c] 24) (.cells #[.int .u8 k,.int .i64 st,.int .i64 so,.int .i64 dm,.int .i64 ep] 40) (.cells #[.int .i64 p,.slice Av nv cv,.slice Ac nc cc,.slice Ai ni ci,.int .i64 su,.int .i64 mo] 45)
 rw [<- hW3] at hal
 obtain ⟨n0,e0⟩:∃ n0,n0 = w.heap.size:=⟨_,rfl⟩
 have HG:Hid (W3.heap[n0]? = some (.cells #[.int .i64 V,.slice A n c] 24 (0,0))):=jH (by rw [e0]; exact hal.1)
 have HJ:Hid (W3.heap[n0 + 1]? = some (.cells #[.int .u8 k,.int .i64 st,.int .i64 so,.int .i64 dm,.int .i64 ep] 40 (0,0))):=jH (by rw [e0]; exact hal.2.1)
 have HB:=jH hal.2.2.2
 obtain ⟨E,hE⟩:∃ E,chkJ k st so dm ep V L = E:=⟨_,rfl⟩
 rw [hE] at hc
 obtain ⟨g0,g1,_⟩:=two_cells HG.out
 obtain ⟨j0,j1,j2,j3,j4,_⟩:=jb_cells HJ.out
 have HC:Hid (Calls Tryz.prog 65 #[.agg #[.int .i64 V,.slice A n c],.agg #[.int .u8 k,.int .i64 st,.int .i64 so,.int .i64 dm,.int .i64 ep]] W3 fun e w' => e = .returned (.int .i64 E)/\Below W3.heap.size W3 w'):=jH (by
  have h:=rcheckj_any k st so dm ep V A c L W3 (hL.below HB.out) (by rw [hn]; omega)
  rw [hn,hE] at h; exact h)
 have hc1:(E == 0) = false:=by simpa using hc
 have hc2:(E != 0) = true:=by simpa using hc
 clear hal hL hE hc hn hm
 go_enter Tryz.func43,Tryz.ntmps43
 go_upto_region 1 with fail
 rw [<- hW3,show w.heap.size = n0 from e0.symm]
 clear hW3 e0
 go_wp2_with fail
 refine HC.out.mono ?_
 rintro e w4 ⟨rfl,hb4⟩
 go_wp2
 go_ret
 exact ⟨rfl,step_below HB.out HB.out.size hb4⟩
open Go.RowKit Gr Wd Ws Fx Rk Lb Al In Sq
theorem means_same (k st so dm ep V p:Int) (Sx:Sq) (A Av Ac Ai:Option Addr) (n c nv cv nc cc ni ci:Nat) (L:List Ed) (w:World) (hL:EAt w A L) (hn:L.length = n) (hn1:n <= 100) (hV:chk V L = 0->V <= 16) (hS:SAt w Av Ac Ai nv nc ni Sx) (hf:nv <= 512/\nc <= 512/\ni <= 512) :
 ∃ P:Bool->Prop,(∀ a b,P a->P b->a = b)/\(∀ W:World,Below w.heap.size w W->Calls Tryz.prog 18 #[.agg #[.int .i64 V,.slice A n c],.agg #[.int .u8 k,.int .i64 st,.int .i64 so,.int .i64 dm,.int .i64 ep],.agg #[.int .i64 p,.slice Av nv cv,.slice Ac nc cc,.slice Ai ni ci,.int .i64 Sx.sum,.int .i64 Sx.most]] W fun e w' => ∃ v,e = .returned v/\((∃ b,v = .bool b/\Hid (P b))/\Hid (Below W.heap.size W w'))) /\
  (∀ W:World,Below w.heap.size w W->Calls Tryz.prog 43 #[.agg #[.int .i64 V,.slice A n c],.agg #[.int .u8 k,.int .i64 st,.int .i64 so,.int .i64 dm,.int .i64 ep],.agg #[.int .i64 p,.slice Av nv cv,.slice Ac nc cc,.slice Ai ni ci,.int .i64 Sx.sum,.int .i64 Sx.most]] W fun e w' => ∃ v,e = .returned v/\((∃ b,v = .bool b/\Hid (P b))/\Hid (Below W.heap.size W w'))):=by
 by_cases hc:chkJ k st so dm ep V L = 0
 ·obtain ⟨N,hN⟩:=run_at k st so dm ep V L
  refine ⟨MeB k st so dm V p L N Sx,fun a b => MeB.one,fun W hW => ?_,fun W hW => ?_⟩
  ·refine (Means_any k st so dm ep V p N Sx A Av Ac Ai n c nv cv nc cc ni ci L W (hL.below hW) hn (by omega) (by have:=hV (chkJ_zero hc).1; omega) hc (hN hc) (hS.below hW) hf).mono ?_
   rintro e w' ⟨b,rfl,hb,hw⟩
   exact ⟨_,rfl,⟨b,rfl,hb⟩,jH hw⟩
  ·refine (rMeans_any k st so dm ep V p N Sx A Av Ac Ai n c nv cv nc cc ni ci L W (hL.below hW) hn (by omega) hc (hN hc) (hS.below hW) hf).mono ?_
   rintro e w' ⟨b,rfl,hb,hw⟩
   exact ⟨_,rfl,⟨b,rfl,hb⟩,jH hw⟩
 ·refine ⟨fun b => b = false,fun a b ha hb => by rw [ha,hb],fun W hW => ?_,fun W hW => ?_⟩
  ·refine (Means_bad k st so dm ep V p Sx.sum Sx.most A Av Ac Ai n c nv cv nc cc ni ci L W (hL.below hW) hn (by omega) hc).mono ?_
   rintro e w' ⟨rfl,hw⟩
   exact ⟨_,rfl,⟨false,rfl,jH rfl⟩,jH hw⟩
  ·refine (rMeans_bad k st so dm ep V p Sx.sum Sx.most A Av Ac Ai n c nv cv nc cc ni ci L W (hL.below hW) hn (by omega) hc).mono ?_
   rintro e w' ⟨rfl,hw⟩
   exact ⟨_,rfl,⟨false,rfl,jH rfl⟩,jH hw⟩
set_option maxRecDepth 100000 in
set_option maxHeartbeats 4000000 in
theorem lw_means (k st so dm ep V p:Int) (Sx:Sq) (A Av Ac Ai:Option Addr) (n c nv cv nc cc ni ci:Nat) (L:List Ed) (w:World) (hL:EAt w A L) (hn:L.length = n) (hm:n <= 9223372036854775807) (hS:SAt w Av Ac Ai nv nc ni Sx) (hf:nv <= 512/\nc <= 512/\ni <= 512) :
 Calls Tryz.prog 22 #[.agg #[.int .i64 V,.slice A n c],.agg #[.int .u8 k,.int .i64 st,.int .i64 so,.int .i64 dm,.int .i64 ep],.agg #[.int .i64 p,.slice Av nv cv,.slice Ac nc cc,.slice Ai ni ci,.int .i64 Sx.sum,.int .i64 Sx.most]] w fun e w' => e = .returned (.bool true)/\Below w.heap.size w w':=by
 have mixed:=mixedP
 obtain ⟨W3,hW3⟩:∃ W3,W3 = ((w.alloc (.cells #[.int .i64 V,.slice A n c] 24)).alloc (.cells #[.int .u8 k,.int .i64 st,.int .i64 so,.int .i64 dm,.int .i64 ep] 40)).alloc (.cells #[.int .i64 p,.slice Av nv cv,.slice Ac nc cc,.slice Ai ni ci,.int .i64 Sx.sum,.int .i64 Sx.most] 45):=⟨_,rfl⟩
 have hal:=al3 w (.cells #[.int .i64 V,.slice A n c] 24) (.cells #[.int .u8 k,.int .i64 st,.int .i64 so,.int .i64 dm,.int .i64 ep] 40) (.cells #[.int .i64 p,.slice Av nv cv,.slice Ac nc cc,.slice Ai ni ci,.int .i64 Sx.sum,.int .i64 Sx.most] 45)
 rw [<- hW3] at hal
 obtain ⟨n0,e0⟩:∃ n0,n0 = w.heap.size:=⟨_,rfl⟩
 have HG:Hid (W3.heap[n0]? = some (.cells #[.int .i64 V,.slice A n c] 24 (0,0))):=jH (by rw [e0]; exact hal.1)
 have HJ:Hid (W3.heap[n0 + 1]? = some (.cells #[.int .u8 k,.int .i64 st,.int .i64 so,.int .i64 dm,.int .i64 ep] 40 (0,0))):=jH (by rw [e0]; exact hal.2.1)
 have HR:Hid (W3.heap[n0 + 1 + 1]? = some (.cells #[.int .i64 p,.slice Av nv cv,.slice Ac nc cc,.slice Ai ni ci,.int .i64 Sx.sum,.int .i64 Sx.most] 45 (0,0))):=jH (by rw [e0]; exact hal.2.2.1)
 have HB:=jH hal.2.2.2
 have HL:=jH hL; have HN:=jH hn; have HSX:=jH hS; have HF:=jH hf
 clear hal hL hn hS hf
 obtain ⟨g0,g1,_⟩:=two_cells HG.out
 obtain ⟨r,hr,hrt⟩:=lgt_any V A n c L W3 (HL.out.below HB.out) HN.out hm
 have HLG:=jH hr
 have HRT:=jH hrt
 clear hr hrt hm
 go_enter Tryz.func22,Tryz.ntmps22
 go_upto_region 1 with fail
 rw [<- hW3,show w.heap.size = n0 from e0.symm]
 clear hW3 e0
 go_wp2_with fail
 refine HLG.out.mono ?_
 rintro e w4 ⟨rfl,hb4⟩
 have HG4:=jK HG hb4.out; have HJ4:=jK HJ hb4.out; have HR4:=jK HR hb4.out
 have HB4:=jS HB hb4.out
 clear hb4 g0 g1 HLG HG HJ HR HB
 cases r with
 | false =>
  go_wp2_with fail
  refine (wrk_any _).mono ?_
  rintro e w5 ⟨rfl,hb5⟩
  go_wp2
  go_ret
  exact ⟨rfl,step_below HB4.out HB4.out.size hb5.out⟩
 | true =>
  obtain ⟨hn1,hv1⟩:=HRT.out rfl
  obtain ⟨j0,j1,j2,j3,j4,_⟩:=jb_cells HJ4.out
  obtain ⟨x0,x1,x2,x3,x4,x5,_⟩:=Sq.six HR4.out
  obtain ⟨P,hp1,hp2,hp3⟩:=means_same k st so dm ep V p Sx A Av Ac Ai n c nv cv nc cc ni ci L w4 (HL.out.below HB4.out) HN.out hn1 hv1 (HSX.out.below HB4.out) HF.out
  have HP1:=jH hp1; have HP2:=jH hp2; have HP3:=jH hp3
  clear hp1 hp2 hp3 hn1 hv1 HRT
  by_cases h40:(40:Int) < st
  ·go_wp2_with fail
   refine (wrk_any _).mono ?_
   rintro e w5 ⟨rfl,hb5⟩
   go_wp2
   go_ret
   exact ⟨rfl,step_below HB4.out HB4.out.size hb5.out⟩
  by_cases h1:(30:Int) < (nv:Int)
  ·go_wp2_with fail
   refine (wrk_any _).mono ?_
   rintro e w5 ⟨rfl,hb5⟩
   go_wp2
   go_ret
   exact ⟨rfl,step_below HB4.out HB4.out.size hb5.out⟩
  by_cases h2:(30:Int) < (nc:Int)
  ·go_wp2_with fail
   refine (wrk_any _).mono ?_
   rintro e w5 ⟨rfl,hb5⟩
   go_wp2
   go_ret
   exact ⟨rfl,step_below HB4.out HB4.out.size hb5.out⟩
  by_cases h3:(30:Int) < (ni:Int)
  ·go_wp2_with fail
   refine (wrk_any _).mono ?_
   rintro e w5 ⟨rfl,hb5⟩
   go_wp2
   go_ret
   exact ⟨rfl,step_below HB4.out HB4.out.size hb5.out⟩
  have HSW:Hid (∀ W:World,Below w4.heap.size w4 W->(fun W:World => W.cell? ⟨n0,0,none⟩ = some (.int .i64 V)/\W.cell? ⟨n0,1,none⟩ = some (.slice A n c)/\W.cell? ⟨n0 + 1,0,none⟩ = some (.int .u8 k)/\W.cell? ⟨n0 + 1,1,none⟩ = some (.int .i64 st)/\W.cell? ⟨n0 + 1,2,none⟩ = some (.int .i64 so)/\W.cell? ⟨n0 + 1,3,none⟩ = some (.int .i64 dm)/\W.cell? ⟨n0 + 1,4,none⟩ = some (.int .i64 ep)/\W.cell? ⟨n0 + 1 + 1,0,none⟩ = some (.int .i64 p)/\W.cell? ⟨n0 + 1 + 1,1,none⟩ = some (.slice Av nv cv)/\W.cell? ⟨n0 + 1 + 1,2,none⟩ = some (.slice Ac nc cc)/\W.cell? ⟨n0 + 1 + 1,3,none⟩ = some (.slice Ai ni ci)/\W.cell? ⟨n0 + 1 + 1,4,none⟩ = some (.int .i64 Sx.sum)/\W.cell? ⟨n0 + 1 + 1,5,none⟩ = some (.int .i64 Sx.most)) W):=jH (fun W hb => by
   obtain ⟨g0,g1,_⟩:=two_cells (keepB HG4.out hb)
   obtain ⟨j0,j1,j2,j3,j4,_⟩:=jb_cells (keepB HJ4.out hb)
   obtain ⟨x0,x1,x2,x3,x4,x5,_⟩:=Sq.six (keepB HR4.out hb)
   exact ⟨g0,g1,j0,j1,j2,j3,j4,x0,x1,x2,x3,x4,x5⟩)
  have hd4:Below w4.heap.size w4 w4.drew:=(Below.refl _ w4).drew
  have HC1:=jH (HP2.out w4.drew hd4)
  go_upto_region 3 with fail
  clear j0 j1 j2 j3 j4 x0 x1 x2 x3 x4 x5 HP2
  have hS:=HSW.out _ hd4
  refine Tl.headX_region (S:=(fun W:World => W.cell? ⟨n0,0,none⟩ = some (.int .i64 V)/\W.cell? ⟨n0,1,none⟩ = some (.slice A n c)/\W.cell? ⟨n0 + 1,0,none⟩ = some (.int .u8 k)/\W.cell? ⟨n0 + 1,1,none⟩ = some (.int .i64 st)/\W.cell? ⟨n0 + 1,2,none⟩ = some (.int .i64 so)/\W.cell? ⟨n0 + 1,3,none⟩ = some (.int .i64 dm)/\W.cell? ⟨n0 + 1,4,none⟩ = some (.int .i64 ep)/\W.cell? ⟨n0 + 1 + 1,0,none⟩ = some (.int .i64 p)/\W.cell? ⟨n0 + 1 + 1,1,none⟩ = some (.slice Av nv cv)/\W.cell? ⟨n0 + 1 + 1,2,none⟩ = some (.slice Ac nc cc)/\W.cell? ⟨n0 + 1 + 1,3,none⟩ = some (.slice Ai ni ci)/\W.cell? ⟨n0 + 1 + 1,4,none⟩ = some (.int .i64 Sx.sum)/\W.cell? ⟨n0 + 1 + 1,5,none⟩ = some (.int .i64 Sx.most))) 12 mixed (by decide) ?_
  try dsimp only
  refine Tl.headX_tk 0 ?v0_1 rfl (by kernel_rfl) (by decide) (by kernel_rfl) (by kernel_rfl) (by kernel_rfl) (fun _ _ _ h => h) (by rfl) (fun W hSw => ?hy0_1) hS ?_
  case hy0_1 => ((try dsimp only at hSw); go_simp; try with_reducible rfl)
  simp only [Act.put,jZ,jY,jX]
  refine Tl.headX_tk 1 ?v1_2 rfl (by kernel_rfl) (by decide) (by kernel_rfl) (by kernel_rfl) (by kernel_rfl) (fun _ _ _ h => h) (by rfl) (fun W hSw => ?hy1_2) hS ?_
  case hy1_2 => ((try dsimp only at hSw); go_simp; try with_reducible rfl)
  simp only [Act.put,jZ,jY,jX]
  refine Tl.headX_tk 2 ?v2_3 rfl (by kernel_rfl) (by decide) (by kernel_rfl) (by kernel_rfl) (by kernel_rfl) (fun _ _ _ h => h) (by rfl) (fun W hSw => ?hy2_3) hS ?_
  case hy2_3 => ((try dsimp only at hSw); go_simp; try with_reducible rfl)
  simp only [Act.put,jZ,jY,jX]
  refine Tl.headX_tk 4 ?v4_4 rfl (by kernel_rfl) (by decide) (by kernel_rfl) (by kernel_rfl) (by kernel_rfl) (fun _ _ _ h => h) (by rfl) (fun W hSw => ?hy4_4) hS ?_
  case hy4_4 => ((try dsimp only at hSw); go_simp; try with_reducible rfl)
  simp only [Act.put,jZ,jY,jX]
  refine Tl.headX_tk 5 ?v5_5 rfl (by kernel_rfl) (by decide) (by kernel_rfl) (by kernel_rfl) (by kernel_rfl) (fun _ _ _ h => h) (by rfl) (fun W hSw => ?hy5_5) hS ?_
  case hy5_5 => ((try dsimp only at hSw); go_simp; try with_reducible rfl)
  simp only [Act.put,jZ,jY,jX]
  refine Tl.headX_tk 6 ?v6_6 rfl (by kernel_rfl) (by decide) (by kernel_rfl) (by kernel_rfl) (by kernel_rfl) (fun _ _ _ h => h) (by rfl) (fun W hSw => ?hy6_6) hS ?_
  case hy6_6 => ((try dsimp only at hSw); go_simp; try with_reducible rfl)
  simp only [Act.put,jZ,jY,jX]
  refine Tl.headX_cl 3 _ _ rfl (by decide) (by kernel_rfl) (by rfl) ?he3 HC1.out ?_
  case he3 => (go_simp; try with_reducible rfl)
  rintro v w5 ⟨⟨b1,rfl,hb1⟩,h5⟩
  have HB5:Hid (Below w4.heap.size w4 w5):=jH (step_below hd4 hd4.size h5.out)
  have HC2:=jH (HP3.out w5 HB5.out)
  clear h5 hS HC1 HP3
  have hS:=HSW.out _ HB5.out
  refine ⟨hS,?_⟩
  simp only [Act.put,jZ,jY,jX]
  refine Tl.headX_cl 7 _ _ rfl (by decide) (by kernel_rfl) (by rfl) ?he7 HC2.out ?_
  case he7 => (go_simp; try with_reducible rfl)
  rintro v w6 ⟨⟨b2,rfl,hb2⟩,h6⟩
  obtain rfl:b1 = b2:=HP1.out _ _ hb1.out hb2.out
  have HB6:Hid (Below w4.heap.size w4 w6):=jS HB5 h6.out
  have HC3:Hid (Calls Tryz.prog 8 #[] w6 fun e w' => ∃ v,e = .returned v/\(v = .bool true/\Hid (Below w6.heap.size w6 w'))):=jH ((wrk_any w6).mono (by rintro e w' ⟨rfl,h⟩; exact ⟨_,rfl,rfl,h⟩))
  clear h6 hS HC2 hb1 hb2 HP1
  have hS:=HSW.out _ HB6.out
  refine ⟨hS,?_⟩
  simp only [Act.put,jZ,jY,jX]
  refine Tl.headX_tk 8 ?v8_7 rfl (by kernel_rfl) (by decide) (by kernel_rfl) (by kernel_rfl) (by kernel_rfl) (fun _ _ _ h => h) (by rfl) (fun W hSw => ?hy8_7) hS ?_
  case hy8_7 => ((try dsimp only at hSw); go_simp; try with_reducible rfl)
  simp only [Act.put,jZ,jY,jX]
  refine Tl.headX_tk 9 ?v9_8 rfl (by kernel_rfl) (by decide) (by kernel_rfl) (by kernel_rfl) (by kernel_rfl) (fun _ _ _ h => h) (by rfl) (fun W hSw => ?hy9_8) hS ?_
  case hy9_8 => ((try dsimp only at hSw); go_simp; try with_reducible rfl)
  simp only [Act.put,jZ,jY,jX]
  refine Tl.headX_cl 10 _ _ rfl (by decide) (by kernel_rfl) (by rfl) ?he10 HC3.out ?_
  case he10 => (go_simp; try with_reducible rfl)
  rintro v w7 ⟨rfl,h7⟩
  have HB7:Hid (Below w4.heap.size w4 w7):=jS HB6 h7.out
  clear h7 hS HC3
  have hS:=HSW.out _ HB7.out
  refine ⟨hS,?_⟩
  simp only [Act.put,jZ,jY,jX]
  refine Tl.headX_tk 11 ?v11_9 rfl (by kernel_rfl) (by decide) (by kernel_rfl) (by kernel_rfl) (by kernel_rfl) (fun _ _ _ h => h) (by rfl) (fun W hSw => ?hy11_9) hS ?_
  case hy11_9 => ((try dsimp only at hSw); go_simp; try with_reducible rfl)
  simp only [Act.put,jZ,jY,jX]
  refine Tl.headX_rest (by kernel_rfl) ?_
  simp only [List.drop_succ_cons,List.drop_zero]
  clear hS HSW
  go_wp2
  go_ret
  exact ⟨rfl,step_below HB4.out HB4.out.size HB7.out⟩
end Go.Proofs.YtdcaekmgfcpbmaaGreat.Mn
