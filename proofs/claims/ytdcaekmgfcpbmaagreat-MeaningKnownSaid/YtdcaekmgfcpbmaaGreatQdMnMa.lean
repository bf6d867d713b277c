/-
  What is proved here: a contract of meaning.Means, whatever state is asked for, of a job that may be. Conditions: at most 1000 edges and 40 vertices; rows of at most 512.
-/
import Derived.Test.YtdcaekmgfcpbmaaGreatQdMnLwx
namespace Go.Proofs.YtdcaekmgfcpbmaaGreat.Mn
open Go.RowKit Gr Wd Ws Fx Rk Lb Al Sq
open Pa (vl bt vl_of vl_at bt_of bt_at Fits fits_of fr far)
theorem mt_len {k st so dm ep V:Int} {L:List Ed} {l:List Int} (hc:chkJ k st so dm ep V L = 0) (h:Mt k so V L l):l.length = V.toNat:=by
 rcases h with ⟨_,h⟩ | ⟨h3,h⟩
 ·exact h.len
 ·have hz:=(chkJ_zero hc).1
  unfold chkJ at hc
  rw [if_pos hz] at hc
  split at hc
  ·rename_i hj
   unfold jobOk at hj
   rw [if_neg (by omega),if_neg (by omega),if_pos h3] at hj
   simp only [Bool.and_eq_true,decide_eq_true_eq] at hj
   obtain ⟨Vn,rfl,hV0,hV⟩:=chk_v hz
   rw [h]
   exact (Pa.far_tight (fits_of hz) (by omega)).len
  ·omega
def MeB (k st so dm V p:Int) (L:List Ed) (N:Nat) (Sx:Sq) (b:Bool):Prop :=
 (k = 1->b = sameS p (N:Int) Sx (stS k so dm V.toNat L N)) /\
 (k ≠ 1->((p < 0\/st < p)/\b = false)\/(0 <= p/\p <= st/\∃ lm,Mt k so V L lm/\b = (decide (Sx.vals = lm) || (decide (p = st) && decide (Sx.vals = (stS k so dm V.toNat L p.toNat).vals)))))
set_option maxRecDepth 100000 in
set_option maxHeartbeats 4000000 in
theorem Means_any (k st so dm ep V p:Int) (N:Nat) (Sx:Sq) (A Av Ac Ai:Option Addr) (n c nv cv nc cc ni ci:Nat) (L:List Ed) (w:World) (hL:EAt w A L) (hn:L.length = n) (hm:n <= 1000) (hV40:V <= 40) (hc:chkJ k st so dm ep V L = 0)
 (hN:donB k st ep (N:Int) (stS k so dm V.toNat L N).most = true/\N <= 2000/\∀ i:Nat,i < N->donB k st ep (i:Int) (stS k so dm V.toNat L i).most = false)
 (hS:SAt w Av Ac Ai nv nc ni Sx) (hf:nv <= 512/\nc <= 512/\ni <= 512) :
 Calls Tryz.prog 18 #[.agg #[.int .i64 V,.slice A n c],.agg #[.int .u8 k,.int .i64 st,.int .i64 so,.int .i64 dm,.int .i64 ep],.agg #[.int .i64 p,.slice Av nv cv,.slice Ac nc cc,.slice Ai ni ci,.int .i64 Sx.sum,.int .i64 Sx.most]] w fun e w' => ∃ b,e = .returned (.bool b)/\Hid (MeB k st so dm V p L N Sx b)/\Below w.heap.size w w':=by
 have mixed:=mixedP
 obtain ⟨W3,hW3⟩:∃ W3,W3 = ((w.alloc (.cells #[.int .i64 V,.slice A n c] 24)).alloc (.cells #[.int .u8 k,.int .i64 st,.int .i64 so,.int .i64 dm,.int .i64 ep] 40)).alloc (.cells #[.int .i64 p,.slice Av nv cv,.slice Ac nc cc,.slice Ai ni ci,.int .i64 Sx.sum,.int .i64 Sx.most] 45):=⟨_,rfl⟩
 have hal:=al3 w (.cells #[.int .i64 V,.slice A n c] 24) (.cells #[.int .u8 k,.int .i64 st,.int .i64 so,.int .i64 dm,.int .i64 ep] 40) (.cells #[.int .i64 p,.slice Av nv cv,.slice Ac nc cc,.slice Ai ni ci,.int .i64 Sx.sum,.int .i64 Sx.most] 45)
 rw [<- hW3] at hal
 obtain ⟨n0,e0⟩:∃ n0,n0 = w.heap.size:=⟨_,rfl⟩
 have HG:Hid (W3.heap[n0]? = some (.cells #[.int .i64 V,.slice A n c] 24 (0,0))):=jH (by rw [e0]; exact hal.1)
 have HJ:Hid (W3.heap[n0 + 1]? = some (.cells #[.int .u8 k,.int .i64 st,.int .i64 so,.int .i64 dm,.int .i64 ep] 40 (0,0))):=jH (by rw [e0]; exact hal.2.1)
 have HR:Hid (W3.heap[n0 + 1 + 1]? = some (.cells #[.int .i64 p,.slice Av nv cv,.slice Ac nc cc,.slice Ai ni ci,.int .i64 Sx.sum,.int .i64 Sx.most] 45 (0,0))):=jH (by rw [e0]; exact hal.2.2.1)
 have HB:=jH hal.2.2.2
 obtain ⟨_,hst0,hst1,_⟩:=chkJ_zero hc
 have HL:=jH hL; have HN:=jH hn; have HSX:=jH hS; have HCJ:=jH hc; have HF:=jH hf; have HNN:=jH hN; have HST:=jH (And.intro hst0 hst1)
 clear hal hL hn hS hc hf hN hst0 hst1
 obtain ⟨g0,g1,_⟩:=two_cells HG.out
 obtain ⟨j0,j1,j2,j3,j4,_⟩:=jb_cells HJ.out
 have HC:Hid (Calls Tryz.prog 16 #[.agg #[.int .i64 V,.slice A n c],.agg #[.int .u8 k,.int .i64 st,.int .i64 so,.int .i64 dm,.int .i64 ep]] W3 fun e w' => e = .returned (.int .i64 0)/\Below W3.heap.size W3 w'):=jH (by
  have h:=checkj_any k st so dm ep V A c L W3 (HL.out.below HB.out) (by rw [HN.out]; omega)
  rw [HN.out,HCJ.out] at h; exact h)
 by_cases hk:k = 1
 ·subst hk
  go_enter Tryz.func18,Tryz.ntmps18
  go_upto_region 1 with fail
  rw [<- hW3,show w.heap.size = n0 from e0.symm]
  clear hW3 e0
  go_wp2_with fail
  refine HC.out.mono ?_
  rintro e w4 ⟨rfl,hb4⟩
  have HG4:=jK HG hb4; have HJ4:=jK HJ hb4; have HR4:=jK HR hb4
  have HB4:=jS HB hb4
  clear hb4 g0 g1 j0 j1 j2 j3 j4 HG HJ HR HB HC
  obtain ⟨g0,g1,_⟩:=two_cells HG4.out
  obtain ⟨j0,j1,j2,j3,j4,_⟩:=jb_cells HJ4.out
  obtain ⟨S,hS⟩:∃ S,S = stS 1 so dm V.toNat L N:=⟨_,rfl⟩
  have HC:Hid (Calls Tryz.prog 17 #[.agg #[.int .i64 V,.slice A n c],.agg #[.int .u8 1,.int .i64 st,.int .i64 so,.int .i64 dm,.int .i64 ep]] w4 fun e w' => SRes w4 w' e (N:Int) S 0):=jH (by
   refine (seqRun_any 1 st so dm ep V A n c L N w4 (HL.out.below HB4.out) HN.out hm (fun _ => HNN.out)).mono fun _ _ h => sres_of h ?_ ?_
   ·unfold runR; rw [if_pos HCJ.out,hS]
   ·rw [hS]; exact few_st HCJ.out _)
  have HSE:=jH hS
  clear hS
  go_upto_region 4 with fail
  go_wp2_with fail
  refine HC.out.mono ?_
  rintro e v1 ⟨av,a1,ac,a2,ai,a3,an1,an2,an3,rfl,hs1,hf1,hb1⟩
  obtain ⟨X1,hX1⟩:∃ X,X = v1.alloc (.cells #[.int .i64 (N:Int),.slice av an1 a1,.slice ac an2 a2,.slice ai an3 a3,.int .i64 S.sum,.int .i64 S.most] 45):=⟨_,rfl⟩
  obtain ⟨bl1,eb1⟩:∃ b,b = v1.heap.size:=⟨_,rfl⟩
  have hb:Below w4.heap.size w4 X1:=by rw [hX1]; exact hb1.out.alloc hb1.out.size _
  have HS1:Hid (SAt X1 av ac ai an1 an2 an3 S):=jH (by rw [hX1]; exact hs1.out.below ((Below.refl _ v1).alloc (Nat.le_refl _) _))
  have HB1:Hid (X1.heap[bl1]? = some (.cells #[.int .i64 (N:Int),.slice av an1 a1,.slice ac an2 a2,.slice ai an3 a3,.int .i64 S.sum,.int .i64 S.most] 45 (0,0))):=jH (by rw [hX1,eb1]; exact heap_alloc_new v1 _)
  have HL1:=jH hf1.out
  have HR1:=jK HR4 hb
  have HBX:=jS HB4 hb
  clear hb hs1 hb1 hf1 g0 g1 j0 j1 j2 j3 j4 HC HG4 HJ4 HR4
  go_upto_region 5 with fail
  rw [<- hX1,show v1.heap.size = bl1 from eb1.symm]
  clear hX1 eb1
  obtain ⟨x0,x1,x2,x3,x4,x5,_⟩:=Sq.six HR1.out
  obtain ⟨y0,y1,y2,y3,y4,y5,_⟩:=Sq.six HB1.out
  have HQ:=jH (Sq.seqSame_any p (N:Int) Sx S Av Ac Ai av ac ai nv nc ni cv cc ci an1 an2 an3 a1 a2 a3 X1 (HSX.out.below HBX.out) HS1.out (by have:=HF.out; omega) (by have:=HF.out; omega) (by have:=HF.out; omega) (by have:=HL1.out; omega) (by have:=HL1.out; omega) (by have:=HL1.out; omega))
  go_wp2_with fail
  refine HQ.out.mono ?_
  rintro e w5 ⟨rfl,hb5⟩
  go_wp2
  go_ret
  exact ⟨_,rfl,jH ⟨fun _ => by rw [HSE.out],fun h => absurd rfl h⟩,step_below HBX.out HBX.out.size hb5⟩
 have hk1:(k = 1) = False:=by simp [hk]
 go_enter Tryz.func18,Tryz.ntmps18
 go_upto_region 1 with fail
 rw [<- hW3,show w.heap.size = n0 from e0.symm]
 clear hW3 e0
 go_wp2_with fail
 refine HC.out.mono ?_
 rintro e w4 ⟨rfl,hb4⟩
 have HG4:=jK HG hb4; have HJ4:=jK HJ hb4; have HR4:=jK HR hb4
 have HB4:=jS HB hb4
 clear hb4 g0 g1 j0 j1 j2 j3 j4 HG HJ HR HB HC
 obtain ⟨j0,j1,j2,j3,j4,_⟩:=jb_cells HJ4.out
 obtain ⟨x0,x1,x2,x3,x4,x5,_⟩:=Sq.six HR4.out
 by_cases hp0:p < 0
 ·go_wp2
  go_ret
  exact ⟨_,rfl,jH ⟨fun h => absurd h hk,fun _ => Or.inl ⟨Or.inl hp0,rfl⟩⟩,HB4.out⟩
 by_cases hp1:st < p
 ·go_wp2
  go_ret
  exact ⟨_,rfl,jH ⟨fun h => absurd h hk,fun _ => Or.inl ⟨Or.inr hp1,rfl⟩⟩,HB4.out⟩
 have HSW:Hid (∀ W:World,Below w4.heap.size w4 W->(fun W:World => W.cell? ⟨n0,0,none⟩ = some (.int .i64 V)/\W.cell? ⟨n0,1,none⟩ = some (.slice A n c)/\W.cell? ⟨n0 + 1,0,none⟩ = some (.int .u8 k)/\W.cell? ⟨n0 + 1,1,none⟩ = some (.int .i64 st)/\W.cell? ⟨n0 + 1,2,none⟩ = some (.int .i64 so)/\W.cell? ⟨n0 + 1,3,none⟩ = some (.int .i64 dm)/\W.cell? ⟨n0 + 1,4,none⟩ = some (.int .i64 ep)/\W.cell? ⟨n0 + 1 + 1,0,none⟩ = some (.int .i64 p)/\W.cell? ⟨n0 + 1 + 1,1,none⟩ = some (.slice Av nv cv)/\W.cell? ⟨n0 + 1 + 1,2,none⟩ = some (.slice Ac nc cc)/\W.cell? ⟨n0 + 1 + 1,3,none⟩ = some (.slice Ai ni ci)/\W.cell? ⟨n0 + 1 + 1,4,none⟩ = some (.int .i64 Sx.sum)/\W.cell? ⟨n0 + 1 + 1,5,none⟩ = some (.int .i64 Sx.most)) W):=jH (fun W hb => by
  obtain ⟨g0,g1,_⟩:=two_cells (keepB HG4.out hb)
  obtain ⟨j0,j1,j2,j3,j4,_⟩:=jb_cells (keepB HJ4.out hb)
  obtain ⟨x0,x1,x2,x3,x4,x5,_⟩:=Sq.six (keepB HR4.out hb)
  exact ⟨g0,g1,j0,j1,j2,j3,j4,x0,x1,x2,x3,x4,x5⟩)
 have hd4:Below w4.heap.size w4 w4.drew:=(Below.refl _ w4).drew
 have HCM:=jH (meant_any k st so dm ep V A n c L w4.drew (HL.out.below (step_below HB4.out HB4.out.size hd4)) HN.out (by omega) hV40 HCJ.out hk)
 have hS:=HSW.out _ hd4
 go_upto_region 8 with fail
 refine Tl.headX_region (S:=(fun W:World => W.cell? ⟨n0,0,none⟩ = some (.int .i64 V)/\W.cell? ⟨n0,1,none⟩ = some (.slice A n c)/\W.cell? ⟨n0 + 1,0,none⟩ = some (.int .u8 k)/\W.cell? ⟨n0 + 1,1,none⟩ = some (.int .i64 st)/\W.cell? ⟨n0 + 1,2,none⟩ = some (.int .i64 so)/\W.cell? ⟨n0 + 1,3,none⟩ = some (.int .i64 dm)/\W.cell? ⟨n0 + 1,4,none⟩ = some (.int .i64 ep)/\W.cell? ⟨n0 + 1 + 1,0,none⟩ = some (.int .i64 p)/\W.cell? ⟨n0 + 1 + 1,1,none⟩ = some (.slice Av nv cv)/\W.cell? ⟨n0 + 1 + 1,2,none⟩ = some (.slice Ac nc cc)/\W.cell? ⟨n0 + 1 + 1,3,none⟩ = some (.slice Ai ni ci)/\W.cell? ⟨n0 + 1 + 1,4,none⟩ = some (.int .i64 Sx.sum)/\W.cell? ⟨n0 + 1 + 1,5,none⟩ = some (.int .i64 Sx.most))) 19 mixed (by decide) ?_
 try dsimp only
 refine Tl.headX_tk 0 ?v0_1 rfl (by kernel_rfl) (by decide) (by kernel_rfl) (by kernel_rfl) (by kernel_rfl) (fun _ _ _ h => h) (by rfl) (fun W hSw => ?hy0_1) hS ?_
 case hy0_1 => ((try dsimp only at hSw); go_simp; try with_reducible rfl)
 simp only [Act.put,jZ,jY,jX]
 refine Tl.headX_tk 1 ?v1_2 rfl (by kernel_rfl) (by decide) (by kernel_rfl) (by kernel_rfl) (by kernel_rfl) (fun _ _ _ h => h) (by rfl) (fun W hSw => ?hy1_2) hS ?_
 case hy1_2 => ((try dsimp only at hSw); go_simp; try with_reducible rfl)
 simp only [Act.put,jZ,jY,jX]
 refine Tl.headX_tk 2 ?v2_3 rfl (by kernel_rfl) (by decide) (by kernel_rfl) (by kernel_rfl) (by kernel_rfl) (fun _ _ _ h => h) (by rfl) (fun W hSw => ?hy2_3) hS ?_
 case hy2_3 => ((try dsimp only at hSw); go_simp; try with_reducible rfl)
 simp only [Act.put,jZ,jY,jX]
 refine Tl.headX_tk 3 ?v3_4 rfl (by kernel_rfl) (by decide) (by kernel_rfl) (by kernel_rfl) (by kernel_rfl) (fun _ _ _ h => h) (by rfl) (fun W hSw => ?hy3_4) hS ?_
 case hy3_4 => ((try dsimp only at hSw); go_simp; try with_reducible rfl)
 simp only [Act.put,jZ,jY,jX]
 refine Tl.headX_cl (R:=fun v w' => ∃ l2,Hid (Mt k so V L l2/\NOwn w' 2 w4.drew.heap.size v l2/\Below w4.drew.heap.size w4.drew w')) 4 _ _ rfl (by decide) (by kernel_rfl) (by rfl) ?he4 (HCM.out.mono (by rintro e w' ⟨v,l2,rfl,h⟩; exact ⟨v,rfl,l2,h⟩)) ?_
 case he4 => (go_simp; try with_reducible rfl)
 rintro v w5 ⟨l2,h5⟩
 have HB5:Hid (Below w4.heap.size w4 w5):=jH (step_below hd4 hd4.size h5.out.2.2)
 have HMT:=jH h5.out.1
 have hlm:l2.length <= 512:=by
  obtain ⟨Vn,hv,_,hv2,_⟩:=chk_facts (chkJ_zero HCJ.out).1
  rw [mt_len HCJ.out HMT.out,hv]; exact hv2
 obtain ⟨Am,cm,rfl,hAm⟩:=h5.out.2.1.form
 obtain ⟨q,hq⟩:∃ q,decide (Sx.vals = l2) = q:=⟨_,rfl⟩
 have HEQ:Hid (Calls Tryz.prog 40 #[.slice Av nv cv,.slice Am l2.length cm] w5 fun e w' => ∃ v,e = .returned v/\(v = .bool q/\Hid (Below w5.heap.size w5 w'))):=jH (by
  have h:=Sq.equalQ_any Av Am nv l2.length cv cm Sx.vals l2 w5 (HSX.out.v.below (step_below HB4.out HB4.out.size HB5.out)) hAm HSX.out.nv rfl (by have:=HF.out; omega) (by omega)
  rw [hq] at h
  refine h.mono ?_
  rintro e w' ⟨rfl,hb⟩
  exact ⟨_,rfl,rfl,jH hb⟩)
 have HQ:=jH hq
 clear h5 hAm hS hq
 have hS:=HSW.out _ HB5.out
 refine ⟨hS,?_⟩
 simp only [Act.put,jZ,jY,jX]
 refine Tl.headX_cl 5 _ _ rfl (by decide) (by kernel_rfl) (by rfl) ?he5 HEQ.out ?_
 case he5 => (go_simp; try with_reducible rfl)
 rintro r w6 ⟨rfl,h6⟩
 have HB6:=jS HB5 h6.out
 clear h6 hS HEQ
 have hS:=HSW.out _ HB6.out
 refine ⟨hS,?_⟩
 simp only [Act.put,jZ,jY,jX]
 cases q with
 | true =>
  refine Tl.headX_tk 6 ?v6_5 rfl (by kernel_rfl) (by decide) (by kernel_rfl) (by kernel_rfl) (by kernel_rfl) (fun _ _ _ h => h) (by rfl) (fun W hSw => ?hy6_5) hS ?_
  case hy6_5 => ((try dsimp only at hSw); go_simp; try with_reducible rfl)
  simp only [Act.put,jZ,jY,jX]
  refine Mn.headX_un 7 rfl (by kernel_rfl) (by decide) (by kernel_rfl) (by kernel_rfl) (by kernel_rfl) (fun _ _ _ h => h) (by rfl) hS ?_
  simp only [Act.put,jZ,jY,jX]
  refine Mn.headX_un 8 rfl (by kernel_rfl) (by decide) (by kernel_rfl) (by kernel_rfl) (by kernel_rfl) (fun _ _ _ h => h) (by rfl) hS ?_
  simp only [Act.put,jZ,jY,jX]
  refine Mn.headX_un 9 rfl (by kernel_rfl) (by decide) (by kernel_rfl) (by kernel_rfl) (by kernel_rfl) (fun _ _ _ h => h) (by rfl) hS ?_
  simp only [Act.put,jZ,jY,jX]
  refine Mn.headX_un 10 rfl (by kernel_rfl) (by decide) (by kernel_rfl) (by kernel_rfl) (by kernel_rfl) (fun _ _ _ h => h) (by rfl) hS ?_
  simp only [Act.put,jZ,jY,jX]
  refine Mn.headX_un 11 rfl (by kernel_rfl) (by decide) (by kernel_rfl) (by kernel_rfl) (by kernel_rfl) (fun _ _ _ h => h) (by rfl) hS ?_
  simp only [Act.put,jZ,jY,jX]
  refine Mn.headX_un 12 rfl (by kernel_rfl) (by decide) (by kernel_rfl) (by kernel_rfl) (by kernel_rfl) (fun _ _ _ h => h) (by rfl) hS ?_
  simp only [Act.put,jZ,jY,jX]
  refine Mn.headX_un 13 rfl (by kernel_rfl) (by decide) (by kernel_rfl) (by kernel_rfl) (by kernel_rfl) (fun _ _ _ h => h) (by rfl) hS ?_
  simp only [Act.put,jZ,jY,jX]
  refine Mn.headX_un 14 rfl (by kernel_rfl) (by decide) (by kernel_rfl) (by kernel_rfl) (by kernel_rfl) (fun _ _ _ h => h) (by rfl) hS ?_
  simp only [Act.put,jZ,jY,jX]
  refine Mn.headX_un 15 rfl (by kernel_rfl) (by decide) (by kernel_rfl) (by kernel_rfl) (by kernel_rfl) (fun _ _ _ h => h) (by rfl) hS ?_
  simp only [Act.put,jZ,jY,jX]
  refine Mn.headX_un 16 rfl (by kernel_rfl) (by decide) (by kernel_rfl) (by kernel_rfl) (by kernel_rfl) (fun _ _ _ h => h) (by rfl) hS ?_
  simp only [Act.put,jZ,jY,jX]
  refine Mn.headX_un 17 rfl (by kernel_rfl) (by decide) (by kernel_rfl) (by kernel_rfl) (by kernel_rfl) (fun _ _ _ h => h) (by rfl) hS ?_
  simp only [Act.put,jZ,jY,jX]
  refine Tl.headX_tk 18 ?v18_6 rfl (by kernel_rfl) (by decide) (by kernel_rfl) (by kernel_rfl) (by kernel_rfl) (fun _ _ _ h => h) (by rfl) (fun W hSw => ?hy18_6) hS ?_
  case hy18_6 => ((try dsimp only at hSw); go_simp; try with_reducible rfl)
  simp only [Act.put,jZ,jY,jX]
  refine Tl.headX_rest (by kernel_rfl) ?_
  simp only [List.drop_succ_cons,List.drop_zero]
  clear hS HSW
  go_wp2
  go_ret
  exact ⟨_,rfl,jH ⟨fun h => absurd h hk,fun _ => Or.inr ⟨by omega,by omega,l2,HMT.out,by rw [HQ.out]; rfl⟩⟩,step_below HB4.out HB4.out.size HB6.out⟩
 | false =>
  by_cases he:p = st
  ·subst he
   obtain ⟨b,hb⟩:∃ b,decide (Sx.vals = (stS k so dm V.toNat L p.toNat).vals) = b:=⟨_,rfl⟩
   have HCC:Hid (Calls Tryz.prog 42 #[.agg #[.int .i64 V,.slice A n c],.agg #[.int .u8 k,.int .i64 p,.int .i64 so,.int .i64 dm,.int .i64 ep],.agg #[.int .i64 p,.slice Av nv cv,.slice Ac nc cc,.slice Ai ni ci,.int .i64 Sx.sum,.int .i64 Sx.most]] w6 fun e w' => ∃ v,e = .returned v/\(v = .bool b/\Hid (Below w6.heap.size w6 w'))):=jH (by
    have h:=cut_any k p so dm ep V p Sx.sum Sx.most A Av Ac Ai n c nv cv nc cc ni ci L Sx.vals w6 (HL.out.below (step_below HB4.out HB4.out.size HB6.out)) HN.out hm HCJ.out (by omega) (by have:=HST.out; omega) (HSX.out.v.below (step_below HB4.out HB4.out.size HB6.out)) HSX.out.nv (by have:=HF.out; omega)
    rw [hb] at h
    refine h.mono ?_
    rintro e w' ⟨rfl,hb⟩
    exact ⟨_,rfl,rfl,jH hb⟩)
   have HBB:=jH hb
   clear hb
   refine Tl.headX_tk 6 ?v6_7 rfl (by kernel_rfl) (by decide) (by kernel_rfl) (by kernel_rfl) (by kernel_rfl) (fun _ _ _ h => h) (by rfl) (fun W hSw => ?hy6_7) hS ?_
   case hy6_7 => ((try dsimp only at hSw); go_simp; try with_reducible rfl)
   simp only [Act.put,jZ,jY,jX]
   refine Tl.headX_tk 7 ?v7_8 rfl (by kernel_rfl) (by decide) (by kernel_rfl) (by kernel_rfl) (by kernel_rfl) (fun _ _ _ h => h) (by rfl) (fun W hSw => ?hy7_8) hS ?_
   case hy7_8 => ((try dsimp only at hSw); go_simp; try with_reducible rfl)
   simp only [Act.put,jZ,jY,jX]
   refine Tl.headX_tk 8 ?v8_9 rfl (by kernel_rfl) (by decide) (by kernel_rfl) (by kernel_rfl) (by kernel_rfl) (fun _ _ _ h => h) (by rfl) (fun W hSw => ?hy8_9) hS ?_
   case hy8_9 => ((try dsimp only at hSw); go_simp; try with_reducible rfl)
   simp only [Act.put,jZ,jY,jX]
   refine Tl.headX_tk 9 ?v9_10 rfl (by kernel_rfl) (by decide) (by kernel_rfl) (by kernel_rfl) (by kernel_rfl) (fun _ _ _ h => h) (by rfl) (fun W hSw => ?hy9_10) hS ?_
   case hy9_10 => ((try dsimp only at hSw); go_simp; try with_reducible rfl)
   simp only [Act.put,jZ,jY,jX]
   refine Tl.headX_tk 10 ?v10_11 rfl (by kernel_rfl) (by decide) (by kernel_rfl) (by kernel_rfl) (by kernel_rfl) (fun _ _ _ h => h) (by rfl) (fun W hSw => ?hy10_11) hS ?_
   case hy10_11 => ((try dsimp only at hSw); go_simp; try with_reducible rfl)
   simp only [Act.put,jZ,jY,jX]
   refine Tl.headX_tk 11 ?v11_12 rfl (by kernel_rfl) (by decide) (by kernel_rfl) (by kernel_rfl) (by kernel_rfl) (fun _ _ _ h => h) (by rfl) (fun W hSw => ?hy11_12) hS ?_
   case hy11_12 => ((try dsimp only at hSw); go_simp; try with_reducible rfl)
   simp only [Act.put,jZ,jY,jX]
   refine Tl.headX_tk 12 ?v12_13 rfl (by kernel_rfl) (by decide) (by kernel_rfl) (by kernel_rfl) (by kernel_rfl) (fun _ _ _ h => h) (by rfl) (fun W hSw => ?hy12_13) hS ?_
   case hy12_13 => ((try dsimp only at hSw); go_simp; try with_reducible rfl)
   simp only [Act.put,jZ,jY,jX]
   refine Tl.headX_tk 13 ?v13_14 rfl (by kernel_rfl) (by decide) (by kernel_rfl) (by kernel_rfl) (by kernel_rfl) (fun _ _ _ h => h) (by rfl) (fun W hSw => ?hy13_14) hS ?_
   case hy13_14 => ((try dsimp only at hSw); go_simp; try with_reducible rfl)
   simp only [Act.put,jZ,jY,jX]
   refine Tl.headX_tk 14 ?v14_15 rfl (by kernel_rfl) (by decide) (by kernel_rfl) (by kernel_rfl) (by kernel_rfl) (fun _ _ _ h => h) (by rfl) (fun W hSw => ?hy14_15) hS ?_
   case hy14_15 => ((try dsimp only at hSw); go_simp; try with_reducible rfl)
   simp only [Act.put,jZ,jY,jX]
   refine Tl.headX_tk 15 ?v15_16 rfl (by kernel_rfl) (by decide) (by kernel_rfl) (by kernel_rfl) (by kernel_rfl) (fun _ _ _ h => h) (by rfl) (fun W hSw => ?hy15_16) hS ?_
   case hy15_16 => ((try dsimp only at hSw); go_simp; try with_reducible rfl)
   simp only [Act.put,jZ,jY,jX]
   refine Tl.headX_cl 16 _ _ rfl (by decide) (by kernel_rfl) (by rfl) ?he16 HCC.out ?_
   case he16 => (go_simp; try with_reducible rfl)
   rintro r w7 ⟨rfl,h7⟩
   have HB7:=jS HB6 h7.out
   clear h7 hS HCC
   have hS:=HSW.out _ HB7.out
   refine ⟨hS,?_⟩
   simp only [Act.put,jZ,jY,jX]
   refine Tl.headX_tk 17 ?v17_17 rfl (by kernel_rfl) (by decide) (by kernel_rfl) (by kernel_rfl) (by kernel_rfl) (fun _ _ _ h => h) (by rfl) (fun W hSw => ?hy17_17) hS ?_
   case hy17_17 => ((try dsimp only at hSw); go_simp; try with_reducible rfl)
   simp only [Act.put,jZ,jY,jX]
   refine Tl.headX_tk 18 ?v18_18 rfl (by kernel_rfl) (by decide) (by kernel_rfl) (by kernel_rfl) (by kernel_rfl) (fun _ _ _ h => h) (by rfl) (fun W hSw => ?hy18_18) hS ?_
   case hy18_18 => ((try dsimp only at hSw); go_simp; try with_reducible rfl)
   simp only [Act.put,jZ,jY,jX]
   refine Tl.headX_rest (by kernel_rfl) ?_
   simp only [List.drop_succ_cons,List.drop_zero]
   clear hS HSW
   go_wp2
   go_ret
   exact ⟨_,rfl,jH ⟨fun h => absurd h hk,fun _ => Or.inr ⟨by omega,by omega,l2,HMT.out,by rw [HQ.out,HBB.out]; simp⟩⟩,step_below HB4.out HB4.out.size HB7.out⟩
  ·have he':(p == st) = false:=by simpa using he
   refine Tl.headX_tk 6 ?v6_19 rfl (by kernel_rfl) (by decide) (by kernel_rfl) (by kernel_rfl) (by kernel_rfl) (fun _ _ _ h => h) (by rfl) (fun W hSw => ?hy6_19) hS ?_
   case hy6_19 => ((try dsimp only at hSw); go_simp; try with_reducible rfl)
   simp only [Act.put,jZ,jY,jX]
   refine Tl.headX_tk 7 ?v7_20 rfl (by kernel_rfl) (by decide) (by kernel_rfl) (by kernel_rfl) (by kernel_rfl) (fun _ _ _ h => h) (by rfl) (fun W hSw => ?hy7_20) hS ?_
   case hy7_20 => ((try dsimp only at hSw); go_simp; try with_reducible rfl)
   simp only [Act.put,jZ,jY,jX]
   refine Tl.headX_tk 8 ?v8_21 rfl (by kernel_rfl) (by decide) (by kernel_rfl) (by kernel_rfl) (by kernel_rfl) (fun _ _ _ h => h) (by rfl) (fun W hSw => ?hy8_21) hS ?_
   case hy8_21 => ((try dsimp only at hSw); go_simp; try with_reducible rfl)
   simp only [Act.put,jZ,jY,jX]
   refine Tl.headX_tk 9 ?v9_22 rfl (by kernel_rfl) (by decide) (by kernel_rfl) (by kernel_rfl) (by kernel_rfl) (fun _ _ _ h => h) (by rfl) (fun W hSw => ?hy9_22) hS ?_
   case hy9_22 => ((try dsimp only at hSw); go_simp; try with_reducible rfl)
   simp only [Act.put,jZ,jY,jX]
   refine Tl.headX_tk 10 ?v10_23 rfl (by kernel_rfl) (by decide) (by kernel_rfl) (by kernel_rfl) (by kernel_rfl) (fun _ _ _ h => h) (by rfl) (fun W hSw => ?hy10_23) hS ?_
   case hy10_23 => ((try dsimp only at hSw); go_simp; try with_reducible rfl)
   simp only [Act.put,jZ,jY,jX]
   refine Tl.headX_tk 11 ?v11_24 rfl (by kernel_rfl) (by decide) (by kernel_rfl) (by kernel_rfl) (by kernel_rfl) (fun _ _ _ h => h) (by rfl) (fun W hSw => ?hy11_24) hS ?_
   case hy11_24 => ((try dsimp only at hSw); go_simp; try with_reducible rfl)
   simp only [Act.put,jZ,jY,jX]
   refine Tl.headX_tk 12 ?v12_25 rfl (by kernel_rfl) (by decide) (by kernel_rfl) (by kernel_rfl) (by kernel_rfl) (fun _ _ _ h => h) (by rfl) (fun W hSw => ?hy12_25) hS ?_
   case hy12_25 => ((try dsimp only at hSw); go_simp; try with_reducible rfl)
   simp only [Act.put,jZ,jY,jX]
   refine Mn.headX_un 13 rfl (by kernel_rfl) (by decide) (by kernel_rfl) (by kernel_rfl) (by kernel_rfl) (fun _ _ _ h => h) (by rfl) hS ?_
   simp only [Act.put,jZ,jY,jX]
   refine Mn.headX_un 14 rfl (by kernel_rfl) (by decide) (by kernel_rfl) (by kernel_rfl) (by kernel_rfl) (fun _ _ _ h => h) (by rfl) hS ?_
   simp only [Act.put,jZ,jY,jX]
   refine Mn.headX_un 15 rfl (by kernel_rfl) (by decide) (by kernel_rfl) (by kernel_rfl) (by kernel_rfl) (fun _ _ _ h => h) (by rfl) hS ?_
   simp only [Act.put,jZ,jY,jX]
   refine Mn.headX_un 16 rfl (by kernel_rfl) (by decide) (by kernel_rfl) (by kernel_rfl) (by kernel_rfl) (fun _ _ _ h => h) (by rfl) hS ?_
   simp only [Act.put,jZ,jY,jX]
   refine Tl.headX_tk 17 ?v17_26 rfl (by kernel_rfl) (by decide) (by kernel_rfl) (by kernel_rfl) (by kernel_rfl) (fun _ _ _ h => h) (by rfl) (fun W hSw => ?hy17_26) hS ?_
   case hy17_26 => ((try dsimp only at hSw); go_simp; try with_reducible rfl)
   simp only [Act.put,jZ,jY,jX]
   refine Tl.headX_tk 18 ?v18_27 rfl (by kernel_rfl) (by decide) (by kernel_rfl) (by kernel_rfl) (by kernel_rfl) (fun _ _ _ h => h) (by rfl) (fun W hSw => ?hy18_27) hS ?_
   case hy18_27 => ((try dsimp only at hSw); go_simp; try with_reducible rfl)
   simp only [Act.put,jZ,jY,jX]
   refine Tl.headX_rest (by kernel_rfl) ?_
   simp only [List.drop_succ_cons,List.drop_zero]
   clear hS HSW
   go_wp2
   go_ret
   exact ⟨_,rfl,jH ⟨fun h => absurd h hk,fun _ => Or.inr ⟨by omega,by omega,l2,HMT.out,by rw [HQ.out]; simp [he]⟩⟩,step_below HB4.out HB4.out.size HB6.out⟩
end Go.Proofs.YtdcaekmgfcpbmaaGreat.Mn
