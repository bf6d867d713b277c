/-
  What is proved here: contracts of what meaning.Means asks: what a job of Label or Paths comes to; and of Means itself where a state has just that, of Paths. Conditions: at most 100000 edges; a graph that may be has at most 40 vertices. What is proved here: a contract of meaning's isCutOff: are a state's values those of the state that a run has come to at its superstep? Conditions: a job that may be, a superstep within its Steps; at most 1000 edges. What is proved here: the law's works() says true: the chapter's examples hold. No condition. What is proved here: the law's function MeaningLabels says true. Condition: the number of edges fits an int.
-/
import Derived.Test.YtdcaekmgfcpbmaaGreatQdMnPrx
import Derived.Test.YtdcaekmgfcpbmaaGreatQdSqErx
import Derived.Test.YtdcaekmgfcpbmaaGreatQdAlP5
import Derived.Test.YtdcaekmgfcpbmaaGreatQdSqRsx
import Derived.Test.YtdcaekmgfcpbmaaGreatQdMnRl
import Derived.Test.YtdcaekmgfcpbmaaGreatQdMnT2x
namespace Go.Proofs.YtdcaekmgfcpbmaaGreat.Mn
open Go.RowKit Gr Wd Ws Fx Rk Lb Al
open Pa (vl bt vl_of vl_at bt_of bt_at Fits fits_of fr far)
theorem headX_un {P:Program} {md:Region.Mode} {S:World->Prop} {Q:Exit->Act->World->Prop} {n p g:Nat} {r:List Oper} {oi:Oper} {f:Nat} {listed:Array Bool} {a:Act} {w:World} (i:Nat) (hi:r[i]? = some oi) (hg:(Region.sinkB md r.toArray n && Tl.chainX md r.toArray n p && decide (n < r.toArray.size)) = true) (hin:i < n)
 (hsel:Region.noSelect r.toArray = true) (hf:Region.free md r.toArray listed i = true) (hr:(Region.ready md r.toArray listed).contains i = true)
 (hQ:∀ c a w,Q (.panic c) (a.put oi.dst undef) w->Q (.panic c) a w) (hw:Region.wanted oi (yielded r.toArray a.tmps) = false) (hS:S w)
 (h:Tl.headX P md r.toArray Q S n p g f (listed.setIfInBounds i true) (a.put oi.dst undef) w):Tl.headX P md r.toArray Q S n p g (f + 1) listed a w :=
 Tl.headX_take hg (by simpa using hi) hin hsel hf hr hQ (Or.inr ⟨hw,rfl⟩) hS h
def Mt (k so V:Int) (L:List Ed) (l:List Int):Prop:=(k = 2/\LabC V.toNat L l)\/(k = 3/\l = far V.toNat so.toNat L)
theorem Mt.one {k so V:Int} {L:List Ed} {a b:List Int} (ha:Mt k so V L a) (hb:Mt k so V L b):a = b:=by
 rcases ha with ⟨h1,h2⟩ | ⟨h1,h2⟩ <;> rcases hb with ⟨h3,h4⟩ | ⟨h3,h4⟩
 ·exact h2.one h4
 ·omega
 ·omega
 ·rw [h2,h4]
set_option maxRecDepth 100000 in
set_option maxHeartbeats 1000000 in
theorem meant_any (k st so dm ep V:Int) (A:Option Addr) (n c:Nat) (L:List Ed) (w:World) (hL:EAt w A L) (hn:L.length = n) (hm:n <= 100000) (hV40:V <= 40) (hc:chkJ k st so dm ep V L = 0) (hk:k ≠ 1) :
 Calls Tryz.prog 41 #[.agg #[.int .i64 V,.slice A n c],.agg #[.int .u8 k,.int .i64 st,.int .i64 so,.int .i64 dm,.int .i64 ep]] w fun e w' => ∃ v l,e = .returned v/\Hid (Mt k so V L l/\NOwn w' 2 w.heap.size v l/\Below w.heap.size w w'):=by
 have mixed:=mixedP
 have hcc:=hc
 unfold chkJ at hc
 split at hc
 ·rename_i hz
  split at hc
  ·rename_i hj
   obtain ⟨Vn,rfl,hV0,hV⟩:=chk_v hz
   have HL:=jH hL; have HN:=jH hn; have HZ:=jH hz
   obtain ⟨W3,hW3⟩:∃ W3,W3 = (w.alloc (.cells #[.int .i64 (Vn:Int),.slice A n c] 24)).alloc (.cells #[.int .u8 k,.int .i64 st,.int .i64 so,.int .i64 dm,.int .i64 ep] 40):=⟨_,rfl⟩
   have hal:=al2 w (.cells #[.int .i64 (Vn:Int),.slice A n c] 24) (.cells #[.int .u8 k,.int .i64 st,.int .i64 so,.int .i64 dm,.int .i64 ep] 40)
   rw [<- hW3] at hal
   obtain ⟨n0,e0⟩:∃ n0,n0 = w.heap.size:=⟨_,rfl⟩
   have HG:Hid (W3.heap[n0]? = some (.cells #[.int .i64 (Vn:Int),.slice A n c] 24 (0,0))):=jH (by rw [e0]; exact hal.1)
   have HJ:Hid (W3.heap[n0 + 1]? = some (.cells #[.int .u8 k,.int .i64 st,.int .i64 so,.int .i64 dm,.int .i64 ep] 40 (0,0))):=jH (by rw [e0]; exact hal.2.1)
   have HB:=jH hal.2.2
   clear hal hL hn hz
   obtain ⟨g0,g1,_⟩:=two_cells HG.out
   obtain ⟨j0,j1,j2,j3,j4,_⟩:=jb_cells HJ.out
   by_cases hk2:k = 2
   ·subst hk2
    have HC:=jH (labels_any Vn A n c L W3 (HL.out.below HB.out) HN.out hm hV hV0 HZ.out)
    go_enter Tryz.func41,Tryz.ntmps41
    go_upto_region 1 with fail
    rw [<- hW3,show w.heap.size = n0 from e0.symm]
    clear hW3 e0
    go_wp2_with fail
    refine HC.out.mono ?_
    rintro e w4 ⟨v,l,rfl,h4⟩
    go_wp2
    go_ret
    exact ⟨v,l,rfl,jH ⟨Or.inl ⟨rfl,by rw [show (Vn:Int).toNat = Vn by simp]; exact h4.out.1⟩,h4.out.2.1.mono HB.out.size,step_below HB.out HB.out.size h4.out.2.2⟩⟩
   ·have hj3:k = 3/\0 <= so/\so < (Vn:Int):=by
     unfold jobOk at hj
     rw [if_neg hk,if_neg hk2] at hj
     by_cases h3:k = 3
     ·rw [if_pos h3] at hj
      simp only [Bool.and_eq_true,decide_eq_true_eq] at hj
      exact ⟨h3,hj.2.1.1.1,hj.2.1.1.2⟩
     ·rw [if_neg h3] at hj; simp at hj
    obtain ⟨rfl,hs0,hs1⟩:=hj3
    obtain ⟨sn,rfl⟩:∃ sn:Nat,so = (sn:Int):=⟨so.toNat,by omega⟩
    have HC:=jH (distances_any Vn sn A n c L W3 (HL.out.below HB.out) HN.out hm (by omega) (by omega) HZ.out)
    clear hj hcc hk hk2
    go_enter Tryz.func41,Tryz.ntmps41
    go_upto_region 1 with fail
    rw [<- hW3,show w.heap.size = n0 from e0.symm]
    clear hW3 e0
    go_wp2_with fail
    refine HC.out.mono ?_
    rintro e w4 ⟨g,cp,rfl,h4⟩
    go_wp2
    go_ret
    exact ⟨_,far Vn sn L,rfl,jH ⟨Or.inr ⟨rfl,by simp⟩,h4.out.1.mono HB.out.size,step_below HB.out HB.out.size h4.out.2⟩⟩
  ·omega
 ·rename_i h; exact absurd hc h
set_option maxRecDepth 100000 in
set_option maxHeartbeats 2000000 in
theorem Means_yes (k st so dm ep V p su mo:Int) (A Av Ac Ai:Option Addr) (n c nv cv nc cc ni ci:Nat) (L:List Ed) (l:List Int) (w:World) (hL:EAt w A L) (hn:L.length = n) (hm:n <= 100000) (hV40:V <= 40) (hc:chkJ k st so dm ep V L = 0) (hk:k ≠ 1) (hp0:0 <= p) (hp1:p <= st)
 (hA:IAt w Av l) (hnv:l.length = nv) (hnv1:nv <= 100000) (hl:Mt k so V L l) :
 Calls Tryz.prog 18 #[.agg #[.int .i64 V,.slice A n c],.agg #[.int .u8 k,.int .i64 st,.int .i64 so,.int .i64 dm,.int .i64 ep],.agg #[.int .i64 p,.slice Av nv cv,.slice Ac nc cc,.slice Ai ni ci,.int .i64 su,.int .i64 mo]] w fun e w' => e = .returned (.bool true)/\Below w.heap.size w w':=by
 have mixed:=mixedP
 obtain ⟨W3,hW3⟩:∃ W3,W3 = ((w.alloc (.cells #[.int .i64 V,.slice A n c] 24)).alloc (.cells #[.int .u8 k,.int .i64 st,.int .i64 so,.int .i64 dm,.int .i64 ep] 40)).alloc (.cells #[.int .i64 p,.slice Av nv cv,.slice Ac nc cc,.slice Ai ni ci,.int .i64 su,.int .i64 mo] 45):=⟨_,rfl⟩
 have hal:=al3 w (.cells #[.int .i64 V,.slice A n c] 24) (.cells #[.int .u8 k,.int .i64 st,.int .i64 so,.int .i64 dm,.int .i64 ep] 40) (.cells #[.int .i64 p,.slice Av nv cv,.slice Ac nc cc,.slice Ai ni ci,.int .i64 su,.int .i64 mo] 45)
 rw [<- hW3] at hal
 obtain ⟨n0,e0⟩:∃ n0,n0 = w.heap.size:=⟨_,rfl⟩
 have HG:Hid (W3.heap[n0]? = some (.cells #[.int .i64 V,.slice A n c] 24 (0,0))):=jH (by rw [e0]; exact hal.1)
 have HJ:Hid (W3.heap[n0 + 1]? = some (.cells #[.int .u8 k,.int .i64 st,.int .i64 so,.int .i64 dm,.int .i64 ep] 40 (0,0))):=jH (by rw [e0]; exact hal.2.1)
 have HR:Hid (W3.heap[n0 + 1 + 1]? = some (.cells #[.int .i64 p,.slice Av nv cv,.slice Ac nc cc,.slice Ai ni ci,.int .i64 su,.int .i64 mo] 45 (0,0))):=jH (by rw [e0]; exact hal.2.2.1)
 have HB:=jH hal.2.2.2
 have HL:=jH hL; have HN:=jH hn; have HA:=jH hA; have HNV:=jH hnv; have HMT:=jH hl; have HCJ:=jH hc
 clear hal hL hn hA hnv hl hc
 obtain ⟨g0,g1,_⟩:=two_cells HG.out
 obtain ⟨j0,j1,j2,j3,j4,_⟩:=jb_cells HJ.out
 have HC:Hid (Calls Tryz.prog 16 #[.agg #[.int .i64 V,.slice A n c],.agg #[.int .u8 k,.int .i64 st,.int .i64 so,.int .i64 dm,.int .i64 ep]] W3 fun e w' => e = .returned (.int .i64 0)/\Below W3.heap.size W3 w'):=jH (by
  have h:=checkj_any k st so dm ep V A c L W3 (HL.out.below HB.out) (by rw [HN.out]; omega)
  rw [HN.out,HCJ.out] at h; exact h)
 have hk1:(k = 1) = False:=by simp [hk]
 go_enter Tryz.func18,Tryz.ntmps18
 go_upto_region 1 with fail
 rw [<- hW3,show w.heap.size = n0 from e0.symm]
 clear hW3 e0
 go_wp2_with fail
 refine HC.out.mono ?_
 rintro e w4 ⟨rfl,hb4⟩
 have HG4:=jK HG hb4; have HJ4:=jK HJ hb4; have HR4:=jK HR hb4
 have HB4:=jS HB hb4
 clear hb4 g0 g1 j0 j1 j2 j3 j4 HG HJ HR HB HC
 obtain ⟨j0,j1,j2,j3,j4,_⟩:=jb_cells HJ4.out
 obtain ⟨x0,x1,x2,x3,x4,x5,_⟩:=Sq.six HR4.out
 have HSW:Hid (∀ W:World,Below w4.heap.size w4 W->(fun W:World => W.cell? ⟨n0,0,none⟩ = some (.int .i64 V)/\W.cell? ⟨n0,1,none⟩ = some (.slice A n c)/\W.cell? ⟨n0 + 1,0,none⟩ = some (.int .u8 k)/\W.cell? ⟨n0 + 1,1,none⟩ = some (.int .i64 st)/\W.cell? ⟨n0 + 1,2,none⟩ = some (.int .i64 so)/\W.cell? ⟨n0 + 1,3,none⟩ = some (.int .i64 dm)/\W.cell? ⟨n0 + 1,4,none⟩ = some (.int .i64 ep)/\W.cell? ⟨n0 + 1 + 1,0,none⟩ = some (.int .i64 p)/\W.cell? ⟨n0 + 1 + 1,1,none⟩ = some (.slice Av nv cv)/\W.cell? ⟨n0 + 1 + 1,2,none⟩ = some (.slice Ac nc cc)/\W.cell? ⟨n0 + 1 + 1,3,none⟩ = some (.slice Ai ni ci)/\W.cell? ⟨n0 + 1 + 1,4,none⟩ = some (.int .i64 su)/\W.cell? ⟨n0 + 1 + 1,5,none⟩ = some (.int .i64 mo)) W):=jH (fun W hb => by
  obtain ⟨g0,g1,_⟩:=two_cells (keepB HG4.out hb)
  obtain ⟨j0,j1,j2,j3,j4,_⟩:=jb_cells (keepB HJ4.out hb)
  obtain ⟨x0,x1,x2,x3,x4,x5,_⟩:=Sq.six (keepB HR4.out hb)
  exact ⟨g0,g1,j0,j1,j2,j3,j4,x0,x1,x2,x3,x4,x5⟩)
 have hd4:Below w4.heap.size w4 w4.drew:=(Below.refl _ w4).drew
 have HCM:=jH (meant_any k st so dm ep V A n c L w4.drew (HL.out.below (step_below HB4.out HB4.out.size hd4)) HN.out hm hV40 HCJ.out hk)
 have hS:=HSW.out _ hd4
 go_upto_region 8 with fail
 refine Tl.headX_region (S:=(fun W:World => W.cell? ⟨n0,0,none⟩ = some (.int .i64 V)/\W.cell? ⟨n0,1,none⟩ = some (.slice A n c)/\W.cell? ⟨n0 + 1,0,none⟩ = some (.int .u8 k)/\W.cell? ⟨n0 + 1,1,none⟩ = some (.int .i64 st)/\W.cell? ⟨n0 + 1,2,none⟩ = some (.int .i64 so)/\W.cell? ⟨n0 + 1,3,none⟩ = some (.int .i64 dm)/\W.cell? ⟨n0 + 1,4,none⟩ = some (.int .i64 ep)/\W.cell? ⟨n0 + 1 + 1,0,none⟩ = some (.int .i64 p)/\W.cell? ⟨n0 + 1 + 1,1,none⟩ = some (.slice Av nv cv)/\W.cell? ⟨n0 + 1 + 1,2,none⟩ = some (.slice Ac nc cc)/\W.cell? ⟨n0 + 1 + 1,3,none⟩ = some (.slice Ai ni ci)/\W.cell? ⟨n0 + 1 + 1,4,none⟩ = some (.int .i64 su)/\W.cell? ⟨n0 + 1 + 1,5,none⟩ = some (.int .i64 mo))) 19 mixed (by decide) ?_
 try dsimp only
 refine Tl.headX_tk 0 ?v0_1 rfl (by kernel_rfl) (by decide) (by kernel_rfl) (by kernel_rfl) (by kernel_rfl) (fun _ _ _ h => h) (by rfl) (fun W hSw => ?hy0_1) hS ?_
 case hy0_1 => ((try dsimp only at hSw); go_simp; try with_reducible rfl)
 simp only [Act.put,jZ,jY,jX]
 refine Tl.headX_tk 1 ?v1_2 rfl (by kernel_rfl) (by decide) (by kernel_rfl) (by kernel_rfl) (by kernel_rfl) (fun _ _ _ h => h) (by rfl) (fun W hSw => ?hy1_2) hS ?_
 case hy1_2 => ((try dsimp only at hSw); go_simp; try with_reducible rfl)
 simp only [Act.put,jZ,jY,jX]
 refine Tl.headX_tk 2 ?v2_3 rfl (by kernel_rfl) (by decide) (by kernel_rfl) (by kernel_rfl) (by kernel_rfl) (fun _ _ _ h => h) (by rfl) (fun W hSw => ?hy2_3) hS ?_
 case hy2_3 => ((try dsimp only at hSw); go_simp; try with_reducible rfl)
 simp only [Act.put,jZ,jY,jX]
 refine Tl.headX_tk 3 ?v3_4 rfl (by kernel_rfl) (by decide) (by kernel_rfl) (by kernel_rfl) (by kernel_rfl) (fun _ _ _ h => h) (by rfl) (fun W hSw => ?hy3_4) hS ?_
 case hy3_4 => ((try dsimp only at hSw); go_simp; try with_reducible rfl)
 simp only [Act.put,jZ,jY,jX]
 refine Tl.headX_cl (R:=fun v w' => ∃ l2,Hid (Mt k so V L l2/\NOwn w' 2 w4.drew.heap.size v l2/\Below w4.drew.heap.size w4.drew w')) 4 _ _ rfl (by decide) (by kernel_rfl) (by rfl) ?he4 (HCM.out.mono (by rintro e w' ⟨v,l2,rfl,h⟩; exact ⟨v,rfl,l2,h⟩)) ?_
 case he4 => (go_simp; try with_reducible rfl)
 rintro v w5 ⟨l2,h5⟩
 have HB5:Hid (Below w4.heap.size w4 w5):=jH (step_below hd4 hd4.size h5.out.2.2)
 obtain rfl:l = l2:=HMT.out.one h5.out.1
 obtain ⟨Am,cm,rfl,hAm⟩:=h5.out.2.1.form
 rw [HNV.out]
 have HEQ:Hid (Calls Tryz.prog 40 #[.slice Av nv cv,.slice Am nv cm] w5 fun e w' => ∃ v,e = .returned v/\(v = .bool true/\Hid (Below w5.heap.size w5 w'))):=jH (by
  have h:=Sq.equalQ_any Av Am nv nv cv cm l l w5 (HA.out.below (step_below HB4.out HB4.out.size HB5.out)) hAm HNV.out HNV.out (by omega) (by omega)
  refine h.mono ?_
  rintro e w' ⟨rfl,hb⟩
  exact ⟨_,rfl,by simp,jH hb⟩)
 clear h5 hAm hS
 have hS:=HSW.out _ HB5.out
 refine ⟨hS,?_⟩
 simp only [Act.put,jZ,jY,jX]
 refine Tl.headX_cl 5 _ _ rfl (by decide) (by kernel_rfl) (by rfl) ?he5 HEQ.out ?_
 case he5 => (go_simp; try with_reducible rfl)
 rintro r w6 ⟨rfl,h6⟩
 have HB6:=jS HB5 h6.out
 clear h6 hS
 have hS:=HSW.out _ HB6.out
 refine ⟨hS,?_⟩
 simp only [Act.put,jZ,jY,jX]
 refine Tl.headX_tk 6 ?v6_5 rfl (by kernel_rfl) (by decide) (by kernel_rfl) (by kernel_rfl) (by kernel_rfl) (fun _ _ _ h => h) (by rfl) (fun W hSw => ?hy6_5) hS ?_
 case hy6_5 => ((try dsimp only at hSw); go_simp; try with_reducible rfl)
 simp only [Act.put,jZ,jY,jX]
 refine Mn.headX_un 7 rfl (by kernel_rfl) (by decide) (by kernel_rfl) (by kernel_rfl) (by kernel_rfl) (fun _ _ _ h => h) (by rfl) hS ?_
 simp only [Act.put,jZ,jY,jX]
 refine Mn.headX_un 8 rfl (by kernel_rfl) (by decide) (by kernel_rfl) (by kernel_rfl) (by kernel_rfl) (fun _ _ _ h => h) (by rfl) hS ?_
 simp only [Act.put,jZ,jY,jX]
 refine Mn.headX_un 9 rfl (by kernel_rfl) (by decide) (by kernel_rfl) (by kernel_rfl) (by kernel_rfl) (fun _ _ _ h => h) (by rfl) hS ?_
 simp only [Act.put,jZ,jY,jX]
 refine Mn.headX_un 10 rfl (by kernel_rfl) (by decide) (by kernel_rfl) (by kernel_rfl) (by kernel_rfl) (fun _ _ _ h => h) (by rfl) hS ?_
 simp only [Act.put,jZ,jY,jX]
 refine Mn.headX_un 11 rfl (by kernel_rfl) (by decide) (by kernel_rfl) (by kernel_rfl) (by kernel_rfl) (fun _ _ _ h => h) (by rfl) hS ?_
 simp only [Act.put,jZ,jY,jX]
 refine Mn.headX_un 12 rfl (by kernel_rfl) (by decide) (by kernel_rfl) (by kernel_rfl) (by kernel_rfl) (fun _ _ _ h => h) (by rfl) hS ?_
 simp only [Act.put,jZ,jY,jX]
 refine Mn.headX_un 13 rfl (by kernel_rfl) (by decide) (by kernel_rfl) (by kernel_rfl) (by kernel_rfl) (fun _ _ _ h => h) (by rfl) hS ?_
 simp only [Act.put,jZ,jY,jX]
 refine Mn.headX_un 14 rfl (by kernel_rfl) (by decide) (by kernel_rfl) (by kernel_rfl) (by kernel_rfl) (fun _ _ _ h => h) (by rfl) hS ?_
 simp only [Act.put,jZ,jY,jX]
 refine Mn.headX_un 15 rfl (by kernel_rfl) (by decide) (by kernel_rfl) (by kernel_rfl) (by kernel_rfl) (fun _ _ _ h => h) (by rfl) hS ?_
 simp only [Act.put,jZ,jY,jX]
 refine Mn.headX_un 16 rfl (by kernel_rfl) (by decide) (by kernel_rfl) (by kernel_rfl) (by kernel_rfl) (fun _ _ _ h => h) (by rfl) hS ?_
 simp only [Act.put,jZ,jY,jX]
 refine Mn.headX_un 17 rfl (by kernel_rfl) (by decide) (by kernel_rfl) (by kernel_rfl) (by kernel_rfl) (fun _ _ _ h => h) (by rfl) hS ?_
 simp only [Act.put,jZ,jY,jX]
 refine Tl.headX_tk 18 ?v18_6 rfl (by kernel_rfl) (by decide) (by kernel_rfl) (by kernel_rfl) (by kernel_rfl) (fun _ _ _ h => h) (by rfl) (fun W hSw => ?hy18_6) hS ?_
 case hy18_6 => ((try dsimp only at hSw); go_simp; try with_reducible rfl)
 simp only [Act.put,jZ,jY,jX]
 refine Tl.headX_rest (by kernel_rfl) ?_
 simp only [List.drop_succ_cons,List.drop_zero]
 clear hS HSW
 go_wp2
 go_ret
 exact ⟨rfl,step_below HB4.out HB4.out.size HB6.out⟩
open Go.RowKit Gr Wd Ws Fx Rk Lb Al Sq
open Pa (vl bt vl_of vl_at bt_of bt_at Fits fits_of fr far)
set_option maxRecDepth 100000 in
set_option maxHeartbeats 2000000 in
theorem cut_any (k st so dm ep V p su mo:Int) (A Av Ac Ai:Option Addr) (n c nv cv nc cc ni ci:Nat) (L:List Ed) (l:List Int) (w:World) (hL:EAt w A L) (hn:L.length = n) (hm:n <= 1000) (hc:chkJ k st so dm ep V L = 0) (hp0:0 <= p) (hp1:p <= 2000)
 (hA:IAt w Av l) (hnv:l.length = nv) (hnv1:nv <= 100000) :
 Calls Tryz.prog 42 #[.agg #[.int .i64 V,.slice A n c],.agg #[.int .u8 k,.int .i64 st,.int .i64 so,.int .i64 dm,.int .i64 ep],.agg #[.int .i64 p,.slice Av nv cv,.slice Ac nc cc,.slice Ai ni ci,.int .i64 su,.int .i64 mo]] w fun e w' => e = .returned (.bool (decide (l = (stS k so dm V.toNat L p.toNat).vals)))/\Below w.heap.size w w':=by
 have mixed:=mixedP
 obtain ⟨W3,hW3⟩:∃ W3,W3 = ((w.alloc (.cells #[.int .i64 V,.slice A n c] 24)).alloc (.cells #[.int .u8 k,.int .i64 st,.int .i64 so,.int .i64 dm,.int .i64 ep] 40)).alloc (.cells #[.int .i64 p,.slice Av nv cv,.slice Ac nc cc,.slice Ai ni ci,.int .i64 su,.int .i64 mo] 45):=⟨_,rfl⟩
 have hal:=al3 w (.cells #[.int .i64 V,.slice A n c] 24) (.cells #[.int .u8 k,.int .i64 st,.int .i64 so,.int .i64 dm,.int .i64 ep] 40) (.cells #[.int .i64 p,.slice Av nv cv,.slice Ac nc cc,.slice Ai ni ci,.int .i64 su,.int .i64 mo] 45)
 rw [<- hW3] at hal
 obtain ⟨n0,e0⟩:∃ n0,n0 = w.heap.size:=⟨_,rfl⟩
 have HG:Hid (W3.heap[n0]? = some (.cells #[.int .i64 V,.slice A n c] 24 (0,0))):=jH (by rw [e0]; exact hal.1)
 have HJ:Hid (W3.heap[n0 + 1]? = some (.cells #[.int .u8 k,.int .i64 st,.int .i64 so,.int .i64 dm,.int .i64 ep] 40 (0,0))):=jH (by rw [e0]; exact hal.2.1)
 have HR:Hid (W3.heap[n0 + 1 + 1]? = some (.cells #[.int .i64 p,.slice Av nv cv,.slice Ac nc cc,.slice Ai ni ci,.int .i64 su,.int .i64 mo] 45 (0,0))):=jH (by rw [e0]; exact hal.2.2.1)
 have HB:=jH hal.2.2.2
 have HL:=jH hL; have HN:=jH hn; have HA:=jH hA; have HNV:=jH hnv; have HCJ:=jH hc
 clear hal hL hn hA hnv hc
 obtain ⟨g0,g1,_⟩:=two_cells HG.out
 obtain ⟨j0,j1,j2,j3,j4,_⟩:=jb_cells HJ.out
 obtain ⟨x0,x1,x2,x3,x4,x5,_⟩:=Sq.six HR.out
 obtain ⟨S,hS⟩:∃ S,S = stS k so dm V.toNat L p.toNat:=⟨_,rfl⟩
 have HC:Hid (Calls Tryz.prog 64 #[.agg #[.int .i64 V,.slice A n c],.agg #[.int .u8 k,.int .i64 st,.int .i64 so,.int .i64 dm,.int .i64 ep],.int .i64 p] W3 fun e w' => SRes W3 w' e p S 0):=jH (by
  refine (seqAt_any k st so dm ep V A n c L p W3 (HL.out.below HB.out) HN.out hm).mono fun _ _ h => sres_of h ?_ ?_
  ·unfold atR; rw [if_pos HCJ.out,if_pos ⟨hp0,hp1⟩,hS]
  ·rw [hS]; exact few_st HCJ.out _)
 rw [<- hS]
 clear hS
 go_enter Tryz.func42,Tryz.ntmps42
 go_upto_region 1 with fail
 rw [<- hW3,show w.heap.size = n0 from e0.symm]
 clear hW3 e0
 go_wp2_with fail
 refine HC.out.mono ?_
 rintro e v1 ⟨av,a1,ac,a2,ai,a3,an1,an2,an3,rfl,hs1,hf1,hb1⟩
 obtain ⟨X1,hX1⟩:∃ X,X = v1.alloc (.cells #[.int .i64 p,.slice av an1 a1,.slice ac an2 a2,.slice ai an3 a3,.int .i64 S.sum,.int .i64 S.most] 45):=⟨_,rfl⟩
 obtain ⟨bl1,eb1⟩:∃ b,b = v1.heap.size:=⟨_,rfl⟩
 have hb:Below W3.heap.size W3 X1:=by rw [hX1]; exact hb1.out.alloc hb1.out.size _
 have HS1:Hid (SAt X1 av ac ai an1 an2 an3 S):=jH (by rw [hX1]; exact hs1.out.below ((Below.refl _ v1).alloc (Nat.le_refl _) _))
 have HB1:Hid (X1.heap[bl1]? = some (.cells #[.int .i64 p,.slice av an1 a1,.slice ac an2 a2,.slice ai an3 a3,.int .i64 S.sum,.int .i64 S.most] 45 (0,0))):=jH (by rw [hX1,eb1]; exact heap_alloc_new v1 _)
 have HL1:=jH hf1.out
 have HR1:=jK HR hb
 have HBX:=jS HB hb
 clear hb hs1 hb1 hf1 g0 g1 j0 j1 j2 j3 j4 x0 x1 x2 x3 x4 x5 HC HG HJ HR
 go_upto_region 2 with fail
 rw [<- hX1,show v1.heap.size = bl1 from eb1.symm]
 clear hX1 eb1
 obtain ⟨x0,x1,x2,x3,x4,x5,_⟩:=Sq.six HR1.out
 obtain ⟨y0,y1,y2,y3,y4,y5,_⟩:=Sq.six HB1.out
 have HQ:=jH (Sq.equalQ_any Av av nv an1 cv a1 l S.vals X1 (HA.out.below HBX.out) HS1.out.v HNV.out HS1.out.nv (by omega) (by have:=HL1.out; omega))
 go_wp2_with fail
 refine HQ.out.mono ?_
 rintro e w5 ⟨rfl,hb5⟩
 go_wp2
 go_ret
 exact ⟨rfl,step_below HBX.out HBX.out.size hb5⟩
open Go.RowKit Gr Wd Ws Fx Rk Lb Al
open Pa (vl bt vl_of vl_at bt_of bt_at Fits fits_of fr far)
theorem eat_blk {w:World} {g:Nat} {L:List Ed} (h:w.heap[g]? = some (.cells (ecs L).toArray 33 (0,0))):EAt w (some ⟨g,0,none⟩) L:=by
 intro k e hx
 obtain ⟨a0,a1,a2⟩:=ecs_at L k e hx
 refine ⟨g,0,rfl,?_,?_,?_⟩
 ·rw [Nat.zero_add,cell_of_row w g _ _ 33 (0,0) h,List.getElem?_toArray]; exact a0
 ·rw [Nat.zero_add,cell_of_row w g _ _ 33 (0,0) h,List.getElem?_toArray]; exact a1
 ·rw [Nat.zero_add,cell_of_row w g _ _ 33 (0,0) h,List.getElem?_toArray]; exact a2
theorem iat_blk {w:World} {g:Nat} {t:TypeId} {l:List Int} (h:w.heap[g]? = some (.cells (ints l).toArray t (0,0))):IAt w (some ⟨g,0,none⟩) l:=by
 intro k x hx
 refine ⟨g,0,rfl,?_⟩
 rw [Nat.zero_add,cell_of_row w g _ _ t (0,0) h,List.getElem?_toArray,ints_at,hx]; rfl
def exL:List Ed:=[(0,1,4),(0,2,1),(2,1,2)]
theorem ex_chk:chk 4 exL = 0:=by decide
theorem ex_chkj:chkJ 3 9 0 0 0 4 exL = 0:=by decide
theorem ex_far0:far 4 0 exL = [0,3,1,4611686018427387904]:=by decide
theorem ex_d0:disL 4 exL 0 = [0,3,1,4611686018427387904]:=by decide
theorem ex_d1:disL 4 exL 1 = [4611686018427387904,0,4611686018427387904,4611686018427387904]:=by decide
theorem ex_e0:disE 4 exL 0 = 0:=by decide
theorem ex_e1:disE 4 exL 1 = 0:=by decide
theorem ex_e4:disE 4 exL 4 = 2:=by decide
theorem ex_lab:LabC 4 exL [0,0,0,3]:=by
 have c1:Con exL 1 0:=Con.bwd (e:=(0,1,4)) (by simp [exL]) .refl
 have c2:Con exL 2 0:=Con.bwd (e:=(0,2,1)) (by simp [exL]) .refl
 have h3:∀ u,Con exL 3 u->u = 3:=by
  intro u hu
  induction hu with
  | refl => rfl
  | @fwd e he _ ih =>
   simp only [exL,List.mem_cons,List.not_mem_nil,or_false] at he
   rcases he with rfl | rfl | rfl <;> simp [fr] at ih
  | @bwd e he _ ih =>
   simp only [exL,List.mem_cons,List.not_mem_nil,or_false] at he
   rcases he with rfl | rfl | rfl <;> simp [Pa.to] at ih
 refine ⟨rfl,fun v hv => ?_,fun v hv u hu => ?_⟩
 ·rcases (show v = 0\/v = 1\/v = 2\/v = 3 by omega) with rfl | rfl | rfl | rfl
  ·exact ⟨0,by omega,.refl,rfl⟩
  ·exact ⟨0,by omega,c1,rfl⟩
  ·exact ⟨0,by omega,c2,rfl⟩
  ·exact ⟨3,by omega,.refl,rfl⟩
 ·rcases (show v = 0\/v = 1\/v = 2\/v = 3 by omega) with rfl | rfl | rfl | rfl
  ·show (0:Int) <= u; omega
  ·show (0:Int) <= u; omega
  ·show (0:Int) <= u; omega
  ·show (3:Int) <= u; rw [h3 u hu]; omega
theorem same_lit (A:Option Addr) (c:Nat) (l:List Int) (n:Nat) (w W:World) (g:Nat) (hA:IAt w A l) (hn:l.length = n) (hm:n <= 1000) (hb:Below w.heap.size w W) (hg:W.heap[g]? = some (.cells (ints l).toArray 2 (0,0))) :
 Calls Tryz.prog 11 #[.slice A n c,.slice (some ⟨g,0,none⟩) n n] W fun e w' => e = .returned (.bool true)/\Below W.heap.size W w':=by
 have h:=Sq.kitq_any A (some ⟨g,0,none⟩) n n c n l l W (hA.below hb) (iat_blk hg) hn hn (by omega) (by omega)
 simpa using h
set_option maxRecDepth 100000 in
set_option maxHeartbeats 4000000 in
theorem wrk_any (w:World):Calls Tryz.prog 8 #[] w fun e w' => e = .returned (.bool true)/\Hid (Below w.heap.size w w'):=by
 have mixed:=mixedP
 obtain ⟨n0,e0⟩:∃ n0,n0 = w.heap.size:=⟨_,rfl⟩
 obtain ⟨W1,hW1⟩:∃ W1,W1 = w.alloc (.cells #[.int .i64 0,.int .i64 1,.int .i64 4,.int .i64 0,.int .i64 2,.int .i64 1,.int .i64 2,.int .i64 1,.int .i64 2] 33):=⟨_,rfl⟩
 obtain ⟨W2,hW2⟩:∃ W2,W2 = W1.alloc (.cells #[.int .i64 4,.slice (some ⟨n0,0,none⟩) 3 3] 24):=⟨_,rfl⟩
 have hs1:W1.heap.size = n0 + 1:=by rw [hW1,e0]; simp
 have hb1:Below w.heap.size w W1:=by rw [hW1]; exact (Below.refl _ w).alloc (Nat.le_refl _) _
 have hb2:Below W1.heap.size W1 W2:=by rw [hW2]; exact (Below.refl _ W1).alloc (Nat.le_refl _) _
 have hx1:W1.heap[n0]? = some (.cells (ecs exL).toArray 33 (0,0)):=by rw [hW1,e0]; exact heap_alloc_new w _
 have HA:Hid (EAt W2 (some ⟨n0,0,none⟩) exL):=jH (eat_blk (keepB hx1 hb2))
 have HX:Hid (W2.heap[n0 + 1]? = some (.cells #[.int .i64 4,.slice (some ⟨n0,0,none⟩) 3 3] 24 (0,0))):=jH (by rw [hW2,<- hs1]; exact heap_alloc_new W1 _)
 have HB2:=jH (step_below hb1 hb1.size hb2)
 have HW1:=jH hW1; have HW2:=jH hW2; have HE0:=jH e0
 clear hW1 hW2 hs1 hb1 hb2 hx1 e0
 go_enter Tryz.func8,Tryz.ntmps8
 go_upto_region 2 with fail
 rw [<- HE0.out,<- HW1.out,<- HW2.out]
 clear HE0 HW1 HW2
 obtain ⟨g0,g1,_⟩:=two_cells HX.out
 have HC:=jH (Labels_any 4 (some ⟨n0,0,none⟩) 3 3 exL W2 HA.out rfl (by omega))
 rw [ex_chk] at HC
 go_wp2_with fail
 refine HC.out.mono ?_
 rintro e w3 ⟨l,⟨v,rfl,h3⟩,hl⟩
 obtain rfl:l = [0,0,0,3]:=(show LabC 4 exL l from hl.out.1 ex_chk).one ex_lab
 obtain ⟨A3,c3,rfl,hA3⟩:=h3.out.1.form
 have HA3:=jH hA3
 have HB3:=jH h3.out.2
 clear h3 hl hA3 HC g0 g1
 obtain ⟨g0,g1,_⟩:=two_cells (keepB HX.out HB3.out)
 have HC:=jH (Distances_any 4 0 (some ⟨n0,0,none⟩) 3 3 exL w3 (HA.out.below HB3.out) rfl (by omega) (fun _ => by omega))
 rw [ex_e0,ex_d0] at HC
 go_wp2_with fail
 refine HC.out.mono ?_
 rintro e w4 ⟨v,rfl,h4⟩
 obtain ⟨A4,c4,rfl,hA4⟩:=h4.out.1.form
 have HA4:=jH hA4
 have HB34:=jH h4.out.2
 have HB4:=jH (step_below HB3.out HB3.out.size h4.out.2)
 clear h4 hA4 HC g0 g1
 obtain ⟨g0,g1,_⟩:=two_cells (keepB HX.out HB4.out)
 have HC:=jH (Distances_any 4 1 (some ⟨n0,0,none⟩) 3 3 exL w4 (HA.out.below HB4.out) rfl (by omega) (fun _ => by omega))
 rw [ex_e1,ex_d1] at HC
 go_wp2_with fail
 refine HC.out.mono ?_
 rintro e w5 ⟨v,rfl,h5⟩
 obtain ⟨A5,c5,rfl,hA5⟩:=h5.out.1.form
 have HA5:=jH hA5
 have HB45:=jH h5.out.2
 have HB5:=jH (step_below HB4.out HB4.out.size h5.out.2)
 clear h5 hA5 HC g0 g1
 obtain ⟨g0,g1,_⟩:=two_cells (keepB HX.out HB5.out)
 have HC:=jH (Distances_any 4 4 (some ⟨n0,0,none⟩) 3 3 exL w5 (HA.out.below HB5.out) rfl (by omega) (fun _ => by omega))
 rw [ex_e4] at HC
 go_wp2_with fail
 refine HC.out.mono ?_
 rintro e w6 ⟨v,rfl,h6⟩
 obtain ⟨A6,c6,rfl,_⟩:=h6.out.1.form
 have HB56:=jH h6.out.2
 have HB6:=jH (step_below HB5.out HB5.out.size h6.out.2)
 clear h6 HC g0 g1
 obtain ⟨n6,hn6⟩:∃ n6,n6 = (disL 4 exL 4).length:=⟨_,rfl⟩
 rw [<- hn6]
 clear hn6
 -- the first literal
 obtain ⟨W7,hW7⟩:∃ W7,W7 = w6.alloc (.cells #[.int .i64 0,.int .i64 0,.int .i64 0,.int .i64 3] 2):=⟨_,rfl⟩
 have hb7:Below w6.heap.size w6 W7:=by rw [hW7]; exact (Below.refl _ w6).alloc (Nat.le_refl _) _
 have HC:=jH (same_lit A3 c3 [0,0,0,3] 4 w3 W7 w6.heap.size HA3.out rfl (by omega) (step_below (step_below (step_below HB34.out HB34.out.size HB45.out) (Nat.le_trans HB34.out.size HB45.out.size) HB56.out) (Nat.le_trans (Nat.le_trans HB34.out.size HB45.out.size) HB56.out.size) hb7) (by rw [hW7]; exact heap_alloc_new w6 _))
 have HB7:=jH hb7; have HW7:=jH hW7
 clear hb7 hW7
 go_wp2_with fail
 rw [<- HW7.out]
 refine HC.out.mono ?_
 rintro e w8 ⟨rfl,hb8⟩
 have HB68:=jS HB7 hb8
 clear hb8 HB7 HW7 HC
 obtain ⟨W9,hW9⟩:∃ W9,W9 = w8.alloc (.cells #[.int .i64 0,.int .i64 3,.int .i64 1,.int .i64 4611686018427387904] 2):=⟨_,rfl⟩
 have hb9:Below w8.heap.size w8 W9:=by rw [hW9]; exact (Below.refl _ w8).alloc (Nat.le_refl _) _
 have HB69:=jS HB68 hb9
 have HB49:=jH (step_below (step_below HB45.out HB45.out.size HB56.out) (Nat.le_trans HB45.out.size HB56.out.size) HB69.out)
 have HC:=jH (same_lit A4 c4 [0,3,1,4611686018427387904] 4 w4 W9 w8.heap.size HA4.out rfl (by omega) HB49.out (by rw [hW9]; exact heap_alloc_new w8 _))
 have HW9:=jH hW9
 clear hb9 hW9 HB68
 go_wp2_with fail
 rw [<- HW9.out]
 refine HC.out.mono ?_
 rintro e wA ⟨rfl,hbA⟩
 have HB6A:=jS HB69 hbA
 clear hbA HW9 HC HB69 HB49
 obtain ⟨WB,hWB⟩:∃ WB,WB = wA.alloc (.cells #[.int .i64 4611686018427387904,.int .i64 0,.int .i64 4611686018427387904,.int .i64 4611686018427387904] 2):=⟨_,rfl⟩
 have hbB:Below wA.heap.size wA WB:=by rw [hWB]; exact (Below.refl _ wA).alloc (Nat.le_refl _) _
 have HB6B:=jS HB6A hbB
 have HB5B:=jS HB56 HB6B.out
 have HC:=jH (same_lit A5 c5 [4611686018427387904,0,4611686018427387904,4611686018427387904] 4 w5 WB wA.heap.size HA5.out rfl (by omega) HB5B.out (by rw [hWB]; exact heap_alloc_new wA _))
 have HWB:=jH hWB
 clear hbB hWB HB6A
 go_wp2_with fail
 rw [<- HWB.out]
 refine HC.out.mono ?_
 rintro e wC ⟨rfl,hbC⟩
 have HB6C:=jS HB6B hbC
 have HB4C:=jH (step_below (step_below HB45.out HB45.out.size HB56.out) (Nat.le_trans HB45.out.size HB56.out.size) HB6C.out)
 have HB2C:=jS HB6 HB6C.out
 clear hbC HWB HC HB6B HB5B
 obtain ⟨g0,g1,_⟩:=two_cells (keepB HX.out HB2C.out)
 have HC:=jH (Means_yes 3 9 0 0 0 4 3 0 0 (some ⟨n0,0,none⟩) A4 none none 3 3 4 c4 0 0 0 0 exL [0,3,1,4611686018427387904] wC (HA.out.below HB2C.out) rfl (by omega) (by omega) ex_chkj (by omega) (by omega) (by omega) (HA4.out.below HB4C.out) rfl (by omega) (Or.inr ⟨rfl,ex_far0.symm⟩))
 go_wp2_with fail
 refine HC.out.mono ?_
 rintro e wD ⟨rfl,hbD⟩
 have HBD:=jS HB2C hbD
 clear hbD HC
 go_wp2
 go_ret
 exact ⟨rfl,jS HB2 HBD.out⟩
open Go.RowKit Gr Wd Ws Fx Rk Lb Al
open Pa (vl bt vl_of vl_at bt_of bt_at Fits fits_of fr far)
set_option maxRecDepth 100000 in
set_option maxHeartbeats 1000000 in
theorem lgt_any (V:Int) (A:Option Addr) (n c:Nat) (L:List Ed) (w:World) (hL:EAt w A L) (hn:L.length = n) (hm:n <= 9223372036854775807) :
 ∃ r:Bool,Calls Tryz.prog 7 #[.agg #[.int .i64 V,.slice A n c]] w (fun e w' => e = .returned (.bool r)/\Hid (Below w.heap.size w w'))/\(r = true->n <= 100/\(chk V L = 0->V <= 16)):=by
 have mixed:=mixedP
 have HL:=jH hL; have HN:=jH hn
 clear hL hn
 obtain ⟨W1,hW1⟩:∃ W1,W1 = w.alloc (.cells #[.int .i64 V,.slice A n c] 24):=⟨_,rfl⟩
 obtain ⟨b,hb⟩:∃ b,b = w.heap.size:=⟨_,rfl⟩
 have HB1:Hid (Below w.heap.size w W1):=jH (by rw [hW1]; exact (Below.refl _ w).alloc (Nat.le_refl _) _)
 have HX1:Hid (W1.heap[b]? = some (.cells #[.int .i64 V,.slice A n c] 24 (0,0))):=jH (by rw [hW1,hb]; exact heap_alloc_new w _)
 obtain ⟨g0,g1,_⟩:=two_cells HX1.out
 have HK:=jH (light_any V A n c 100 W1)
 obtain ⟨E,hE⟩:∃ E,chk V L = E:=⟨_,rfl⟩
 have HW1:=jH hW1; have HBb:=jH hb
 clear hW1 hb
 by_cases hn1:n <= 100
 ·have e1:decide (n <= 100) = true:=decide_eq_true hn1
  rw [e1] at HK
  clear e1
  by_cases hV:V <= 16
  ·refine ⟨true,?_,fun _ => ⟨hn1,fun _ => hV⟩⟩
   go_enter Tryz.func7,Tryz.ntmps7
   go_upto_region 1 with fail
   rw [<- HW1.out,<- HBb.out]
   go_wp2_with fail
   refine HK.out.mono ?_
   rintro e w2 ⟨rfl,hg2⟩
   have HB2:=jH (step_below HB1.out HB1.out.size hg2.below)
   have HX2:=jH (keepB HX1.out hg2.below)
   clear hg2 g0 g1 HX1 HK
   obtain ⟨g0,g1,_⟩:=two_cells HX2.out
   go_wp2
   go_ret
   exact ⟨rfl,HB2⟩
  ·by_cases hE0:E = 0
   ·refine ⟨false,?_,fun h => by cases h⟩
    subst hE0
    go_enter Tryz.func7,Tryz.ntmps7
    go_upto_region 1 with fail
    rw [<- HW1.out,<- HBb.out]
    go_wp2_with fail
    refine HK.out.mono ?_
    rintro e w2 ⟨rfl,hg2⟩
    have HB2:=jH (step_below HB1.out HB1.out.size hg2.below)
    have HX2:=jH (keepB HX1.out hg2.below)
    clear hg2 g0 g1 HX1 HK
    obtain ⟨g0,g1,_⟩:=two_cells HX2.out
    have HC:=jH (rcheck_any V A c L w2 (HL.out.below HB2.out) (by rw [HN.out]; omega))
    rw [HN.out,hE] at HC
    clear hE
    go_wp2_with fail
    refine HC.out.mono ?_
    rintro e w3 ⟨rfl,hb3⟩
    have HB3:=jS HB2 hb3
    clear hb3
    go_wp2
    go_ret
    exact ⟨by simp [hV],HB3⟩
   ·refine ⟨true,?_,fun _ => ⟨hn1,fun h0 => absurd (hE.symm.trans h0) hE0⟩⟩
    go_enter Tryz.func7,Tryz.ntmps7
    go_upto_region 1 with fail
    rw [<- HW1.out,<- HBb.out]
    go_wp2_with fail
    refine HK.out.mono ?_
    rintro e w2 ⟨rfl,hg2⟩
    have HB2:=jH (step_below HB1.out HB1.out.size hg2.below)
    have HX2:=jH (keepB HX1.out hg2.below)
    clear hg2 g0 g1 HX1 HK
    obtain ⟨g0,g1,_⟩:=two_cells HX2.out
    have HC:=jH (rcheck_any V A c L w2 (HL.out.below HB2.out) (by rw [HN.out]; omega))
    rw [HN.out,hE] at HC
    clear hE
    go_wp2_with fail
    refine HC.out.mono ?_
    rintro e w3 ⟨rfl,hb3⟩
    have HB3:=jS HB2 hb3
    clear hb3
    go_wp2
    go_ret
    exact ⟨by simp [hE0],HB3⟩
 ·have e1:decide (n <= 100) = false:=decide_eq_false hn1
  rw [e1] at HK
  clear e1
  refine ⟨false,?_,fun h => by cases h⟩
  go_enter Tryz.func7,Tryz.ntmps7
  go_upto_region 1 with fail
  rw [<- HW1.out,<- HBb.out]
  go_wp2_with fail
  refine HK.out.mono ?_
  rintro e w2 ⟨rfl,hg2⟩
  have HB2:=jH (step_below HB1.out HB1.out.size hg2.below)
  clear hg2
  go_wp2
  go_ret
  exact ⟨rfl,HB2⟩
theorem mrk_yes {l:List Int}:∀ (g k m:Nat),(∀ j,k <= j->j < k + g->labOk l j = true)->(mrkF l g k m).2 = true
 | 0,k,m,_ => rfl
 | g + 1,k,m,h => by
  rw [mrkF,if_pos (h k (Nat.le_refl _) (by omega))]
  exact mrk_yes g (k + 1) _ fun j h1 h2 => h j (by omega) (by omega)
theorem LabC.root {V:Nat} {L:List Ed} {l:List Int} (h:LabC V L l) {v:Nat} (hv:v < V):∃ u:Nat,vl l v = (u:Int)/\u <= v/\u < V/\vl l u = (u:Int):=by
 obtain ⟨u,hu,hc,e⟩:=h.is_ v hv
 have h1:=h.le v hv v .refl
 refine ⟨u,e,by omega,hu,?_⟩
 obtain ⟨t,_,hc2,e2⟩:=h.is_ u hu
 have h2:=h.le v hv t (hc.trans hc2)
 have h3:=h.le u hu u .refl
 omega
theorem LabC.marks {V:Nat} {L:List Ed} {l:List Int} (h:LabC V L l):(mrk l).2 = true:=by
 unfold mrk
 refine mrk_yes _ 0 0 fun j _ hj => ?_
 rw [Nat.zero_add,h.len] at hj
 obtain ⟨u,e,h1,h2,h3⟩:=h.root hj
 have hju:l[j]? = some (u:Int):=by rw [vl_at (by rw [h.len]; exact hj),e]
 have huu:l[u]? = some (u:Int):=by rw [vl_at (by rw [h.len]; exact h2),h3]
 unfold labOk
 rw [hju]
 simp [h1,huu]
theorem LabC.edge {V:Nat} {L:List Ed} {l:List Int} (h:LabC V L l) (hF:Fits V L) {e:Ed} (he:e ∈ L):vl l (fr e) = vl l (Pa.to e):=by
 obtain ⟨hf,ht⟩:=hF e he
 obtain ⟨u,_,hc,e1⟩:=h.is_ _ hf
 obtain ⟨t,_,hc2,e2⟩:=h.is_ _ ht
 have h1:=h.le _ hf t ((Con.fwd he .refl).trans hc2)
 have h2:=h.le _ ht u ((Con.bwd he .refl).trans hc)
 omega
set_option maxRecDepth 100000 in
set_option maxHeartbeats 4000000 in
theorem lw_labels (V:Int) (A:Option Addr) (n c:Nat) (L:List Ed) (w:World) (hL:EAt w A L) (hn:L.length = n) (hm:n <= 9223372036854775807) :
 Calls Tryz.prog 3 #[.agg #[.int .i64 V,.slice A n c]] w fun e w' => e = .returned (.bool true)/\Below w.heap.size w w':=by
 have mixed:=mixedP
 have HL:=jH hL; have HN:=jH hn
 clear hL hn
 obtain ⟨W1,hW1⟩:∃ W1,W1 = w.alloc (.cells #[.int .i64 V,.slice A n c] 24):=⟨_,rfl⟩
 obtain ⟨b,hb⟩:∃ b,b = w.heap.size:=⟨_,rfl⟩
 have HB1:Hid (Below w.heap.size w W1):=jH (by rw [hW1]; exact (Below.refl _ w).alloc (Nat.le_refl _) _)
 have HX1:Hid (W1.heap[b]? = some (.cells #[.int .i64 V,.slice A n c] 24 (0,0))):=jH (by rw [hW1,hb]; exact heap_alloc_new w _)
 obtain ⟨g0,g1,_⟩:=two_cells HX1.out
 obtain ⟨r,hr,hrt⟩:=lgt_any V A n c L W1 (HL.out.below HB1.out) HN.out hm
 have HLG:=jH hr
 have HRT:=jH hrt
 clear hr hrt
 go_enter Tryz.func3,Tryz.ntmps3
 go_upto_region 1 with fail
 rw [<- hW1,show w.heap.size = b from hb.symm]
 have HBb:=jH hb
 clear hW1 hb
 go_wp2_with fail
 refine HLG.out.mono ?_
 rintro e w2 ⟨rfl,hb2⟩
 have HB2:=jS HB1 hb2.out
 have HX2:=jK HX1 hb2.out
 clear hb2 g0 g1 HLG HB1 HX1
 cases r with
 | false =>
  go_wp2_with fail
  refine (wrk_any _).mono ?_
  rintro e w3 ⟨rfl,hb3⟩
  go_wp2
  go_ret
  exact ⟨rfl,step_below HB2.out HB2.out.size hb3.out⟩
 | true =>
  obtain ⟨hn1,_⟩:=HRT.out rfl
  obtain ⟨g0,g1,_⟩:=two_cells HX2.out
  obtain ⟨E,hE⟩:∃ E,chk V L = E:=⟨_,rfl⟩
  have HC:=jH (Labels_any V A n c L w2 (HL.out.below HB2.out) HN.out (by omega))
  rw [hE] at HC
  go_wp2_with fail
  refine HC.out.mono ?_
  rintro e w3 ⟨l,⟨v,rfl,h3⟩,hl⟩
  obtain ⟨A3,c3,rfl,hA3⟩:=h3.out.1.form
  have HA3:=jH hA3
  have HB23:=jH h3.out.2
  have HB3:=jH (step_below HB2.out HB2.out.size h3.out.2)
  have HX3:=jH (keepB HX2.out h3.out.2)
  clear h3 hA3 HC g0 g1
  obtain ⟨g0,g1,_⟩:=two_cells HX3.out
  have HC:=jH (rLabels_any V A n c L w3 (HL.out.below HB3.out) HN.out (by omega))
  rw [hE] at HC
  go_wp2_with fail
  refine HC.out.mono ?_
  rintro e w4 ⟨l2,⟨v,rfl,h4⟩,hl2⟩
  obtain rfl:l = l2:=hl.out.one hl2.out
  obtain ⟨A4,c4,rfl,hA4⟩:=h4.out.1.form
  have HB34:=jH h4.out.2
  have HB4:=jH (step_below HB3.out HB3.out.size h4.out.2)
  have HX4:=jH (keepB HX3.out h4.out.2)
  have HA34:=jH (HA3.out.below h4.out.2)
  obtain ⟨m,hm2⟩:∃ m,m = l.length:=⟨_,rfl⟩
  have hmm:m <= 512:=by
   by_cases h0:E = 0
   ·have h:=(hl.out.1 (hE.trans h0)).len
    obtain ⟨Vn,rfl,_,_⟩:=chk_v (hE.trans h0)
    rw [hm2,h]; simp; omega
   ·rw [hm2,hl.out.2 (fun h => h0 (hE.symm.trans h))]; simp
  have HC:=jH (Sq.kitq_any A3 A4 m m c3 c4 l l w4 HA34.out hA4 hm2.symm hm2.symm (by omega) (by omega))
  rw [decide_eq_true (rfl:l = l)] at HC
  rw [<- hm2]
  have HM:=jH hm2; have HLR:=jH hl
  have HE:=jH hE
  clear h4 hA4 g0 g1 hm2 hl hl2 hE
  go_wp2_with fail
  refine HC.out.mono ?_
  rintro e w5 ⟨rfl,hb5⟩
  have HB5:=jS HB4 hb5
  have HX5:=jK HX4 hb5
  have HA5:=jH (HA34.out.below hb5)
  clear hb5 HC
  obtain ⟨g0,g1,_⟩:=two_cells HX5.out
  by_cases hE0:E = 0
  ·subst hE0
   obtain ⟨Vn,rfl,hV0,hV⟩:=chk_v HE.out
   have HLC:Hid (LabC Vn L l):=jH (by have h:=HLR.out.out.1 HE.out; rwa [show (Vn:Int).toNat = Vn by simp] at h)
   go_wp2_with fail
   clear g0 g1
   go_loopg [7] n (fun gk iv wr => ∃ k:Nat,iv = .int .i64 (k:Int)/\k + gk = n/\Hid (Below w5.heap.size w5 wr))
   case atStart => exact ⟨0,rfl,by omega,jH (Below.refl _ _)⟩
   case round =>
    obtain ⟨k,rfl,hk,HBR⟩:=hrel
    obtain ⟨g0,g1,_⟩:=two_cells (keepB HX5.out HBR.out)
    by_cases hlt:k < n
    ·obtain ⟨f,t,z,he,hf,ht⟩:=edge_at HE.out (show k < L.length by rw [HN.out]; exact hlt)
     obtain ⟨bk,o,rfl,c0,c1,_⟩:=(HL.out.below (step_below HB5.out HB5.out.size HBR.out)) k _ he
     have hfm:f < m:=by rw [HM.out,HLC.out.len]; exact hf
     have htm:t < m:=by rw [HM.out,HLC.out.len]; exact ht
     obtain ⟨X,hX⟩:∃ X,vl l f = X:=⟨_,rfl⟩
     have hX2:vl l t = X:=by
      have h:=HLC.out.edge (fits_of HE.out) (List.mem_of_getElem? he)
      have e1:fr ((f:Int),(t:Int),z) = f:=by unfold fr; simp
      have e2:Pa.to ((f:Int),(t:Int),z) = t:=by unfold Pa.to; simp
      rw [e1,e2] at h; omega
     obtain ⟨b1,o1,hb1,u0⟩:=(HA5.out.below HBR.out) f X (by rw [vl_at (by rw [<- HM.out]; exact hfm),hX])
     obtain ⟨b2,o2,hb2,u1⟩:=(HA5.out.below HBR.out) t X (by rw [vl_at (by rw [<- HM.out]; exact htm),hX2])
     subst hb1
     cases hb2
     clear he hX hX2
     go_wp2_with fail
     go_quiet (fail)
     go_wp2
     go_roundg (gk - 1)
     case measure => omega
     case rel => exact ⟨k + 1,by go_num,by omega,jH (Ws.below_drewN HBR.out _)⟩
    ·have HC:=jH (Mk.marks_any A3 c3 l wr (HA5.out.below HBR.out) (by rw [<- HM.out]; omega))
     rw [HLC.out.marks,<- HM.out] at HC
     go_wp2_with fail
     refine HC.out.mono ?_
     rintro e w7 ⟨rfl,rfl⟩
     go_wp2_with fail
     refine (wrk_any _).mono ?_
     rintro e w8 ⟨rfl,hb8⟩
     go_wp2
     go_ret
     exact ⟨rfl,step_below HB5.out HB5.out.size (step_below HBR.out HBR.out.size hb8.out)⟩
  ·go_wp2_with fail
   refine (wrk_any _).mono ?_
   rintro e w7 ⟨rfl,hb7⟩
   go_wp2
   go_ret
   exact ⟨rfl,step_below HB5.out HB5.out.size hb7.out⟩
end Go.Proofs.YtdcaekmgfcpbmaaGreat.Mn
