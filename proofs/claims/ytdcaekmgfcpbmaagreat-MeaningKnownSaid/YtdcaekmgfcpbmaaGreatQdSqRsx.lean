/-
  What is proved here: what a call of the document's of a state gives can be read, of few vertices; some superstep is the first that is done. Conditions: none. What is proved here: a contract of a step on, as the document has it. Conditions: at most 512 vertices, at most 1000 edges; numbers that fit an int. What is proved here: a contract of the document's own Start. Conditions: at most 1000 edges; numbers that fit an int.
-/
import Derived.Test.YtdcaekmgfcpbmaaGreatQdSqRunx
import Derived.Test.YtdcaekmgfcpbmaaGreatQdSqErx
import Derived.Test.YtdcaekmgfcpbmaaGreatQdSqRt
import Derived.Test.YtdcaekmgfcpbmaaGreatQdSqS0x
import Derived.Test.YtdcaekmgfcpbmaaGreatQdAlQ3x
import Derived.Test.YtdcaekmgfcpbmaaGreatQdAlQ4
namespace Go.Proofs.YtdcaekmgfcpbmaaGreat.Mn
open Go.RowKit Go.Shelf Gr Wd Ws Fx Rk Lb Al In Sq
open Pa (vl bt vl_of vl_at bt_of bt_at)
def SRes (w w':World) (e:Ending) (p:Int) (S:Sq) (E:Int):Prop:=∃ Av cv Ac cc Ai ci,∃ nv nc ni:Nat,e = .returned (.tuple #[.agg #[.int .i64 p,.slice Av nv cv,.slice Ac nc cc,.slice Ai ni ci,.int .i64 S.sum,.int .i64 S.most],.int .i64 E])/\Hid (SAt w' Av Ac Ai nv nc ni S)/\Hid (nv <= 512/\nc <= 512/\ni <= 512)/\Hid (Below w.heap.size w w')
def Few (S:Sq):Prop:=S.vals.length <= 512/\S.chg.length <= 512/\S.inb.length <= 512
theorem sres_of {w w':World} {e:Ending} {r:Int × Sq × Int} {p E:Int} {S:Sq} (h:Res w w' e r) (hr:r = (p,S,E)) (hf:Few S):SRes w w' e p S E:=by
 obtain ⟨x,rfl,hx,hb⟩:=h
 subst hr
 obtain ⟨Av,cv,Ac,cc,Ai,ci,rfl,h1,_,_,_⟩:=hx.out.at
 exact ⟨Av,cv,Ac,cc,Ai,ci,_,_,_,rfl,jH h1,jH hf,hb⟩
theorem few_z:Few zS:=⟨by decide,by decide,by decide⟩
theorem few_st {k st so dm ep V:Int} {L:List Ed} (h:chkJ k st so dm ep V L = 0) (n:Nat):Few (stS k so dm V.toNat L n):=by
 obtain ⟨hz,hst0,hst1,hk,hd0,hd1⟩:=chkJ_zero h
 obtain ⟨Vn,rfl,hV1,hV2,hfit⟩:=chk_facts hz
 have hg:GoS k Vn L (stS k so dm Vn L n):=go_all hz (fun _ => ⟨hd0,hd1⟩) n
 have hm:=hg.may
 exact ⟨by rw [show ((Vn:Int)).toNat = Vn from rfl,hm.1]; exact hV2,by rw [show ((Vn:Int)).toNat = Vn from rfl,hm.2.1]; exact hV2,by rw [show ((Vn:Int)).toNat = Vn from rfl,hm.2.2.1]; exact hV2⟩
theorem few_run (k st so dm ep V:Int) (L:List Ed) (N:Nat):Few (runR k st so dm ep V L N).2.1:=by
 unfold runR
 split
 ·rename_i h; exact few_st h _
 ·exact few_z
theorem run_at (k st so dm ep V:Int) (L:List Ed):∃ N:Nat,chkJ k st so dm ep V L = 0->donB k st ep (N:Int) (stS k so dm V.toNat L N).most = true/\N <= 2000/\∀ i:Nat,i < N->donB k st ep (i:Int) (stS k so dm V.toNat L i).most = false:=by
 by_cases h:chkJ k st so dm ep V L = 0
 ·obtain ⟨hz,hst0,hst1,hk,hd0,hd1⟩:=chkJ_zero h
  obtain ⟨N,h1,h2,h3⟩:=first_done (ep:=ep) hk hst0 (fun i => (stS k so dm V.toNat L i).most)
  exact ⟨N,fun _ => ⟨h2,by omega,h3⟩⟩
 ·exact ⟨0,fun e => absurd e h⟩
end Go.Proofs.YtdcaekmgfcpbmaaGreat.Mn
namespace Go.Proofs.YtdcaekmgfcpbmaaGreat.Sq
open Go.RowKit Go.Shelf Gr Wd Ws Fx Rk Lb Al In
open Pa (vl bt vl_of vl_at bt_of bt_at)
set_option maxRecDepth 100000 in
set_option maxHeartbeats 1000000 in
theorem rnext_any (k st so dm ep step:Int) (V:Nat) (A:Option Addr) (n c:Nat) (L:List Ed) (Av Ac Ai:Option Addr) (cv cc ci nc:Nat) (s:Sq) (w:World)
 (hL:EAt w A L) (hn:L.length = n) (hv:IAt w Av s.vals) (hi:KAt w Ai s.inb) (hvl:s.vals.length = V) (hil:s.inb.length = V) (hvr:∀ x ∈ s.vals,I63 x) (hir:∀ m ∈ s.inb,I63 m.2) (hsr:I63 s.sum) (hnr:∀ x ∈ nxtV k dm V s,I63 x)
 (hd:I63 dm) (hst:0 <= step/\step <= 2000) (hV:V <= 512) (hm:L.length <= 1000) :
 Calls Tryz.prog 87 #[.agg #[.int .i64 (V:Int),.slice A n c],.agg #[.int .u8 k,.int .i64 st,.int .i64 so,.int .i64 dm,.int .i64 ep],.agg #[.int .i64 step,.slice Av V cv,.slice Ac nc cc,.slice Ai V ci,.int .i64 s.sum,.int .i64 s.most]] w fun e w' => ∃ x,e = .returned x/\Hid (SOwn w' w.heap.size x (step + 1) (nxtS k dm V L s))/\Hid (Below w.heap.size w w'):=by
 have mixed:=mixedI
 have HL:=jH hL; have HN:=jH hn; have HVA:=jH hv; have HIA:=jH hi; have HVL:=jH hvl; have HIL:=jH hil; have HVR:=jH hvr; have HIR:=jH hir; have HSR:=jH hsr; have HNR:=jH hnr; have HDR:=jH hd
 clear hL hn hv hi hvl hil hvr hir hsr hnr hd
 obtain ⟨sm,hsm⟩:∃ sm,sm = s.sum:=⟨_,rfl⟩
 obtain ⟨mo,hmo⟩:∃ mo,mo = s.most:=⟨_,rfl⟩
 rw [<- hsm,<- hmo]
 have HSM:=jH hsm; have HMO:=jH hmo
 clear hsm hmo
 obtain ⟨W5,hW5⟩:∃ W5,W5 = ((((w.alloc (.cells #[.int .i64 (V:Int),.slice A n c] 24)).alloc (.cells #[.int .u8 k,.int .i64 st,.int .i64 so,.int .i64 dm,.int .i64 ep] 40)).alloc (.cells #[.int .i64 step,.slice Av V cv,.slice Ac nc cc,.slice Ai V ci,.int .i64 sm,.int .i64 mo] 45)).alloc (.cells #[.int .i64 0,.slice none 0 0,.slice none 0 0,.slice none 0 0,.int .i64 0,.int .i64 0] 45)).alloc (.cells #[.int .i64 (step + 1),.slice none 0 0,.slice none 0 0,.slice none 0 0,.int .i64 0,.int .i64 0] 45):=⟨_,rfl⟩
 have hal:=al5 w (.cells #[.int .i64 (V:Int),.slice A n c] 24) (.cells #[.int .u8 k,.int .i64 st,.int .i64 so,.int .i64 dm,.int .i64 ep] 40) (.cells #[.int .i64 step,.slice Av V cv,.slice Ac nc cc,.slice Ai V ci,.int .i64 sm,.int .i64 mo] 45) (.cells #[.int .i64 0,.slice none 0 0,.slice none 0 0,.slice none 0 0,.int .i64 0,.int .i64 0] 45) (.cells #[.int .i64 (step + 1),.slice none 0 0,.slice none 0 0,.slice none 0 0,.int .i64 0,.int .i64 0] 45)
 rw [<- hW5] at hal
 obtain ⟨n0,e0⟩:∃ n0,n0 = w.heap.size:=⟨_,rfl⟩
 obtain ⟨fx,hfx⟩:∃ fx:Fxd,fx = [(n0,#[.int .i64 (V:Int),.slice A n c],24),(n0 + 1,#[.int .u8 k,.int .i64 st,.int .i64 so,.int .i64 dm,.int .i64 ep],40),(n0 + 1 + 1,#[.int .i64 step,.slice Av V cv,.slice Ac nc cc,.slice Ai V ci,.int .i64 sm,.int .i64 mo],45),(n0 + 1 + 1 + 1,#[.int .i64 0,.slice none 0 0,.slice none 0 0,.slice none 0 0,.int .i64 0,.int .i64 0],45)]:=⟨_,rfl⟩
 have HH:Hid (NxH w W5 (n0 + 1 + 1 + 1 + 1) w.heap.size fx (.int .i64 (step + 1)) (.slice none 0 0) (.int .i64 0) (.int .i64 0) [] [] (.slice none 0 0) (.slice none 0 0) (.slice none 0 0) (.slice none 0 0)):=jH (by
  refine ⟨hal.2.2.2.2.2,?_,by rw [e0]; exact hal.2.2.2.2.1,QOwn.none_ _ _,BOwn.none_ _ _,?_,by omega⟩
  ·rw [hfx]; intro p hp
   simp only [List.mem_cons,List.not_mem_nil,or_false] at hp
   rcases hp with rfl | rfl | rfl | rfl
   ·rw [e0]; exact hal.1
   ·rw [e0]; exact hal.2.1
   ·rw [e0]; exact hal.2.2.1
   ·rw [e0]; exact hal.2.2.2.1
  ·rw [hfx]; intro p hp
   simp only [List.mem_cons,List.not_mem_nil,or_false] at hp
   rcases hp with rfl | rfl | rfl | rfl <;> exact ⟨by simp only []; omega,by simp only []; decide,by simp only []; decide⟩)
 have HF0:Hid (∀ W l1 l2 va ua vb ub,NxH w W (n0 + 1 + 1 + 1 + 1) w.heap.size fx (.int .i64 (step + 1)) (.slice none 0 0) (.int .i64 0) (.int .i64 0) l1 l2 va ua vb ub->W.heap[n0]? = some (.cells #[.int .i64 (V:Int),.slice A n c] 24 (0,0))):=jH (fun W _ _ _ _ _ _ h => h.fixed (n0,#[.int .i64 (V:Int),.slice A n c],24) (by rw [hfx]; exact List.mem_cons_self))
 have HF1:Hid (∀ W l1 l2 va ua vb ub,NxH w W (n0 + 1 + 1 + 1 + 1) w.heap.size fx (.int .i64 (step + 1)) (.slice none 0 0) (.int .i64 0) (.int .i64 0) l1 l2 va ua vb ub->W.heap[n0 + 1]? = some (.cells #[.int .u8 k,.int .i64 st,.int .i64 so,.int .i64 dm,.int .i64 ep] 40 (0,0))):=jH (fun W _ _ _ _ _ _ h => h.fixed (n0 + 1,#[.int .u8 k,.int .i64 st,.int .i64 so,.int .i64 dm,.int .i64 ep],40) (by rw [hfx]; exact List.mem_cons_of_mem _ List.mem_cons_self))
 have HF2:Hid (∀ W l1 l2 va ua vb ub,NxH w W (n0 + 1 + 1 + 1 + 1) w.heap.size fx (.int .i64 (step + 1)) (.slice none 0 0) (.int .i64 0) (.int .i64 0) l1 l2 va ua vb ub->W.heap[n0 + 1 + 1]? = some (.cells #[.int .i64 step,.slice Av V cv,.slice Ac nc cc,.slice Ai V ci,.int .i64 sm,.int .i64 mo] 45 (0,0))):=jH (fun W _ _ _ _ _ _ h => h.fixed (n0 + 1 + 1,#[.int .i64 step,.slice Av V cv,.slice Ac nc cc,.slice Ai V ci,.int .i64 sm,.int .i64 mo],45) (by rw [hfx]; exact List.mem_cons_of_mem _ (List.mem_cons_of_mem _ List.mem_cons_self)))
 have HF3:Hid (∀ W l1 l2 va ua vb ub,NxH w W (n0 + 1 + 1 + 1 + 1) w.heap.size fx (.int .i64 (step + 1)) (.slice none 0 0) (.int .i64 0) (.int .i64 0) l1 l2 va ua vb ub->W.heap[n0 + 1 + 1 + 1]? = some (.cells #[.int .i64 0,.slice none 0 0,.slice none 0 0,.slice none 0 0,.int .i64 0,.int .i64 0] 45 (0,0))):=jH (fun W _ _ _ _ _ _ h => h.fixed (n0 + 1 + 1 + 1,#[.int .i64 0,.slice none 0 0,.slice none 0 0,.slice none 0 0,.int .i64 0,.int .i64 0],45) (by rw [hfx]; exact List.mem_cons_of_mem _ (List.mem_cons_of_mem _ (List.mem_cons_of_mem _ List.mem_cons_self))))
 have HN0:Hid (w.heap.size <= n0):=jH (by omega)
 clear hal hfx
 go_enter Tryz.func87,Tryz.ntmps87
 go_upto_region 2 with fail
 rw [<- hW5,show w.heap.size = n0 from e0.symm]
 clear hW5 e0
 go_wp2_with fail
 go_loopg [8] V (fun gk i W => ∃ q:Nat,q + gk = V/\i = .int .i64 (q:Int)/\∃ va vb,Hid (NxH w W (n0 + 1 + 1 + 1 + 1) w.heap.size fx (.int .i64 (step + 1)) (.slice none 0 0) (.int .i64 0) (.int .i64 0) ((List.range q).map (nvF k dm V s)) ((List.range q).map (ncF k dm V s)) va va vb vb))
 case atStart => exact ⟨0,by omega,rfl,_,_,HH⟩
 case round =>
  clear HH
  obtain ⟨q,hq,rfl,va,vb,HH⟩:=hrel
  obtain ⟨g0,g1,_⟩:=two (HF0.out _ _ _ _ _ _ _ HH.out)
  by_cases hlt:q < V
  ·obtain ⟨y,hy⟩:=at_lt s.vals q (by rw [HVL.out]; exact hlt)
   obtain ⟨⟨p,r⟩,hr⟩:=at_lt s.inb q (by rw [HIL.out]; exact hlt)
   obtain ⟨kv,ov,rfl,v0⟩:=(HVA.out.below HH.out.below) q y hy
   obtain ⟨ki,oi,rfl,i0,i1⟩:=(HIA.out.below HH.out.below) q (p,r) hr
   simp only at i0 i1
   obtain ⟨nv,hnv⟩:∃ nv,nv = nvF k dm V s q:=⟨_,rfl⟩
   obtain ⟨nb,hnb⟩:∃ nb,nb = ncF k dm V s q:=⟨_,rfl⟩
   have hyr:=HVR.out y (List.mem_of_getElem? hy)
   have hqr:=HIR.out (p,r) (List.mem_of_getElem? hr)
   have hsr:=HSR.out
   have hdr:=HDR.out
   have C1:=jH (regr (w:=wr) fun W' (_:Below wr.heap.size wr W') => rcompute_any k st so dm ep (V:Int) y r sm p (by omega) (by omega) hdr.1 hdr.2 hqr.1 hqr.2 (by rw [HSM.out]; exact hsr.1) (by rw [HSM.out]; exact hsr.2) W')
   have ev:cmpM k (V:Int) dm y p r sm = nv:=by rw [hnv]; unfold nvF; rw [vl_of hy,ml_of hr,<- HSM.out]
   have eb:cmpB k (V:Int) dm y p r sm = nb:=by rw [hnb]; unfold ncF; rw [vl_of hy,ml_of hr,<- HSM.out]
   rw [ev,eb] at C1
   have HNV:=jH hnv; have HNB:=jH hnb
   clear hnv hnb hyr hqr hsr hdr hy hr ev eb
   obtain ⟨c0,c1,c2,c3,c4,_⟩:=jb_cells (HF1.out _ _ _ _ _ _ _ HH.out)
   obtain ⟨_,d1,_,d3,d4,_,_⟩:=six (HF2.out _ _ _ _ _ _ _ HH.out)
   have y0:=cell_regrown c0; have y1:=cell_regrown c1; have y2:=cell_regrown c2; have y3:=cell_regrown c3; have y4:=cell_regrown c4; have y5:=cell_regrown g0
   have z1:=cell_regrown d1; have z3:=cell_regrown d3; have z4:=cell_regrown d4; have zv:=cell_regrown v0; have zi:=cell_regrown i0; have zj:=cell_regrown i1
   clear c0 c1 c2 c3 c4 d1 d3 d4 v0 i0 i1
   go_upto_region 5 with fail
   clear g0 g1
   refine wp_region_quiet_below mixed (by kernel_rfl) ?_
   repeat (go_big_quiet_step ((with_reducible exact C1.out _ _)))
   refine wpQuiet_nil ?_
   intro W8 hw8
   have hb8:Below wr.heap.size wr W8:=by obtain ⟨⟨dq,osq⟩,rfl⟩:=hw8; exact below_regrown wr dq osq
   have HT8:=jH (HH.out.step hb8)
   clear hb8 hw8 y0 y1 y2 y3 y4 y5 z1 z3 z4 zv zi zj C1 HH
   obtain ⟨Aq,cq,rfl,_⟩:=HT8.out.qo.form
   obtain ⟨Ab,cb,rfl,_⟩:=HT8.out.mo.form
   rw [List.length_map,List.length_map,List.length_range] at HT8
   have HLQ:Hid (((List.range q).map (nvF k dm V s)).length < 1000000000):=jH (by rw [List.length_map,List.length_range]; omega)
   have HLB:Hid (((List.range q).map (ncF k dm V s)).length < 1000000000):=jH (by rw [List.length_map,List.length_range]; omega)
   obtain ⟨_,a1,_,_,_,_,_⟩:=six HT8.out.ob
   have hb9:Below W8.heap.size W8 (W8.alloc (.cells #[.int .i64 nv] 2)):=(Below.refl _ W8).alloc (Nat.le_refl _) _
   have HT9:=jH (HT8.out.step hb9)
   have HQ9:=jH HT9.out.qo
   have HN9:Hid ((W8.alloc (.cells #[.int .i64 nv] 2)).heap[W8.heap.size]? = some (.cells #[.int .i64 nv] 2 (0,0))):=jH (heap_alloc_new W8 _)
   have HZ9:Hid (w.heap.size <= (W8.alloc (.cells #[.int .i64 nv] 2)).heap.size):=jH HT9.out.below.size
   clear hb9
   go_wp2_with (at_builtin; refine app_q rfl (.tmp 41) (.tmp 43) rfl w.heap.size _ _ _ rfl HQ9.out _ rfl HN9.out HLQ.out HZ9.out ?_)
   intro v10 w10 ho10 hg10
   have HT10:=jH (HT9.out.grownQ hg10 ho10)
   obtain ⟨A10,c10,rfl,_⟩:=ho10.form
   rw [show ((List.range q).map (nvF k dm V s) ++ [nv]).length = q + 1 by simp] at HT10 ⊢
   have HT11:=jH HT10.out.putQ
   have fr10:=warm HT10.out.ob 1
   obtain ⟨_,a11,_,_,_,_,_⟩:=six HT10.out.ob
   obtain ⟨W11,hW11⟩:∃ W11,W11 = w10.setCell ⟨n0 + 1 + 1 + 1 + 1,1,none⟩ (.slice A10 (q + 1) c10):=⟨_,rfl⟩
   rw [<- hW11] at HT11
   clear ho10 hg10 HQ9 HT9 HN9 HLQ HZ9 HT8 a1
   go_upto_region 7 with fail
   rw [<- hW11]
   clear hW11 a11 fr10 HT10
   obtain ⟨_,_,a2,_,_,_,_⟩:=six HT11.out.ob
   have hb12:Below W11.heap.size W11 (W11.alloc (.cells #[.bool nb] 4)):=(Below.refl _ W11).alloc (Nat.le_refl _) _
   have HT12:=jH (HT11.out.step hb12)
   have HQ12:=jH HT12.out.mo
   have HN12:Hid ((W11.alloc (.cells #[.bool nb] 4)).heap[W11.heap.size]? = some (.cells #[.bool nb] 4 (0,0))):=jH (heap_alloc_new W11 _)
   have HZ12:Hid (w.heap.size <= (W11.alloc (.cells #[.bool nb] 4)).heap.size):=jH HT12.out.below.size
   clear hb12
   go_wp2_with (at_builtin; refine app_b rfl (.tmp 47) (.tmp 49) rfl w.heap.size _ _ _ rfl HQ12.out _ rfl HN12.out HLB.out HZ12.out ?_)
   intro v13 w13 ho13 hg13
   have HT13:=jH (HT12.out.grownB hg13 ho13)
   obtain ⟨A13,c13,rfl,_⟩:=ho13.form
   rw [show ((List.range q).map (ncF k dm V s) ++ [nb]).length = q + 1 by simp] at HT13 ⊢
   have HT14:=jH HT13.out.putB
   have fr13:=warm HT13.out.ob 2
   obtain ⟨_,_,a12,_,_,_,_⟩:=six HT13.out.ob
   rw [HNV.out,HNB.out] at HT14
   have e1:(List.range q).map (nvF k dm V s) ++ [nvF k dm V s q] = (List.range (q + 1)).map (nvF k dm V s):=by rw [List.range_succ,List.map_append]; rfl
   have e2:(List.range q).map (ncF k dm V s) ++ [ncF k dm V s q] = (List.range (q + 1)).map (ncF k dm V s):=by rw [List.range_succ,List.map_append]; rfl
   rw [e1,e2] at HT14
   obtain ⟨W14,hW14⟩:∃ W14,W14 = w13.setCell ⟨n0 + 1 + 1 + 1 + 1,2,none⟩ (.slice A13 (q + 1) c13):=⟨_,rfl⟩
   rw [<- hW14] at HT14
   clear ho13 hg13 HQ12 HT12 HN12 HLB HZ12 HT11 a2 HT13 HNV HNB e1 e2
   go_wp2
   rw [<- hW14]
   clear hW14 a12 fr13
   go_wp2
   go_roundg (gk - 1)
   case measure => omega
   case rel => exact ⟨q + 1,by omega,by go_num,_,_,HT14⟩
  ·obtain rfl:q = V:=by omega
   obtain ⟨Aq,cq,rfl,hqa⟩:=HH.out.qo.form
   obtain ⟨Ab,cb,rfl,hba⟩:=HH.out.mo.form
   rw [List.length_map,List.length_map,List.length_range] at HH
   have HTL:=jH (rtold_any k st so dm ep q A Aq Ab Av n c cq cb cv L s.vals (nxtV k dm q s) (nxtC k dm q s) (step + 1) (.slice none 0 0) (.int .i64 0) (.int .i64 0) wr (HL.out.below HH.out.below) HN.out hqa hba (HVA.out.below HH.out.below) (nxtV_len ..) (nxtC_len ..) HVL.out HNR.out HVR.out hV hm)
   clear hqa hba
   obtain ⟨c0,c1,c2,c3,c4,_⟩:=jb_cells (HF1.out _ _ _ _ _ _ _ HH.out)
   obtain ⟨_,d1,_,_,_,_,_⟩:=six (HF2.out _ _ _ _ _ _ _ HH.out)
   obtain ⟨o0,o1,o2,o3,o4,o5,_⟩:=six HH.out.ob
   go_wp2_with fail
   refine HTL.out.mono ?_
   rintro e w9 ⟨Aj,cj,rfl,hk9,hb9⟩
   have HK9:=jH (hk9.out.mono HH.out.below.size)
   have HH9:=jH (HH.out.step hb9.out)
   have HRB:=jH (HF3.out _ _ _ _ _ _ _ HH9.out)
   clear hk9 hb9 HTL c0 c1 c2 c3 c4 d1 o0 o1 o2 o3 o4 o5 g0 g1 HH
   obtain ⟨r0,r1,r2,r3,r4,r5,rl⟩:=six HRB.out
   have f0:=warm HRB.out 0; have f1:=warm HRB.out 1; have f2:=warm HRB.out 2; have f3:=warm HRB.out 3; have f4:=warm HRB.out 4; have f5:=warm HRB.out 5
   obtain ⟨s1,hs1⟩:∃ s1,s1 = sumS k q L (nxtV k dm q s):=⟨_,rfl⟩
   obtain ⟨m1,hm1⟩:∃ m1,m1 = mosS k q s.vals (nxtV k dm q s) (nxtC k dm q s):=⟨_,rfl⟩
   rw [<- hs1,<- hm1]
   have HS1:=jH hs1; have HM1:=jH hm1
   clear hs1 hm1
   go_wp2
   have hX:=put6_heap HRB.out (.int .i64 (step + 1)) (.slice Aq q cq) (.slice Ab q cb) (.slice Aj q cj) (.int .i64 s1) (.int .i64 m1)
   have hBX:=put6_below HH9.out.below (b:=n0 + 1 + 1 + 1) (by have:=HN0.out; omega) (.int .i64 (step + 1)) (.slice Aq q cq) (.slice Ab q cb) (.slice Aj q cj) (.int .i64 s1) (.int .i64 m1)
   have h1:=put6_moved HH9.out.qo HRB.out (by decide) (.int .i64 (step + 1)) (.slice Aq q cq) (.slice Ab q cb) (.slice Aj q cj) (.int .i64 s1) (.int .i64 m1)
   have h2:=put6_moved HH9.out.mo HRB.out (by decide) (.int .i64 (step + 1)) (.slice Aq q cq) (.slice Ab q cb) (.slice Aj q cj) (.int .i64 s1) (.int .i64 m1)
   have h3:=put6_moved HK9.out HRB.out (by decide) (.int .i64 (step + 1)) (.slice Aq q cq) (.slice Ab q cb) (.slice Aj q cj) (.int .i64 s1) (.int .i64 m1)
   unfold put6 at hX hBX h1 h2 h3
   exact bodyPost_ret (v:=.agg #[.int .i64 (step + 1),.slice Aq q cq,.slice Ab q cb,.slice Aj q cj,.int .i64 s1,.int .i64 m1]) (res_s _ _ _ _ _ _ _ _ _ _ _ Tryz.results87 rfl hX) rfl ⟨_,rfl,jH ⟨_,_,_,by rw [HS1.out,HM1.out]; rfl,h1,h2,h3⟩,jH hBX⟩
open Go.RowKit Go.Shelf Gr Wd Ws Fx Rk Lb Al In
open Pa (vl bt vl_of vl_at bt_of bt_at)
set_option maxRecDepth 100000 in
set_option maxHeartbeats 1000000 in
theorem rstart_any' (k st so dm ep V0:Int) (A:Option Addr) (n c:Nat) (L:List Ed) (w:World) (hL:EAt w A L) (hn:L.length = n) (hm:n <= 1000) :
 Calls Tryz.prog 85 #[.agg #[.int .i64 V0,.slice A n c],.agg #[.int .u8 k,.int .i64 st,.int .i64 so,.int .i64 dm,.int .i64 ep]] w fun e w' => Res w w' e (startR k st so dm ep V0 L):=by
 have HL:=jH hL; have HN:=jH hn
 clear hL hn
 obtain ⟨W3,hW3⟩:∃ W3,W3 = ((w.alloc (.cells #[.int .i64 V0,.slice A n c] 24)).alloc (.cells #[.int .u8 k,.int .i64 st,.int .i64 so,.int .i64 dm,.int .i64 ep] 40)).alloc (.cells #[.int .i64 0,.slice none 0 0,.slice none 0 0,.slice none 0 0,.int .i64 0,.int .i64 0] 45):=⟨_,rfl⟩
 have hal:=al3 w (.cells #[.int .i64 V0,.slice A n c] 24) (.cells #[.int .u8 k,.int .i64 st,.int .i64 so,.int .i64 dm,.int .i64 ep] 40) (.cells #[.int .i64 0,.slice none 0 0,.slice none 0 0,.slice none 0 0,.int .i64 0,.int .i64 0] 45)
 rw [<- hW3] at hal
 obtain ⟨n0,e0⟩:∃ n0,n0 = w.heap.size:=⟨_,rfl⟩
 have HG:Hid (W3.heap[n0]? = some (.cells #[.int .i64 V0,.slice A n c] 24 (0,0))):=jH (by rw [e0]; exact hal.1)
 have HJ:Hid (W3.heap[n0 + 1]? = some (.cells #[.int .u8 k,.int .i64 st,.int .i64 so,.int .i64 dm,.int .i64 ep] 40 (0,0))):=jH (by rw [e0]; exact hal.2.1)
 have HR:Hid (W3.heap[n0 + 1 + 1]? = some (.cells #[.int .i64 0,.slice none 0 0,.slice none 0 0,.slice none 0 0,.int .i64 0,.int .i64 0] 45 (0,0))):=jH (by rw [e0]; exact hal.2.2.1)
 have HB:=jH hal.2.2.2
 have HN0:Hid (w.heap.size <= n0):=jH (by omega)
 clear hal
 obtain ⟨g0,g1,_⟩:=two HG.out
 obtain ⟨j0,j1,j2,j3,j4,_⟩:=jb_cells HJ.out
 obtain ⟨E,hE⟩:∃ E,E = chkJ k st so dm ep V0 L:=⟨_,rfl⟩
 have HC:Hid (∀ W,Below w.heap.size w W->Calls Tryz.prog 65 #[.agg #[.int .i64 V0,.slice A n c],.agg #[.int .u8 k,.int .i64 st,.int .i64 so,.int .i64 dm,.int .i64 ep]] W fun e w' => e = .returned (.int .i64 E)/\Below W.heap.size W w'):=jH (fun W h => by
  rw [hE,<- HN.out]
  exact rcheckj_any k st so dm ep V0 A c L W (HL.out.below h) (by rw [HN.out]; omega))
 have HE:=jH hE
 clear hE
 go_enter Tryz.func85,Tryz.ntmps85
 go_upto_region 1 with fail
 rw [<- hW3,show w.heap.size = n0 from e0.symm]
 clear hW3 e0
 go_wp2_with fail
 refine (HC.out _ HB.out).mono ?_
 rintro e w4 ⟨rfl,hb4⟩
 have HG4:=jK HG hb4; have HJ4:=jK HJ hb4; have HR4:=jK HR hb4
 have HB4:=jS HB hb4
 clear hb4 g0 g1 j0 j1 j2 j3 j4 HG HJ HR HB HC
 by_cases hE0:E = 0
 ·subst hE0
  obtain ⟨hz,_,_,_,_,_⟩:=chkJ_zero HE.out.symm
  obtain ⟨V,rfl,hV1,hV,hfit⟩:=chk_facts hz
  have HZ:Hid (startR k st so dm ep (V:Int) L = (0,strS k so V L,0)):=jH (by unfold startR; rw [if_pos HE.out.symm]; rfl)
  clear hfit hz
  obtain ⟨W5,hW5⟩:∃ W5,W5 = w4.alloc (.cells #[.int .i64 0,.slice none 0 0,.slice none 0 0,.slice none 0 0,.int .i64 0,.int .i64 0] 45):=⟨_,rfl⟩
  obtain ⟨bo,hbo⟩:∃ bo,bo = w4.heap.size:=⟨_,rfl⟩
  have hb5:Below w4.heap.size w4 W5:=by rw [hW5]; exact (Below.refl _ w4).alloc (Nat.le_refl _) _
  have hrl:=lt_of_block HR4.out
  obtain ⟨fx,hfx⟩:∃ fx:Fxd,fx = [(n0,#[.int .i64 (V:Int),.slice A n c],24),(n0 + 1,#[.int .u8 k,.int .i64 st,.int .i64 so,.int .i64 dm,.int .i64 ep],40),(n0 + 1 + 1,#[.int .i64 0,.slice none 0 0,.slice none 0 0,.slice none 0 0,.int .i64 0,.int .i64 0],45)]:=⟨_,rfl⟩
  have HH:Hid (NxH w W5 (bo) w.heap.size fx (.int .i64 0) (.slice none 0 0) (.int .i64 0) (.int .i64 0) [] [] (.slice none 0 0) (.slice none 0 0) (.slice none 0 0) (.slice none 0 0)):=jH (by
   refine ⟨step_below HB4.out HB4.out.size hb5,?_,by rw [hW5,hbo]; exact heap_alloc_new w4 _,QOwn.none_ _ _,BOwn.none_ _ _,?_,by have:=HN0.out; omega⟩
   ·rw [hfx]; intro p hp
    simp only [List.mem_cons,List.not_mem_nil,or_false] at hp
    rcases hp with rfl | rfl | rfl
    ·exact keep HG4.out hb5
    ·exact keep HJ4.out hb5
    ·exact keep HR4.out hb5
   ·rw [hfx]; intro p hp
    simp only [List.mem_cons,List.not_mem_nil,or_false] at hp
    rcases hp with rfl | rfl | rfl <;> exact ⟨by simp only []; omega,by simp only []; decide,by simp only []; decide⟩)
  have HF0:Hid (∀ W l1 l2 va ua vb ub,NxH w W (bo) w.heap.size fx (.int .i64 0) (.slice none 0 0) (.int .i64 0) (.int .i64 0) l1 l2 va ua vb ub->W.heap[n0]? = some (.cells #[.int .i64 (V:Int),.slice A n c] 24 (0,0))):=jH (fun W _ _ _ _ _ _ h => h.fixed (n0,#[.int .i64 (V:Int),.slice A n c],24) (by rw [hfx]; exact List.mem_cons_self))
  have HF1:Hid (∀ W l1 l2 va ua vb ub,NxH w W (bo) w.heap.size fx (.int .i64 0) (.slice none 0 0) (.int .i64 0) (.int .i64 0) l1 l2 va ua vb ub->W.heap[n0 + 1]? = some (.cells #[.int .u8 k,.int .i64 st,.int .i64 so,.int .i64 dm,.int .i64 ep] 40 (0,0))):=jH (fun W _ _ _ _ _ _ h => h.fixed (n0 + 1,#[.int .u8 k,.int .i64 st,.int .i64 so,.int .i64 dm,.int .i64 ep],40) (by rw [hfx]; exact List.mem_cons_of_mem _ List.mem_cons_self))
  have HF2:Hid (∀ W l1 l2 va ua vb ub,NxH w W (bo) w.heap.size fx (.int .i64 0) (.slice none 0 0) (.int .i64 0) (.int .i64 0) l1 l2 va ua vb ub->W.heap[n0 + 1 + 1]? = some (.cells #[.int .i64 0,.slice none 0 0,.slice none 0 0,.slice none 0 0,.int .i64 0,.int .i64 0] 45 (0,0))):=jH (fun W _ _ _ _ _ _ h => h.fixed (n0 + 1 + 1,#[.int .i64 0,.slice none 0 0,.slice none 0 0,.slice none 0 0,.int .i64 0,.int .i64 0],45) (by rw [hfx]; exact List.mem_cons_of_mem _ (List.mem_cons_of_mem _ List.mem_cons_self)))
  have HBO:Hid (n0 + 1 + 1 < bo):=jH (by omega)
  clear hfx hb5 hrl
  go_upto_region 5 with fail
  rw [<- hW5,show w4.heap.size = bo from hbo.symm]
  clear hW5 hbo HG4 HJ4 HR4 HB4
  go_wp2_with fail
  go_loopg [8] V (fun gk i W => ∃ q:Nat,q + gk = V/\i = .int .i64 (q:Int)/\∃ va vb,Hid (NxH w W (bo) w.heap.size fx (.int .i64 0) (.slice none 0 0) (.int .i64 0) (.int .i64 0) ((List.range q).map (svF k so V)) ((List.range q).map (scF k so)) va va vb vb))
  case atStart => exact ⟨0,by omega,rfl,_,_,HH⟩
  case round =>
   clear HH
   obtain ⟨q,hq,rfl,va,vb,HH⟩:=hrel
   obtain ⟨g0,g1,_⟩:=two (HF0.out _ _ _ _ _ _ _ HH.out)
   by_cases hlt:q < V
   ·obtain ⟨nv,hnv⟩:∃ nv,nv = svF k so V q:=⟨_,rfl⟩
    obtain ⟨nb,hnb⟩:∃ nb,nb = scF k so q:=⟨_,rfl⟩
    have C1:Hid (Calls Tryz.prog 92 #[.agg #[.int .u8 k,.int .i64 st,.int .i64 so,.int .i64 dm,.int .i64 ep],.int .i64 (V:Int),.int .i64 (q:Int)] wr fun e w' => e = .returned (.tuple #[.int .i64 nv,.bool nb])/\Below wr.heap.size wr w'):=jH (by
     rw [hnv,hnb]
     exact rstart_any k st so dm ep (V:Int) (q:Int) (by omega) (by omega) (by omega) (by omega) wr)
    have HNV:=jH hnv; have HNB:=jH hnb
    clear hnv hnb
    obtain ⟨c0,c1,c2,c3,c4,_⟩:=jb_cells (HF1.out _ _ _ _ _ _ _ HH.out)
    go_wp2_with fail
    refine C1.out.mono ?_
    rintro e W8 ⟨rfl,hb8⟩
    have HT8:=jH (HH.out.step hb8)
    clear hb8 C1 HH c0 c1 c2 c3 c4 g0 g1
    obtain ⟨Aq,cq,rfl,_⟩:=HT8.out.qo.form
    obtain ⟨Ab,cb,rfl,_⟩:=HT8.out.mo.form
    rw [List.length_map,List.length_map,List.length_range] at HT8
    have HLQ:Hid (((List.range q).map (svF k so V)).length < 1000000000):=jH (by rw [List.length_map,List.length_range]; omega)
    have HLB:Hid (((List.range q).map (scF k so)).length < 1000000000):=jH (by rw [List.length_map,List.length_range]; omega)
    obtain ⟨_,a1,_,_,_,_,_⟩:=six HT8.out.ob
    have hb9:Below W8.heap.size W8 (W8.alloc (.cells #[.int .i64 nv] 2)):=(Below.refl _ W8).alloc (Nat.le_refl _) _
    have HT9:=jH (HT8.out.step hb9)
    have HQ9:=jH HT9.out.qo
    have HN9:Hid ((W8.alloc (.cells #[.int .i64 nv] 2)).heap[W8.heap.size]? = some (.cells #[.int .i64 nv] 2 (0,0))):=jH (heap_alloc_new W8 _)
    have HZ9:Hid (w.heap.size <= (W8.alloc (.cells #[.int .i64 nv] 2)).heap.size):=jH HT9.out.below.size
    clear hb9
    go_wp2_with (at_builtin; refine app_q rfl (.tmp 33) (.tmp 35) rfl w.heap.size _ _ _ rfl HQ9.out _ rfl HN9.out HLQ.out HZ9.out ?_)
    intro v10 w10 ho10 hg10
    have HT10:=jH (HT9.out.grownQ hg10 ho10)
    obtain ⟨A10,c10,rfl,_⟩:=ho10.form
    rw [show ((List.range q).map (svF k so V) ++ [nv]).length = q + 1 by simp] at HT10 ⊢
    have HT11:=jH HT10.out.putQ
    have fr10:=warm HT10.out.ob 1
    obtain ⟨_,a11,_,_,_,_,_⟩:=six HT10.out.ob
    obtain ⟨W11,hW11⟩:∃ W11,W11 = w10.setCell ⟨bo,1,none⟩ (.slice A10 (q + 1) c10):=⟨_,rfl⟩
    rw [<- hW11] at HT11
    clear ho10 hg10 HQ9 HT9 HN9 HLQ HZ9 HT8 a1
    go_upto_region 10 with fail
    rw [<- hW11]
    clear hW11 a11 fr10 HT10
    obtain ⟨_,_,a2,_,_,_,_⟩:=six HT11.out.ob
    have hb12:Below W11.heap.size W11 (W11.alloc (.cells #[.bool nb] 4)):=(Below.refl _ W11).alloc (Nat.le_refl _) _
    have HT12:=jH (HT11.out.step hb12)
    have HQ12:=jH HT12.out.mo
    have HN12:Hid ((W11.alloc (.cells #[.bool nb] 4)).heap[W11.heap.size]? = some (.cells #[.bool nb] 4 (0,0))):=jH (heap_alloc_new W11 _)
    have HZ12:Hid (w.heap.size <= (W11.alloc (.cells #[.bool nb] 4)).heap.size):=jH HT12.out.below.size
    clear hb12
    go_wp2_with (at_builtin; refine app_b rfl (.tmp 39) (.tmp 41) rfl w.heap.size _ _ _ rfl HQ12.out _ rfl HN12.out HLB.out HZ12.out ?_)
    intro v13 w13 ho13 hg13
    have HT13:=jH (HT12.out.grownB hg13 ho13)
    obtain ⟨A13,c13,rfl,_⟩:=ho13.form
    rw [show ((List.range q).map (scF k so) ++ [nb]).length = q + 1 by simp] at HT13 ⊢
    have HT14:=jH HT13.out.putB
    have fr13:=warm HT13.out.ob 2
    obtain ⟨_,_,a12,_,_,_,_⟩:=six HT13.out.ob
    rw [HNV.out,HNB.out] at HT14
    have e1:(List.range q).map (svF k so V) ++ [svF k so V q] = (List.range (q + 1)).map (svF k so V):=by rw [List.range_succ,List.map_append]; rfl
    have e2:(List.range q).map (scF k so) ++ [scF k so q] = (List.range (q + 1)).map (scF k so):=by rw [List.range_succ,List.map_append]; rfl
    rw [e1,e2] at HT14
    obtain ⟨W14,hW14⟩:∃ W14,W14 = w13.setCell ⟨bo,2,none⟩ (.slice A13 (q + 1) c13):=⟨_,rfl⟩
    rw [<- hW14] at HT14
    clear ho13 hg13 HQ12 HT12 HN12 HLB HZ12 HT11 a2 HT13 HNV HNB e1 e2
    go_wp2
    rw [<- hW14]
    clear hW14 a12 fr13
    go_wp2
    go_roundg (gk - 1)
    case measure => omega
    case rel => exact ⟨q + 1,by omega,by go_num,_,_,HT14⟩
   ·obtain rfl:q = V:=by omega
    obtain ⟨Aq,cq,rfl,hqa⟩:=HH.out.qo.form
    obtain ⟨Ab,cb,rfl,hba⟩:=HH.out.mo.form
    rw [List.length_map,List.length_map,List.length_range] at HH
    have HIR:Hid (∀ x ∈ strV k so q,I63 x):=jH (fun x hx => (strV_in hV x hx).i63)
    have HTL:=jH (rtold_any k st so dm ep q A Aq Ab Aq n c cq cb cq L (strV k so q) (strV k so q) (strC k so q) 0 (.slice none 0 0) (.int .i64 0) (.int .i64 0) wr (HL.out.below HH.out.below) HN.out hqa hba hqa (by simp [strV]) (by simp [strC]) (by simp [strV]) HIR.out HIR.out hV (by rw [HN.out]; omega))
    clear hqa hba
    obtain ⟨c0,c1,c2,c3,c4,_⟩:=jb_cells (HF1.out _ _ _ _ _ _ _ HH.out)
    obtain ⟨o0,o1,o2,o3,o4,o5,_⟩:=six HH.out.ob
    go_wp2_with fail
    refine HTL.out.mono ?_
    rintro e w9 ⟨Aj,cj,rfl,hk9,hb9⟩
    have HK9:=jH (hk9.out.mono HH.out.below.size)
    have HH9:=jH (HH.out.step hb9.out)
    have HOB:=jH HH9.out.ob
    have HRB:=jH (HF2.out _ _ _ _ _ _ _ HH9.out)
    clear hk9 hb9 HTL c0 c1 c2 c3 c4 o0 o1 o2 o3 o4 o5 g0 g1 HH
    obtain ⟨o0,o1,o2,o3,o4,o5,_⟩:=six HOB.out
    have f0:=warm HOB.out 0; have f1:=warm HOB.out 1; have f2:=warm HOB.out 2; have f3:=warm HOB.out 3; have f4:=warm HOB.out 4; have f5:=warm HOB.out 5
    obtain ⟨s1,hs1⟩:∃ s1,s1 = sumS k q L (strV k so q):=⟨_,rfl⟩
    obtain ⟨m1,hm1⟩:∃ m1,m1 = mosS k q (strV k so q) (strV k so q) (strC k so q):=⟨_,rfl⟩
    rw [<- hs1,<- hm1]
    have HS1:=jH hs1
    clear hs1 hm1
    have hX:=put6_heap HOB.out (.int .i64 0) (.slice Aq q cq) (.slice Ab q cb) (.slice Aj q cj) (.int .i64 s1) (.int .i64 m1)
    have hXo:∀ j,j ≠ bo->(put6 w9 bo (.int .i64 0) (.slice Aq q cq) (.slice Ab q cb) (.slice Aj q cj) (.int .i64 s1) (.int .i64 m1)).heap[j]? = w9.heap[j]?:=fun j hj => put6_other _ _ _ _ _ _ _ _ _ hj
    have hBX:=put6_below HH9.out.below (b:=bo) (by have:=HN0.out; have:=HBO.out; omega) (.int .i64 0) (.slice Aq q cq) (.slice Ab q cb) (.slice Aj q cj) (.int .i64 s1) (.int .i64 m1)
    have h1:=put6_moved HH9.out.qo HOB.out (by decide) (.int .i64 0) (.slice Aq q cq) (.slice Ab q cb) (.slice Aj q cj) (.int .i64 s1) (.int .i64 m1)
    have h2:=put6_moved HH9.out.mo HOB.out (by decide) (.int .i64 0) (.slice Aq q cq) (.slice Ab q cb) (.slice Aj q cj) (.int .i64 s1) (.int .i64 m1)
    have h3:=put6_moved HK9.out HOB.out (by decide) (.int .i64 0) (.slice Aq q cq) (.slice Ab q cb) (.slice Aj q cj) (.int .i64 s1) (.int .i64 m1)
    obtain ⟨X,hXe⟩:∃ X,X = put6 w9 bo (.int .i64 0) (.slice Aq q cq) (.slice Ab q cb) (.slice Aj q cj) (.int .i64 s1) (.int .i64 m1):=⟨_,rfl⟩
    rw [<- hXe] at hX hXo hBX h1 h2 h3
    unfold put6 at hXe
    have HX:=jH hX; have HXO:=jH hXo; have HBX:=jH hBX; have H1:=jH h1; have H2:=jH h2; have H3:=jH h3; have HXE:=jH hXe
    clear hX hXo hBX h1 h2 h3 hXe
    go_upto_region 12 with fail
    rw [<- HXE.out]
    clear o0 o1 o2 o3 o4 o5 f0 f1 f2 f3 f4 f5 HXE
    obtain ⟨_,_,_,_,_,o5,_⟩:=six HX.out
    have f5:=warm HX.out 5
    obtain ⟨Y,hY⟩:∃ Y,Y = X.setCell ⟨bo,5,none⟩ (.int .i64 0):=⟨_,rfl⟩
    have HY:Hid (Y.heap[bo]? = some (.cells #[.int .i64 0,.slice Aq q cq,.slice Ab q cb,.slice Aj q cj,.int .i64 s1,.int .i64 0] 45 (0,0))):=jH (by rw [hY]; exact set_heap (i:=5) HX.out (.int .i64 0))
    have HYO:Hid (∀ j,j ≠ bo->Y.heap[j]? = X.heap[j]?):=jH (fun j hj => by rw [hY]; exact set_other _ _ _ _ _ hj)
    have HBY:Hid (Below w.heap.size w Y):=jH (by rw [hY]; exact HBX.out.setCell (p:=⟨bo,5,none⟩) (by show w.heap.size <= bo; have:=HN0.out; have:=HBO.out; omega) _)
    have HYE:=jH hY
    clear hY
    go_upto_region 13 with fail
    rw [<- HYE.out]
    clear o5 f5 HYE
    have HRY:=jH ((HYO.out _ (by have:=HBO.out; omega)).trans ((HXO.out _ (by have:=HBO.out; omega)).trans HRB.out))
    have K1:=jH (own_moved H1.out HX.out (by decide) HYO.out); have K2:=jH (own_moved H2.out HX.out (by decide) HYO.out); have K3:=jH (own_moved H3.out HX.out (by decide) HYO.out)
    obtain ⟨o0,o1,o2,o3,o4,o5,_⟩:=six HY.out
    obtain ⟨r0,r1,r2,r3,r4,r5,rl⟩:=six HRY.out
    have f0:=warm HRY.out 0; have f1:=warm HRY.out 1; have f2:=warm HRY.out 2; have f3:=warm HRY.out 3; have f4:=warm HRY.out 4; have f5:=warm HRY.out 5
    go_wp2
    have hX:=put6_heap HRY.out (.int .i64 0) (.slice Aq q cq) (.slice Ab q cb) (.slice Aj q cj) (.int .i64 s1) (.int .i64 0)
    have hBX:=put6_below HBY.out (b:=n0 + 1 + 1) (by have:=HN0.out; omega) (.int .i64 0) (.slice Aq q cq) (.slice Ab q cb) (.slice Aj q cj) (.int .i64 s1) (.int .i64 0)
    have h1:=put6_moved K1.out HRY.out (by decide) (.int .i64 0) (.slice Aq q cq) (.slice Ab q cb) (.slice Aj q cj) (.int .i64 s1) (.int .i64 0)
    have h2:=put6_moved K2.out HRY.out (by decide) (.int .i64 0) (.slice Aq q cq) (.slice Ab q cb) (.slice Aj q cj) (.int .i64 s1) (.int .i64 0)
    have h3:=put6_moved K3.out HRY.out (by decide) (.int .i64 0) (.slice Aq q cq) (.slice Ab q cb) (.slice Aj q cj) (.int .i64 s1) (.int .i64 0)
    unfold put6 at hX hBX h1 h2 h3
    exact bodyPost_ret (v:=.tuple #[.agg #[.int .i64 0,.slice Aq q cq,.slice Ab q cb,.slice Aj q cj,.int .i64 s1,.int .i64 0],.int .i64 0]) (res2_s _ _ _ _ _ _ _ _ _ _ _ _ _ Tryz.results85 rfl rfl hX) rfl ⟨_,by rw [HZ.out],jH (by rw [HZ.out]; exact ⟨_,_,_,by rw [HS1.out]; rfl,h1,h2,h3⟩),jH hBX⟩
 ·have HZ:Hid (startR k st so dm ep V0 L = (0,zS,E)):=jH (by unfold startR; rw [if_neg (by rw [<- HE.out]; exact hE0),<- HE.out])
  obtain ⟨r0,r1,r2,r3,r4,r5,rl⟩:=six HR4.out
  have f0:=warm HR4.out 0; have f1:=warm HR4.out 1; have f2:=warm HR4.out 2; have f3:=warm HR4.out 3; have f4:=warm HR4.out 4; have f5:=warm HR4.out 5
  go_wp2
  have hX:=put6_heap HR4.out (.int .i64 0) (.slice none 0 0) (.slice none 0 0) (.slice none 0 0) (.int .i64 0) (.int .i64 0)
  have hBX:=put6_below HB4.out (b:=n0 + 1 + 1) (by have:=HN0.out; omega) (.int .i64 0) (.slice none 0 0) (.slice none 0 0) (.slice none 0 0) (.int .i64 0) (.int .i64 0)
  unfold put6 at hX hBX
  exact bodyPost_ret (v:=.tuple #[.agg #[.int .i64 0,.slice none 0 0,.slice none 0 0,.slice none 0 0,.int .i64 0,.int .i64 0],.int .i64 E]) (res2_s _ _ _ _ _ _ _ _ _ _ _ _ _ Tryz.results85 rfl rfl hX) rfl ⟨_,by rw [HZ.out],jH (by rw [HZ.out]; exact SOwn.zero _ _),jH hBX⟩
end Go.Proofs.YtdcaekmgfcpbmaaGreat.Sq
