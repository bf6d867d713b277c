/-
  What is proved here: a contract of a step on. Conditions: at most 512 vertices, at most 1000 edges; numbers that fit an int. What is proved here: a contract of the state at first. Conditions: at most 512 vertices, at most 1000 edges.
-/
import Derived.Test.YtdcaekmgfcpbmaaGreatQdSqTl
import Derived.Test.YtdcaekmgfcpbmaaGreatQdSqNmx
namespace Go.Proofs.YtdcaekmgfcpbmaaGreat.Sq
open Go.RowKit Go.Shelf Gr Wd Ws Fx Rk Lb Al In
open Pa (vl bt vl_of vl_at bt_of bt_at)
attribute [local go_sem] Oper.semAt_some
def nvF (k dm:Int) (V:Nat) (s:Sq) (v:Nat):Int:=cmpM k (V:Int) dm (vl s.vals v) (ml s.inb v).1 (ml s.inb v).2 s.sum
def ncF (k dm:Int) (V:Nat) (s:Sq) (v:Nat):Bool:=cmpB k (V:Int) dm (vl s.vals v) (ml s.inb v).1 (ml s.inb v).2 s.sum
set_option maxRecDepth 100000 in
set_option maxHeartbeats 8000000 in
theorem next_any (k st so dm ep step:Int) (V:Nat) (L:List Ed) (Ae Av Ac Ai:Option Addr) (ce cv cc ci nc be:Nat) (s:Sq) (w:World)
 (hE:WOwn w be (.slice Ae V ce) (egs V L)) (hv:IAt w Av s.vals) (hi:KAt w Ai s.inb) (hvl:s.vals.length = V) (hil:s.inb.length = V) (hvr:∀ x ∈ s.vals,I63 x) (hir:∀ m ∈ s.inb,I63 m.2) (hsr:I63 s.sum) (hnr:∀ x ∈ nxtV k dm V s,I63 x)
 (hd:I63 dm) (hst:0 <= step/\step <= 2000) (hV:V <= 512) (hL:L.length <= 1000) (hfit:∀ e ∈ L,fitE (V:Int) e = true) :
 Calls Tryz.prog 38 #[.agg #[.int .u8 k,.int .i64 st,.int .i64 so,.int .i64 dm,.int .i64 ep,.slice Ae V ce],.agg #[.int .i64 step,.slice Av V cv,.slice Ac nc cc,.slice Ai V ci,.int .i64 s.sum,.int .i64 s.most]] w fun e w' => ∃ x,e = .returned x/\Hid (SOwn w' w.heap.size x (step + 1) (nxtS k dm V L s))/\Hid (Below w.heap.size w w'):=by
 have mixed:=mixedI
 have HE:=jH hE; have HVA:=jH hv; have HIA:=jH hi; have HVL:=jH hvl; have HIL:=jH hil; have HVR:=jH hvr; have HIR:=jH hir; have HSR:=jH hsr; have HNR:=jH hnr; have HDR:=jH hd; have HFI:=jH hfit
 clear hE hv hi hvl hil hvr hir hsr hnr hd hfit
 obtain ⟨sm,hsm⟩:∃ sm,sm = s.sum:=⟨_,rfl⟩
 obtain ⟨mo,hmo⟩:∃ mo,mo = s.most:=⟨_,rfl⟩
 rw [<- hsm,<- hmo]
 have HSM:=jH hsm; have HMO:=jH hmo
 clear hsm hmo
 have f41:Fence.wide.fn 38:=trivial
 refine (callsIn_wide (n:=6)).1 (callsIn_of_wp_marks Tryz.func38 rfl f41 ?_ rfl)
 refine (wpIn_wide (n:=6)).2 ?_
 simp only [Tryz.ntmps38,List.size_toArray,List.length_cons,List.length_nil,Nat.reduceAdd,Nat.reduceSub,Array.replicate_succ,Array.replicate_zero,List.push_toArray,List.append_toArray,List.nil_append,List.cons_append]
 obtain ⟨W4,hW4⟩:∃ W4,W4 = (((w.alloc (.cells #[.int .u8 k,.int .i64 st,.int .i64 so,.int .i64 dm,.int .i64 ep,.slice Ae V ce] 71)).alloc (.cells #[.int .i64 step,.slice Av V cv,.slice Ac nc cc,.slice Ai V ci,.int .i64 sm,.int .i64 mo] 45)).alloc (.cells #[.int .i64 0,.slice none 0 0,.slice none 0 0,.slice none 0 0,.int .i64 0,.int .i64 0] 45)).alloc (.cells #[.int .i64 (step + 1),.slice none 0 0,.slice none 0 0,.slice none 0 0,.int .i64 0,.int .i64 0] 45):=⟨_,rfl⟩
 have hal:=al4 w (.cells #[.int .u8 k,.int .i64 st,.int .i64 so,.int .i64 dm,.int .i64 ep,.slice Ae V ce] 71) (.cells #[.int .i64 step,.slice Av V cv,.slice Ac nc cc,.slice Ai V ci,.int .i64 sm,.int .i64 mo] 45) (.cells #[.int .i64 0,.slice none 0 0,.slice none 0 0,.slice none 0 0,.int .i64 0,.int .i64 0] 45) (.cells #[.int .i64 (step + 1),.slice none 0 0,.slice none 0 0,.slice none 0 0,.int .i64 0,.int .i64 0] 45)
 rw [<- hW4] at hal
 obtain ⟨n0,e0⟩:∃ n0,n0 = w.heap.size:=⟨_,rfl⟩
 obtain ⟨fx,hfx⟩:∃ fx:Fxd,fx = [(n0,#[.int .u8 k,.int .i64 st,.int .i64 so,.int .i64 dm,.int .i64 ep,.slice Ae V ce],71),(n0 + 1,#[.int .i64 step,.slice Av V cv,.slice Ac nc cc,.slice Ai V ci,.int .i64 sm,.int .i64 mo],45),(n0 + 1 + 1,#[.int .i64 0,.slice none 0 0,.slice none 0 0,.slice none 0 0,.int .i64 0,.int .i64 0],45)]:=⟨_,rfl⟩
 have HH4:Hid (NxH w W4 (n0 + 1 + 1 + 1) (n0 + 4) fx (.int .i64 (step + 1)) (.slice none 0 0) (.int .i64 0) (.int .i64 0) [] [] (.slice none 0 0) (.slice none 0 0) (.slice none 0 0) (.slice none 0 0)):=jH (by
  refine ⟨hal.2.2.2.2,?_,by rw [e0]; exact hal.2.2.2.1,QOwn.none_ _ _,BOwn.none_ _ _,?_,by omega⟩
  ·rw [hfx]; intro p hp
   simp only [List.mem_cons,List.not_mem_nil,or_false] at hp
   rcases hp with rfl | rfl | rfl
   ·rw [e0]; exact hal.1
   ·rw [e0]; exact hal.2.1
   ·rw [e0]; exact hal.2.2.1
  ·rw [hfx]; intro p hp
   simp only [List.mem_cons,List.not_mem_nil,or_false] at hp
   rcases hp with rfl | rfl | rfl
   ·exact ⟨by simp only []; omega,by simp only []; decide,by simp only []; decide⟩
   ·exact ⟨by simp only []; omega,by simp only []; decide,by simp only []; decide⟩
   ·exact ⟨by simp only []; omega,by simp only []; decide,by simp only []; decide⟩)
 have HF0:Hid (∀ W l1 l2 va ua vb ub,NxH w W (n0 + 1 + 1 + 1) (n0 + 4) fx (.int .i64 (step + 1)) (.slice none 0 0) (.int .i64 0) (.int .i64 0) l1 l2 va ua vb ub->W.heap[n0]? = some (.cells #[.int .u8 k,.int .i64 st,.int .i64 so,.int .i64 dm,.int .i64 ep,.slice Ae V ce] 71 (0,0))):=jH (fun W _ _ _ _ _ _ h => h.fixed (n0,#[.int .u8 k,.int .i64 st,.int .i64 so,.int .i64 dm,.int .i64 ep,.slice Ae V ce],71) (by rw [hfx]; exact List.mem_cons_self))
 have HF1:Hid (∀ W l1 l2 va ua vb ub,NxH w W (n0 + 1 + 1 + 1) (n0 + 4) fx (.int .i64 (step + 1)) (.slice none 0 0) (.int .i64 0) (.int .i64 0) l1 l2 va ua vb ub->W.heap[n0 + 1]? = some (.cells #[.int .i64 step,.slice Av V cv,.slice Ac nc cc,.slice Ai V ci,.int .i64 sm,.int .i64 mo] 45 (0,0))):=jH (fun W _ _ _ _ _ _ h => h.fixed (n0 + 1,#[.int .i64 step,.slice Av V cv,.slice Ac nc cc,.slice Ai V ci,.int .i64 sm,.int .i64 mo],45) (by rw [hfx]; exact List.mem_cons_of_mem _ List.mem_cons_self))
 have HF2:Hid (∀ W l1 l2 va ua vb ub,NxH w W (n0 + 1 + 1 + 1) (n0 + 4) fx (.int .i64 (step + 1)) (.slice none 0 0) (.int .i64 0) (.int .i64 0) l1 l2 va ua vb ub->W.heap[n0 + 1 + 1]? = some (.cells #[.int .i64 0,.slice none 0 0,.slice none 0 0,.slice none 0 0,.int .i64 0,.int .i64 0] 45 (0,0))):=jH (fun W _ _ _ _ _ _ h => h.fixed (n0 + 1 + 1,#[.int .i64 0,.slice none 0 0,.slice none 0 0,.slice none 0 0,.int .i64 0,.int .i64 0],45) (by rw [hfx]; exact List.mem_cons_of_mem _ (List.mem_cons_of_mem _ List.mem_cons_self)))
 have HN0:Hid (w.heap.size <= n0):=jH (by omega)
 have hs4:W4.heap.size = n0 + 4:=by rw [hW4,e0]; simp
 clear hal hfx
 go_upto_region 2 with fail
 rw [<- hW4,show w.heap.size = n0 from e0.symm]
 clear hW4 e0
 have HS4:=jH hs4
 clear hs4
 obtain ⟨c0,c1,c2,c3,c4,c5,cl⟩:=six (HF0.out _ _ _ _ _ _ _ HH4.out)
 go_wp2_with fail
 refine (vertices_any k st so dm ep Ae V ce W4).mono ?_
 rintro e W7 ⟨rfl,hW7⟩
 have hb7:Below W4.heap.size W4 W7:=by rw [hW7]; exact (Below.refl _ W4).alloc (Nat.le_refl _) _
 have HH7:=jH (HH4.out.step hb7)
 have HI7:Hid (ItV W7 W4.heap.size be k st so dm ep (.slice Ae V ce) (egs V L)):=jH ⟨by rw [hW7]; exact heap_alloc_new W4 _,(HE.out.below HH4.out.below).below hb7⟩
 obtain ⟨bv,ebv⟩:∃ bv,bv = W4.heap.size:=⟨_,rfl⟩
 rw [<- ebv] at HI7 ⊢
 clear hW7 hb7 HH4 c0 c1 c2 c3 c4 c5 cl ebv HS4
 go_wp2_with fail
 refine (wpIn_wide (n:=6)).1 ?_
 refine Pt.wp_told (n:=6) (R':=fun (x:Vx) a' W => x.v < V/\a' = Act.mk #[.agg #[.int .u8 k,.int .i64 st,.int .i64 so,.int .i64 dm,.int .i64 ep,.slice Ae V ce],.agg #[.int .i64 step,.slice Av V cv,.slice Ac nc cc,.slice Ai V ci,.int .i64 sm,.int .i64 mo],.pointer (some ⟨n0,0,none⟩),.pointer (some ⟨n0 + 1,0,none⟩),.pointer (some ⟨n0 + 1 + 1,0,none⟩),.pointer (some ⟨n0 + 1 + 1 + 1,0,none⟩),.int .i64 (x.v:Int),undef,undef,.pointer (some ⟨n0 + 1,0,none⟩),.int .i64 step,.int .i64 (step + 1),.agg #[.int .i64 (step + 1),.slice none 0 0,.slice none 0 0,.slice none 0 0,.int .i64 0,.int .i64 0],.agg #[.int .u8 k,.int .i64 st,.int .i64 so,.int .i64 dm,.int .i64 ep,.slice Ae V ce],.func (.func 78) #[] #[.pointer (some ⟨bv,0,none⟩)],.int .i64 (x.v:Int),.agg #[x.o,x.b],undef,undef,undef,undef,undef,undef,undef,undef,undef,undef,undef,undef,undef,undef,undef,undef,undef,undef,undef,undef,undef,undef,undef,undef,undef,undef,undef,undef,undef,undef,undef,undef,undef,undef,undef,undef,undef,undef] []) rfl (by omega) (gf:=78) (lb:=#[.pointer (some ⟨bv,0,none⟩)]) rfl trivial (enters_of Tryz.func78 (by kernel_rfl) rfl)
  (vert_told 5 (by omega) bv be k st so dm ep (.slice Ae V ce) (egs V L) V W7 HI7.out (egs_len V L) (by omega)) Kq.trans Kq.obj (Below.refl _ _) (fun _ => rfl)
  (fun _ _ _ _ _ _ _ _ h => h)
  (fun pre W => ∃ va vb,NxH w W (n0 + 1 + 1 + 1) (n0 + 4) fx (.int .i64 (step + 1)) (.slice none 0 0) (.int .i64 0) (.int .i64 0) ((pre.map Vx.v).map (nvF k dm V s)) ((pre.map Vx.v).map (ncF k dm V s)) va va vb vb)
  (fun _ _ _ => False)
  (fun s' A B row hs hg hr => by obtain ⟨va,vb,h⟩:=hs; exact ⟨va,vb,h.kept hg (fun r e => (hr r e).2) (fun r e => Nat.le_trans HH7.out.below.size (hr r e).1)⟩)
  (fun cd s' A B row hs hg hr => hs)
  ⟨_,_,HH7.out⟩ ?assign ?body ?done ?stop
 case assign =>
  intro lp pre x W K hI hR hK
  obtain ⟨L',B',g1,_,_⟩:=hR
  have hxl:x.v < V:=by have:=lt_at g1; rwa [egs_len] at this
  have HH:=jH (hK _ _ (keeps_below (Below.refl _ W)) (Kq.refl W) hI ⟨hxl,rfl⟩)
  dsimp only [encsV]
  clear hK hI g1
  gi_wp2
  exact HH.out
 case body =>
  rintro lp pre x a' W ⟨va,vb,hT⟩ ⟨hxl,rfl⟩ hlen
  obtain ⟨ns,hns⟩:∃ ns,pre.map Vx.v = ns:=⟨_,rfl⟩
  rw [hns] at hT
  have hnl:ns.length = pre.length:=by rw [<- hns,List.length_map]
  have HNS:=jH hns
  have HT:=jH hT
  clear hns hT
  obtain ⟨xv,xo,xb⟩:=x
  try simp only at hxl ⊢
  -- region 4: what the vertex has next
  obtain ⟨y,hy⟩:=at_lt s.vals xv (by rw [HVL.out]; exact hxl)
  obtain ⟨⟨p,q⟩,hq⟩:=at_lt s.inb xv (by rw [HIL.out]; exact hxl)
  obtain ⟨kv,ov,rfl,v0⟩:=(HVA.out.below HT.out.below) xv y hy
  obtain ⟨ki,oi,rfl,i0,i1⟩:=(HIA.out.below HT.out.below) xv (p,q) hq
  simp only at i0 i1
  obtain ⟨nv,hnv⟩:∃ nv,nv = nvF k dm V s xv:=⟨_,rfl⟩
  obtain ⟨nb,hnb⟩:∃ nb,nb = ncF k dm V s xv:=⟨_,rfl⟩
  have hyr:=HVR.out y (List.mem_of_getElem? hy)
  have hqr:=HIR.out (p,q) (List.mem_of_getElem? hq)
  have hsr:=HSR.out
  have hdr:=HDR.out
  have C1:Hid (∀ (d:Nat) (os:Array Obj),Calls Tryz.prog 61 #[.agg #[.int .u8 k,.int .i64 st,.int .i64 so,.int .i64 dm,.int .i64 ep],.int .i64 (V:Int),.int .i64 y,.agg #[.bool p,.int .i64 q],.int .i64 sm] (Sort.grow (redrawn W d) os) fun e w'' => e = .returned (.tuple #[.int .i64 nv,.bool nb])/\∃ pp:Regrown,w'' = Sort.grow (redrawn W pp.d) pp.os):=jH (by
   have h:=regr (w:=W) fun W' (_:Below W.heap.size W W') => compute_any k st so dm ep (V:Int) y q sm p (by omega) (by omega) hdr.1 hdr.2 hqr.1 hqr.2 (by rw [HSM.out]; exact hsr.1) (by rw [HSM.out]; exact hsr.2) W'
   rw [hnv,hnb]
   unfold nvF ncF
   rw [vl_of hy,ml_of hq,<- HSM.out]
   exact h)
  have HNV:=jH hnv; have HNB:=jH hnb
  clear hnv hnb hyr hqr hsr hdr hy hq
  obtain ⟨c0,c1,c2,c3,c4,c5,_⟩:=six (HF0.out _ _ _ _ _ _ _ HT.out)
  obtain ⟨_,d1,_,d3,d4,_,_⟩:=six (HF1.out _ _ _ _ _ _ _ HT.out)
  have y0:=cell_regrown c0; have y1:=cell_regrown c1; have y2:=cell_regrown c2; have y3:=cell_regrown c3; have y4:=cell_regrown c4; have y5:=cell_regrown c5
  have z1:=cell_regrown d1; have z3:=cell_regrown d3; have z4:=cell_regrown d4; have zv:=cell_regrown v0; have zi:=cell_regrown i0; have zj:=cell_regrown i1
  clear c0 c1 c2 c3 c4 c5 d1 d3 d4 v0 i0 i1
  gi_wp2
  rename_i K5 hK5
  refine Tl.region_quiet_round mixed (by rfl) ?hq4 (by kernel_rfl) ?_
  case hq4 => rintro ⟨_,_,h⟩; exact h
  repeat (go_big_quiet_step ((with_reducible exact C1.out _ _)))
  refine wpQuiet_nil ?_
  intro W8 hw8
  have hb8:Below W.heap.size W W8:=by obtain ⟨⟨dq,osq⟩,rfl⟩:=hw8; exact below_regrown W dq osq
  have HT8:=jH (HT.out.step hb8)
  have HK8:=jH (KK.below hb8)
  clear hb8 hw8 y0 y1 y2 y3 y4 y5 z1 z3 z4 zv zi zj C1 HT
  refine hK5 _ _ ?_
  clear hK5
  -- region 5: its value
  refine wpIn_seq_k fun K6 hK6 => ?_
  refine Tl.region_round (by rfl) ?hq5 ?_
  case hq5 => rintro ⟨_,_,h⟩; exact h
  obtain ⟨Aq,cq,rfl,_⟩:=HT8.out.qo.form
  obtain ⟨Ab,cb,rfl,_⟩:=HT8.out.mo.form
  rw [List.length_map,List.length_map,hnl] at HT8
  have HLQ:Hid ((ns.map (nvF k dm V s)).length < 1000000000):=jH (by rw [List.length_map,hnl]; omega)
  have HLB:Hid ((ns.map (ncF k dm V s)).length < 1000000000):=jH (by rw [List.length_map,hnl]; omega)
  obtain ⟨_,a1,_,_,_,_,_⟩:=six HT8.out.ob
  have hb9:Below W8.heap.size W8 (W8.alloc (.cells #[.int .i64 nv] 2)):=(Below.refl _ W8).alloc (Nat.le_refl _) _
  have HT9:=jH (HT8.out.step hb9)
  have HQ9:=jH HT9.out.qo
  have HN9:Hid ((W8.alloc (.cells #[.int .i64 nv] 2)).heap[W8.heap.size]? = some (.cells #[.int .i64 nv] 2 (0,0))):=jH (heap_alloc_new W8 _)
  have HZ9:Hid (n0 + 4 <= (W8.alloc (.cells #[.int .i64 nv] 2)).heap.size):=jH (lt_of_block HT9.out.ob)
  have HK9:=jH (HK8.out.trans (KK.below hb9))
  clear hb9
  go_wp2_with (at_builtin; refine app_q rfl (.tmp 39) (.tmp 41) rfl (n0 + 4) _ _ _ rfl HQ9.out _ rfl HN9.out HLQ.out HZ9.out ?_)
  intro v10 w10 ho10 hg10
  have HK10:=jH (HK9.out.trans (KK.grown HQ9.out hg10 (by decide) (by decide) (by decide)))
  have HT10:=jH (HT9.out.grownQ hg10 ho10)
  obtain ⟨A10,c10,rfl,_⟩:=ho10.form
  rw [show (ns.map (nvF k dm V s) ++ [nv]).length = pre.length + 1 by simp [hnl]] at HT10 ⊢
  have HT11:=jH HT10.out.putQ
  have HK11:=jH (HK10.out.trans (KK.set (i:=1) HT10.out.ob (.slice A10 (pre.length + 1) c10) (by decide) (by decide) (by decide)))
  have fr10:=warm HT10.out.ob 1
  obtain ⟨_,a11,_,_,_,_,_⟩:=six HT10.out.ob
  obtain ⟨W11,hW11⟩:∃ W11,W11 = w10.setCell ⟨n0 + 1 + 1 + 1,1,none⟩ (.slice A10 (pre.length + 1) c10):=⟨_,rfl⟩
  rw [<- hW11] at HT11 HK11
  clear ho10 hg10 HQ9 HT9 HN9 HLQ HZ9 HK9 HT8 HK8 a1 HK10
  go_wp2
  rw [<- hW11]
  clear hW11 a11 fr10 HT10
  -- region 6: its mark
  refine Tl.region_round (by rfl) ?hq6 ?_
  case hq6 => rintro ⟨_,_,h⟩; exact h
  obtain ⟨_,_,a2,_,_,_,_⟩:=six HT11.out.ob
  have hb12:Below W11.heap.size W11 (W11.alloc (.cells #[.bool nb] 4)):=(Below.refl _ W11).alloc (Nat.le_refl _) _
  have HT12:=jH (HT11.out.step hb12)
  have HQ12:=jH HT12.out.mo
  have HN12:Hid ((W11.alloc (.cells #[.bool nb] 4)).heap[W11.heap.size]? = some (.cells #[.bool nb] 4 (0,0))):=jH (heap_alloc_new W11 _)
  have HZ12:Hid (n0 + 4 <= (W11.alloc (.cells #[.bool nb] 4)).heap.size):=jH (lt_of_block HT12.out.ob)
  have HK12:=jH (HK11.out.trans (KK.below hb12))
  clear hb12
  go_wp2_with (at_builtin; refine app_b rfl (.tmp 45) (.tmp 47) rfl (n0 + 4) _ _ _ rfl HQ12.out _ rfl HN12.out HLB.out HZ12.out ?_)
  intro v13 w13 ho13 hg13
  have HK13:=jH (HK12.out.trans (KK.grown HQ12.out hg13 (by decide) (by decide) (by decide)))
  have HT13:=jH (HT12.out.grownB hg13 ho13)
  obtain ⟨A13,c13,rfl,_⟩:=ho13.form
  rw [show (ns.map (ncF k dm V s) ++ [nb]).length = pre.length + 1 by simp [hnl]] at HT13 ⊢
  have HT14:=jH HT13.out.putB
  have HK14:=jH (HK13.out.trans (KK.set (i:=2) HT13.out.ob (.slice A13 (pre.length + 1) c13) (by decide) (by decide) (by decide)))
  have fr13:=warm HT13.out.ob 2
  obtain ⟨_,_,a12,_,_,_,_⟩:=six HT13.out.ob
  rw [HNV.out,HNB.out] at HT14
  have e1:ns.map (nvF k dm V s) ++ [nvF k dm V s xv] = ((pre ++ [(⟨xv,xo,xb⟩:Vx)]).map Vx.v).map (nvF k dm V s):=by rw [List.map_append,HNS.out,List.map_append]; rfl
  have e2:ns.map (ncF k dm V s) ++ [ncF k dm V s xv] = ((pre ++ [(⟨xv,xo,xb⟩:Vx)]).map Vx.v).map (ncF k dm V s):=by rw [List.map_append,HNS.out,List.map_append]; rfl
  rw [e1,e2] at HT14
  clear ho13 hg13 HQ12 HT12 HN12 HLB HZ12 HK12 HT11 HK11 a2 HK13 HT13 HNV HNB e1 e2
  go_wp2
  exact ⟨HK14.out.1,HK14.out.2,_,_,HT14.out⟩
 case done =>
  rintro D xs W hD hxs ⟨va,vb,hT⟩ hK
  rw [hxs] at hT
  have HT:=jH hT; have HDK:=jH hK
  have HDW:Hid (w.heap.size <= D):=jH (Nat.le_trans HH7.out.below.size hD)
  clear hT hK hxs hD
  obtain ⟨Aq,cq,rfl,hqa⟩:=HT.out.qo.form
  obtain ⟨Ab,cb,rfl,hba⟩:=HT.out.mo.form
  rw [List.length_map,List.length_map,List.length_range] at HT
  have HTL:=jH (tell_any k st so dm ep V L Ae Aq Ab Av ce cq cb cv (n0 + 1 + 1 + 1) be s.vals (nxtV k dm V s) (nxtC k dm V s) (.int .i64 (step + 1)) (.slice none 0 0) (.int .i64 0) (.int .i64 0) W (HE.out.below HT.out.below) HT.out.ob hqa hba (HVA.out.below HT.out.below) (nxtV_len ..) (nxtC_len ..) HVL.out HNR.out HVR.out hV hL HFI.out)
  clear hqa hba
  obtain ⟨c0,c1,c2,c3,c4,c5,_⟩:=six (HF0.out _ _ _ _ _ _ _ HT.out)
  obtain ⟨_,d1,_,_,_,_,_⟩:=six (HF1.out _ _ _ _ _ _ _ HT.out)
  go_wp2_with fail
  refine HTL.out.mono ?_
  rintro e w9 ⟨⟨v9,rfl⟩,h9⟩
  obtain ⟨vi,hbx,hki,hg9⟩:=h9.out
  obtain ⟨Aj,cj,rfl,_⟩:=hki.room
  rw [inb_len] at hki hbx
  have HBX:=jH hbx; have HKI:=jH hki; have HG9:=jH hg9
  have hrb:w9.heap[n0 + 1 + 1]? = some (.cells #[.int .i64 0,.slice none 0 0,.slice none 0 0,.slice none 0 0,.int .i64 0,.int .i64 0] 45 (0,0)):=(hg9.block _ (lt_of_block (HF2.out _ _ _ _ _ _ _ HT.out)) (by intro e; have:=Option.some.inj e; omega)).trans (HF2.out _ _ _ _ _ _ _ HT.out)
  have hdk:w9.heap[D]? = some (.deferred (some [])):=(hg9.block _ (lt_of_block HDK.out) (by
   intro e
   have e:=Option.some.inj e
   have h1:=HDK.out
   rw [e,HT.out.ob] at h1; cases h1)).trans HDK.out
  have HRB:=jH hrb; have HD9:=jH hdk
  clear hbx hki hg9 hrb hdk h9 HTL c0 c1 c2 c3 c4 c5 d1
  obtain ⟨s0,s1,s2,s3,s4,s5,_⟩:=six HBX.out
  obtain ⟨r0,r1,r2,r3,r4,r5,rl⟩:=six HRB.out
  have f0:=warm HRB.out 0; have f1:=warm HRB.out 1; have f2:=warm HRB.out 2; have f3:=warm HRB.out 3; have f4:=warm HRB.out 4; have f5:=warm HRB.out 5
  go_wp2
  have hX:=put6_heap HRB.out (.int .i64 (step + 1)) (.slice Aq V cq) (.slice Ab V cb) (.slice Aj V cj) (.int .i64 (sumS k V L (nxtV k dm V s))) (.int .i64 (mosS k V s.vals (nxtV k dm V s) (nxtC k dm V s)))
  have hXo:∀ j,j ≠ n0 + 1 + 1->(put6 w9 (n0 + 1 + 1) (.int .i64 (step + 1)) (.slice Aq V cq) (.slice Ab V cb) (.slice Aj V cj) (.int .i64 (sumS k V L (nxtV k dm V s))) (.int .i64 (mosS k V s.vals (nxtV k dm V s) (nxtC k dm V s)))).heap[j]? = w9.heap[j]?:=fun j hj => put6_other _ _ _ _ _ _ _ _ _ hj
  have hB9:Below w.heap.size w w9:=Below.grown HT.out.below HG9.out HT.out.below.size (fun j e => by have e:=Option.some.inj e; have:=HN0.out; omega)
  have hBX:=put6_below hB9 (b:=n0 + 1 + 1) (by have:=HN0.out; omega) (.int .i64 (step + 1)) (.slice Aq V cq) (.slice Ab V cb) (.slice Aj V cj) (.int .i64 (sumS k V L (nxtV k dm V s))) (.int .i64 (mosS k V s.vals (nxtV k dm V s) (nxtC k dm V s)))
  have hq1:=put6_moved (own_by HT.out.qo HT.out.ob (by decide) HG9.out) HRB.out (by decide) (.int .i64 (step + 1)) (.slice Aq V cq) (.slice Ab V cb) (.slice Aj V cj) (.int .i64 (sumS k V L (nxtV k dm V s))) (.int .i64 (mosS k V s.vals (nxtV k dm V s) (nxtC k dm V s)))
  have hb1:=put6_moved (own_by HT.out.mo HT.out.ob (by decide) HG9.out) HRB.out (by decide) (.int .i64 (step + 1)) (.slice Aq V cq) (.slice Ab V cb) (.slice Aj V cj) (.int .i64 (sumS k V L (nxtV k dm V s))) (.int .i64 (mosS k V s.vals (nxtV k dm V s) (nxtC k dm V s)))
  have hk1:=put6_moved HKI.out HRB.out (by decide) (.int .i64 (step + 1)) (.slice Aq V cq) (.slice Ab V cb) (.slice Aj V cj) (.int .i64 (sumS k V L (nxtV k dm V s))) (.int .i64 (mosS k V s.vals (nxtV k dm V s) (nxtC k dm V s)))
  obtain ⟨X,hXe⟩:∃ X,X = put6 w9 (n0 + 1 + 1) (.int .i64 (step + 1)) (.slice Aq V cq) (.slice Ab V cb) (.slice Aj V cj) (.int .i64 (sumS k V L (nxtV k dm V s))) (.int .i64 (mosS k V s.vals (nxtV k dm V s) (nxtC k dm V s))):=⟨_,rfl⟩
  rw [<- hXe] at hX hXo hBX hq1 hb1 hk1
  unfold put6 at hXe
  rw [<- hXe]
  have hne:D ≠ n0 + 1 + 1:=by
   intro e
   have h1:=HD9.out
   rw [e,HRB.out] at h1; cases h1
  have hKX:X.heap[D]? = some (.deferred (some [])):=(hXo D hne).trans HD9.out
  have hP:(X.putObj D (.deferred none)).heap[n0 + 1 + 1]? = some (.cells #[.int .i64 (step + 1),.slice Aq V cq,.slice Ab V cb,.slice Aj V cj,.int .i64 (sumS k V L (nxtV k dm V s)),.int .i64 (mosS k V s.vals (nxtV k dm V s) (nxtC k dm V s))] 45 (0,0)):=(World.putObj_heap_other (Ne.symm hne)).trans hX
  refine ⟨by simp,.inl ⟨_,_,rfl,run_takeDeferred hKX,_,res_s _ _ _ _ _ _ _ _ _ _ _ Tryz.results38 rfl hP,_,rfl,jH ⟨.slice Aq V cq,.slice Ab V cb,.slice Aj V cj,rfl,?_,?_,?_⟩,jH (shut_below hBX HDW.out hKX _)⟩⟩
  ·exact own_mono (own_shut hq1 hKX _) (by have:=HN0.out; omega)
  ·exact own_mono (own_shut hb1 hKX _) (by have:=HN0.out; omega)
  ·exact own_mono (own_shut hk1 hKX _) HT.out.below.size
 case stop =>
  rintro D cd pre W hD hS hF hK
  exact hF.elim
open Go.RowKit Go.Shelf Gr Wd Ws Fx Rk Lb Al In
open Pa (vl bt vl_of vl_at bt_of bt_at)
attribute [local go_sem] Oper.semAt_some
def svF (k so:Int) (V:Nat) (v:Nat):Int:=sttM k (V:Int) (v:Int) so
def scF (k so:Int) (v:Nat):Bool:=sttB k (v:Int) so
set_option maxRecDepth 100000 in
set_option maxHeartbeats 8000000 in
theorem sstart_any (k st so dm ep:Int) (V:Nat) (L:List Ed) (Ae:Option Addr) (ce be:Nat) (w:World)
 (hE:WOwn w be (.slice Ae V ce) (egs V L)) (hV:V <= 512) (hL:L.length <= 1000) (hfit:∀ e ∈ L,fitE (V:Int) e = true) :
 Calls Tryz.prog 36 #[.agg #[.int .u8 k,.int .i64 st,.int .i64 so,.int .i64 dm,.int .i64 ep,.slice Ae V ce]] w fun e w' => ∃ x,e = .returned x/\Hid (SOwn w' w.heap.size x 0 (strS k so V L))/\Hid (Below w.heap.size w w'):=by
 have mixed:=mixedI
 have HE:=jH hE; have HFI:=jH hfit
 clear hE hfit
 have f35:Fence.wide.fn 36:=trivial
 refine (callsIn_wide (n:=6)).1 (callsIn_of_wp_marks Tryz.func36 rfl f35 ?_ rfl)
 refine (wpIn_wide (n:=6)).2 ?_
 simp only [Tryz.ntmps36,List.size_toArray,List.length_cons,List.length_nil,Nat.reduceAdd,Nat.reduceSub,Array.replicate_succ,Array.replicate_zero,List.push_toArray,List.append_toArray,List.nil_append,List.cons_append]
 obtain ⟨W4,hW4⟩:∃ W4,W4 = ((w.alloc (.cells #[.int .u8 k,.int .i64 st,.int .i64 so,.int .i64 dm,.int .i64 ep,.slice Ae V ce] 71)).alloc (.cells #[.int .i64 0,.slice none 0 0,.slice none 0 0,.slice none 0 0,.int .i64 0,.int .i64 0] 45)).alloc (.cells #[.int .i64 0,.slice none 0 0,.slice none 0 0,.slice none 0 0,.int .i64 0,.int .i64 0] 45):=⟨_,rfl⟩
 have hal:=al3 w (.cells #[.int .u8 k,.int .i64 st,.int .i64 so,.int .i64 dm,.int .i64 ep,.slice Ae V ce] 71) (.cells #[.int .i64 0,.slice none 0 0,.slice none 0 0,.slice none 0 0,.int .i64 0,.int .i64 0] 45) (.cells #[.int .i64 0,.slice none 0 0,.slice none 0 0,.slice none 0 0,.int .i64 0,.int .i64 0] 45)
 rw [<- hW4] at hal
 obtain ⟨n0,e0⟩:∃ n0,n0 = w.heap.size:=⟨_,rfl⟩
 obtain ⟨fx,hfx⟩:∃ fx:Fxd,fx = [(n0,#[.int .u8 k,.int .i64 st,.int .i64 so,.int .i64 dm,.int .i64 ep,.slice Ae V ce],71),(n0 + 1,#[.int .i64 0,.slice none 0 0,.slice none 0 0,.slice none 0 0,.int .i64 0,.int .i64 0],45)]:=⟨_,rfl⟩
 have HH4:Hid (NxH w W4 (n0 + 1 + 1) (n0 + 3) fx (.int .i64 0) (.slice none 0 0) (.int .i64 0) (.int .i64 0) [] [] (.slice none 0 0) (.slice none 0 0) (.slice none 0 0) (.slice none 0 0)):=jH (by
  refine ⟨hal.2.2.2,?_,by rw [e0]; exact hal.2.2.1,QOwn.none_ _ _,BOwn.none_ _ _,?_,by omega⟩
  ·rw [hfx]; intro p hp
   simp only [List.mem_cons,List.not_mem_nil,or_false] at hp
   rcases hp with rfl | rfl
   ·rw [e0]; exact hal.1
   ·rw [e0]; exact hal.2.1
  ·rw [hfx]; intro p hp
   simp only [List.mem_cons,List.not_mem_nil,or_false] at hp
   rcases hp with rfl | rfl
   ·exact ⟨by simp only []; omega,by simp only []; decide,by simp only []; decide⟩
   ·exact ⟨by simp only []; omega,by simp only []; decide,by simp only []; decide⟩)
 have HF0:Hid (∀ W l1 l2 va ua vb ub,NxH w W (n0 + 1 + 1) (n0 + 3) fx (.int .i64 0) (.slice none 0 0) (.int .i64 0) (.int .i64 0) l1 l2 va ua vb ub->W.heap[n0]? = some (.cells #[.int .u8 k,.int .i64 st,.int .i64 so,.int .i64 dm,.int .i64 ep,.slice Ae V ce] 71 (0,0))):=jH (fun W _ _ _ _ _ _ h => h.fixed (n0,#[.int .u8 k,.int .i64 st,.int .i64 so,.int .i64 dm,.int .i64 ep,.slice Ae V ce],71) (by rw [hfx]; exact List.mem_cons_self))
 have HF2:Hid (∀ W l1 l2 va ua vb ub,NxH w W (n0 + 1 + 1) (n0 + 3) fx (.int .i64 0) (.slice none 0 0) (.int .i64 0) (.int .i64 0) l1 l2 va ua vb ub->W.heap[n0 + 1]? = some (.cells #[.int .i64 0,.slice none 0 0,.slice none 0 0,.slice none 0 0,.int .i64 0,.int .i64 0] 45 (0,0))):=jH (fun W _ _ _ _ _ _ h => h.fixed (n0 + 1,#[.int .i64 0,.slice none 0 0,.slice none 0 0,.slice none 0 0,.int .i64 0,.int .i64 0],45) (by rw [hfx]; exact List.mem_cons_of_mem _ List.mem_cons_self))
 have HN0:Hid (w.heap.size <= n0):=jH (by omega)
 have hs4:W4.heap.size = n0 + 3:=by rw [hW4,e0]; simp
 clear hal hfx
 go_upto_region 2 with fail
 rw [<- hW4,show w.heap.size = n0 from e0.symm]
 clear hW4 e0
 have HS4:=jH hs4
 clear hs4
 obtain ⟨c0,c1,c2,c3,c4,c5,cl⟩:=six (HF0.out _ _ _ _ _ _ _ HH4.out)
 go_wp2_with fail
 refine (vertices_any k st so dm ep Ae V ce W4).mono ?_
 rintro e W7 ⟨rfl,hW7⟩
 have hb7:Below W4.heap.size W4 W7:=by rw [hW7]; exact (Below.refl _ W4).alloc (Nat.le_refl _) _
 have HH7:=jH (HH4.out.step hb7)
 have HI7:Hid (ItV W7 W4.heap.size be k st so dm ep (.slice Ae V ce) (egs V L)):=jH ⟨by rw [hW7]; exact heap_alloc_new W4 _,(HE.out.below HH4.out.below).below hb7⟩
 obtain ⟨bv,ebv⟩:∃ bv,bv = W4.heap.size:=⟨_,rfl⟩
 rw [<- ebv] at HI7 ⊢
 clear hW7 hb7 HH4 c0 c1 c2 c3 c4 c5 cl ebv HS4
 go_wp2_with fail
 refine (wpIn_wide (n:=6)).1 ?_
 refine Pt.wp_told (n:=6) (R':=fun (x:Vx) a' W => x.v < V/\a' = Act.mk #[.agg #[.int .u8 k,.int .i64 st,.int .i64 so,.int .i64 dm,.int .i64 ep,.slice Ae V ce],.pointer (some ⟨n0,0,none⟩),.pointer (some ⟨n0 + 1,0,none⟩),.pointer (some ⟨n0 + 1 + 1,0,none⟩),.int .i64 (x.v:Int),undef,undef,.agg #[.int .u8 k,.int .i64 st,.int .i64 so,.int .i64 dm,.int .i64 ep,.slice Ae V ce],.func (.func 78) #[] #[.pointer (some ⟨bv,0,none⟩)],.int .i64 (x.v:Int),.agg #[x.o,x.b],undef,undef,undef,undef,undef,undef,undef,undef,undef,undef,undef,undef,undef,undef,undef,undef,undef,undef,undef,undef,undef,undef,undef,undef,undef,undef,undef,undef] []) rfl (by omega) (gf:=78) (lb:=#[.pointer (some ⟨bv,0,none⟩)]) rfl trivial (enters_of Tryz.func78 (by kernel_rfl) rfl)
  (vert_told 5 (by omega) bv be k st so dm ep (.slice Ae V ce) (egs V L) V W7 HI7.out (egs_len V L) (by omega)) Kq.trans Kq.obj (Below.refl _ _) (fun _ => rfl)
  (fun _ _ _ _ _ _ _ _ h => h)
  (fun pre W => ∃ va vb,NxH w W (n0 + 1 + 1) (n0 + 3) fx (.int .i64 0) (.slice none 0 0) (.int .i64 0) (.int .i64 0) ((pre.map Vx.v).map (svF k so V)) ((pre.map Vx.v).map (scF k so)) va va vb vb)
  (fun _ _ _ => False)
  (fun s' A B row hs hg hr => by obtain ⟨va,vb,h⟩:=hs; exact ⟨va,vb,h.kept hg (fun r e => (hr r e).2) (fun r e => Nat.le_trans HH7.out.below.size (hr r e).1)⟩)
  (fun cd s' A B row hs hg hr => hs)
  ⟨_,_,HH7.out⟩ ?assign ?body ?done ?stop
 case assign =>
  intro lp pre x W K hI hR hK
  obtain ⟨L',B',g1,_,_⟩:=hR
  have hxl:x.v < V:=by have:=lt_at g1; rwa [egs_len] at this
  have HH:=jH (hK _ _ (keeps_below (Below.refl _ W)) (Kq.refl W) hI ⟨hxl,rfl⟩)
  dsimp only [encsV]
  clear hK hI g1
  gi_wp2
  exact HH.out
 case body =>
  rintro lp pre x a' W ⟨va,vb,hT⟩ ⟨hxl,rfl⟩ hlen
  obtain ⟨ns,hns⟩:∃ ns,pre.map Vx.v = ns:=⟨_,rfl⟩
  rw [hns] at hT
  have hnl:ns.length = pre.length:=by rw [<- hns,List.length_map]
  have HNS:=jH hns
  have HT:=jH hT
  clear hns hT
  obtain ⟨xv,xo,xb⟩:=x
  try simp only at hxl ⊢
  -- region 4: where the vertex begins
  obtain ⟨nv,hnv⟩:∃ nv,nv = svF k so V xv:=⟨_,rfl⟩
  obtain ⟨nb,hnb⟩:∃ nb,nb = scF k so xv:=⟨_,rfl⟩
  have C1:Hid (Calls Tryz.prog 59 #[.agg #[.int .u8 k,.int .i64 st,.int .i64 so,.int .i64 dm,.int .i64 ep],.int .i64 (V:Int),.int .i64 (xv:Int)] W fun e w' => e = .returned (.tuple #[.int .i64 nv,.bool nb])/\Below W.heap.size W w'):=jH (by
   rw [hnv,hnb]
   exact Al.start_any k st so dm ep (V:Int) (xv:Int) (by omega) (by omega) (by omega) (by omega) W)
  have HNV:=jH hnv; have HNB:=jH hnb
  clear hnv hnb
  obtain ⟨c0,c1,c2,c3,c4,c5,_⟩:=six (HF0.out _ _ _ _ _ _ _ HT.out)
  refine wpIn_block ?_
  refine wpIn_seq_k fun K5 hK5 => ?_
  refine Tl.region_round (by rfl) ?hq4 ?_
  case hq4 => rintro ⟨_,_,h⟩; exact h
  go_wp2_with fail
  refine C1.out.mono ?_
  rintro e W8 ⟨rfl,hb8⟩
  have HT8:=jH (HT.out.step hb8)
  have HK8:=jH (KK.below hb8)
  clear hb8 C1 HT c0 c1 c2 c3 c4 c5
  go_wp2
  -- region 5: its value
  refine wpIn_seq_k fun K6 hK6 => ?_
  refine Tl.region_round (by rfl) ?hq5 ?_
  case hq5 => rintro ⟨_,_,h⟩; exact h
  obtain ⟨Aq,cq,rfl,_⟩:=HT8.out.qo.form
  obtain ⟨Ab,cb,rfl,_⟩:=HT8.out.mo.form
  rw [List.length_map,List.length_map,hnl] at HT8
  have HLQ:Hid ((ns.map (svF k so V)).length < 1000000000):=jH (by rw [List.length_map,hnl]; omega)
  have HLB:Hid ((ns.map (scF k so)).length < 1000000000):=jH (by rw [List.length_map,hnl]; omega)
  obtain ⟨_,a1,_,_,_,_,_⟩:=six HT8.out.ob
  have hb9:Below W8.heap.size W8 (W8.alloc (.cells #[.int .i64 nv] 2)):=(Below.refl _ W8).alloc (Nat.le_refl _) _
  have HT9:=jH (HT8.out.step hb9)
  have HQ9:=jH HT9.out.qo
  have HN9:Hid ((W8.alloc (.cells #[.int .i64 nv] 2)).heap[W8.heap.size]? = some (.cells #[.int .i64 nv] 2 (0,0))):=jH (heap_alloc_new W8 _)
  have HZ9:Hid (n0 + 3 <= (W8.alloc (.cells #[.int .i64 nv] 2)).heap.size):=jH (lt_of_block HT9.out.ob)
  have HK9:=jH (HK8.out.trans (KK.below hb9))
  clear hb9
  go_wp2_with (at_builtin; refine app_q rfl (.tmp 22) (.tmp 24) rfl (n0 + 3) _ _ _ rfl HQ9.out _ rfl HN9.out HLQ.out HZ9.out ?_)
  intro v10 w10 ho10 hg10
  have HK10:=jH (HK9.out.trans (KK.grown HQ9.out hg10 (by decide) (by decide) (by decide)))
  have HT10:=jH (HT9.out.grownQ hg10 ho10)
  obtain ⟨A10,c10,rfl,_⟩:=ho10.form
  rw [show (ns.map (svF k so V) ++ [nv]).length = pre.length + 1 by simp [hnl]] at HT10 ⊢
  have HT11:=jH HT10.out.putQ
  have HK11:=jH (HK10.out.trans (KK.set (i:=1) HT10.out.ob (.slice A10 (pre.length + 1) c10) (by decide) (by decide) (by decide)))
  have fr10:=warm HT10.out.ob 1
  obtain ⟨_,a11,_,_,_,_,_⟩:=six HT10.out.ob
  obtain ⟨W11,hW11⟩:∃ W11,W11 = w10.setCell ⟨n0 + 1 + 1,1,none⟩ (.slice A10 (pre.length + 1) c10):=⟨_,rfl⟩
  rw [<- hW11] at HT11 HK11
  clear ho10 hg10 HQ9 HT9 HN9 HLQ HZ9 HK9 HT8 HK8 a1 HK10
  go_wp2
  rw [<- hW11]
  clear hW11 a11 fr10 HT10
  -- region 6: its mark
  refine Tl.region_round (by rfl) ?hq6 ?_
  case hq6 => rintro ⟨_,_,h⟩; exact h
  obtain ⟨_,_,a2,_,_,_,_⟩:=six HT11.out.ob
  have hb12:Below W11.heap.size W11 (W11.alloc (.cells #[.bool nb] 4)):=(Below.refl _ W11).alloc (Nat.le_refl _) _
  have HT12:=jH (HT11.out.step hb12)
  have HQ12:=jH HT12.out.mo
  have HN12:Hid ((W11.alloc (.cells #[.bool nb] 4)).heap[W11.heap.size]? = some (.cells #[.bool nb] 4 (0,0))):=jH (heap_alloc_new W11 _)
  have HZ12:Hid (n0 + 3 <= (W11.alloc (.cells #[.bool nb] 4)).heap.size):=jH (lt_of_block HT12.out.ob)
  have HK12:=jH (HK11.out.trans (KK.below hb12))
  clear hb12
  go_wp2_with (at_builtin; refine app_b rfl (.tmp 28) (.tmp 30) rfl (n0 + 3) _ _ _ rfl HQ12.out _ rfl HN12.out HLB.out HZ12.out ?_)
  intro v13 w13 ho13 hg13
  have HK13:=jH (HK12.out.trans (KK.grown HQ12.out hg13 (by decide) (by decide) (by decide)))
  have HT13:=jH (HT12.out.grownB hg13 ho13)
  obtain ⟨A13,c13,rfl,_⟩:=ho13.form
  rw [show (ns.map (scF k so) ++ [nb]).length = pre.length + 1 by simp [hnl]] at HT13 ⊢
  have HT14:=jH HT13.out.putB
  have HK14:=jH (HK13.out.trans (KK.set (i:=2) HT13.out.ob (.slice A13 (pre.length + 1) c13) (by decide) (by decide) (by decide)))
  have fr13:=warm HT13.out.ob 2
  obtain ⟨_,_,a12,_,_,_,_⟩:=six HT13.out.ob
  rw [HNV.out,HNB.out] at HT14
  have e1:ns.map (svF k so V) ++ [svF k so V xv] = ((pre ++ [(⟨xv,xo,xb⟩:Vx)]).map Vx.v).map (svF k so V):=by rw [List.map_append,HNS.out,List.map_append]; rfl
  have e2:ns.map (scF k so) ++ [scF k so xv] = ((pre ++ [(⟨xv,xo,xb⟩:Vx)]).map Vx.v).map (scF k so):=by rw [List.map_append,HNS.out,List.map_append]; rfl
  rw [e1,e2] at HT14
  clear ho13 hg13 HQ12 HT12 HN12 HLB HZ12 HK12 HT11 HK11 a2 HK13 HT13 HNV HNB e1 e2
  go_wp2
  have h14:=HT14.out
  simp only [List.map_map] at h14
  exact ⟨HK14.out.1,HK14.out.2,_,_,h14⟩
 case done =>
  rintro D xs W hD hxs ⟨va,vb,hT⟩ hK
  rw [hxs] at hT
  have HT:=jH hT; have HDK:=jH hK
  have HDW:Hid (w.heap.size <= D):=jH (Nat.le_trans HH7.out.below.size hD)
  clear hT hK hxs hD
  obtain ⟨Aq,cq,rfl,hqa⟩:=HT.out.qo.form
  obtain ⟨Ab,cb,rfl,hba⟩:=HT.out.mo.form
  rw [List.length_map,List.length_map,List.length_range] at HT
  have HIR:Hid (∀ x ∈ strV k so V,I63 x):=jH (fun x hx => (strV_in hV x hx).i63)
  have HTL:=jH (tell_any k st so dm ep V L Ae Aq Ab Aq ce cq cb cq (n0 + 1 + 1) be (strV k so V) (strV k so V) (strC k so V) (.int .i64 0) (.slice none 0 0) (.int .i64 0) (.int .i64 0) W (HE.out.below HT.out.below) HT.out.ob hqa hba hqa (by simp [strV]) (by simp [strC]) (by simp [strV]) HIR.out HIR.out hV hL HFI.out)
  clear hqa hba
  obtain ⟨c0,c1,c2,c3,c4,c5,_⟩:=six (HF0.out _ _ _ _ _ _ _ HT.out)
  obtain ⟨_,d1,_,_,_,_,_⟩:=six HT.out.ob
  go_wp2_with fail
  refine HTL.out.mono ?_
  rintro e w9 ⟨⟨v9,rfl⟩,h9⟩
  obtain ⟨vi,hbx,hki,hg9⟩:=h9.out
  obtain ⟨Aj,cj,rfl,_⟩:=hki.room
  rw [inb_len] at hki hbx
  have HBX:=jH hbx; have HKI:=jH hki; have HG9:=jH hg9
  have hrb:w9.heap[n0 + 1]? = some (.cells #[.int .i64 0,.slice none 0 0,.slice none 0 0,.slice none 0 0,.int .i64 0,.int .i64 0] 45 (0,0)):=(hg9.block _ (lt_of_block (HF2.out _ _ _ _ _ _ _ HT.out)) (by intro e; have:=Option.some.inj e; omega)).trans (HF2.out _ _ _ _ _ _ _ HT.out)
  have hdk:w9.heap[D]? = some (.deferred (some [])):=(hg9.block _ (lt_of_block HDK.out) (by
   intro e
   have e:=Option.some.inj e
   have h1:=HDK.out
   rw [e,HT.out.ob] at h1; cases h1)).trans HDK.out
  have HRB:=jH hrb; have HD9:=jH hdk
  have HQ9:=jH (own_by HT.out.qo HT.out.ob (by decide) hg9); have HM9:=jH (own_by HT.out.mo HT.out.ob (by decide) hg9)
  have HB9:Hid (Below w.heap.size w w9):=jH (Below.grown HT.out.below hg9 HT.out.below.size (fun j e => by have e:=Option.some.inj e; have:=HN0.out; omega))
  clear hbx hki hg9 hrb hdk h9 HTL c0 c1 c2 c3 c4 c5 d1
  obtain ⟨_,_,_,_,_,s5,_⟩:=six HBX.out
  have g5:=warm HBX.out 5
  obtain ⟨W10,hW10⟩:∃ W10,W10 = w9.setCell ⟨n0 + 1 + 1,5,none⟩ (.int .i64 0):=⟨_,rfl⟩
  have ho10:∀ j,j ≠ n0 + 1 + 1->W10.heap[j]? = w9.heap[j]?:=fun j hj => by rw [hW10]; exact set_other _ _ _ _ _ hj
  have hbx10:W10.heap[n0 + 1 + 1]? = some (.cells #[.int .i64 0,.slice Aq V cq,.slice Ab V cb,.slice Aj V cj,.int .i64 (sumS k V L (strV k so V)),.int .i64 0] 45 (0,0)):=by rw [hW10]; exact set_heap (i:=5) HBX.out (.int .i64 0)
  have HBX10:=jH hbx10
  have HRB10:=jH ((ho10 _ (by omega)).trans HRB.out)
  have HQ10:=jH (own_moved HQ9.out HBX.out (by decide) ho10); have HM10:=jH (own_moved HM9.out HBX.out (by decide) ho10); have HK10:=jH (own_moved HKI.out HBX.out (by decide) ho10)
  have HB10:Hid (Below w.heap.size w W10):=jH (by rw [hW10]; exact HB9.out.setCell (p:=⟨n0 + 1 + 1,5,none⟩) (by show w.heap.size <= n0 + 1 + 1; have:=HN0.out; omega) _)
  have HD10:Hid (W10.heap[D]? = some (.deferred (some []))):=jH ((ho10 D (by
   intro e
   have h1:=HD9.out
   rw [e,HBX.out] at h1; cases h1)).trans HD9.out)
  have HW10:=jH hW10
  clear hbx10 ho10 hW10
  go_upto_region 9 with fail
  rw [<- HW10.out]
  clear s5 g5
  obtain ⟨s0,s1,s2,s3,s4,s5,_⟩:=six HBX10.out
  obtain ⟨r0,r1,r2,r3,r4,r5,rl⟩:=six HRB10.out
  have f0:=warm HRB10.out 0; have f1:=warm HRB10.out 1; have f2:=warm HRB10.out 2; have f3:=warm HRB10.out 3; have f4:=warm HRB10.out 4; have f5:=warm HRB10.out 5
  go_wp2
  have hX:=put6_heap HRB10.out (.int .i64 0) (.slice Aq V cq) (.slice Ab V cb) (.slice Aj V cj) (.int .i64 (sumS k V L (strV k so V))) (.int .i64 0)
  have hXo:∀ j,j ≠ n0 + 1->(put6 W10 (n0 + 1) (.int .i64 0) (.slice Aq V cq) (.slice Ab V cb) (.slice Aj V cj) (.int .i64 (sumS k V L (strV k so V))) (.int .i64 0)).heap[j]? = W10.heap[j]?:=fun j hj => put6_other _ _ _ _ _ _ _ _ _ hj
  have hBX:=put6_below HB10.out (b:=n0 + 1) (by have:=HN0.out; omega) (.int .i64 0) (.slice Aq V cq) (.slice Ab V cb) (.slice Aj V cj) (.int .i64 (sumS k V L (strV k so V))) (.int .i64 0)
  have hq1:=put6_moved HQ10.out HRB10.out (by decide) (.int .i64 0) (.slice Aq V cq) (.slice Ab V cb) (.slice Aj V cj) (.int .i64 (sumS k V L (strV k so V))) (.int .i64 0)
  have hb1:=put6_moved HM10.out HRB10.out (by decide) (.int .i64 0) (.slice Aq V cq) (.slice Ab V cb) (.slice Aj V cj) (.int .i64 (sumS k V L (strV k so V))) (.int .i64 0)
  have hk1:=put6_moved HK10.out HRB10.out (by decide) (.int .i64 0) (.slice Aq V cq) (.slice Ab V cb) (.slice Aj V cj) (.int .i64 (sumS k V L (strV k so V))) (.int .i64 0)
  obtain ⟨X,hXe⟩:∃ X,X = put6 W10 (n0 + 1) (.int .i64 0) (.slice Aq V cq) (.slice Ab V cb) (.slice Aj V cj) (.int .i64 (sumS k V L (strV k so V))) (.int .i64 0):=⟨_,rfl⟩
  rw [<- hXe] at hX hXo hBX hq1 hb1 hk1
  unfold put6 at hXe
  rw [<- hXe]
  have hne:D ≠ n0 + 1:=by
   intro e
   have h1:=HD10.out
   rw [e,HRB10.out] at h1; cases h1
  have hKX:X.heap[D]? = some (.deferred (some [])):=(hXo D hne).trans HD10.out
  have hP:(X.putObj D (.deferred none)).heap[n0 + 1]? = some (.cells #[.int .i64 0,.slice Aq V cq,.slice Ab V cb,.slice Aj V cj,.int .i64 (sumS k V L (strV k so V)),.int .i64 0] 45 (0,0)):=(World.putObj_heap_other (Ne.symm hne)).trans hX
  refine ⟨by simp,.inl ⟨_,_,rfl,run_takeDeferred hKX,_,res_s _ _ _ _ _ _ _ _ _ _ _ Tryz.results36 rfl hP,_,rfl,jH ⟨.slice Aq V cq,.slice Ab V cb,.slice Aj V cj,rfl,?_,?_,?_⟩,jH (shut_below hBX HDW.out hKX _)⟩⟩
  ·exact own_mono (own_shut hq1 hKX _) (by have:=HN0.out; omega)
  ·exact own_mono (own_shut hb1 hKX _) (by have:=HN0.out; omega)
  ·exact own_mono (own_shut hk1 hKX _) HT.out.below.size
 case stop =>
  rintro D cd pre W hD hS hF hK
  exact hF.elim
end Go.Proofs.YtdcaekmgfcpbmaaGreat.Sq
