/-
  What is proved here: a contract of what is told of all. Conditions: at most 512 vertices, at most 1000 edges; values that may be.
-/
import Derived.Test.YtdcaekmgfcpbmaaGreatQdSqNmx
import Derived.Test.YtdcaekmgfcpbmaaGreatQdSqRowx
import Derived.Test.YtdcaekmgfcpbmaaGreatQdAlP5
namespace Go.Proofs.YtdcaekmgfcpbmaaGreat.Sq
open Go.RowKit Go.Shelf Gr Wd Ws Fx Rk Lb Al In
open Pa (vl bt vl_of vl_at bt_of bt_at)
attribute [local go_sem] Oper.semAt_some
set_option maxRecDepth 100000 in
set_option maxHeartbeats 8000000 in
theorem tell_any (k st so dm ep:Int) (V:Nat) (L:List Ed) (Ae Av Ac Aa:Option Addr) (ce cv cc ca b be:Nat) (was vals:List Int) (chg:List Bool) (a0 a3 a4 a5:Value) (w:World)
 (hE:WOwn w be (.slice Ae V ce) (egs V L)) (hb:w.heap[b]? = some (.cells #[a0,.slice Av V cv,.slice Ac V cc,a3,a4,a5] 45 (0,0)))
 (hv:IAt w Av vals) (hc:BAt w Ac chg) (ha:IAt w Aa was) (hvl:vals.length = V) (hcl:chg.length = V) (hal:was.length = V) (hvr:∀ x ∈ vals,I63 x) (har:∀ x ∈ was,I63 x) (hV:V <= 512) (hL:L.length <= 1000) (hfit:∀ e ∈ L,fitE (V:Int) e = true) :
 Calls Tryz.prog 60 #[.agg #[.int .u8 k,.int .i64 st,.int .i64 so,.int .i64 dm,.int .i64 ep,.slice Ae V ce],.pointer (some ⟨b,0,none⟩),.slice Aa V ca] w fun e w' => (∃ v,e = .returned v)/\Hid (∃ vi,w'.heap[b]? = some (.cells #[a0,.slice Av V cv,.slice Ac V cc,vi,.int .i64 (sumS k V L vals),.int .i64 (mosS k V was vals chg)] 45 (0,0))/\KOwn w' w.heap.size vi (inbS k V L vals chg)/\w.grownBy w' (some b)):=by
 have mixed:=mixedI
 have HE:=jH hE; have HSB:=jH hb; have HVA:=jH hv; have HCA:=jH hc; have HAA:=jH ha
 have HVL:=jH hvl; have HCL:=jH hcl; have HAL:=jH hal; have HVR:=jH hvr; have HAR:=jH har; have HFI:=jH hfit
 clear hE hb hv hc ha hvl hcl hal hvr har hfit
 obtain ⟨W6,hW6⟩:∃ W6,W6 = (((((w.alloc (.cells #[.int .u8 k,.int .i64 st,.int .i64 so,.int .i64 dm,.int .i64 ep,.slice Ae V ce] 71)).alloc (.cells #[.pointer (some ⟨b,0,none⟩)] 110)).alloc (.cells #[.slice Aa V ca] 27)).alloc (.cells #[.slice none 0 0] 57)).alloc (.cells #[.slice none 0 0] 130)).alloc (.cells #[.int .i64 0,.int .i64 0] 132):=⟨_,rfl⟩
 obtain ⟨n0,e0⟩:∃ n0,n0 = w.heap.size:=⟨_,rfl⟩
 have HH6:Hid (TlH w W6 n0 b k st so dm ep (.slice Ae V ce) Aa V ca L was vals chg [] [] [] (.slice none 0 0) (.slice none 0 0) (.slice none 0 0) (.slice none 0 0)):=jH (by rw [hW6,e0]; exact TlH.made ..)
 have hs6:W6.heap.size = n0 + 6:=by rw [hW6,e0]; simp
 have HS6:=jH hs6
 have HN0:Hid (w.heap.size <= n0):=jH (by omega)
 have HN06:Hid (w.heap.size <= n0 + 6):=jH (by omega)
 have f57:Fence.wide.fn 60:=trivial
 refine (callsIn_wide (n:=6)).1 (callsIn_of_wp_marks Tryz.func60 rfl f57 ?_ rfl)
 refine (wpIn_wide (n:=6)).2 ?_
 simp only [Tryz.ntmps60,List.size_toArray,List.length_cons,List.length_nil,Nat.reduceAdd,Nat.reduceSub,Array.replicate_succ,Array.replicate_zero,List.push_toArray,List.append_toArray,List.nil_append,List.cons_append]
 go_upto_region 4 with fail
 rw [<- hW6,show w.heap.size = n0 from e0.symm]
 clear hW6 hs6 e0
 obtain ⟨c0,c1,c2,c3,c4,c5,cl⟩:=six HH6.out.cb
 go_wp2_with fail
 refine (vertices_any k st so dm ep Ae V ce W6).mono ?_
 rintro e W7 ⟨rfl,hW7⟩
 have hb7:Below W6.heap.size W6 W7:=by rw [hW7]; exact (Below.refl _ W6).alloc (Nat.le_refl _) _
 have HH7:=jH (HH6.out.step hb7)
 have HI7:Hid (ItV W7 W6.heap.size be k st so dm ep (.slice Ae V ce) (egs V L)):=jH ⟨by rw [hW7]; exact heap_alloc_new W6 _,(HE.out.below HH6.out.below).below hb7⟩
 obtain ⟨bv,ebv⟩:∃ bv,bv = W6.heap.size:=⟨_,rfl⟩
 rw [<- ebv] at HI7 ⊢
 have HS7:Hid (n0 + 6 <= W7.heap.size):=jH (by rw [<- HS6.out]; exact hb7.size)
 clear hW7 hb7 HH6 c0 c1 c2 c3 c4 c5 cl ebv HS6
 go_wp2_with fail
 refine (wpIn_wide (n:=6)).1 ?_
 refine Pt.wp_told (n:=6) (R':=fun (x:Vx) a' W => RV (egs V L) x W/\∃ b10:Nat,a' = Act.mk #[.agg #[.int .u8 k,.int .i64 st,.int .i64 so,.int .i64 dm,.int .i64 ep,.slice Ae V ce],.pointer (some ⟨b,0,none⟩),.slice Aa V ca,.pointer (some ⟨n0,0,none⟩),.pointer (some ⟨n0 + 1,0,none⟩),.pointer (some ⟨n0 + 1 + 1,0,none⟩),.pointer (some ⟨n0 + 1 + 1 + 1,0,none⟩),.pointer (some ⟨n0 + 1 + 1 + 1 + 1,0,none⟩),.pointer (some ⟨n0 + 1 + 1 + 1 + 1 + 1,0,none⟩),.int .i64 (x.v:Int),.pointer (some ⟨b10,0,none⟩),undef,undef,.agg #[.int .u8 k,.int .i64 st,.int .i64 so,.int .i64 dm,.int .i64 ep,.slice Ae V ce],.func (.func 78) #[] #[.pointer (some ⟨bv,0,none⟩)],.int .i64 (x.v:Int),.agg #[x.o,x.b],undef,undef,undef,undef,undef,undef,undef,undef,undef,undef,undef,undef,undef,undef,undef,undef,undef,undef,undef,undef,undef,undef,undef,undef,undef,undef,undef,undef,undef,undef,undef,undef,undef,undef,undef,undef,undef,undef,undef,undef,undef,undef,undef,undef,undef,undef,undef,undef,undef,undef,undef,undef,undef,undef,undef,undef,undef,undef,undef,undef,undef,undef,undef,undef] []/\W.heap[b10]? = some (.cells #[x.o,x.b] 103 (0,0))) rfl (by omega) (gf:=78) (lb:=#[.pointer (some ⟨bv,0,none⟩)]) rfl trivial (enters_of Tryz.func78 (by kernel_rfl) rfl)
  (vert_told 5 (by omega) bv be k st so dm ep (.slice Ae V ce) (egs V L) V W7 HI7.out (egs_len V L) (by omega)) Kq.trans Kq.obj (Below.refl _ _) (fun _ => rfl)
  ?hRk
  (fun pre W => ∃ va vs,TlH w W n0 b k st so dm ep (.slice Ae V ce) Aa V ca L was vals chg (pre.map Vx.v) (pre.map Vx.v) (pre.map Vx.v) va va vs vs)
  (fun _ _ _ => False)
  (fun s A B row hs hg hr => by obtain ⟨va,vs,h⟩:=hs; exact ⟨va,vs,h.kept hg (fun r e => (hr r e).2) (fun r e => Nat.le_trans HH7.out.below.size (hr r e).1)⟩)
  (fun cd s A B row hs hg hr => hs)
  ⟨_,_,HH7.out⟩ ?assign ?body ?done ?stop
 case hRk =>
  rintro x a' W lp o o' h ho ⟨⟨L',B',g1,g4,g5⟩,b10,h2,h3⟩
  have hk:Kq W (W.putObj lp o'):=fun i c T fz _ hi => World.putObj_heap_other (fun e => by subst e; rw [h] at hi; injection hi with hi; subst hi; cases ho)
  exact ⟨⟨L',B',g1,own_kq g4 (.inr (.inr rfl)) hk,own_kq g5 (.inr (.inr rfl)) hk⟩,b10,h2,(hk _ _ _ _ (.inr (.inl rfl)) h3).trans h3⟩
 case assign =>
  intro lp pre x W K hI hR hK
  obtain ⟨va,vs,hT⟩:=hI
  obtain ⟨xv,xo,xb⟩:=x
  obtain ⟨L',B',g1,g4,g5⟩:=hR
  try simp only at g4 g5
  obtain ⟨A1,c1,rfl,_⟩:=g4.form
  obtain ⟨A2,c2,rfl,_⟩:=g5.form
  have hb:=(Below.refl _ W).alloc (Nat.le_refl _) (.cells #[.slice A1 L'.1.length c1,.slice A2 L'.2.length c2] 103)
  have HH:=jH (hK _ _ (keeps_below hb) (Kq.below hb) ⟨va,vs,hT.step hb⟩ ⟨⟨L',B',g1,g4.below hb,g5.below hb⟩,W.heap.size,rfl,heap_alloc_new W _⟩)
  dsimp only [encsV]
  clear hK hb g4 g5 hT
  gi_wp2
  exact HH.out
 case body =>
  rintro lp pre x a' W ⟨va,vs,hT⟩ ⟨⟨L',B',g1,g4,g5⟩,b10,rfl,hb10⟩ hlen
  obtain ⟨ns,hns⟩:∃ ns,pre.map Vx.v = ns:=⟨_,rfl⟩
  rw [hns] at hT
  have hnl:ns.length = pre.length:=by rw [<- hns,List.length_map]
  have HNS:=jH hns
  clear hns
  have hxl:x.v < V:=by have:=lt_at g1; rwa [egs_len] at this
  rw [egs_at hxl] at g1
  obtain rfl:=Option.some.inj g1
  try simp only at g4 g5
  obtain ⟨xv,xo,xb⟩:=x
  try simp only at hxl hb10 g4 g5 ⊢
  obtain ⟨A1,c1,rfl,_⟩:=g4.form
  obtain ⟨A2,c2,rfl,_⟩:=g5.form
  obtain ⟨n1,hn1⟩:∃ n1,n1 = (outE L (xv:Int)).length:=⟨_,rfl⟩
  obtain ⟨n2,hn2⟩:∃ n2,n2 = (bckE L (xv:Int)).length:=⟨_,rfl⟩
  rw [<- hn1] at g4; rw [<- hn2] at g5
  rw [<- hn1,<- hn2] at hb10 ⊢
  have HN1:=jH hn1; have HN2:=jH hn2; have HX0:Hid (RX W b10 B' L xv A1 A2 n1 n2 c1 c2):=jH ⟨hb10,g4,g5⟩; have HT:=jH hT
  clear hn1 hn2 g1 g4 g5 hb10 hT
  -- region 7: the vertex's value and mark
  obtain ⟨y,hy⟩:=at_lt vals xv (by rw [HVL.out]; exact hxl)
  obtain ⟨ch,hch⟩:=at_lt chg xv (by rw [HCL.out]; exact hxl)
  obtain ⟨z,hz⟩:=at_lt was xv (by rw [HAL.out]; exact hxl)
  obtain ⟨kv,ov,rfl,v0⟩:=(HVA.out.below HT.out.below) xv y hy
  obtain ⟨kc,oc,rfl,u0⟩:=(HCA.out.below HT.out.below) xv ch hch
  obtain ⟨ka,oa,rfl,_⟩:=HAA.out xv z hz
  have HY:=jH hy; have HCH:=jH hch; have HZ:=jH hz
  clear hy hch hz
  have hbx:=keep HSB.out HT.out.below
  obtain ⟨_,s1,s2,_,_,_,sl⟩:=six hbx
  have p0:W.cell? ⟨n0 + 1,0,none⟩ = some (.pointer (some ⟨b,0,none⟩)):=by rw [Lib.cell_of_heap HT.out.pb]; rfl
  have q0:=cell_regrown p0; have q1:=cell_regrown s1; have q2:=cell_regrown s2; have q3:=cell_regrown v0; have q4:=cell_regrown u0
  try dsimp only
  clear p0 s1 s2 v0 u0
  gi_wp2
  rename_i K8 hK8
  refine Tl.region_quiet_round mixed (by rfl) ?hq7 (by kernel_rfl) ?_
  case hq7 => rintro ⟨_,_,h⟩; exact h
  repeat (go_big_quiet_step (fail))
  refine wpQuiet_nil ?_
  intro W8 hw8
  have hb8:Below W.heap.size W W8:=by obtain ⟨⟨dq,osq⟩,rfl⟩:=hw8; exact below_regrown W dq osq
  have HT8:=jH (HT.out.step hb8)
  have HK8:=jH (KK.below hb8)
  have HX8:=jH (HX0.out.below hb8)
  have HB8:=jH hb8
  clear hb8 hw8 q0 q1 q2 q3 q4 hbx sl
  -- region 8: the vertex behind all
  refine hK8 _ _ ?_
  clear hK8
  refine wpIn_seq_k fun K9 hK9 => ?_
  refine Tl.region_round (by rfl) ?hq8 ?_
  case hq8 => rintro ⟨_,_,h⟩; exact h
  obtain ⟨Aal,cal,rfl,_⟩:=HT8.out.ao.form
  obtain ⟨m8,hm8⟩:∃ m8,m8 = (ns.map fun (v:Nat) => (v:Int)).length:=⟨_,rfl⟩
  rw [<- hm8] at HT8
  have hm8':m8 = pre.length:=by rw [hm8,List.length_map,hnl]
  have HL8:Hid ((ns.map fun (v:Nat) => (v:Int)).length < 1000000000):=jH (by rw [<- hm8,hm8']; omega)
  clear hm8 hm8'
  have a08:W8.cell? ⟨n0 + 1 + 1 + 1,0,none⟩ = some (.slice Aal m8 cal):=by rw [Lib.cell_of_heap HT8.out.ab]; rfl
  have hb9:Below W8.heap.size W8 (W8.alloc (.cells #[.int .i64 (xv:Int)] 3)):=(Below.refl _ W8).alloc (Nat.le_refl _) _
  have HT9:=jH (HT8.out.step hb9)
  have HA9:=jH HT9.out.ao
  have HN9:Hid ((W8.alloc (.cells #[.int .i64 (xv:Int)] 3)).heap[W8.heap.size]? = some (.cells #[.int .i64 (xv:Int)] 3 (0,0))):=jH (heap_alloc_new W8 _)
  have HZ9:Hid (n0 + 6 <= (W8.alloc (.cells #[.int .i64 (xv:Int)] 3)).heap.size):=jH (lt_of_block HT9.out.tb)
  have HK9:=jH (HK8.out.trans (KK.below hb9))
  clear hb9
  go_wp2_with (at_builtin; refine app_i rfl (.tmp 31) (.tmp 33) rfl (n0 + 6) _ _ _ rfl HA9.out _ rfl HN9.out HL8.out HZ9.out ?_)
  intro v10 w10 ho10 hg10
  have HK10:=jH (HK9.out.trans (KK.grown HA9.out hg10 (by decide) (by decide) (by decide)))
  have HT10:=jH (HT9.out.grownA hg10 HN06.out ho10 rfl)
  obtain ⟨A10,c10,rfl,_⟩:=ho10.form
  rw [show (ns.map (fun (v:Nat) => (v:Int)) ++ [(xv:Int)]).length = pre.length + 1 by simp [hnl]] at HT10 ⊢
  have HX9:=jH (HX8.out.below (show Below W8.heap.size W8 (W8.alloc (.cells #[.int .i64 (xv:Int)] 3)) from (Below.refl _ W8).alloc (Nat.le_refl _) _))
  have HX10:=jH (HX9.out.grown HA9.out hg10 (by decide) (by decide))
  have HT11:=jH (HT10.out.putA HN0.out)
  have HK11:=jH (HK10.out.trans (KK.set (i:=0) HT10.out.ab (.slice A10 (pre.length + 1) c10) (by decide) (by decide) (by decide)))
  have HX11:=jH (HX10.out.set (i:=0) HT10.out.ab (.slice A10 (pre.length + 1) c10) (by decide) (by decide))
  have fr10:=warm HT10.out.ab 0
  have a010:w10.cell? ⟨n0 + 1 + 1 + 1,0,none⟩ = some (.slice Aal m8 cal):=by rw [Lib.cell_of_heap HT10.out.ab]; rfl
  obtain ⟨W11,hW11⟩:∃ W11,W11 = w10.setCell ⟨n0 + 1 + 1 + 1,0,none⟩ (.slice A10 (pre.length + 1) c10):=⟨_,rfl⟩
  rw [<- hW11] at HT11 HK11 HX11
  clear ho10 hg10 HA9 HT9 HN9 HL8 HZ9 HK9 HT8 HX8 HX9 HK8 HB8 a08 HX10 HK10
  go_wp2
  rw [<- hW11]
  clear hW11 a010 fr10 HT10
  -- region 9: what it sends,behind what was sent
  obtain ⟨As,cs,rfl,_⟩:=HT11.out.so.form
  obtain ⟨ms,hms⟩:∃ ms,ms = (ns.map (rowF k L vals chg)).length:=⟨_,rfl⟩
  rw [<- hms] at HT11
  have HL9:Hid ((ns.map (rowF k L vals chg)).length < 1000000000):=jH (by rw [List.length_map,hnl]; omega)
  clear hms
  have hSW:∀ W':World,TlH w W' n0 b k st so dm ep (.slice Ae V ce) (some ⟨ka,oa,none⟩) V ca L was vals chg (ns ++ [xv]) ns ns (.slice A10 (pre.length + 1) c10) (.slice A10 (pre.length + 1) c10) (.slice As ms cs) (.slice As ms cs)->RX W' b10 B' L xv A1 A2 n1 n2 c1 c2->(fun w':World => w'.cell? ⟨n0 + 1 + 1 + 1 + 1,0,none⟩ = some (.slice As ms cs)/\w'.cell? ⟨n0,0,none⟩ = some (.int .u8 k)/\w'.cell? ⟨n0,1,none⟩ = some (.int .i64 st)/\w'.cell? ⟨n0,2,none⟩ = some (.int .i64 so)/\w'.cell? ⟨n0,3,none⟩ = some (.int .i64 dm)/\w'.cell? ⟨n0,4,none⟩ = some (.int .i64 ep)/\w'.cell? ⟨b10,0,none⟩ = some (.slice A1 n1 c1)/\w'.cell? ⟨b10,1,none⟩ = some (.slice A2 n2 c2)) W':=fun W' h1 h2 => by
   obtain ⟨c0,c1,c2,c3,c4,_,_⟩:=six h1.cb
   obtain ⟨d0,d1,_⟩:=two h2.box
   exact ⟨by rw [Lib.cell_of_heap h1.sb]; rfl,c0,c1,c2,c3,c4,d0,d1⟩
  have HSW:=jH hSW
  clear hSW
  have hd11:Below W11.heap.size W11 W11.drew:=(Below.refl _ W11).drew
  have HT12:=jH (HT11.out.step hd11)
  have HX12:=jH (HX11.out.below hd11)
  have HK12:=jH (HK11.out.trans (KK.below hd11))
  have hS:=HSW.out _ HT12.out HX12.out
  have HSD:Hid (∀ W:World,RX W b10 B' L xv A1 A2 n1 n2 c1 c2->Calls Tryz.prog 79 #[.agg #[.int .u8 k,.int .i64 st,.int .i64 so,.int .i64 dm,.int .i64 ep],.int .i64 (xv:Int),.int .i64 y,.bool ch,.slice A1 n1 c1,.slice A2 n2 c2] W fun e w' => ∃ r,e = .returned r/\Hid (MOwn w' W.heap.size r (rowF k L vals chg xv)/\Below W.heap.size W w')):=jH (fun W hW => by
   have hyr:=HVR.out y (List.mem_of_getElem? HY.out)
   obtain ⟨A1',c1',e1,h1,_⟩:=hW.o.form
   obtain ⟨A2',c2',e2,h2,_⟩:=hW.k.form
   cases e1; cases e2
   have h:=send_any k st so dm ep (xv:Int) y ch A1 A2 c1 c2 (outE L (xv:Int)) (bckE L (xv:Int)) W h1 h2 (Nat.le_trans (List.length_filter_le _ _) hL) (Nat.le_trans (List.length_filter_le _ _) hL) (by have:=hyr.1; omega) (by have:=hyr.2; omega)
   refine h.mono ?_
   rintro e w' ⟨r,rfl,h3,h4⟩
   refine ⟨r,rfl,jH ⟨?_,h4.out⟩⟩
   unfold rowF
   rw [vl_of HY.out,bt_of HCH.out]
   exact h3.out)
  clear hd11 HT11 HX11 HK11
  refine wpIn_seq_k fun K10 hK10 => ?_
  refine Tl.headX_round (S:=(fun w':World => w'.cell? ⟨n0 + 1 + 1 + 1 + 1,0,none⟩ = some (.slice As ms cs)/\w'.cell? ⟨n0,0,none⟩ = some (.int .u8 k)/\w'.cell? ⟨n0,1,none⟩ = some (.int .i64 st)/\w'.cell? ⟨n0,2,none⟩ = some (.int .i64 so)/\w'.cell? ⟨n0,3,none⟩ = some (.int .i64 dm)/\w'.cell? ⟨n0,4,none⟩ = some (.int .i64 ep)/\w'.cell? ⟨b10,0,none⟩ = some (.slice A1 n1 c1)/\w'.cell? ⟨b10,1,none⟩ = some (.slice A2 n2 c2))) 12 mixed (by rfl) ?hq9 (by decide) ?_
  case hq9 => rintro ⟨_,_,h⟩; exact h
  try dsimp only
  refine Tl.headX_tk 0 ?v0_1 rfl (by kernel_rfl) (by decide) (by kernel_rfl) (by kernel_rfl) (by kernel_rfl) (fun _ _ _ h => h) (by rfl) (fun W hSw => ?hy0_1) hS ?_
  case hy0_1 => ((try dsimp only at hSw); go_simp; try with_reducible rfl)
  simp only [Act.put,jZ,jY,jX]
  refine Tl.headX_tk 1 ?v1_2 rfl (by kernel_rfl) (by decide) (by kernel_rfl) (by kernel_rfl) (by kernel_rfl) (fun _ _ _ h => h) (by rfl) (fun W hSw => ?hy1_2) hS ?_
  case hy1_2 => ((try dsimp only at hSw); go_simp; try with_reducible rfl)
  simp only [Act.put,jZ,jY,jX]
  refine Tl.headX_tk 2 ?v2_3 rfl (by kernel_rfl) (by decide) (by kernel_rfl) (by kernel_rfl) (by kernel_rfl) (fun _ _ _ h => h) (by rfl) (fun W hSw => ?hy2_3) hS ?_
  case hy2_3 => ((try dsimp only at hSw); go_simp; try with_reducible rfl)
  simp only [Act.put,jZ,jY,jX]
  refine Tl.headX_tk 3 ?v3_4 rfl (by kernel_rfl) (by decide) (by kernel_rfl) (by kernel_rfl) (by kernel_rfl) (fun _ _ _ h => h) (by rfl) (fun W hSw => ?hy3_4) hS ?_
  case hy3_4 => ((try dsimp only at hSw); go_simp; try with_reducible rfl)
  simp only [Act.put,jZ,jY,jX]
  refine Tl.headX_tk 4 ?v4_5 rfl (by kernel_rfl) (by decide) (by kernel_rfl) (by kernel_rfl) (by kernel_rfl) (fun _ _ _ h => h) (by rfl) (fun W hSw => ?hy4_5) hS ?_
  case hy4_5 => ((try dsimp only at hSw); go_simp; try with_reducible rfl)
  simp only [Act.put,jZ,jY,jX]
  refine Tl.headX_tk 5 ?v5_6 rfl (by kernel_rfl) (by decide) (by kernel_rfl) (by kernel_rfl) (by kernel_rfl) (fun _ _ _ h => h) (by rfl) (fun W hSw => ?hy5_6) hS ?_
  case hy5_6 => ((try dsimp only at hSw); go_simp; try with_reducible rfl)
  simp only [Act.put,jZ,jY,jX]
  refine Tl.headX_tk 6 ?v6_7 rfl (by kernel_rfl) (by decide) (by kernel_rfl) (by kernel_rfl) (by kernel_rfl) (fun _ _ _ h => h) (by rfl) (fun W hSw => ?hy6_7) hS ?_
  case hy6_7 => ((try dsimp only at hSw); go_simp; try with_reducible rfl)
  simp only [Act.put,jZ,jY,jX]
  refine Tl.headX_tk 7 ?v7_8 rfl (by kernel_rfl) (by decide) (by kernel_rfl) (by kernel_rfl) (by kernel_rfl) (fun _ _ _ h => h) (by rfl) (fun W hSw => ?hy7_8) hS ?_
  case hy7_8 => ((try dsimp only at hSw); go_simp; try with_reducible rfl)
  simp only [Act.put,jZ,jY,jX]
  refine Tl.headX_tk 8 ?v8_9 rfl (by kernel_rfl) (by decide) (by kernel_rfl) (by kernel_rfl) (by kernel_rfl) (fun _ _ _ h => h) (by rfl) (fun W hSw => ?hy8_9) hS ?_
  case hy8_9 => ((try dsimp only at hSw); go_simp; try with_reducible rfl)
  simp only [Act.put,jZ,jY,jX]
  refine Tl.headX_tk 9 ?v9_10 rfl (by kernel_rfl) (by decide) (by kernel_rfl) (by kernel_rfl) (by kernel_rfl) (fun _ _ _ h => h) (by rfl) (fun W hSw => ?hy9_10) hS ?_
  case hy9_10 => ((try dsimp only at hSw); go_simp; try with_reducible rfl)
  simp only [Act.put,jZ,jY,jX]
  refine Tl.headX_cl 10 _ _ rfl (by decide) (by kernel_rfl) (by rfl) ?he10 (HSD.out W11.drew HX12.out) ?_
  case he10 => (go_simp; try with_reducible rfl)
  rintro r w13 hr
  have HR13:=jH hr.out.1
  have HT13:=jH (HT12.out.step hr.out.2)
  have HX13:=jH (HX12.out.below hr.out.2)
  have HK13:=jH (HK12.out.trans (KK.below hr.out.2))
  have HZ13:Hid (n0 + 6 <= W11.drew.heap.size):=jH (lt_of_block HT12.out.tb)
  clear hr hS
  obtain ⟨Ar,cr,rfl,_⟩:=HR13.out.room
  obtain ⟨mr,hmr⟩:∃ mr,mr = (rowF k L vals chg xv).length:=⟨_,rfl⟩
  rw [<- hmr] at HR13 ⊢
  clear hmr
  have hS:=HSW.out _ HT13.out HX13.out
  refine ⟨hS,?_⟩
  simp only [Act.put,jZ,jY,jX]
  have hb14:Below w13.heap.size w13 (w13.alloc (.cells #[.slice Ar mr cr] 133)):=(Below.refl _ w13).alloc (Nat.le_refl _) _
  have HT14:=jH (HT13.out.step hb14)
  have HX14:=jH (HX13.out.below hb14)
  have HK14:=jH (HK13.out.trans (KK.below hb14))
  have HR14:Hid (MOwn (w13.alloc (.cells #[.slice Ar mr cr] 133)) (n0 + 6) (.slice Ar mr cr) (rowF k L vals chg xv)):=jH (own_mono (own_below HR13.out hb14) HZ13.out)
  have HN14:Hid ((w13.alloc (.cells #[.slice Ar mr cr] 133)).heap[w13.heap.size]? = some (.cells #[.slice Ar mr cr] 133 (0,0))):=jH (heap_alloc_new w13 _)
  have HZ14:Hid (n0 + 6 <= (w13.alloc (.cells #[.slice Ar mr cr] 133)).heap.size):=jH (lt_of_block HT14.out.tb)
  have HO14:=jH HT14.out.so
  refine Tl.headX_vl 11 ?v11_18 ?w11_18 rfl (by decide) (by kernel_rfl) (by rfl) ?hy11_18 ?hs11_18 ?_
  case hy11_18 => (go_simp; first | (constructor <;> with_reducible rfl) | with_reducible rfl)
  case hs11_18 => exact HSW.out _ HT14.out HX14.out
  simp only [Act.put,jZ,jY,jX]
  refine Tl.headX_rest (by kernel_rfl) ?_
  simp only [List.drop_succ_cons,List.drop_zero]
  clear hS HSD HT13 HX13 HK13 HR13 HT12 HX12 HK12 HZ13 hb14 HSW
  go_wp2_with (at_builtin; refine app_r rfl (.tmp 35) (.tmp 46) rfl (n0 + 6) _ _ _ _ rfl HO14.out _ rfl HN14.out HR14.out HL9.out HZ14.out ?_)
  intro v15 w15 ho15 hg15
  have hso:=HO14.out
  obtain ⟨xs14,ho14,_⟩:=hso
  have HK15:=jH (HK14.out.trans (KK.grown ho14 hg15 (by decide) (by decide) (by decide)))
  have HX15:=jH (HX14.out.grown ho14 hg15 (by decide) (by decide))
  have HT15:=jH (HT14.out.grownS hg15 HN06.out ho15)
  obtain ⟨A15,c15,rfl,_⟩:=ho15.form
  rw [show (ns.map (rowF k L vals chg) ++ [rowF k L vals chg xv]).length = pre.length + 1 by simp [hnl]] at HT15 ⊢
  have HT16:=jH (HT15.out.putS HN0.out)
  have HK16:=jH (HK15.out.trans (KK.set (i:=0) HT15.out.sb (.slice A15 (pre.length + 1) c15) (by decide) (by decide) (by decide)))
  have HX16:=jH (HX15.out.set (i:=0) HT15.out.sb (.slice A15 (pre.length + 1) c15) (by decide) (by decide))
  have fr15:=warm HT15.out.sb 0
  have a015:w15.cell? ⟨n0 + 1 + 1 + 1 + 1,0,none⟩ = some (.slice As ms cs):=by rw [Lib.cell_of_heap HT15.out.sb]; rfl
  obtain ⟨W16,hW16⟩:∃ W16,W16 = w15.setCell ⟨n0 + 1 + 1 + 1 + 1,0,none⟩ (.slice A15 (pre.length + 1) c15):=⟨_,rfl⟩
  rw [<- hW16] at HT16 HK16 HX16
  clear hg15 ho15 ho14 HO14 HT14 HX14 HK14 HR14 HN14 HZ14 HL9 HK15 HX15
  go_wp2
  rw [<- hW16]
  clear hW16 a015 fr15 HT15
  -- region 10: its part of the total
  obtain ⟨c0,c1',c2',c3,c4,_,_⟩:=six HT16.out.cb
  obtain ⟨t0,t1,_⟩:=two HT16.out.tb
  obtain ⟨d0,d1,_⟩:=two HX16.out.box
  have h0:W16.cell? ⟨n0 + 1 + 1,0,none⟩ = some (.slice (some ⟨ka,oa,none⟩) V ca):=by rw [Lib.cell_of_heap HT16.out.hb]; rfl
  obtain ⟨_,_,e0,z0⟩:=(HAA.out.below HT16.out.below) xv z HZ.out
  cases e0
  have hyr:=HVR.out y (List.mem_of_getElem? HY.out)
  have hzr:=HAR.out z (List.mem_of_getElem? HZ.out)
  obtain ⟨s1,hs1⟩:∃ s1,s1 = sumF k L vals (ns ++ [xv]):=⟨_,rfl⟩
  obtain ⟨m1,hm1⟩:∃ m1,m1 = mosF k was vals chg (ns ++ [xv]):=⟨_,rfl⟩
  obtain ⟨s0,hs0⟩:∃ s0,s0 = sumF k L vals ns:=⟨_,rfl⟩
  obtain ⟨m0,hm0⟩:∃ m0,m0 = mosF k was vals chg ns:=⟨_,rfl⟩
  obtain ⟨p1,hp1⟩:∃ p1,p1 = prtS k y n1:=⟨_,rfl⟩
  obtain ⟨p2,hp2⟩:∃ p2,p2 = prtM k z y ch:=⟨_,rfl⟩
  have es:jonS k s0 p1 = s1:=by rw [hs1,sumF_next,hs0,hp1,vl_of HY.out,HN1.out]
  have em:jonM k m0 p2 = m1:=by rw [hm1,mosF_next,hm0,hp2,vl_of HY.out,vl_of HZ.out,bt_of HCH.out]
  rw [<- hs0] at t0
  rw [<- hm0] at t1
  have HS1:=jH hs1; have HM1:=jH hm1; have HS0:=jH hs0; have HM0:=jH hm0
  have C1:=jH (regr fun W (_:Below W16.heap.size W16 W) => part_any k st so dm ep z y ch A1 n1 c1 (by have:=hzr.1; omega) (by have:=hzr.2; omega) (by have:=hyr.1; omega) (by have:=hyr.2; omega) W)
  have C2:=jH (regr fun W (_:Below W16.heap.size W16 W) => join_any k st so dm ep s0 m0 p1 p2 W)
  rw [<- hp1,<- hp2] at C1
  rw [es,em] at C2
  clear hs1 hm1 hs0 hm0 hp1 hp2 es em hyr hzr
  have y0:=cell_regrown c0; have y1:=cell_regrown c1'; have y2:=cell_regrown c2'; have y3:=cell_regrown c3; have y4:=cell_regrown c4
  have y5:=cell_regrown t0; have y6:=cell_regrown t1; have y7:=cell_regrown d0; have y8:=cell_regrown h0; have y9:=cell_regrown z0
  clear c0 c1' c2' c3 c4 t0 t1 d0 d1 h0 z0
  gi_wp2
  refine Tl.region_tail_round 15 mixed (by rfl) ?hq10 (by kernel_rfl) ?_
  case hq10 => rintro ⟨_,_,h⟩; exact h
  simp only [List.take_succ_cons,List.take_zero,List.drop_succ_cons,List.drop_zero]
  repeat (go_big_quiet_step ((with_reducible first | exact C1.out _ _ | exact C2.out _ _)))
  refine wpQuiet_nil ?_
  intro W17 hw17
  have hb17:Below W16.heap.size W16 W17:=by obtain ⟨⟨dq,osq⟩,rfl⟩:=hw17; exact below_regrown W16 dq osq
  have HT17:=jH (HT16.out.step hb17)
  have HK17:=jH (HK16.out.trans (KK.below hb17))
  have HTP:=jH (HT17.out.putT HN0.out xv)
  have HTB:=jH HT17.out.tb
  rw [<- HS1.out,<- HM1.out] at HTP
  rw [<- HS0.out,<- HM0.out] at HTB
  have HKP:=jH (HK17.out.trans ((KK.set (i:=0) HT17.out.tb (.int .i64 s1) (by decide) (by decide) (by decide)).trans (KK.set (i:=1) (set_heap (i:=0) HT17.out.tb (.int .i64 s1)) (.int .i64 m1) (by decide) (by decide) (by decide))))
  have f0:=warm HTB.out 0; have f1:=warm HTB.out 1
  obtain ⟨t0,t1,_⟩:=two HTB.out
  clear hb17 hw17 y0 y1 y2 y3 y4 y5 y6 y7 y8 y9 C1 C2 HT16 HK16 HX16
  go_wp2
  have en:ns ++ [xv] = (pre ++ [(⟨xv,.slice A1 n1 c1,.slice A2 n2 c2⟩:Vx)]).map Vx.v:=by rw [List.map_append,HNS.out]; rfl
  rw [en] at HTP
  exact ⟨HKP.out.1,HKP.out.2,_,_,HTP.out⟩
 case done =>
  rintro D xs W hD hxs ⟨va,vs,hT⟩ hK
  rw [hxs] at hT
  have HT:=jH hT; have HD:=jH hD; have HDK:=jH hK
  clear hT hD hK hxs
  obtain ⟨Aal,cal,rfl,hal⟩:=HT.out.ao.form
  obtain ⟨As,cs,rfl,hrm⟩:=HT.out.so.form
  rw [List.length_map,List.length_range] at HT
  rw [List.length_map,List.length_range] at HT
  have HIA:=jH hal; have HRM:=jH hrm
  clear hal hrm
  have hbx:=keep HSB.out HT.out.below
  have HBX:=jH hbx
  have HNB:Hid (b < n0):=jH (by have:=lt_of_block HSB.out; have:=HN0.out; omega)
  clear hbx
  go_wp2
  have SS:∀ W':World,TlH w W' n0 b k st so dm ep (.slice Ae V ce) Aa V ca L was vals chg (List.range V) (List.range V) (List.range V) (.slice Aal V cal) (.slice Aal V cal) (.slice As V cs) (.slice As V cs)->(fun w':World => w'.cell? ⟨n0 + 1,0,none⟩ = some (.pointer (some ⟨b,0,none⟩))/\w'.cell? ⟨n0,0,none⟩ = some (.int .u8 k)/\w'.cell? ⟨n0,1,none⟩ = some (.int .i64 st)/\w'.cell? ⟨n0,2,none⟩ = some (.int .i64 so)/\w'.cell? ⟨n0,3,none⟩ = some (.int .i64 dm)/\w'.cell? ⟨n0,4,none⟩ = some (.int .i64 ep)/\w'.cell? ⟨n0 + 1 + 1 + 1,0,none⟩ = some (.slice Aal V cal)/\w'.cell? ⟨n0 + 1 + 1 + 1 + 1,0,none⟩ = some (.slice As V cs)) W':=fun W' h1 => by
   obtain ⟨c0,c1,c2,c3,c4,_,_⟩:=six h1.cb
   exact ⟨by rw [Lib.cell_of_heap h1.pb]; rfl,c0,c1,c2,c3,c4,by rw [Lib.cell_of_heap h1.ab]; rfl,by rw [Lib.cell_of_heap h1.sb]; rfl⟩
  have HSS:=jH SS
  clear SS
  have hd:Below W.heap.size W W.drew:=(Below.refl _ W).drew
  have HTd:=jH (HT.out.step hd)
  have HMG:Hid (Calls Tryz.prog 82 #[.agg #[.int .u8 k,.int .i64 st,.int .i64 so,.int .i64 dm,.int .i64 ep],.slice Aal V cal,.slice As V cs] W.drew fun e w' => ∃ r,e = .returned r/\Hid (KOwn w' W.drew.heap.size r (inbS k V L vals chg)/\Below W.drew.heap.size W.drew w')):=jH (by
   have h:=merge_any k st so dm ep Aal As V cal V cs ((List.range V).map fun (v:Nat) => (v:Int)) (rowsS k V L vals chg) W.drew (HIA.out.below hd) (by simp) (fun i M hi => (HRM.out.below hd) i M hi) (by simp [rowsS]) (rows_toin HFI.out (by omega)) (own_in V (by omega)) (by omega) (by omega) (rows_few k V L vals chg hV hL)
   refine h.mono ?_
   rintro e w' ⟨v,rfl,h1,h2⟩
   exact ⟨v,rfl,jH ⟨h1.out,h2.out⟩⟩)
  have hS:=HSS.out _ HTd.out
  refine wp_region_noPanic ?_
  refine Tl.headX_region (S:=fun w':World => w'.cell? ⟨n0 + 1,0,none⟩ = some (.pointer (some ⟨b,0,none⟩))/\w'.cell? ⟨n0,0,none⟩ = some (.int .u8 k)/\w'.cell? ⟨n0,1,none⟩ = some (.int .i64 st)/\w'.cell? ⟨n0,2,none⟩ = some (.int .i64 so)/\w'.cell? ⟨n0,3,none⟩ = some (.int .i64 dm)/\w'.cell? ⟨n0,4,none⟩ = some (.int .i64 ep)/\w'.cell? ⟨n0 + 1 + 1 + 1,0,none⟩ = some (.slice Aal V cal)/\w'.cell? ⟨n0 + 1 + 1 + 1 + 1,0,none⟩ = some (.slice As V cs)) 8 (by kernel_rfl) (by decide) ?_
  try dsimp only
  refine Tl.headX_tk 0 ?v0_11 rfl (by kernel_rfl) (by decide) (by kernel_rfl) (by kernel_rfl) (by kernel_rfl) (fun _ _ _ h => h) (by rfl) (fun W hSw => ?hy0_11) hS ?_
  case hy0_11 => ((try dsimp only at hSw); go_simp; try with_reducible rfl)
  simp only [Act.put,jZ,jY,jX]
  refine Tl.headX_tk 1 ?v1_12 rfl (by kernel_rfl) (by decide) (by kernel_rfl) (by kernel_rfl) (by kernel_rfl) (fun _ _ _ h => h) (by rfl) (fun W hSw => ?hy1_12) hS ?_
  case hy1_12 => ((try dsimp only at hSw); go_simp; try with_reducible rfl)
  simp only [Act.put,jZ,jY,jX]
  refine Tl.headX_tk 2 ?v2_13 rfl (by kernel_rfl) (by decide) (by kernel_rfl) (by kernel_rfl) (by kernel_rfl) (fun _ _ _ h => h) (by rfl) (fun W hSw => ?hy2_13) hS ?_
  case hy2_13 => ((try dsimp only at hSw); go_simp; try with_reducible rfl)
  simp only [Act.put,jZ,jY,jX]
  refine Tl.headX_tk 3 ?v3_14 rfl (by kernel_rfl) (by decide) (by kernel_rfl) (by kernel_rfl) (by kernel_rfl) (fun _ _ _ h => h) (by rfl) (fun W hSw => ?hy3_14) hS ?_
  case hy3_14 => ((try dsimp only at hSw); go_simp; try with_reducible rfl)
  simp only [Act.put,jZ,jY,jX]
  refine Tl.headX_tk 4 ?v4_15 rfl (by kernel_rfl) (by decide) (by kernel_rfl) (by kernel_rfl) (by kernel_rfl) (fun _ _ _ h => h) (by rfl) (fun W hSw => ?hy4_15) hS ?_
  case hy4_15 => ((try dsimp only at hSw); go_simp; try with_reducible rfl)
  simp only [Act.put,jZ,jY,jX]
  refine Tl.headX_cl 5 _ _ rfl (by decide) (by kernel_rfl) (by rfl) ?he5 HMG.out ?_
  case he5 => (go_simp; try with_reducible rfl)
  rintro r w3 hr
  have HR3:=jH hr.out.1
  have HT3:=jH (HTd.out.step hr.out.2)
  have HBX3:=jH (keep (keep HBX.out hd) hr.out.2)
  have HDK3:=jH (((keeps_below hd).trans (keeps_below hr.out.2)).same D _ HDK.out rfl)
  have HWS:Hid (w.heap.size <= W.drew.heap.size):=jH HTd.out.below.size
  clear hr hS
  obtain ⟨Ar,cr,rfl,_⟩:=HR3.out.room
  rw [inb_len] at HR3 ⊢
  have hS:=HSS.out _ HT3.out
  refine ⟨hS,?_⟩
  simp only [Act.put,jZ,jY,jX]
  refine Tl.headX_tk 6 ?v6_16 rfl (by kernel_rfl) (by decide) (by kernel_rfl) (by kernel_rfl) (by kernel_rfl) (fun _ _ _ h => h) (by rfl) (fun W hSw => ?hy6_16) hS ?_
  case hy6_16 => ((try dsimp only at hSw); go_simp; try with_reducible rfl)
  simp only [Act.put,jZ,jY,jX]
  refine Tl.headX_tk 7 ?v7_17 rfl (by kernel_rfl) (by decide) (by kernel_rfl) (by kernel_rfl) (by kernel_rfl) (fun _ _ _ h => h) (by rfl) (fun W hSw => ?hy7_17) hS ?_
  case hy7_17 => ((try dsimp only at hSw); go_simp; try with_reducible rfl)
  simp only [Act.put,jZ,jY,jX]
  refine Tl.headX_rest (by kernel_rfl) ?_
  simp only [List.drop_succ_cons,List.drop_zero]
  clear hS HMG hd
  obtain ⟨_,_,_,b3,_,_,bl⟩:=six HBX3.out
  have fr3:=warm HBX3.out 3
  have hbx4:=set_heap (i:=3) HBX3.out (.slice Ar V cr)
  have HBX4:=jH hbx4
  clear hbx4
  obtain ⟨W4,hW4⟩:∃ W4,W4 = w3.setCell ⟨b,3,none⟩ (.slice Ar V cr):=⟨_,rfl⟩
  rw [<- hW4] at HBX4
  have HW4:=jH hW4
  go_wp2
  refine NoPanic.normal ?_
  rw [<- HW4.out]
  go_wp2
  clear hW4 b3 fr3 bl
  have ho4:∀ j,j ≠ b->W4.heap[j]? = w3.heap[j]?:=fun j hj => by rw [HW4.out]; exact set_other _ _ _ _ _ hj
  have HO4:=jH ho4
  have hne1:b ≠ n0 + 1:=by have:=HNB.out; omega
  have hne5:b ≠ n0 + 1 + 1 + 1 + 1 + 1:=by have:=HNB.out; omega
  obtain ⟨t0,t1,_⟩:=two ((ho4 _ (Ne.symm hne5)).trans HT3.out.tb)
  have p0:W4.cell? ⟨n0 + 1,0,none⟩ = some (.pointer (some ⟨b,0,none⟩)):=by rw [Lib.cell_of_heap ((ho4 _ (Ne.symm hne1)).trans HT3.out.pb)]; rfl
  obtain ⟨s1,hs1⟩:∃ s1,s1 = sumF k L vals (List.range V):=⟨_,rfl⟩
  obtain ⟨m1,hm1⟩:∃ m1,m1 = mosF k was vals chg (List.range V):=⟨_,rfl⟩
  rw [<- hs1] at t0
  rw [<- hm1] at t1
  have HS1:=jH hs1; have HM1:=jH hm1
  obtain ⟨_,_,_,_,e4,e5,el⟩:=six HBX4.out
  have fr4:=warm HBX4.out 4
  have fr5:=warm HBX4.out 5
  clear ho4 hs1 hm1
  go_region_held3 (fun w' => w'.cell? ⟨n0 + 1,0,none⟩ = some (.pointer (some ⟨b,0,none⟩))/\w'.cell? ⟨n0 + 1 + 1 + 1 + 1 + 1,0,none⟩ = some (.int .i64 s1)/\w'.cell? ⟨n0 + 1 + 1 + 1 + 1 + 1,1,none⟩ = some (.int .i64 m1)) (go_keep) (fail)
  go_wp2
  clear t0 t1 p0 e4 e5 el fr4 fr5
  have hX:(((W4.setCell ⟨b,4,none⟩ (.int .i64 s1)).setCell ⟨b,5,none⟩ (.int .i64 m1)).drew).heap[b]? = some (.cells #[a0,.slice Av V cv,.slice Ac V cc,.slice Ar V cr,.int .i64 s1,.int .i64 m1] 45 (0,0)):=set_heap (i:=5) (set_heap (i:=4) HBX4.out (.int .i64 s1)) (.int .i64 m1)
  obtain ⟨X,hXe⟩:∃ X,X = ((W4.setCell ⟨b,4,none⟩ (.int .i64 s1)).setCell ⟨b,5,none⟩ (.int .i64 m1)).drew:=⟨_,rfl⟩
  have hXo:∀ j,j ≠ b->X.heap[j]? = w3.heap[j]?:=fun j hj => by
   rw [hXe]
   exact ((set_other _ _ _ _ _ hj).trans (set_other _ _ _ _ _ hj)).trans (HO4.out j hj)
  have hXB:Below b w3 X:=by
   rw [hXe,HW4.out]
   exact ((((Below.refl b w3).setCell (p:=⟨b,3,none⟩) (Nat.le_refl _) _).setCell (p:=⟨b,4,none⟩) (Nat.le_refl _) _).setCell (p:=⟨b,5,none⟩) (Nat.le_refl _) _).drew
  rw [<- hXe] at hX ⊢
  have hwD:w.heap.size <= D:=Nat.le_trans HH7.out.below.size HD.out
  have hbw:=lt_of_block HSB.out
  have hKX:X.heap[D]? = some (.deferred (some [])):=(hXo D (by omega)).trans HDK3.out
  have hP:∀ j,j ≠ D->(X.putObj D (.deferred none)).heap[j]? = X.heap[j]?:=fun j hj => World.putObj_heap_other hj
  have hBP:Below b w3 (X.putObj D (.deferred none)):=hXB.trans (belowK_b (w:=w) (Nat.le_of_lt hbw) X D _ _ hwD hKX rfl rfl)
  refine ⟨by simp,.inl ⟨_,_,rfl,run_takeDeferred hKX,_,results_none rfl _ _ _,⟨_,rfl⟩,jH ⟨.slice Ar V cr,?_,?_,?_⟩⟩⟩
  ·rw [hP b (by omega),hX,HS1.out,HM1.out]; rfl
  ·have h1:KOwn X w.heap.size (.slice Ar V cr) (inbS k V L vals chg):=own_mono (own_moved HR3.out HBX3.out (by decide) hXo) HWS.out
   exact own_kept h1 fun g c fz _ hc => hP g fun e => by rw [e,hKX] at hc; cases hc
  ·have h3:=HT3.out.below
   refine ⟨hBP.os.trans h3.os,hBP.tape.trans h3.tape,hBP.output.trans h3.output,Nat.le_trans h3.size hBP.size,fun j hj hne => ?_⟩
   have hjb:j ≠ b:=fun e => hne (by rw [e])
   rw [hP j (by omega),hXo j hjb]
   exact h3.block j hj
 case stop =>
  rintro D cd pre W hD hS hF hK
  exact hF.elim
end Go.Proofs.YtdcaekmgfcpbmaaGreat.Sq
