/-
  What is proved here: a contract of what the document's own steps tell of all. Conditions: at most 512 vertices, at most 1000 edges; values that may be.
-/
import Derived.Test.YtdcaekmgfcpbmaaGreatQdSqRunx
import Derived.Test.YtdcaekmgfcpbmaaGreatQdSqRowx
import Derived.Test.YtdcaekmgfcpbmaaGreatQdAlR3x
import Derived.Test.YtdcaekmgfcpbmaaGreatQdAlQ3x
import Derived.Test.YtdcaekmgfcpbmaaGreatQdPtG6x
namespace Go.Proofs.YtdcaekmgfcpbmaaGreat.Sq
open Go.RowKit Go.Shelf Gr Wd Ws Fx Rk Lb Al In
open Pa (vl bt vl_of vl_at bt_of bt_at)
structure RtH (w W:World) (n0:Nat) (k st so dm ep:Int) (V:Nat) (A:Option Addr) (n c:Nat) (L:List Ed) (Av:Option Addr) (cv:Nat) (Ac:Option Addr) (cc:Nat) (a0:Int) (a3 a4 a5:Value) (was vals:List Int) (chg:List Bool) (va vs:Value) (q:Nat):Prop where
 below:Below w.heap.size w W
 gb:W.heap[n0]? = some (.cells #[.int .i64 (V:Int),.slice A n c] 24 (0,0))
 jb:W.heap[n0 + 1]? = some (.cells #[.int .u8 k,.int .i64 st,.int .i64 so,.int .i64 dm,.int .i64 ep] 40 (0,0))
 sb:W.heap[n0 + 1 + 1]? = some (.cells #[.int .i64 a0,.slice Av V cv,.slice Ac V cc,a3,a4,a5] 45 (0,0))
 zb:W.heap[n0 + 1 + 1 + 1]? = some (.cells #[.int .i64 0,.slice none 0 0,.slice none 0 0,.slice none 0 0,.int .i64 0,.int .i64 0] 45 (0,0))
 tb:W.heap[n0 + 1 + 1 + 1 + 1]? = some (.cells #[.int .i64 (sumF k L vals (List.range q)),.int .i64 (mosF k was vals chg (List.range q))] 159 (0,0))
 ao:IOwn W (n0 + 5) va ((List.range q).map fun (v:Nat) => (v:Int))
 so:ROwn W (n0 + 5) vs ((List.range q).map (rowF k L vals chg))
 up:n0 + 5 <= W.heap.size
def RtRel (w:World) (n0:Nat) (k st so dm ep:Int) (V:Nat) (A:Option Addr) (n c:Nat) (L:List Ed) (Av:Option Addr) (cv:Nat) (Ac:Option Addr) (cc:Nat) (a0:Int) (a3 a4 a5:Value) (was vals:List Int) (chg:List Bool) (gk:Nat) (va vs i:Value) (W:World):Prop :=
 ∃ q:Nat,q + gk = V/\i = .int .i64 (q:Int)/\Hid (RtH w W n0 k st so dm ep V A n c L Av cv Ac cc a0 a3 a4 a5 was vals chg va vs q)
section
variable {w W W':World} {n0:Nat} {k st so dm ep:Int} {V:Nat} {A:Option Addr} {n c:Nat} {L:List Ed} {Av:Option Addr} {cv:Nat} {Ac:Option Addr} {cc:Nat} {a0:Int} {a3 a4 a5:Value} {was vals:List Int} {chg:List Bool} {va vs u:Value} {q:Nat}
theorem RtH.step (h:RtH w W n0 k st so dm ep V A n c L Av cv Ac cc a0 a3 a4 a5 was vals chg va vs q) (hb:Below W.heap.size W W'):RtH w W' n0 k st so dm ep V A n c L Av cv Ac cc a0 a3 a4 a5 was vals chg va vs q :=
 ⟨step_below h.below h.below.size hb,keep h.gb hb,keep h.jb hb,keep h.sb hb,keep h.zb hb,keep h.tb hb,own_below h.ao hb,h.so.below hb,Nat.le_trans h.up hb.size⟩
end
theorem al5 (w:World) (a b c d e:Obj):(((((w.alloc a).alloc b).alloc c).alloc d).alloc e).heap[w.heap.size]? = some a/\(((((w.alloc a).alloc b).alloc c).alloc d).alloc e).heap[w.heap.size + 1]? = some b/\(((((w.alloc a).alloc b).alloc c).alloc d).alloc e).heap[w.heap.size + 2]? = some c/\(((((w.alloc a).alloc b).alloc c).alloc d).alloc e).heap[w.heap.size + 3]? = some d/\(((((w.alloc a).alloc b).alloc c).alloc d).alloc e).heap[w.heap.size + 4]? = some e/\Below w.heap.size w (((((w.alloc a).alloc b).alloc c).alloc d).alloc e):=by
 obtain ⟨h1,h2,h3,h4,h5⟩:=al4 w a b c d
 have h6:=heap_alloc_new ((((w.alloc a).alloc b).alloc c).alloc d) e
 rw [show ((((w.alloc a).alloc b).alloc c).alloc d).heap.size = w.heap.size + 4 by simp] at h6
 exact ⟨at_alloc h1 e,at_alloc h2 e,at_alloc h3 e,at_alloc h4 e,h6,h5.alloc h5.size e⟩
set_option maxRecDepth 100000 in
set_option maxHeartbeats 1000000 in
theorem rtold_any (k st so dm ep:Int) (V:Nat) (A Av Ac Aa:Option Addr) (n c cv cc ca:Nat) (L:List Ed) (was vals:List Int) (chg:List Bool) (a0:Int) (a3 a4 a5:Value) (w:World)
 (hL:EAt w A L) (hn:L.length = n) (hv:IAt w Av vals) (hc:BAt w Ac chg) (ha:IAt w Aa was) (hvl:vals.length = V) (hcl:chg.length = V) (hal:was.length = V) (hvr:∀ x ∈ vals,I63 x) (har:∀ x ∈ was,I63 x) (hV:V <= 512) (hm:L.length <= 1000) :
 Calls Tryz.prog 93 #[.agg #[.int .i64 (V:Int),.slice A n c],.agg #[.int .u8 k,.int .i64 st,.int .i64 so,.int .i64 dm,.int .i64 ep],.agg #[.int .i64 a0,.slice Av V cv,.slice Ac V cc,a3,a4,a5],.slice Aa V ca] w fun e w' => ∃ Ai ci,e = .returned (.agg #[.int .i64 a0,.slice Av V cv,.slice Ac V cc,.slice Ai V ci,.int .i64 (sumS k V L vals),.int .i64 (mosS k V was vals chg)])/\Hid (KOwn w' w.heap.size (.slice Ai V ci) (inbS k V L vals chg))/\Hid (Below w.heap.size w w'):=by
 have mixed:=mixedI
 have HL:=jH hL; have HN:=jH hn; have HVA:=jH hv; have HCA:=jH hc; have HAA:=jH ha
 have HVL:=jH hvl; have HCL:=jH hcl; have HAL:=jH hal; have HVR:=jH hvr; have HAR:=jH har
 clear hL hn hv hc ha hvl hcl hal hvr har
 obtain ⟨W5,hW5⟩:∃ W5,W5 = ((((w.alloc (.cells #[.int .i64 (V:Int),.slice A n c] 24)).alloc (.cells #[.int .u8 k,.int .i64 st,.int .i64 so,.int .i64 dm,.int .i64 ep] 40)).alloc (.cells #[.int .i64 a0,.slice Av V cv,.slice Ac V cc,a3,a4,a5] 45)).alloc (.cells #[.int .i64 0,.slice none 0 0,.slice none 0 0,.slice none 0 0,.int .i64 0,.int .i64 0] 45)).alloc (.cells #[.int .i64 0,.int .i64 0] 159):=⟨_,rfl⟩
 have h5:=al5 w (.cells #[.int .i64 (V:Int),.slice A n c] 24) (.cells #[.int .u8 k,.int .i64 st,.int .i64 so,.int .i64 dm,.int .i64 ep] 40) (.cells #[.int .i64 a0,.slice Av V cv,.slice Ac V cc,a3,a4,a5] 45) (.cells #[.int .i64 0,.slice none 0 0,.slice none 0 0,.slice none 0 0,.int .i64 0,.int .i64 0] 45) (.cells #[.int .i64 0,.int .i64 0] 159)
 rw [<- hW5] at h5
 obtain ⟨n0,e0⟩:∃ n0,n0 = w.heap.size:=⟨_,rfl⟩
 have HH:Hid (RtH w W5 n0 k st so dm ep V A n c L Av cv Ac cc a0 a3 a4 a5 was vals chg (.slice none 0 0) (.slice none 0 0) 0):=jH (by
  rw [<- e0] at h5
  exact ⟨h5.2.2.2.2.2 |> fun h => by rw [e0] at h; exact h,h5.1,h5.2.1,h5.2.2.1,h5.2.2.2.1,h5.2.2.2.2.1,IOwn.none_ _ _,ROwn.none_ _ _,lt_of_block h5.2.2.2.2.1⟩)
 have HN0:Hid (w.heap.size <= n0):=jH (by omega)
 clear h5
 go_enter Tryz.func93,Tryz.ntmps93
 go_upto_region 4 with fail
 rw [<- hW5,show w.heap.size = n0 from e0.symm]
 clear hW5 e0
 go_wp2_with fail
 go_loopg [9,10,12] V (fun gk va vs i W => RtRel w n0 k st so dm ep V A n c L Av cv Ac cc a0 a3 a4 a5 was vals chg gk va vs i W)
 case atStart => exact ⟨0,by omega,rfl,HH⟩
 case round =>
  clear HH
  obtain ⟨q,hq,rfl,HH⟩:=hrel
  obtain ⟨g0,g1,_⟩:=two HH.out.gb
  by_cases hlt:q < V
  ·obtain ⟨y,hy⟩:=at_lt vals q (by rw [HVL.out]; exact hlt)
   obtain ⟨ch,hch⟩:=at_lt chg q (by rw [HCL.out]; exact hlt)
   obtain ⟨z,hz⟩:=at_lt was q (by rw [HAL.out]; exact hlt)
   have HY:=jH hy; have HCH:=jH hch; have HZ:=jH hz
   clear hy hch hz
   have HRO:Hid (∀ W,Below wr.heap.size wr W->Calls Tryz.prog 29 #[.agg #[.int .i64 (V:Int),.slice A n c],.int .i64 (q:Int)] W fun e w' => ∃ x,e = .returned x/\EOwn w' W.heap.size x (outE L (q:Int))/\Below W.heap.size W w'):=jH (fun W hW => by
    have h:=rout_any (V:Int) (q:Int) A c L W (HL.out.below (step_below HH.out.below HH.out.below.size hW)) (by omega)
    rw [HN.out] at h; exact h)
   have HRB:Hid (∀ W,Below w.heap.size w W->Calls Tryz.prog 102 #[.agg #[.int .i64 (V:Int),.slice A n c],.int .i64 (q:Int)] W fun e w' => ∃ x,e = .returned x/\EOwn w' W.heap.size x (bckE L (q:Int))/\Below W.heap.size W w'):=jH (fun W hW => by
    have h:=rback_any (V:Int) (q:Int) A c L W (HL.out.below hW) (by omega)
    rw [HN.out] at h; exact h)
   go_wp2_with fail
   refine (HRO.out _ (Below.refl _ _)).mono ?_
   rintro e w5 ⟨xo,rfl,ho5,hb5⟩
   have HH5:=jH (HH.out.step hb5)
   have HZ5:=jH HH.out.up
   obtain ⟨A1,c1,rfl,hea,_⟩:=ho5.form
   obtain ⟨n1,hn1⟩:∃ n1,n1 = (outE L (q:Int)).length:=⟨_,rfl⟩
   rw [<- hn1] at ho5 ⊢
   have HN1:=jH hn1
   have HO5:=jH ho5
   have HWR:Hid (n0 + 5 <= wr.heap.size):=jH HH.out.up
   clear g0 g1 hn1 ho5 hb5 HRO hea HH
   -- the vertex behind all
   obtain ⟨Aal,cal,rfl,_⟩:=HH5.out.ao.form
   obtain ⟨m0,hm0⟩:∃ m0,m0 = ((List.range q).map fun (v:Nat) => (v:Int)).length:=⟨_,rfl⟩
   rw [<- hm0] at HH5 ⊢
   clear hm0
   have HL5:Hid (((List.range q).map fun (v:Nat) => (v:Int)).length < 1000000000):=jH (by rw [List.length_map,List.length_range]; omega)
   have hb6:Below w5.heap.size w5 (w5.alloc (.cells #[.int .i64 (q:Int)] 3)):=(Below.refl _ w5).alloc (Nat.le_refl _) _
   have HH6:=jH (HH5.out.step hb6)
   have HO6:=jH (own_below HO5.out hb6)
   have HA6:=jH HH6.out.ao
   have HN6:Hid ((w5.alloc (.cells #[.int .i64 (q:Int)] 3)).heap[w5.heap.size]? = some (.cells #[.int .i64 (q:Int)] 3 (0,0))):=jH (heap_alloc_new w5 _)
   have HZ6:=jH HH6.out.up
   clear hb6 HH5 HO5
   go_wp2_with (at_builtin; refine app_i rfl (.tmp 24) (.tmp 26) rfl (n0 + 5) _ _ _ rfl HA6.out _ rfl HN6.out HL5.out HZ6.out ?_)
   intro v7 w7 ho7 hg7
   have HB7:=jH (HH6.out.below.trans (own_grown HA6.out hg7 (by have:=HN0.out; omega) HH6.out.below.size))
   have HG7:Hid (w7.heap[n0]? = some (.cells #[.int .i64 (V:Int),.slice A n c] 24 (0,0))):=jH (box_other HH6.out.gb HA6.out (by decide) hg7)
   have HJ7:Hid (w7.heap[n0 + 1]? = some (.cells #[.int .u8 k,.int .i64 st,.int .i64 so,.int .i64 dm,.int .i64 ep] 40 (0,0))):=jH (box_other HH6.out.jb HA6.out (by decide) hg7)
   have HS7:Hid (w7.heap[n0 + 1 + 1]? = some (.cells #[.int .i64 a0,.slice Av V cv,.slice Ac V cc,a3,a4,a5] 45 (0,0))):=jH (box_other HH6.out.sb HA6.out (by decide) hg7)
   have HX7:=jH (box_other HH6.out.zb HA6.out (by decide) hg7)
   have HT7:=jH (box_other HH6.out.tb HA6.out (by decide) hg7)
   have HR7:=jH (HH6.out.so.other HA6.out (by decide) (by decide) hg7)
   have HO7:=jH (own_other HO6.out HA6.out (by decide) hg7)
   have HA7:Hid (IOwn w7 (n0 + 5) v7 ((List.range (q + 1)).map fun (v:Nat) => (v:Int))):=jH (by rw [List.range_succ,List.map_append]; exact ho7)
   have HU7:Hid (n0 + 5 <= w7.heap.size):=jH (Nat.le_trans HZ6.out hg7.size)
   clear ho7 hg7 HA6 HN6 HZ6 HL5 HH6 HO6
   obtain ⟨A7,c7,rfl,_⟩:=HA7.out.form
   obtain ⟨m7,hm7⟩:∃ m7,m7 = ((List.range (q + 1)).map fun (v:Nat) => (v:Int)).length:=⟨_,rfl⟩
   rw [<- hm7] at HA7 ⊢
   clear hm7
   obtain ⟨As,cs,rfl,_⟩:=HR7.out.form
   obtain ⟨ms,hms⟩:∃ ms,ms = ((List.range q).map (rowF k L vals chg)).length:=⟨_,rfl⟩
   rw [<- hms] at HR7 ⊢
   clear hms
   obtain ⟨kv,ov,rfl,_⟩:=(HVA.out.below HB7.out) q y HY.out
   obtain ⟨kc,oc,rfl,_⟩:=(HCA.out.below HB7.out) q ch HCH.out
   have HSW:Hid (∀ W':World,Below w7.heap.size w7 W'->(fun w':World => w'.cell? ⟨n0,0,none⟩ = some (.int .i64 (V:Int))/\w'.cell? ⟨n0,1,none⟩ = some (.slice A n c)/\w'.cell? ⟨n0 + 1,0,none⟩ = some (.int .u8 k)/\w'.cell? ⟨n0 + 1,1,none⟩ = some (.int .i64 st)/\w'.cell? ⟨n0 + 1,2,none⟩ = some (.int .i64 so)/\w'.cell? ⟨n0 + 1,3,none⟩ = some (.int .i64 dm)/\w'.cell? ⟨n0 + 1,4,none⟩ = some (.int .i64 ep)/\w'.cell? ⟨n0 + 1 + 1,1,none⟩ = some (.slice (some ⟨kv,ov,none⟩) V cv)/\w'.cell? ⟨n0 + 1 + 1,2,none⟩ = some (.slice (some ⟨kc,oc,none⟩) V cc)/\w'.cell? ⟨kv,ov + q,none⟩ = some (.int .i64 y)/\w'.cell? ⟨kc,oc + q,none⟩ = some (.bool ch)) W'):=jH (fun W' hb => by
    obtain ⟨g0,g1,_⟩:=two (keep HG7.out hb)
    obtain ⟨j0,j1,j2,j3,j4,_⟩:=jb_cells (keep HJ7.out hb)
    obtain ⟨_,s1,s2,_,_,_,_⟩:=six (keep HS7.out hb)
    obtain ⟨_,_,e1,v0⟩:=(HVA.out.below (step_below HB7.out HB7.out.size hb)) q y HY.out
    cases e1
    obtain ⟨_,_,e2,u0⟩:=(HCA.out.below (step_below HB7.out HB7.out.size hb)) q ch HCH.out
    cases e2
    exact ⟨g0,g1,j0,j1,j2,j3,j4,s1,s2,v0,u0⟩)
   have hd7:Below w7.heap.size w7 w7.drew:=(Below.refl _ w7).drew
   have HD7:=jH hd7
   have hS:=HSW.out _ hd7
   have hyr:=HVR.out y (List.mem_of_getElem? HY.out)
   have HSD:Hid (∀ (W:World) (x:Value) (B2:Nat),Below w7.heap.size w7 W->EOwn W B2 x (bckE L (q:Int))->∃ A2 n2 c2,x = .slice A2 n2 c2/\Calls Tryz.prog 101 #[.agg #[.int .u8 k,.int .i64 st,.int .i64 so,.int .i64 dm,.int .i64 ep],.int .i64 (q:Int),.int .i64 y,.bool ch,.slice A1 n1 c1,.slice A2 n2 c2] W fun e w' => ∃ r,e = .returned r/\Hid (MOwn w' W.heap.size r (rowF k L vals chg q)/\Below W.heap.size W w')):=jH (fun W x B2 hW h2 => by
    obtain ⟨A1',c1',e1,h1,_⟩:=EOwn.form (own_below HO7.out hW)
    obtain ⟨A2,c2,e2,h2,_⟩:=h2.form
    cases e1
    refine ⟨A2,_,c2,e2,?_⟩
    have h:=rsend_any k st so dm ep (q:Int) y ch A1 A2 c1 c2 (outE L (q:Int)) (bckE L (q:Int)) W h1 h2 (Nat.le_trans (List.length_filter_le _ _) hm) (Nat.le_trans (List.length_filter_le _ _) hm) (by have:=hyr.1; omega) (by have:=hyr.2; omega)
    rw [HN1.out]
    refine h.mono ?_
    rintro e w' ⟨r,rfl,h3,h4⟩
    refine ⟨r,rfl,jH ⟨?_,h4.out⟩⟩
    unfold rowF
    rw [vl_of HY.out,bt_of HCH.out]
    exact h3.out)
   clear hd7
   go_upto_region 9 with fail
   refine Tl.headX_region (S:=(fun w':World => w'.cell? ⟨n0,0,none⟩ = some (.int .i64 (V:Int))/\w'.cell? ⟨n0,1,none⟩ = some (.slice A n c)/\w'.cell? ⟨n0 + 1,0,none⟩ = some (.int .u8 k)/\w'.cell? ⟨n0 + 1,1,none⟩ = some (.int .i64 st)/\w'.cell? ⟨n0 + 1,2,none⟩ = some (.int .i64 so)/\w'.cell? ⟨n0 + 1,3,none⟩ = some (.int .i64 dm)/\w'.cell? ⟨n0 + 1,4,none⟩ = some (.int .i64 ep)/\w'.cell? ⟨n0 + 1 + 1,1,none⟩ = some (.slice (some ⟨kv,ov,none⟩) V cv)/\w'.cell? ⟨n0 + 1 + 1,2,none⟩ = some (.slice (some ⟨kc,oc,none⟩) V cc)/\w'.cell? ⟨kv,ov + q,none⟩ = some (.int .i64 y)/\w'.cell? ⟨kc,oc + q,none⟩ = some (.bool ch))) 19 mixed (by decide) ?_
   try dsimp only
   refine Tl.headX_tk 0 ?v0_1 rfl (by kernel_rfl) (by decide) (by kernel_rfl) (by kernel_rfl) (by kernel_rfl) (fun _ _ _ h => h) (by rfl) (fun W hSw => ?hy0_1) hS ?_
   case hy0_1 => ((try dsimp only at hSw); go_simp; try with_reducible rfl)
   simp only [Act.put,jZ,jY,jX]
   refine Tl.headX_tk 1 ?v1_2 rfl (by kernel_rfl) (by decide) (by kernel_rfl) (by kernel_rfl) (by kernel_rfl) (fun _ _ _ h => h) (by rfl) (fun W hSw => ?hy1_2) hS ?_
   case hy1_2 => ((try dsimp only at hSw); go_simp; try with_reducible rfl)
   simp only [Act.put,jZ,jY,jX]
   refine Tl.headX_tk 2 ?v2_3 rfl (by kernel_rfl) (by decide) (by kernel_rfl) (by kernel_rfl) (by kernel_rfl) (fun _ _ _ h => h) (by rfl) (fun W hSw => ?hy2_3) hS ?_
   case hy2_3 => ((try dsimp only at hSw); go_simp; try with_reducible rfl)
   simp only [Act.put,jZ,jY,jX]
   refine Tl.headX_tk 3 ?v3_4 rfl (by kernel_rfl) (by decide) (by kernel_rfl) (by kernel_rfl) (by kernel_rfl) (fun _ _ _ h => h) (by rfl) (fun W hSw => ?hy3_4) hS ?_
   case hy3_4 => ((try dsimp only at hSw); go_simp; try with_reducible rfl)
   simp only [Act.put,jZ,jY,jX]
   refine Tl.headX_tk 4 ?v4_5 rfl (by kernel_rfl) (by decide) (by kernel_rfl) (by kernel_rfl) (by kernel_rfl) (fun _ _ _ h => h) (by rfl) (fun W hSw => ?hy4_5) hS ?_
   case hy4_5 => ((try dsimp only at hSw); go_simp; try with_reducible rfl)
   simp only [Act.put,jZ,jY,jX]
   refine Tl.headX_tk 5 ?v5_6 rfl (by kernel_rfl) (by decide) (by kernel_rfl) (by kernel_rfl) (by kernel_rfl) (fun _ _ _ h => h) (by rfl) (fun W hSw => ?hy5_6) hS ?_
   case hy5_6 => ((try dsimp only at hSw); go_simp; try with_reducible rfl)
   simp only [Act.put,jZ,jY,jX]
   refine Tl.headX_tk 6 ?v6_7 rfl (by kernel_rfl) (by decide) (by kernel_rfl) (by kernel_rfl) (by kernel_rfl) (fun _ _ _ h => h) (by rfl) (fun W hSw => ?hy6_7) hS ?_
   case hy6_7 => ((try dsimp only at hSw); go_simp; try with_reducible rfl)
   simp only [Act.put,jZ,jY,jX]
   refine Tl.headX_tk 7 ?v7_8 rfl (by kernel_rfl) (by decide) (by kernel_rfl) (by kernel_rfl) (by kernel_rfl) (fun _ _ _ h => h) (by rfl) (fun W hSw => ?hy7_8) hS ?_
   case hy7_8 => ((try dsimp only at hSw); go_simp; try with_reducible rfl)
   simp only [Act.put,jZ,jY,jX]
   refine Tl.headX_tk 8 ?v8_9 rfl (by kernel_rfl) (by decide) (by kernel_rfl) (by kernel_rfl) (by kernel_rfl) (fun _ _ _ h => h) (by rfl) (fun W hSw => ?hy8_9) hS ?_
   case hy8_9 => ((try dsimp only at hSw); go_simp; try with_reducible rfl)
   simp only [Act.put,jZ,jY,jX]
   refine Tl.headX_tk 9 ?v9_10 rfl (by kernel_rfl) (by decide) (by kernel_rfl) (by kernel_rfl) (by kernel_rfl) (fun _ _ _ h => h) (by rfl) (fun W hSw => ?hy9_10) hS ?_
   case hy9_10 => ((try dsimp only at hSw); go_simp; try with_reducible rfl)
   simp only [Act.put,jZ,jY,jX]
   refine Tl.headX_tk 10 ?v10_11 rfl (by kernel_rfl) (by decide) (by kernel_rfl) (by kernel_rfl) (by kernel_rfl) (fun _ _ _ h => h) (by rfl) (fun W hSw => ?hy10_11) hS ?_
   case hy10_11 => ((try dsimp only at hSw); go_simp; try with_reducible rfl)
   simp only [Act.put,jZ,jY,jX]
   refine Tl.headX_tk 11 ?v11_12 rfl (by kernel_rfl) (by decide) (by kernel_rfl) (by kernel_rfl) (by kernel_rfl) (fun _ _ _ h => h) (by rfl) (fun W hSw => ?hy11_12) hS ?_
   case hy11_12 => ((try dsimp only at hSw); go_simp; try with_reducible rfl)
   simp only [Act.put,jZ,jY,jX]
   refine Tl.headX_tk 12 ?v12_13 rfl (by kernel_rfl) (by decide) (by kernel_rfl) (by kernel_rfl) (by kernel_rfl) (fun _ _ _ h => h) (by rfl) (fun W hSw => ?hy12_13) hS ?_
   case hy12_13 => ((try dsimp only at hSw); go_simp; try with_reducible rfl)
   simp only [Act.put,jZ,jY,jX]
   refine Tl.headX_tk 13 ?v13_14 rfl (by kernel_rfl) (by decide) (by kernel_rfl) (by kernel_rfl) (by kernel_rfl) (fun _ _ _ h => h) (by rfl) (fun W hSw => ?hy13_14) hS ?_
   case hy13_14 => ((try dsimp only at hSw); go_simp; try with_reducible rfl)
   simp only [Act.put,jZ,jY,jX]
   refine Tl.headX_tk 14 ?v14_15 rfl (by kernel_rfl) (by decide) (by kernel_rfl) (by kernel_rfl) (by kernel_rfl) (fun _ _ _ h => h) (by rfl) (fun W hSw => ?hy14_15) hS ?_
   case hy14_15 => ((try dsimp only at hSw); go_simp; try with_reducible rfl)
   simp only [Act.put,jZ,jY,jX]
   refine Tl.headX_tk 15 ?v15_16 rfl (by kernel_rfl) (by decide) (by kernel_rfl) (by kernel_rfl) (by kernel_rfl) (fun _ _ _ h => h) (by rfl) (fun W hSw => ?hy15_16) hS ?_
   case hy15_16 => ((try dsimp only at hSw); go_simp; try with_reducible rfl)
   simp only [Act.put,jZ,jY,jX]
   have HWD:Hid (Below w.heap.size w w7.drew):=jS HB7 HD7.out
   refine Tl.headX_cl (R:=fun v w' => Hid (EOwn w' w7.drew.heap.size v (bckE L (q:Int))/\Below w7.drew.heap.size w7.drew w')) 16 _ _ rfl (by decide) (by kernel_rfl) (by rfl) ?he16 ((HRB.out _ HWD.out).mono (by rintro e w' ⟨x,rfl,h1,h2⟩; exact ⟨x,rfl,jH ⟨h1,h2⟩⟩)) ?_
   case he16 => (go_simp; try with_reducible rfl)
   rintro r w8 hr
   have HB8:Hid (Below w7.heap.size w7 w8):=jH (step_below HD7.out HD7.out.size hr.out.2)
   obtain ⟨A2,n2,c2,rfl,hsd⟩:=HSD.out w8 r _ HB8.out hr.out.1
   have HS8:=jH hsd
   clear hr hS hsd
   have hS:=HSW.out _ HB8.out
   refine ⟨hS,?_⟩
   simp only [Act.put,jZ,jY,jX]
   refine Tl.headX_cl 17 _ _ rfl (by decide) (by kernel_rfl) (by rfl) ?he17 HS8.out ?_
   case he17 => (go_simp; try with_reducible rfl)
   rintro r w9 hr
   have HB9:Hid (Below w7.heap.size w7 w9):=jH (step_below HB8.out HB8.out.size hr.out.2)
   have HR9:Hid (MOwn w9 (n0 + 5) r (rowF k L vals chg q)):=jH (own_mono hr.out.1 (Nat.le_trans HU7.out HB8.out.size))
   clear hr hS
   obtain ⟨Ar,cr,rfl,_⟩:=HR9.out.room
   obtain ⟨mr,hmr⟩:∃ mr,mr = (rowF k L vals chg q).length:=⟨_,rfl⟩
   rw [<- hmr] at HR9 ⊢
   clear hmr
   have hS:=HSW.out _ HB9.out
   refine ⟨hS,?_⟩
   simp only [Act.put,jZ,jY,jX]
   have hb10:Below w9.heap.size w9 (w9.alloc (.cells #[.slice Ar mr cr] 133)):=(Below.refl _ w9).alloc (Nat.le_refl _) _
   have HB10:Hid (Below w7.heap.size w7 (w9.alloc (.cells #[.slice Ar mr cr] 133))):=jS HB9 hb10
   have HR10:Hid (MOwn (w9.alloc (.cells #[.slice Ar mr cr] 133)) (n0 + 5) (.slice Ar mr cr) (rowF k L vals chg q)):=jH (own_below HR9.out hb10)
   have HO10:Hid (ROwn (w9.alloc (.cells #[.slice Ar mr cr] 133)) (n0 + 5) (.slice As ms cs) ((List.range q).map (rowF k L vals chg))):=jH (HR7.out.below HB10.out)
   have HA10:=jH (own_below HA7.out HB10.out)
   have HN10:Hid ((w9.alloc (.cells #[.slice Ar mr cr] 133)).heap[w9.heap.size]? = some (.cells #[.slice Ar mr cr] 133 (0,0))):=jH (heap_alloc_new w9 _)
   have HU10:Hid (n0 + 5 <= (w9.alloc (.cells #[.slice Ar mr cr] 133)).heap.size):=jH (Nat.le_trans HU7.out HB10.out.size)
   have HL9:Hid (((List.range q).map (rowF k L vals chg)).length < 1000000000):=jH (by rw [List.length_map,List.length_range]; omega)
   refine Tl.headX_vl 18 ?v18_17 ?w18_17 rfl (by decide) (by kernel_rfl) (by rfl) ?hy18_17 ?hs18_17 ?_
   case hy18_17 => (go_simp; first | (constructor <;> with_reducible rfl) | with_reducible rfl)
   case hs18_17 => exact HSW.out _ HB10.out
   simp only [Act.put,jZ,jY,jX]
   refine Tl.headX_rest (by kernel_rfl) ?_
   simp only [List.drop_succ_cons,List.drop_zero]
   clear hS HSD HR9 HB9 HB8 HS8 HSW hb10 HWD
   go_wp2_with (at_builtin; refine app_r rfl (.tmp 28) (.tmp 46) rfl (n0 + 5) _ _ _ _ rfl HO10.out _ rfl HN10.out HR10.out HL9.out HU10.out ?_)
   intro v11 w11 ho11 hg11
   have hso:=HO10.out
   obtain ⟨xs10,ho10,_⟩:=hso
   have HB11:=jH ((step_below HB7.out HB7.out.size HB10.out).trans (own_grown ho10 hg11 (by have:=HN0.out; omega) (step_below HB7.out HB7.out.size HB10.out).size))
   have HG11:=jH (box_other (keep HG7.out HB10.out) ho10 (by decide) hg11)
   have HJ11:=jH (box_other (keep HJ7.out HB10.out) ho10 (by decide) hg11)
   have HS11:=jH (box_other (keep HS7.out HB10.out) ho10 (by decide) hg11)
   have HX11:=jH (box_other (keep HX7.out HB10.out) ho10 (by decide) hg11)
   have HT11:=jH (box_other (keep HT7.out HB10.out) ho10 (by decide) hg11)
   have HA11:=jH (own_other HA10.out ho10 (by decide) hg11)
   have HR11:Hid (ROwn w11 (n0 + 5) v11 ((List.range (q + 1)).map (rowF k L vals chg))):=jH (by rw [List.range_succ,List.map_append]; exact ho11)
   have HU11:Hid (n0 + 5 <= w11.heap.size):=jH (Nat.le_trans HU10.out hg11.size)
   clear ho11 hg11 ho10 HO10 HN10 HR10 HL9 HU10 HB10 HA10
   -- its part of the total
   obtain ⟨A11,c11,rfl,_⟩:=HR11.out.form
   obtain ⟨j0,j1,j2,j3,j4,_⟩:=jb_cells HJ11.out
   obtain ⟨_,s1,s2,_,_,_,_⟩:=six HS11.out
   obtain ⟨t0,t1,_⟩:=two HT11.out
   obtain ⟨_,_,e1,v0⟩:=(HVA.out.below HB11.out) q y HY.out
   cases e1
   obtain ⟨_,_,e2,u0⟩:=(HCA.out.below HB11.out) q ch HCH.out
   cases e2
   obtain ⟨ka,oa,rfl,z0⟩:=(HAA.out.below HB11.out) q z HZ.out
   have hzr:=HAR.out z (List.mem_of_getElem? HZ.out)
   obtain ⟨x1,hx1⟩:∃ s1,s1 = sumF k L vals (List.range (q + 1)):=⟨_,rfl⟩
   obtain ⟨x2,hx2⟩:∃ m1,m1 = mosF k was vals chg (List.range (q + 1)):=⟨_,rfl⟩
   obtain ⟨x3,hx3⟩:∃ s0,s0 = sumF k L vals (List.range q):=⟨_,rfl⟩
   obtain ⟨x4,hx4⟩:∃ m0,m0 = mosF k was vals chg (List.range q):=⟨_,rfl⟩
   obtain ⟨p1,hp1⟩:∃ p1,p1 = prtS k y n1:=⟨_,rfl⟩
   obtain ⟨p2,hp2⟩:∃ p2,p2 = prtM k z y ch:=⟨_,rfl⟩
   have es:jonS k x3 p1 = x1:=by rw [hx1,List.range_succ,sumF_next,hx3,hp1,vl_of HY.out,HN1.out]
   have em:jonM k x4 p2 = x2:=by rw [hx2,List.range_succ,mosF_next,hx4,hp2,vl_of HY.out,vl_of HZ.out,bt_of HCH.out]
   rw [<- hx3] at t0
   rw [<- hx4] at t1
   rw [<- hx3,<- hx4] at HT11
   have C1:=jH (regr fun W (_:Below w11.heap.size w11 W) => rpart_any k st so dm ep z y ch A1 n1 c1 (by have:=hzr.1; omega) (by have:=hzr.2; omega) (by have:=hyr.1; omega) (by have:=hyr.2; omega) W)
   have C2:=jH (regr fun W (_:Below w11.heap.size w11 W) => rjoin_any k st so dm ep x3 x4 p1 p2 W)
   rw [<- hp1,<- hp2] at C1
   rw [es,em] at C2
   have HX1:=jH hx1; have HX2:=jH hx2
   clear hx1 hx2 hx3 hx4 hp1 hp2 es em hyr hzr
   have y0:=cell_regrown j0; have y1:=cell_regrown j1; have y2:=cell_regrown j2; have y3:=cell_regrown j3; have y4:=cell_regrown j4
   have y5:=cell_regrown t0; have y6:=cell_regrown t1; have y7:=cell_regrown s1; have y8:=cell_regrown s2; have y9:=cell_regrown v0; have y10:=cell_regrown u0; have y11:=cell_regrown z0
   clear j0 j1 j2 j3 j4 t0 t1 s1 s2 v0 u0 z0
   go_upto_region 10 with fail
   refine Tl.region_tail_below 20 mixed (by kernel_rfl) ?_
   simp only [List.take_succ_cons,List.take_zero,List.drop_succ_cons,List.drop_zero]
   repeat (go_big_quiet_step ((with_reducible first | exact C1.out _ _ | exact C2.out _ _)))
   refine wpQuiet_nil ?_
   intro w12 hw12
   have hb12:Below w11.heap.size w11 w12:=by obtain ⟨⟨dq,osq⟩,rfl⟩:=hw12; exact below_regrown w11 dq osq
   have HB12:=jH hb12
   clear hb12 hw12 y0 y1 y2 y3 y4 y5 y6 y7 y8 y9 y10 y11 C1 C2
   have HT12:=jK HT11 HB12.out
   have f0:=warm HT12.out 0; have f1:=warm HT12.out 1
   obtain ⟨t0,t1,_⟩:=two HT12.out
   obtain ⟨X,hX⟩:∃ X,X = (w12.setCell ⟨n0 + 1 + 1 + 1 + 1,0,none⟩ (.int .i64 x1)).setCell ⟨n0 + 1 + 1 + 1 + 1,1,none⟩ (.int .i64 x2):=⟨_,rfl⟩
   have HX:=jH hX
   have HHX:Hid (RtH w X n0 k st so dm ep V A n c L (some ⟨kv,ov,none⟩) cv (some ⟨kc,oc,none⟩) cc a0 a3 a4 a5 was vals chg (.slice A7 m7 c7) (.slice A11 ((List.range (q + 1)).map (rowF k L vals chg)).length c11) (q + 1)):=jH (by
    have ho:∀ j,j ≠ n0 + 1 + 1 + 1 + 1->X.heap[j]? = w12.heap[j]?:=fun j hj => by rw [hX]; exact (set_other _ _ _ _ _ hj).trans (set_other _ _ _ _ _ hj)
    have hbw:=HN0.out
    refine ⟨?_,(ho _ (by omega)).trans (keep HG11.out HB12.out),(ho _ (by omega)).trans (keep HJ11.out HB12.out),(ho _ (by omega)).trans (keep HS11.out HB12.out),(ho _ (by omega)).trans (keep HX11.out HB12.out),?_,own_moved (own_below HA11.out HB12.out) HT12.out (by decide) ho,?_,?_⟩
    ·rw [hX]
     exact ((step_below HB11.out HB11.out.size HB12.out).setCell (p:=⟨n0 + 1 + 1 + 1 + 1,0,none⟩) (by show w.heap.size <= n0 + 1 + 1 + 1 + 1; omega) _).setCell (p:=⟨n0 + 1 + 1 + 1 + 1,1,none⟩) (by show w.heap.size <= n0 + 1 + 1 + 1 + 1; omega) _
    ·rw [hX,<- HX1.out,<- HX2.out]
     exact set_heap (i:=1) (set_heap (i:=0) HT12.out (.int .i64 x1)) (.int .i64 x2)
    ·obtain ⟨xs,h1,h2⟩:=HR11.out.below HB12.out
     exact ⟨xs,own_moved h1 HT12.out (by decide) ho,h2.1,fun i M hi => by obtain ⟨x,e1,e2⟩:=h2.2 i M hi; exact ⟨x,e1,own_moved e2 HT12.out (by decide) ho⟩⟩
    ·rw [hX]
     exact Nat.le_trans (Nat.le_trans HU11.out HB12.out.size) (by simp))
   clear hX HB12 HG11 HJ11 HS11 HX11 HT11 HA11 HR11 HU11 HB11 HG7 HJ7 HS7 HX7 HT7 HR7 HO7 HA7 HU7 HB7
   go_wp2
   rw [<- HX.out]
   go_wp2
   go_roundg (gk - 1)
   case measure => omega
   case rel => exact ⟨q + 1,by omega,by go_num,HHX⟩
  ·obtain rfl:q = V:=by omega
   obtain ⟨Aal,cal,rfl,hal⟩:=HH.out.ao.form
   obtain ⟨As,cs,rfl,hrm⟩:=HH.out.so.form
   rw [List.length_map,List.length_range] at HH
   rw [List.length_map,List.length_range] at HH
   have HMG:Hid (Calls Tryz.prog 105 #[.agg #[.int .u8 k,.int .i64 st,.int .i64 so,.int .i64 dm,.int .i64 ep],.slice Aal q cal,.slice As q cs] wr fun e w' => ∃ Ai ci,e = .returned (.slice Ai q ci)/\Hid (KOwn w' wr.heap.size (.slice Ai q ci) (inbS k q L vals chg)/\Below wr.heap.size wr w')):=jH (by
    have h:=rmerge_any k st so dm ep Aal As q cal q cs ((List.range q).map fun (v:Nat) => (v:Int)) (rowsS k q L vals chg) wr hal (by simp) (fun i M hi => hrm i M hi) (by simp [rowsS]) (by omega) (by omega) (rows_few k q L vals chg hV hm)
    refine h.mono ?_
    rintro e w' ⟨v,rfl,h1,h2⟩
    obtain ⟨Ar,cr,rfl,_⟩:=h1.out.room
    have h3:=h1.out
    have hl:(mergeM k ((List.range q).map fun (v:Nat) => (v:Int)) (rowsS k q L vals chg)).length = q:=inb_len k q L vals chg
    rw [hl] at h3 ⊢
    exact ⟨Ar,cr,rfl,jH ⟨h3,h2.out⟩⟩)
   clear hal hrm g1
   obtain ⟨j0,j1,j2,j3,j4,_⟩:=jb_cells HH.out.jb
   go_wp2_with fail
   refine HMG.out.mono ?_
   rintro e w3 ⟨Ai,ci,rfl,hr⟩
   have HK3:=jH hr.out.1
   have HH3:=jH (HH.out.step hr.out.2)
   have HWR:Hid (w.heap.size <= wr.heap.size):=jH HH.out.below.size
   clear hr HMG HH j0 j1 j2 j3 j4 g0
   obtain ⟨s1,hs1⟩:∃ s1,s1 = sumF k L vals (List.range q):=⟨_,rfl⟩
   obtain ⟨m1,hm1⟩:∃ m1,m1 = mosF k was vals chg (List.range q):=⟨_,rfl⟩
   have HT3:=jH HH3.out.tb
   rw [<- hs1,<- hm1] at HT3
   have HS1:Hid (sumS k q L vals = s1):=jH (by rw [hs1]; rfl)
   have HM1:Hid (mosS k q was vals chg = m1):=jH (by rw [hm1]; rfl)
   clear hs1 hm1
   have HSB:=jH HH3.out.sb; have HZB:=jH HH3.out.zb
   -- the row,the sum,the most
   have hx3:=set_heap (i:=3) HSB.out (.slice Ai q ci)
   have hx4:=set_heap (i:=4) hx3 (.int .i64 s1)
   have hx5:=set_heap (i:=5) hx4 (.int .i64 m1)
   obtain ⟨X3,hX3⟩:∃ X3,X3 = w3.setCell ⟨n0 + 1 + 1,3,none⟩ (.slice Ai q ci):=⟨_,rfl⟩
   obtain ⟨X4,hX4⟩:∃ X4,X4 = X3.setCell ⟨n0 + 1 + 1,4,none⟩ (.int .i64 s1):=⟨_,rfl⟩
   obtain ⟨X5,hX5⟩:∃ X5,X5 = X4.setCell ⟨n0 + 1 + 1,5,none⟩ (.int .i64 m1):=⟨_,rfl⟩
   rw [<- hX3] at hx3 hx4 hx5
   rw [<- hX4] at hx4 hx5
   rw [<- hX5] at hx5
   have ho3:∀ j,j ≠ n0 + 1 + 1->X3.heap[j]? = w3.heap[j]?:=fun j hj => by rw [hX3]; exact set_other _ _ _ _ _ hj
   have ho4:∀ j,j ≠ n0 + 1 + 1->X4.heap[j]? = w3.heap[j]?:=fun j hj => by rw [hX4]; exact (set_other _ _ _ _ _ hj).trans (ho3 j hj)
   have ho5:∀ j,j ≠ n0 + 1 + 1->X5.heap[j]? = w3.heap[j]?:=fun j hj => by rw [hX5]; exact (set_other _ _ _ _ _ hj).trans (ho4 j hj)
   have HE3:=jH hX3; have HE4:=jH hX4; have HE5:=jH hX5
   have HY3:Hid (X3.heap[n0 + 1 + 1]? = some (.cells #[.int .i64 a0,.slice Av q cv,.slice Ac q cc,.slice Ai q ci,a4,a5] 45 (0,0))):=jH hx3
   have HY4:Hid (X4.heap[n0 + 1 + 1]? = some (.cells #[.int .i64 a0,.slice Av q cv,.slice Ac q cc,.slice Ai q ci,.int .i64 s1,a5] 45 (0,0))):=jH hx4
   have HY5:Hid (X5.heap[n0 + 1 + 1]? = some (.cells #[.int .i64 a0,.slice Av q cv,.slice Ac q cc,.slice Ai q ci,.int .i64 s1,.int .i64 m1] 45 (0,0))):=jH hx5
   have HT4:=jH ((ho3 _ (by omega)).trans HT3.out); have HT5:=jH ((ho4 _ (by omega)).trans HT3.out)
   have HZ5:=jH ((ho5 _ (by omega)).trans HZB.out)
   have HK5:=jH (own_moved HK3.out HSB.out (by decide) ho5)
   have HB5:Hid (Below w.heap.size w X5):=jH (by
    have hbw:=HN0.out
    rw [hX5,hX4,hX3]
    exact ((HH3.out.below.setCell (p:=⟨n0 + 1 + 1,3,none⟩) (by show w.heap.size <= n0 + 1 + 1; omega) _).setCell (p:=⟨n0 + 1 + 1,4,none⟩) (by show w.heap.size <= n0 + 1 + 1; omega) _).setCell (p:=⟨n0 + 1 + 1,5,none⟩) (by show w.heap.size <= n0 + 1 + 1; omega) _)
   clear hx3 hx4 hx5 hX3 hX4 hX5 ho3 ho4 ho5
   obtain ⟨_,_,_,b3,_,_,_⟩:=six HSB.out
   have f3:=warm HSB.out 3
   go_upto_region 12 with fail
   rw [<- HE3.out]
   clear b3 f3
   obtain ⟨t0,t1,_⟩:=two HT4.out
   obtain ⟨_,_,_,_,b4,_,_⟩:=six HY3.out
   have f4:=warm HY3.out 4
   go_upto_region 13 with fail
   rw [<- HE4.out]
   clear t0 t1 b4 f4
   obtain ⟨t0,t1,_⟩:=two HT5.out
   obtain ⟨_,_,_,_,_,b5,_⟩:=six HY4.out
   have f5:=warm HY4.out 5
   go_upto_region 14 with fail
   rw [<- HE5.out]
   clear t0 t1 b5 f5
   obtain ⟨x0,x1,x2,x3,x4,x5,_⟩:=six HY5.out
   obtain ⟨r0,r1,r2,r3,r4,r5,rl⟩:=six HZ5.out
   have f0:=warm HZ5.out 0; have f1:=warm HZ5.out 1; have f2:=warm HZ5.out 2; have f3:=warm HZ5.out 3; have f4:=warm HZ5.out 4; have f5:=warm HZ5.out 5
   go_wp2
   have hX:=put6_heap HZ5.out (.int .i64 a0) (.slice Av q cv) (.slice Ac q cc) (.slice Ai q ci) (.int .i64 s1) (.int .i64 m1)
   have hBX:=put6_below HB5.out (b:=n0 + 1 + 1 + 1) (by have:=HN0.out; omega) (.int .i64 a0) (.slice Av q cv) (.slice Ac q cc) (.slice Ai q ci) (.int .i64 s1) (.int .i64 m1)
   have h1:=put6_moved (own_mono HK5.out HWR.out) HZ5.out (by decide) (.int .i64 a0) (.slice Av q cv) (.slice Ac q cc) (.slice Ai q ci) (.int .i64 s1) (.int .i64 m1)
   unfold put6 at hX hBX h1
   exact bodyPost_ret (v:=.agg #[.int .i64 a0,.slice Av q cv,.slice Ac q cc,.slice Ai q ci,.int .i64 s1,.int .i64 m1]) (res_s _ _ _ _ _ _ _ _ _ _ _ Tryz.results93 rfl hX) rfl ⟨Ai,ci,by rw [HS1.out,HM1.out],jH h1,jH hBX⟩
end Go.Proofs.YtdcaekmgfcpbmaaGreat.Sq
