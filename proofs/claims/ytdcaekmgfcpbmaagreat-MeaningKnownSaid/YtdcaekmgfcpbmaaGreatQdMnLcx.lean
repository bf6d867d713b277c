/-
  What is proved here: a contract of the closure that tells the root of a vertex's tree, and hangs what it came by right below it. Conditions: the forest is one; the vertex is one of it. What is proved here: contracts of what puts vertices that hang together into one tree each, and of meaning.labels. Conditions: the graph may be. What is proved here: contracts of meaning.labels and meaning.Labels. Conditions: at most 100000 edges.
-/
import Derived.Test.YtdcaekmgfcpbmaaGreatQdMnMem
import Derived.Test.YtdcaekmgfcpbmaaGreatQdMnBfsx
import Derived.Test.YtdcaekmgfcpbmaaGreatQdTlIn
namespace Go.Proofs.YtdcaekmgfcpbmaaGreat.Mn
open Go.RowKit Gr Wd Ws Fx Rk Lb Al
open Pa (vl bt vl_of vl_at bt_of bt_at)
abbrev rootV (ba br:Nat):Value:=.func (.func 71) #[] #[.pointer (some ⟨ba,0,none⟩),.pointer (some ⟨br,0,none⟩)]
structure Uf (V ba br g cp B:Nat) (A:List Int) (w:World):Prop where
 abox:w.heap[ba]? = some (.cells #[.slice (some ⟨g,0,none⟩) V cp] 57 (0,0))
 rbox:w.heap[br]? = some (.cells #[rootV ba br] 81 (0,0))
 row:NOwn w 3 B (.slice (some ⟨g,0,none⟩) V cp) A
 len:A.length = V
theorem Uf.below {V ba br g cp B:Nat} {A:List Int} {w w':World} (h:Uf V ba br g cp B A w) (hb:Below w.heap.size w w'):Uf V ba br g cp B A w' :=
 ⟨keepB h.abox hb,keepB h.rbox hb,h.row.below hb,h.len⟩
theorem Uf.set {V ba br g cp B:Nat} {A:List Int} {w:World} (h:Uf V ba br g cp B A w) (k:Nat) (x:Int):Uf V ba br g cp B (A.set k x) (w.setCell ⟨g,k,none⟩ (.int .i64 x)):=by
 obtain ⟨_,c,hc⟩:=h.row.blk
 exact ⟨nbox_set h.abox hc (by decide),nbox_set h.rbox hc (by decide),h.row.set h.len k x,by rw [List.length_set]; exact h.len⟩
set_option maxRecDepth 100000 in
set_option maxHeartbeats 2000000 in
theorem root_any (V ba br g cp B:Nat) (R:Nat->Nat):∀ (v:Nat) (A:List Int) (w:World),v < V->V <= 512->Fo V A R->Uf V ba br g cp B A w ->
 Calls Tryz.prog 71 #[.int .i64 (v:Int),.pointer (some ⟨ba,0,none⟩),.pointer (some ⟨br,0,none⟩)] w fun e w' => e = .returned (.int .i64 ((R v:Nat):Int))/\∃ A',Hid (Fo V A' R/\Uf V ba br g cp B A' w'/\(∀ j,v < j->vl A' j = vl A j)/\w.grownBy w' (some g)):=by
 have mixed:=mixedP
 intro v
 induction v using Nat.strongRecOn with
 | ind v ih =>
  intro A w hv hV hF hU
  obtain ⟨u,hu,huv,hR⟩:=hF.up v hv
  have HF:=jH hF; have HU:=jH hU
  obtain ⟨a0,a1,_⟩:=one_cell hU.abox
  obtain ⟨c0,c1⟩:=hU.row.at_ hU.len hv
  rw [hu] at c0
  by_cases e:u = v
  ·subst e
   have HT:=jH (hF.top u hv hu)
   clear ih hF hU hR huv hu
   go_enter Tryz.func71,Tryz.ntmps71
   go_wp2
   go_ret
   exact ⟨by rw [HT.out]; rfl,A,jH ⟨HF.out,HU.out,fun j _ => rfl,grown_refl _ _⟩⟩
  ·have hlt:u < v:=by omega
   obtain ⟨r0,r1,_⟩:=one_cell hU.rbox
   have HIH:Hid (∀ W:World,Uf V ba br g cp B A W->Calls Tryz.prog 71 #[.int .i64 (u:Int),.pointer (some ⟨ba,0,none⟩),.pointer (some ⟨br,0,none⟩)] W fun e w' => ∃ x,e = .returned x/\(x = .int .i64 ((R v:Nat):Int)/\∃ A',Hid (Fo V A' R/\Uf V ba br g cp B A' w'/\(∀ j,u < j->vl A' j = vl A j)/\W.grownBy w' (some g)))):=jH (fun W hW => by
    refine (ih u hlt A W (by omega) hV hF hW).mono ?_
    rintro e w' ⟨rfl,h⟩
    rw [hR]
    exact ⟨_,rfl,rfl,h⟩)
   have HD:Hid (Uf V ba br g cp B A w.drew):=jH (hU.below (Below.refl _ w).drew)
   have hne:((u:Int) = (v:Int)) = False:=by simp; omega
   have hS:(fun W:World => W.cell? ⟨ba,0,none⟩ = some (.slice (some ⟨g,0,none⟩) V cp)/\W.cell? ⟨br,0,none⟩ = some (rootV ba br)/\W.cell? ⟨g,v,none⟩ = some (.int .i64 (u:Int))) w.drew:=⟨a0,r0,c0⟩
   clear ih hF hU hR
   go_enter Tryz.func71,Tryz.ntmps71
   go_upto_region 2 with fail
   refine Tl.headX_region (S:=(fun W:World => W.cell? ⟨ba,0,none⟩ = some (.slice (some ⟨g,0,none⟩) V cp)/\W.cell? ⟨br,0,none⟩ = some (rootV ba br)/\W.cell? ⟨g,v,none⟩ = some (.int .i64 (u:Int)))) 8 mixed (by decide) ?_
   try dsimp only
   refine Tl.headX_tk 0 ?v0_1 rfl (by kernel_rfl) (by decide) (by kernel_rfl) (by kernel_rfl) (by kernel_rfl) (fun _ _ _ h => h) (by rfl) (fun W hSw => ?hy0_1) hS ?_
   case hy0_1 => ((try dsimp only at hSw); go_simp; try with_reducible rfl)
   simp only [Act.put,jZ,jY,jX]
   refine Tl.headX_tk 1 ?v1_2 rfl (by kernel_rfl) (by decide) (by kernel_rfl) (by kernel_rfl) (by kernel_rfl) (fun _ _ _ h => h) (by rfl) (fun W hSw => ?hy1_2) hS ?_
   case hy1_2 => ((try dsimp only at hSw); go_simp; try with_reducible rfl)
   simp only [Act.put,jZ,jY,jX]
   refine Tl.headX_tk 2 ?v2_3 rfl (by kernel_rfl) (by decide) (by kernel_rfl) (by kernel_rfl) (by kernel_rfl) (fun _ _ _ h => h) (by rfl) (fun W hSw => ?hy2_3) hS ?_
   case hy2_3 => ((try dsimp only at hSw); go_simp; try with_reducible rfl)
   simp only [Act.put,jZ,jY,jX]
   refine Tl.headX_tk 3 ?v3_4 rfl (by kernel_rfl) (by decide) (by kernel_rfl) (by kernel_rfl) (by kernel_rfl) (fun _ _ _ h => h) (by rfl) (fun W hSw => ?hy3_4) hS ?_
   case hy3_4 => ((try dsimp only at hSw); go_simp; try with_reducible rfl)
   simp only [Act.put,jZ,jY,jX]
   refine Tl.headX_tk 4 ?v4_5 rfl (by kernel_rfl) (by decide) (by kernel_rfl) (by kernel_rfl) (by kernel_rfl) (fun _ _ _ h => h) (by rfl) (fun W hSw => ?hy4_5) hS ?_
   case hy4_5 => ((try dsimp only at hSw); go_simp; try with_reducible rfl)
   simp only [Act.put,jZ,jY,jX]
   refine Tl.headX_tk 5 ?v5_6 rfl (by kernel_rfl) (by decide) (by kernel_rfl) (by kernel_rfl) (by kernel_rfl) (fun _ _ _ h => h) (by rfl) (fun W hSw => ?hy5_6) hS ?_
   case hy5_6 => ((try dsimp only at hSw); go_simp; try with_reducible rfl)
   simp only [Act.put,jZ,jY,jX]
   refine Tl.headX_tk 6 ?v6_7 rfl (by kernel_rfl) (by decide) (by kernel_rfl) (by kernel_rfl) (by kernel_rfl) (fun _ _ _ h => h) (by rfl) (fun W hSw => ?hy6_7) hS ?_
   case hy6_7 => ((try dsimp only at hSw); go_simp; try with_reducible rfl)
   simp only [Act.put,jZ,jY,jX]
   refine Tl.headX_cl 7 _ _ rfl (by decide) (by kernel_rfl) (by rfl) ?he7 (HIH.out _ HD.out) ?_
   case he7 => (go_simp; try with_reducible rfl)
   rintro r w1 ⟨rfl,A1,HA⟩
   have HA1:=jH HA.out.1; have HU1:=jH HA.out.2.1
   have hk:vl A1 v = (u:Int):=by rw [HA.out.2.2.1 v hlt,hu]
   have HK:Hid (∀ j,v < j->vl A1 j = vl A j):=jH (fun j hj => HA.out.2.2.1 j (by omega))
   have HG:=jH (grown_trans (grown_drew w (some g)) HA.out.2.2.2)
   clear a0 a1 c0 c1 r0 r1 hS HA
   obtain ⟨a0,a1,_⟩:=one_cell HU1.out.abox
   obtain ⟨r0,r1,_⟩:=one_cell HU1.out.rbox
   obtain ⟨c0,c1⟩:=HU1.out.row.at_ HU1.out.len hv
   refine ⟨⟨a0,r0,by rw [c0,hk]⟩,?_⟩
   simp only [Act.put,jZ,jY,jX]
   refine Tl.headX_rest (by kernel_rfl) ?_
   simp only [List.drop_succ_cons,List.drop_zero]
   have HU2:=jH (HU1.out.set v ((R v:Nat):Int))
   have HF2:=jH (HA1.out.put hv)
   have HG2:=jH (grown_trans HG.out (grown_set w1 g v (.int .i64 ((R v:Nat):Int))))
   have HL1:=jH HU1.out.len
   clear hk r0 r1
   go_wp2_with fail
   go_ret
   exact ⟨rfl,A1.set v ((R v:Nat):Int),jH ⟨HF2.out,HU2.out,fun j hj => by rw [Pa.vl_set _ _ _ _ (by rw [HL1.out]; exact hv),if_neg (by omega)]; exact HK.out j hj,HG2.out⟩⟩
open Go.RowKit Gr Wd Ws Fx Rk Lb Al
open Pa (vl bt vl_of vl_at bt_of bt_at Fits fits_of fr)
structure RfH (w W:World) (b ba B:Nat) (V:Int) (S v:Value) (l:List Int):Prop where
 below:Below w.heap.size w W
 gbox:W.heap[b]? = some (.cells #[.int .i64 V,S] 24 (0,0))
 abox:W.heap[ba]? = some (.cells #[v] 57 (0,0))
 row:NOwn W 3 B v l
 lo:w.heap.size <= b/\w.heap.size <= ba/\w.heap.size <= B/\B <= W.heap.size
theorem RfH.step {w W W':World} {b ba B:Nat} {V:Int} {S v:Value} {l:List Int} (h:RfH w W b ba B V S v l) (hb:Below W.heap.size W W'):RfH w W' b ba B V S v l :=
 ⟨step_below h.below h.below.size hb,keepB h.gbox hb,keepB h.abox hb,h.row.below hb,⟨h.lo.1,h.lo.2.1,h.lo.2.2.1,Nat.le_trans h.lo.2.2.2 hb.size⟩⟩
theorem RfH.more {w W W':World} {b ba B:Nat} {V:Int} {S v v':Value} {l l':List Int} (h:RfH w W b ba B V S v l) (h':NOwn W' 3 B v' l') (hg:W.grownBy W' v.ownBlock):RfH w (W'.setCell ⟨ba,0,none⟩ v') b ba B V S v' l':=by
 have hab:=nbox_other h.abox h.row (by decide) hg
 have h1:=nown_grown h.row hg h.lo.2.2.1 h.below.size
 exact ⟨(h.below.trans h1).setCell (p:=⟨ba,0,none⟩) h.lo.2.1 v',nbox_set (nbox_other h.gbox h.row (by decide) hg) hab (by decide),set_same hab v',nown_set h' hab (by decide),
  ⟨h.lo.1,h.lo.2.1,h.lo.2.2.1,by have:=h.lo.2.2.2; have:=hg.size; simp [World.setCell]; omega⟩⟩
structure RgH (w W:World) (V b ba br g cp B:Nat) (S:Value) (A:List Int) (R:Nat->Nat) (L P:List Ed):Prop where
 below:Below w.heap.size w W
 gbox:W.heap[b]? = some (.cells #[.int .i64 (V:Int),S] 24 (0,0))
 uf:Uf V ba br g cp B A W
 fo:Fo V A R
 fc:Fc V L P R
 lo:w.heap.size <= b/\w.heap.size <= B
theorem RgH.step {w W W':World} {V b ba br g cp B:Nat} {S:Value} {A:List Int} {R:Nat->Nat} {L P:List Ed} (h:RgH w W V b ba br g cp B S A R L P) (hb:Below W.heap.size W W'):RgH w W' V b ba br g cp B S A R L P :=
 ⟨step_below h.below h.below.size hb,keepB h.gbox hb,h.uf.below hb,h.fo,h.fc,h.lo⟩
theorem RgH.root {w W W':World} {V b ba br g cp B:Nat} {S:Value} {A A':List Int} {R:Nat->Nat} {L P:List Ed} (h:RgH w W V b ba br g cp B S A R L P) (hf:Fo V A' R) (hu:Uf V ba br g cp B A' W') (hg:W.grownBy W' (some g)):RgH w W' V b ba br g cp B S A' R L P:=by
 obtain ⟨h1,c,hc⟩:=h.uf.row.blk
 exact ⟨h.below.trans (grown_below hg (Nat.le_trans h.lo.2 h1) h.below.size),grown_box hg h.gbox hc (by decide),hu,hf,h.fc,h.lo⟩
theorem RgH.join {w W:World} {V b ba br g cp B:Nat} {S:Value} {A:List Int} {R:Nat->Nat} {L P:List Ed} (h:RgH w W V b ba br g cp B S A R L P) (hF:Fits V L) {e:Ed} (he:e ∈ L) :
 RgH w (W.setCell ⟨g,max (R (fr e)) (R (Pa.to e)),none⟩ (.int .i64 ((min (R (fr e)) (R (Pa.to e)):Nat):Int))) V b ba br g cp B S (A.set (max (R (fr e)) (R (Pa.to e))) ((min (R (fr e)) (R (Pa.to e)):Nat):Int)) (jr R (R (fr e)) (R (Pa.to e))) L (P ++ [e]):=by
 obtain ⟨h1,c,hc⟩:=h.uf.row.blk
 obtain ⟨hf,ht⟩:=hF e he
 obtain ⟨f1,f2⟩:=h.fo.rt _ hf
 obtain ⟨t1,t2⟩:=h.fo.rt _ ht
 exact ⟨h.below.setCell (p:=⟨g,_,none⟩) (Nat.le_trans h.lo.2 h1) _,nbox_set h.gbox hc (by decide),h.uf.set _ _,h.fo.join (by omega) (by omega) f2 t2,h.fc.join hF he,h.lo⟩
theorem edge_at {V:Nat} {L:List Ed} (hc:chk (V:Int) L = 0) {k:Nat} (hk:k < L.length):∃ (f t:Nat) (z:Int),L[k]? = some ((f:Int),(t:Int),z)/\f < V/\t < V:=by
 obtain ⟨e,he⟩:=at_lt L k hk
 obtain ⟨_,_,_,hf,_⟩:=(chk_zero _ _).1 hc
 have:=(fitE_iff _ _).1 (hf e (List.mem_of_getElem? he))
 refine ⟨e.1.toNat,e.2.1.toNat,e.2.2,?_,by omega,by omega⟩
 rw [show ((e.1.toNat:Nat):Int) = e.1 by omega,show ((e.2.1.toNat:Nat):Int) = e.2.1 by omega]; exact he
theorem RgH.joined {w W:World} {V b ba br g cp B q:Nat} {S:Value} {A:List Int} {R:Nat->Nat} {L:List Ed} (h:RgH w W V b ba br g cp B S A R L (L.take q)) (hc:chk (V:Int) L = 0) {f t:Nat} {z:Int} (he:L[q]? = some ((f:Int),(t:Int),z)) {hi lo:Nat} (h1:max (R f) (R t) = hi) (h2:min (R f) (R t) = lo) :
 RgH w (W.setCell ⟨g,hi,none⟩ (.int .i64 (lo:Int))) V b ba br g cp B S (A.set hi (lo:Int)) (jr R (R f) (R t)) L (L.take (q + 1)):=by
 have hj:=h.join (fits_of hc) (List.mem_of_getElem? he)
 have e1:fr ((f:Int),(t:Int),z) = f:=by unfold fr; simp
 have e2:Pa.to ((f:Int),(t:Int),z) = t:=by unfold Pa.to; simp
 rw [e1,e2,h1,h2] at hj
 have e3:L.take (q + 1) = L.take q ++ [((f:Int),(t:Int),z)]:=take_at he
 rw [e3]; exact hj
set_option maxRecDepth 100000 in
set_option maxHeartbeats 4000000 in
theorem rootsOf_any (V:Nat) (A:Option Addr) (n c:Nat) (L:List Ed) (w:World) (hL:EAt w A L) (hn:L.length = n) (hm:n <= 100000) (hV:V <= 512) (hV0:1 <= V) (hc:chk (V:Int) L = 0) :
 Calls Tryz.prog 48 #[.agg #[.int .i64 (V:Int),.slice A n c]] w fun e w' => ∃ ba br g cp,e = .returned (rootV ba br)/\∃ R A',Hid (Fo V A' R/\Fc V L L R/\Uf V ba br g cp w.heap.size A' w'/\Below w.heap.size w w'):=by
 have mixed:=mixedP
 have hmf:∀ (fn:Fn) (first cap:Array Value) (w:World),(Instr.makeFunc fn first cap).run Tryz.prog w = .ok (.func fn first cap) w:=fun _ _ _ _ => rfl
 have hsf:∀ (fn:Fn) (a1 a2:Array Value) (a:Addr) (w:World),(store a (.func fn a1 a2)).run Tryz.prog w = stored Tryz.prog w a (.func fn a1 a2) .plain:=fun fn a1 a2 a w => run_store Tryz.prog w a (.func fn a1 a2) .plain rfl
 have HL:=jH hL; have HN:=jH hn; have HC:=jH hc
 clear hL hn hc
 obtain ⟨b,hb⟩:∃ b,b = w.heap.size:=⟨_,rfl⟩
 obtain ⟨W1,hW1⟩:∃ W1,W1 = w.alloc (.cells #[.int .i64 (V:Int),.slice A n c] 24):=⟨_,rfl⟩
 have HB1:Hid (Below w.heap.size w W1):=jH (by rw [hW1]; exact (Below.refl _ w).alloc (Nat.le_refl _) _)
 have HX1:Hid (W1.heap[b]? = some (.cells #[.int .i64 (V:Int),.slice A n c] 24 (0,0))):=jH (by rw [hW1,hb]; exact heap_alloc_new w _)
 have HBW:Hid (w.heap.size <= b):=jH (by rw [hb]; exact Nat.le_refl _)
 obtain ⟨g0,g1,_⟩:=two_cells HX1.out
 obtain ⟨i0,hi,hz0,hz1,hz2⟩:=info_parts info3
 obtain ⟨W2,hmk,hown2,hg2⟩:=run_make_own (P:=Tryz.prog) (w:=W1) w.heap.size 57 3 i0 _ 1 Tryz.underlying57 hi hz0 hz1 .i64 .i64 V (by rw [hz2]; omega) (by unfold maxLen; omega) HB1.out.size
 have hb2:Below W1.heap.size W1 W2:=⟨hg2.os,hg2.tape,hg2.output,hg2.size,fun i hi => hg2.block i hi nofun⟩
 obtain ⟨g2,hg2'⟩:∃ g,g = W1.heap.size:=⟨_,rfl⟩
 rw [<- hg2'] at hmk hown2
 obtain ⟨W3,hW3⟩:∃ W3,W3 = W2.alloc (.cells #[.slice (some ⟨g2,0,none⟩) 0 V] 57):=⟨_,rfl⟩
 obtain ⟨ba,hba⟩:∃ ba,ba = W2.heap.size:=⟨_,rfl⟩
 have hb3:Below W2.heap.size W2 W3:=by rw [hW3]; exact (Below.refl _ W2).alloc (Nat.le_refl _) _
 have hbx:W3.heap[ba]? = some (.cells #[.slice (some ⟨g2,0,none⟩) 0 V] 57 (0,0)):=by rw [hW3,hba]; exact heap_alloc_new W2 _
 have HH:Hid (RfH w W3 b ba w.heap.size (V:Int) (.slice A n c) (.slice (some ⟨g2,0,none⟩) 0 V) []):=jH ⟨step_below (step_below HB1.out HB1.out.size hb2) (Nat.le_trans HB1.out.size hb2.size) hb3,keepB (keepB HX1.out hb2) hb3,hbx,own_below hown2 hb3,⟨HBW.out,by rw [hba]; exact Nat.le_trans HB1.out.size hb2.size,Nat.le_refl _,Nat.le_trans (Nat.le_trans HB1.out.size hb2.size) hb3.size⟩⟩
 have HW3:=jH hW3; have HBA:=jH hba
 clear hown2 hg2 hb2 hb3 hbx hi hz0 hz1 hz2 hg2' hW3 hba
 go_enter Tryz.func48,Tryz.ntmps48
 go_upto_region 1 with fail
 rw [<- hW1,show w.heap.size = b from hb.symm]
 have HBb:=jH hb
 clear hW1 hb
 go_upto_region 2 with fail
 rw [<- HW3.out,<- HBA.out]
 clear HW3 HBA hmk HB1 HX1 g0 g1
 obtain ⟨g0,g1,_⟩:=two_cells HH.out.gbox
 go_wp2_with fail
 go_loopg [15] V (fun gk iv wr => ∃ (k:Nat) (A5:Option Addr) (n5 c5:Nat),iv = .int .i64 (k:Int)/\k + gk = V/\Hid (RfH w wr b ba w.heap.size (V:Int) (.slice A n c) (.slice A5 n5 c5) (own k)))
 case atStart => exact ⟨0,_,_,_,rfl,by omega,HH⟩
 case round =>
  clear HH g0 g1
  obtain ⟨k,A5,n5,c5,rfl,hk,HH⟩:=hrel
  obtain ⟨g0,g1,_⟩:=two_cells HH.out.gbox
  obtain ⟨a0,a1,_⟩:=one_cell HH.out.abox
  by_cases hlt:k < V
  ·have HO1:=jH (HH.out.row.alloc (.cells #[.int .i64 (k:Int)] 3))
   have HH1:=jH (HH.out.step ((Below.refl _ wr).alloc (Nat.le_refl _) (.cells #[.int .i64 (k:Int)] 3)))
   have HN1:=jH (heap_alloc_new wr (.cells #[.int .i64 (k:Int)] 3))
   have HSL:Hid ((own k).length < 1000000000):=jH (by rw [own_len]; omega)
   have HSZ:=jH HH1.out.lo.2.2.2
   go_wp2_with (at_builtin; refine app_n rfl (.tmp 18) (.tmp 20) 57 3 rfl Tryz.underlying57 info3 w.heap.size _ (own k) (k:Int) rfl HO1.out _ rfl HN1.out HSL.out HSZ.out ?_)
   intro v2 w2 ho2 hg2
   obtain ⟨A6,c6,rfl,_⟩:=ho2.form
   have HH2:=jH (HH1.out.more ho2 hg2)
   have HB2:=jH (nbox_other HH1.out.abox HH1.out.row (by decide) hg2)
   clear ho2 hg2 HO1 HH1 HN1 HSL HSZ g0 g1 a0 a1 HH
   obtain ⟨z0,z1,_⟩:=one_cell HB2.out
   obtain ⟨n6,hn6⟩:∃ n6,n6 = (own k ++ [(k:Int)]).length:=⟨_,rfl⟩
   rw [<- hn6] at HH2 ⊢
   clear hn6 HB2
   go_wp2
   go_roundg (gk - 1)
   case measure => omega
   case rel =>
    refine ⟨k + 1,A6,n6,c6,by go_num,by omega,?_⟩
    rw [own_next]; exact HH2
  ·have hkm:k = V:=by omega
   subst hkm
   obtain ⟨g,cp,hv,hg⟩:=HH.out.row.some_ (by rw [own_len]; omega)
   rw [own_len] at hv
   cases hv
   obtain ⟨cq,rfl⟩:∃ cq,cq = c5:=⟨_,rfl⟩
   obtain ⟨br,hbr⟩:∃ br,br = wr.heap.size:=⟨_,rfl⟩
   obtain ⟨W4,hW4⟩:∃ W4,W4 = wr.alloc (.cells #[rootV ba wr.heap.size] 81):=⟨_,rfl⟩
   have hb4:Below wr.heap.size wr W4:=by rw [hW4]; exact (Below.refl _ wr).alloc (Nat.le_refl _) _
   obtain ⟨z0,z1,_⟩:=one_cell (heap_alloc_new wr (.cells #[.nilFunc] 81))
   have hH4:=HH.out.step hb4
   have HG:Hid (RgH w W4 k b ba br g cq w.heap.size (.slice A n c) (own k) (fun v => v) L (L.take 0)):=jH ⟨hH4.below,hH4.gbox,⟨hH4.abox,by rw [hW4,hbr]; exact heap_alloc_new wr _,hH4.row,own_len k⟩,fo_start k,fc_start k L,⟨hH4.lo.1,hH4.lo.2.2.1⟩⟩
   have HW4:=jH hW4; have HBR:=jH hbr
   clear hW4 hbr hb4 hH4 hg a0 a1
   go_upto_region 9 with fail
   rw [<- HW4.out,<- HBR.out]
   clear HW4 HBR HH g0 g1 z0 z1
   obtain ⟨g0,g1,_⟩:=two_cells HG.out.gbox
   go_wp2_with fail
   clear g0 g1
   obtain ⟨G0,rfl⟩:∃ G0:Nat,G0 = gk:=⟨_,rfl⟩
   obtain ⟨V,rfl⟩:∃ V,V = k:=⟨_,rfl⟩
   go_loopg [27] n (fun gk iv wr => ∃ (q:Nat) (A':List Int) (R:Nat->Nat),iv = .int .i64 (q:Int)/\q + gk = n/\Hid (RgH w wr V b ba br g cq w.heap.size (.slice A n c) A' R L (L.take q)))
   case atStart => exact ⟨0,_,_,rfl,by omega,HG⟩
   case round =>
    clear HG
    obtain ⟨q,A',R,rfl,hq,HG⟩:=hrel
    by_cases hlt2:q < n
    ·obtain ⟨f,t,z,he,hf,ht⟩:=edge_at HC.out (show q < L.length by rw [HN.out]; exact hlt2)
     obtain ⟨bk,o,rfl,c0,c1,c2⟩:=(HL.out.below HG.out.below) q _ he
     have HE:=jH he
     clear he
     obtain ⟨be,hbe⟩:∃ be,be = wr.heap.size:=⟨_,rfl⟩
     obtain ⟨W1,hW1⟩:∃ W1,W1 = wr.alloc (.cells #[.int .i64 (f:Int),.int .i64 (t:Int),.int .i64 z] 33):=⟨_,rfl⟩
     have hb1:Below wr.heap.size wr W1:=by rw [hW1]; exact (Below.refl _ wr).alloc (Nat.le_refl _) _
     have HG1:=jH (HG.out.step hb1)
     have HB1:Hid (W1.heap[be]? = some (.cells #[.int .i64 (f:Int),.int .i64 (t:Int),.int .i64 z] 33 (0,0))):=jH (by rw [hW1,hbe]; exact heap_alloc_new wr _)
     have HW1:=jH hW1; have HBE:=jH hbe
     clear hW1 hbe hb1
     go_upto_region 12 with fail
     rw [<- HBE.out,<- HW1.out]
     clear HBE HW1 c0 c1 c2 HG
     have hRX:∀ j,j < V->R j < V:=fun j hj => by have:=(HG1.out.fo.rt j hj).1; omega
     have hx:=hRX f hf
     have hy:=hRX t ht
     clear hRX
     have HCL:Hid (∀ (W:World) (A2:List Int) (v:Nat),v < V->RgH w W V b ba br g cq w.heap.size (.slice (some ⟨bk,o,none⟩) n c) A2 R L (L.take q)->W.heap[be]? = some (.cells #[.int .i64 (f:Int),.int .i64 (t:Int),.int .i64 z] 33 (0,0)) ->
      Calls Tryz.prog 71 #[.int .i64 (v:Int),.pointer (some ⟨ba,0,none⟩),.pointer (some ⟨br,0,none⟩)] W fun e w' => ∃ x,e = .returned x/\(x = .int .i64 ((R v:Nat):Int)/\∃ A3,Hid (RgH w w' V b ba br g cq w.heap.size (.slice (some ⟨bk,o,none⟩) n c) A3 R L (L.take q)/\w'.heap[be]? = some (.cells #[.int .i64 (f:Int),.int .i64 (t:Int),.int .i64 z] 33 (0,0))))):=jH (fun W A2 v hv h1 h2 => by
      refine (root_any V ba br g cq w.heap.size R v A2 W hv hV h1.fo h1.uf).mono ?_
      rintro e w' ⟨rfl,A3,h3⟩
      obtain ⟨_,cc,hcc⟩:=h1.uf.row.blk
      exact ⟨_,rfl,rfl,A3,jH ⟨h1.root h3.out.1 h3.out.2.1 h3.out.2.2.2,grown_box h3.out.2.2.2 h2 hcc (by decide)⟩⟩)
     have HSW:Hid (∀ (W:World) (A2:List Int),RgH w W V b ba br g cq w.heap.size (.slice (some ⟨bk,o,none⟩) n c) A2 R L (L.take q)->W.heap[be]? = some (.cells #[.int .i64 (f:Int),.int .i64 (t:Int),.int .i64 z] 33 (0,0))->(W.cell? ⟨br,0,none⟩ = some (rootV ba br)/\W.cell? ⟨be,0,none⟩ = some (.int .i64 (f:Int))/\W.cell? ⟨be,1,none⟩ = some (.int .i64 (t:Int)))):=jH (fun W A2 h1 h2 => by
      obtain ⟨e0,e1,_⟩:=eb_cells h2
      exact ⟨(one_cell h1.uf.rbox).1,e0,e1⟩)
     have HG2:=jH (HG1.out.step (Below.refl _ W1).drew)
     have HB2:=jH (keepB HB1.out (Below.refl _ W1).drew)
     have hS:=HSW.out _ _ HG2.out HB2.out
     refine Tl.headX_region (S:=(fun W:World => W.cell? ⟨br,0,none⟩ = some (rootV ba br)/\W.cell? ⟨be,0,none⟩ = some (.int .i64 (f:Int))/\W.cell? ⟨be,1,none⟩ = some (.int .i64 (t:Int)))) 8 mixed (by decide) ?_
     try dsimp only
     refine Tl.headX_tk 0 ?v0_1 rfl (by kernel_rfl) (by decide) (by kernel_rfl) (by kernel_rfl) (by kernel_rfl) (fun _ _ _ h => h) (by rfl) (fun W hSw => ?hy0_1) hS ?_
     case hy0_1 => ((try dsimp only at hSw); go_simp; try with_reducible rfl)
     simp only [Act.put,jZ,jY,jX]
     refine Tl.headX_tk 1 ?v1_2 rfl (by kernel_rfl) (by decide) (by kernel_rfl) (by kernel_rfl) (by kernel_rfl) (fun _ _ _ h => h) (by rfl) (fun W hSw => ?hy1_2) hS ?_
     case hy1_2 => ((try dsimp only at hSw); go_simp; try with_reducible rfl)
     simp only [Act.put,jZ,jY,jX]
     refine Tl.headX_tk 2 ?v2_3 rfl (by kernel_rfl) (by decide) (by kernel_rfl) (by kernel_rfl) (by kernel_rfl) (fun _ _ _ h => h) (by rfl) (fun W hSw => ?hy2_3) hS ?_
     case hy2_3 => ((try dsimp only at hSw); go_simp; try with_reducible rfl)
     simp only [Act.put,jZ,jY,jX]
     refine Tl.headX_tk 4 ?v4_4 rfl (by kernel_rfl) (by decide) (by kernel_rfl) (by kernel_rfl) (by kernel_rfl) (fun _ _ _ h => h) (by rfl) (fun W hSw => ?hy4_4) hS ?_
     case hy4_4 => ((try dsimp only at hSw); go_simp; try with_reducible rfl)
     simp only [Act.put,jZ,jY,jX]
     refine Tl.headX_tk 5 ?v5_5 rfl (by kernel_rfl) (by decide) (by kernel_rfl) (by kernel_rfl) (by kernel_rfl) (fun _ _ _ h => h) (by rfl) (fun W hSw => ?hy5_5) hS ?_
     case hy5_5 => ((try dsimp only at hSw); go_simp; try with_reducible rfl)
     simp only [Act.put,jZ,jY,jX]
     refine Tl.headX_tk 6 ?v6_6 rfl (by kernel_rfl) (by decide) (by kernel_rfl) (by kernel_rfl) (by kernel_rfl) (fun _ _ _ h => h) (by rfl) (fun W hSw => ?hy6_6) hS ?_
     case hy6_6 => ((try dsimp only at hSw); go_simp; try with_reducible rfl)
     simp only [Act.put,jZ,jY,jX]
     refine Tl.headX_cl 3 _ _ rfl (by decide) (by kernel_rfl) (by rfl) ?he3 (HCL.out _ _ f hf HG2.out HB2.out) ?_
     case he3 => (go_simp; try with_reducible rfl)
     rintro r w5 ⟨rfl,A5,h5⟩
     have HG5:=jH h5.out.1; have HB5:=jH h5.out.2
     clear h5 hS HG2 HB2
     have hS:=HSW.out _ _ HG5.out HB5.out
     refine ⟨hS,?_⟩
     simp only [Act.put,jZ,jY,jX]
     refine Tl.headX_cl 7 _ _ rfl (by decide) (by kernel_rfl) (by rfl) ?he7 (HCL.out _ _ t ht HG5.out HB5.out) ?_
     case he7 => (go_simp; try with_reducible rfl)
     rintro r w6 ⟨rfl,A6,h6⟩
     have HG6:=jH h6.out.1; have HB6:=jH h6.out.2
     clear h6 hS HG5 HB5
     have hS:=HSW.out _ _ HG6.out HB6.out
     refine ⟨hS,?_⟩
     simp only [Act.put,jZ,jY,jX]
     refine Tl.headX_rest (by kernel_rfl) ?_
     simp only [List.drop_succ_cons,List.drop_zero]
     have HG3:=HG6
     obtain ⟨x,ex⟩:∃ x,R f = x:=⟨_,rfl⟩
     obtain ⟨y,ey⟩:∃ y,R t = y:=⟨_,rfl⟩
     rw [ex,ey]
     rw [ex] at hx; rw [ey] at hy
     clear hS HCL HSW HG1 HB1 HG6
     obtain ⟨a0,a1,_⟩:=one_cell HG3.out.uf.abox
     by_cases hxy:x <= y
     ·have HX:=jH ex; have HY:=jH ey
      clear ex ey
      have HJ:=jH (HG3.out.joined HC.out HE.out (hi:=y) (lo:=x) (by rw [HX.out,HY.out]; omega) (by rw [HX.out,HY.out]; omega))
      obtain ⟨k0,k1⟩:=HG3.out.uf.row.at_ HG3.out.uf.len (show y < V by omega)
      have hmx:max (x:Int) (y:Int) = (y:Int):=by omega
      have hmn:min (x:Int) (y:Int) = (x:Int):=by omega
      go_wp2
      go_roundg (gk - 1)
      case measure => omega
      case rel => exact ⟨q + 1,_,_,by go_num,by omega,HJ⟩
     ·have HX:=jH ex; have HY:=jH ey
      clear ex ey
      have HJ:=jH (HG3.out.joined HC.out HE.out (hi:=x) (lo:=y) (by rw [HX.out,HY.out]; omega) (by rw [HX.out,HY.out]; omega))
      obtain ⟨k0,k1⟩:=HG3.out.uf.row.at_ HG3.out.uf.len (show x < V by omega)
      have hmx:max (x:Int) (y:Int) = (x:Int):=by omega
      have hmn:min (x:Int) (y:Int) = (y:Int):=by omega
      go_wp2
      go_roundg (gk - 1)
      case measure => omega
      case rel => exact ⟨q + 1,_,_,by go_num,by omega,HJ⟩
    ·have HQ:Hid (q = n):=jH (by omega)
     obtain ⟨r0,r1,_⟩:=one_cell HG.out.uf.rbox
     go_wp2
     go_ret
     refine ⟨ba,br,g,cq,rfl,R,A',jH ⟨HG.out.fo,?_,HG.out.uf,HG.out.below⟩⟩
     have h:=HG.out.fc
     rw [HQ.out,<- HN.out,List.take_length] at h
     exact h
open Go.RowKit Gr Wd Ws Fx Rk Lb Al
open Pa (vl bt vl_of vl_at bt_of bt_at Fits fits_of fr)
def lbs (R:Nat->Nat) (k:Nat):List Int:=(List.range k).map fun v => ((R v:Nat):Int)
theorem lbs_len (R:Nat->Nat) (k:Nat):(lbs R k).length = k:=by unfold lbs; simp
theorem lbs_next (R:Nat->Nat) (k:Nat):lbs R (k + 1) = lbs R k ++ [((R k:Nat):Int)]:=by unfold lbs; rw [List.range_succ,List.map_append]; rfl
theorem lbs_at {R:Nat->Nat} {k v:Nat} (h:v < k):vl (lbs R k) v = ((R v:Nat):Int):=vl_of (by unfold lbs; rw [List.getElem?_map,List.getElem?_range h]; rfl)
structure RlH (w W:World) (V b ba br g cp B B':Nat) (S v:Value) (A:List Int) (R:Nat->Nat) (L:List Ed) (k:Nat):Prop where
 rg:RgH w W V b ba br g cp B S A R L L
 row:NOwn W 2 B' v (lbs R k)
 lo:w.heap.size <= B'/\B' <= W.heap.size
theorem RlH.step {w W W':World} {V b ba br g cp B B':Nat} {S v:Value} {A:List Int} {R:Nat->Nat} {L:List Ed} {k:Nat} (h:RlH w W V b ba br g cp B B' S v A R L k) (hb:Below W.heap.size W W'):RlH w W' V b ba br g cp B B' S v A R L k :=
 ⟨h.rg.step hb,h.row.below hb,⟨h.lo.1,Nat.le_trans h.lo.2 hb.size⟩⟩
theorem RlH.root {w W W':World} {V b ba br g cp B B':Nat} {S v:Value} {A A':List Int} {R:Nat->Nat} {L:List Ed} {k:Nat} (h:RlH w W V b ba br g cp B B' S v A R L k) (hf:Fo V A' R) (hu:Uf V ba br g cp B A' W') (hg:W.grownBy W' (some g)):RlH w W' V b ba br g cp B B' S v A' R L k :=
 ⟨h.rg.root hf hu hg,nown_other h.row h.rg.uf.row (by decide) hg,⟨h.lo.1,Nat.le_trans h.lo.2 hg.size⟩⟩
theorem RlH.more {w W W':World} {V b ba br g cp B B':Nat} {S v v':Value} {A:List Int} {R:Nat->Nat} {L:List Ed} {k:Nat} (h:RlH w W V b ba br g cp B B' S v A R L k) (h':NOwn W' 2 B' v' (lbs R (k + 1))) (hg:W.grownBy W' v.ownBlock):RlH w W' V b ba br g cp B B' S v' A R L (k + 1) :=
 ⟨⟨h.rg.below.trans (nown_grown h.row hg h.lo.1 h.rg.below.size),nbox_other h.rg.gbox h.row (by decide) hg,⟨nbox_other h.rg.uf.abox h.row (by decide) hg,nbox_other h.rg.uf.rbox h.row (by decide) hg,nown_other h.rg.uf.row h.row (by decide) hg,h.rg.uf.len⟩,h.rg.fo,h.rg.fc,h.rg.lo⟩,
  h',⟨h.lo.1,Nat.le_trans h.lo.2 hg.size⟩⟩
set_option maxRecDepth 100000 in
set_option maxHeartbeats 4000000 in
theorem labels_any (V:Nat) (A:Option Addr) (n c:Nat) (L:List Ed) (w:World) (hL:EAt w A L) (hn:L.length = n) (hm:n <= 100000) (hV:V <= 512) (hV0:1 <= V) (hc:chk (V:Int) L = 0) :
 Calls Tryz.prog 26 #[.agg #[.int .i64 (V:Int),.slice A n c]] w fun e w' => ∃ v l,e = .returned v/\Hid (LabC V L l/\NOwn w' 2 w.heap.size v l/\Below w.heap.size w w'):=by
 have mixed:=mixedP
 have HL:=jH hL; have HN:=jH hn; have HC:=jH hc
 clear hL hn hc
 obtain ⟨b,hb⟩:∃ b,b = w.heap.size:=⟨_,rfl⟩
 obtain ⟨W1,hW1⟩:∃ W1,W1 = w.alloc (.cells #[.int .i64 (V:Int),.slice A n c] 24):=⟨_,rfl⟩
 have HB1:Hid (Below w.heap.size w W1):=jH (by rw [hW1]; exact (Below.refl _ w).alloc (Nat.le_refl _) _)
 have HX1:Hid (W1.heap[b]? = some (.cells #[.int .i64 (V:Int),.slice A n c] 24 (0,0))):=jH (by rw [hW1,hb]; exact heap_alloc_new w _)
 have HBW:Hid (w.heap.size <= b):=jH (by rw [hb]; exact Nat.le_refl _)
 obtain ⟨g0,g1,_⟩:=two_cells HX1.out
 go_enter Tryz.func26,Tryz.ntmps26
 go_upto_region 1 with fail
 rw [<- hW1,show w.heap.size = b from hb.symm]
 have HBb:=jH hb
 clear hW1 hb
 go_wp2_with fail
 refine (rootsOf_any V A n c L W1 (HL.out.below HB1.out) HN.out hm hV hV0 HC.out).mono ?_
 rintro e w2 ⟨ba,br,g,cp,rfl,R,A',h2⟩
 have HG2:Hid (RgH w w2 V b ba br g cp W1.heap.size (.slice A n c) A' R L L):=jH ⟨step_below HB1.out HB1.out.size h2.out.2.2.2,keepB HX1.out h2.out.2.2.2,h2.out.2.2.1,h2.out.1,h2.out.2.1,⟨HBW.out,HB1.out.size⟩⟩
 have HB12:=jH HB1.out.size
 clear h2 HB1 HX1 g0 g1
 obtain ⟨g0,g1,_⟩:=two_cells HG2.out.gbox
 obtain ⟨i0,hi,hz0,hz1,hz2⟩:=info_parts info2
 obtain ⟨W3,hmk,hown3,hg3⟩:=run_make_own (P:=Tryz.prog) (w:=w2) w.heap.size 27 2 i0 _ 1 Tryz.underlying27 hi hz0 hz1 .i64 .i64 V (by rw [hz2]; omega) (by unfold maxLen; omega) HG2.out.below.size
 have hb3:Below w2.heap.size w2 W3:=⟨hg3.os,hg3.tape,hg3.output,hg3.size,fun i hi => hg3.block i hi nofun⟩
 obtain ⟨g3,hg3'⟩:∃ g,g = w2.heap.size:=⟨_,rfl⟩
 rw [<- hg3'] at hmk hown3
 have HH:Hid (RlH w W3 V b ba br g cp W1.heap.size w.heap.size (.slice A n c) (.slice (some ⟨g3,0,none⟩) 0 V) A' R L 0):=jH ⟨HG2.out.step hb3,hown3,⟨Nat.le_refl _,Nat.le_trans HG2.out.below.size hb3.size⟩⟩
 clear hown3 hg3 hb3 hi hz0 hz1 hz2 hg3'
 go_upto_region 3 with fail
 clear hmk g0 g1 HG2
 obtain ⟨g0,g1,_⟩:=two_cells HH.out.rg.gbox
 go_wp2_with fail
 clear g0 g1
 go_loopg [4,13] V (fun gk vv iv wr => ∃ (k:Nat) (A1:List Int) (A5:Option Addr) (n5 c5:Nat),iv = .int .i64 (k:Int)/\vv = .slice A5 n5 c5/\k + gk = V/\Hid (RlH w wr V b ba br g cp W1.heap.size w.heap.size (.slice A n c) (.slice A5 n5 c5) A1 R L k))
 case atStart => exact ⟨0,_,_,_,_,rfl,rfl,by omega,HH⟩
 case round =>
  clear HH
  obtain ⟨k,A1,A5,n5,c5,rfl,rfl,hk,HH⟩:=hrel
  by_cases hlt:k < V
  ·obtain ⟨y,hy⟩:∃ y,R k = y:=⟨_,rfl⟩
   have HC1:=jH (root_any V ba br g cp W1.heap.size R k A1 wr hlt hV HH.out.rg.fo HH.out.rg.uf)
   rw [hy] at HC1
   have HNX:Hid (lbs R (k + 1) = lbs R k ++ [(y:Int)]):=jH (by rw [<- hy]; exact lbs_next R k)
   clear hy
   go_wp2_with fail
   refine HC1.out.mono ?_
   rintro e w4 ⟨rfl,A6,h6⟩
   have HH4:=jH (HH.out.root h6.out.1 h6.out.2.1 h6.out.2.2.2)
   have HO1:=jH (HH4.out.row.alloc (.cells #[.int .i64 (y:Int)] 2))
   have HH5:=jH (HH4.out.step ((Below.refl _ w4).alloc (Nat.le_refl _) (.cells #[.int .i64 (y:Int)] 2)))
   have HN1:=jH (heap_alloc_new w4 (.cells #[.int .i64 (y:Int)] 2))
   have HSL:Hid ((lbs R k).length < 1000000000):=jH (by rw [lbs_len]; omega)
   have HSZ:=jH HH5.out.lo.2
   clear h6 HC1
   go_wp2_with (at_builtin; refine app_n rfl (.tmp 16) (.tmp 20) 27 2 rfl Tryz.underlying27 info2 w.heap.size _ (lbs R k) (y:Int) rfl HO1.out _ rfl HN1.out HSL.out HSZ.out ?_)
   intro v2 w5 ho2 hg2
   obtain ⟨A7,c7,rfl,_⟩:=ho2.form
   rw [<- HNX.out] at ho2 ⊢
   have HH6:=jH (HH5.out.more ho2 hg2)
   clear ho2 hg2 HO1 HH5 HN1 HSL HSZ HH HH4
   obtain ⟨n6,hn6⟩:∃ n6,n6 = (lbs R (k + 1)).length:=⟨_,rfl⟩
   rw [<- hn6] at HH6 ⊢
   clear hn6
   go_wp2
   go_roundg (gk - 1)
   case measure => omega
   case rel => exact ⟨k + 1,A6,A7,n6,c7,by go_num,rfl,by omega,HH6⟩
  ·have HKV:Hid (k = V):=jH (by omega)
   go_wp2
   go_ret
   refine ⟨_,lbs R k,rfl,jH ⟨?_,HH.out.row,HH.out.rg.below⟩⟩
   rw [HKV.out]
   exact fo_labels (fits_of HC.out) HH.out.rg.fo HH.out.rg.fc (lbs_len R V) fun v hv => lbs_at hv
end Go.Proofs.YtdcaekmgfcpbmaaGreat.Mn
