/-
  What is proved here: the kit's ring and mill, as the walk of MeaningKnown leans on them; regions that draw where an allocation may come up ahead of a call. Condition: a ring of at most 1000 vertices. What is proved here: what stays while MeaningKnown goes on: its graphs in their block, the graph, the jobs, the job and the state at hand in their boxes. Conditions: none.
-/
import Derived.Test.YtdcaekmgfcpbmaaGreatQdSqRsx
import Derived.Deep.AppendLies
import Derived.Deep.RegionLaw
import Derived.Laws.AppendOwnNone
import Derived.Laws.OwnMore
import Derived.BigQuiet
import Derived.Test.YtdcaekmgfcpbmaaGreatQdMnMem
namespace Go.Proofs.YtdcaekmgfcpbmaaGreat.Kn
open Go.RowKit Go.Shelf Gr Wd Ws Fx Rk Lb Al In Sq
theorem rtwo {w:World} {b:Nat} {T:TypeId} {a0 a1:Value} (h:w.heap[b]? = some (.cells #[a0,a1] T (0,0))) :
 w.cell? ⟨b,0,none⟩ = some a0/\w.cell? ⟨b,1,none⟩ = some a1/\w.frozen? ⟨b,0,none⟩ = false/\w.frozen? ⟨b,1,none⟩ = false/\b < w.heap.size :=
 ⟨by rw [Lib.cell_of_heap h]; rfl,by rw [Lib.cell_of_heap h]; rfl,Lib.frozen_of_heap h _,Lib.frozen_of_heap h _,lt_of_block h⟩
def put2 (w:World) (b:Nat) (u0 u1:Value):World:=(w.setCell ⟨b,0,none⟩ u0).setCell ⟨b,1,none⟩ u1
theorem put2_heap {w:World} {b:Nat} {T:TypeId} {a0 a1:Value} (h:w.heap[b]? = some (.cells #[a0,a1] T (0,0))) (u0 u1:Value):(put2 w b u0 u1).heap[b]? = some (.cells #[u0,u1] T (0,0)):=by
 have e0:=heap_setCell_same w b 0 _ _ u0 h
 have e1:=heap_setCell_same _ b 1 _ _ u1 e0
 exact e1
theorem put2_below {B:Nat} {a w:World} (h:Below B a w) {b:Nat} (hb:B <= b) (u0 u1:Value):Below B a (put2 w b u0 u1):=(h.setCell (p:=⟨b,0,none⟩) hb u0).setCell (p:=⟨b,1,none⟩) hb u1
theorem eown_put2 {w:World} {B:Nat} {v:Value} {L:List Ed} (h:EOwn w B v L) {b:Nat} (hb:b < B) (u0 u1:Value):EOwn (put2 w b u0 u1) B v L :=
 ownsRow_setCell_below (ownsRow_setCell_below h (a:=⟨b,0,none⟩) hb u0) (a:=⟨b,1,none⟩) hb u1
theorem step_more {ops:Array Oper} {o:Oper} {a:Act} {w:World} {K:Act->World->Prop} {Q:Exit->Act->World->Prop} {E:Prop} (hgd:o.guard = none) (s x:Operand)
 (ho:o.op = .call { callee:=.builtin .append,args:=#[s,x],argTypes:=#[22,22] }) (B:Nat) (v:Value) (M L:List Ed) (z:Nat) (hz:L.length = z) (hs:a.eval s = v) (hown:EOwn w B v M)
 (A:Option Addr) (c:Nat) (hx:a.eval x = .slice A z c) (hL:EAt w A L) (hn:M.length + z < 1000000000) (hB:B <= w.heap.size)
 (h:∀ A' n' c' w',EOwn w' B (.slice A' n' c') (M ++ L)->w.grownBy w' v.ownBlock->K (a.put o.dst (.slice A' n' c')) w') :
 if Region.wanted o (yielded ops a.tmps) = true then Oper.wp Tryz.prog o a w K Q else E:=by
 subst hz
 have hw:Region.wanted o (yielded ops a.tmps) = true:=by simp [Region.wanted,hgd]
 rw [if_pos hw]
 obtain ⟨i0,hi,hz0,hz1,hz2⟩:=info_parts infoE
 have ht:Tryz.prog.underlying 22 = some (.slice 33):=Tryz.underlying22
 obtain ⟨v',w',hr,h2,h3⟩:∃ v' w',(Builtin.append_ #[22,22] o.type #[v,.slice A L.length c]).run Tryz.prog w = .ok v' w'/\EOwn w' B v' (M ++ L)/\w.grownBy w' v.ownBlock:=by
  cases A with
  | some ad =>
   obtain ⟨v',w',hr,h2,h3,_⟩:=run_append_own (P:=Tryz.prog) w B 22 o.type 33 i0 _ 3 24 ht hi hz0 hz1 hz2 rfl (by decide) v M.length (ecs M) hown ad L.length c (ecs L) (ecs_len L) (eat_cells hL ad rfl) (ecs_one L) (by unfold maxLen; omega) (by omega) hB
   refine ⟨v',w',hr,?_,h3⟩
   unfold EOwn
   rw [ecs_append,List.length_append]
   exact h2
  | none =>
   obtain rfl:=eat_none hL
   refine ⟨v,w,?_,by rw [List.append_nil]; exact hown,⟨rfl,rfl,rfl,Nat.le_refl _,fun _ _ _ => rfl⟩⟩
   rcases hown.2 with ⟨rfl,_⟩ | ⟨g,cap,cur,rfl,_,_,hnc,_⟩
   ·simp [Builtin.append_,run_underlying ht,sizeOf,typeInfo,hi,Builtin.lenOf,Builtin.firstCells]
   ·simp [Builtin.append_,run_underlying ht,sizeOf,typeInfo,hi,Builtin.lenOf,Builtin.firstCells,hnc,storeCells]
 obtain ⟨A',c',rfl,_⟩:=h2.form
 unfold Oper.wp execOp
 simp only [ho,resolve,invoke,builtin,Sem.run_bind,Sem.run_pure,Result.andThen_ok,List.map_toArray,List.map_cons,List.map_nil,hs,hx,hr]
 exact h _ _ _ _ h2 h3
structure RjB (w wr:World) (V:Int) (s:Value) (es:List Ed):Prop where
 bel:Below w.heap.size w wr
 res:wr.heap[w.heap.size]? = some (.cells #[.int .i64 0,.slice none 0 0] 24 (0,0))
 box:wr.heap[w.heap.size + 1]? = some (.cells #[.int .i64 V,s] 24 (0,0))
 own:EOwn wr (w.heap.size + 2) s es
theorem RjB.quiet {w wr w':World} {V:Int} {s:Value} {es:List Ed} (h:RjB w wr V s es) (hb:Below wr.heap.size wr w'):RjB w w' V s es :=
 ⟨h.bel.trans (hb.mono h.bel.size),(hb.block _ (lt_of_block h.res)).trans h.res,(hb.block _ (lt_of_block h.box)).trans h.box,h.own.below hb⟩
theorem RjB.mid {w wr w':World} {V:Int} {s:Value} {es:List Ed} (h:RjB w wr V s es) (hg:wr.grownBy w' s.ownBlock):w'.heap[w.heap.size + 1]? = some (.cells #[.int .i64 V,s] 24 (0,0)) :=
 (hg.block _ (lt_of_block h.box) (fun e => by have:=(own_lt h.own _ e.symm).1; omega)).trans h.box
theorem RjB.app {w wr w':World} {V:Int} {s s':Value} {es es':List Ed} (h:RjB w wr V s es) (ho:EOwn w' (w.heap.size + 2) s' es') (hg:wr.grownBy w' s.ownBlock):RjB w (w'.setCell ⟨w.heap.size + 1,1,none⟩ s') V s' es':=by
 have hb:=own_lt h.own
 have keep:∀ (b:Nat) (o:Obj),wr.heap[b]? = some o->b < w.heap.size + 2->w'.heap[b]? = some o:=fun b o hh hT =>
  (hg.block b (lt_of_block hh) (fun e => by have:=(hb b e.symm).1; omega)).trans hh
 have h1:=keep _ _ h.box (by omega)
 refine ⟨(Below.grown h.bel hg h.bel.size (fun j e => by have:=(hb j e).1; omega)).setCell (p:=⟨w.heap.size + 1,1,none⟩) (by show w.heap.size <= w.heap.size + 1; omega) _,?_,?_,?_⟩
 ·exact (Below.heap_setCell w' ⟨w.heap.size + 1,1,none⟩ s' w.heap.size (by show w.heap.size ≠ w.heap.size + 1; omega)).trans (keep _ _ h.res (by omega))
 ·have:=heap_setCell_same w' (w.heap.size + 1) 1 _ _ s' h1
  exact this
 ·exact ownsRow_setCell_below ho (a:=⟨w.heap.size + 1,1,none⟩) (by show w.heap.size + 1 < _; omega) _
theorem rj_start (w wq:World) (V:Int) (h:Below w.heap.size w wq) (hs:wq.heap.size = w.heap.size + 1) (hr:wq.heap[w.heap.size]? = some (.cells #[.int .i64 0,.slice none 0 0] 24 (0,0))):RjB w (wq.alloc (.cells #[.int .i64 V,.slice none 0 0] 24)) V (.slice none 0 0) []:=by
 refine ⟨h.alloc h.size _,?_,?_,EOwn.none_ _ _⟩
 ·rw [Below.heap_alloc _ _ _ (by omega)]; exact hr
 ·rw [<- hs]; exact heap_alloc_new wq _
def ringL (n:Nat) (j:Nat):List Ed:=(List.range j).map fun (i:Nat) => ((i:Int),(((i + 1) % n:Nat):Int),((i + 1:Nat):Int))
theorem ringL_len (n j:Nat):(ringL n j).length = j:=by simp [ringL]
theorem ringL_succ (n j:Nat):ringL n (j + 1) = ringL n j ++ [((j:Int),(((j + 1) % n:Nat):Int),((j + 1:Nat):Int))]:=by simp [ringL,List.range_succ]
set_option maxRecDepth 100000 in
theorem res1_g (fn:Func) (c:Nat) (tmps:Array Value) (w:World) (b:Nat) (a0 a1:Value) (hr:fn.results = #[.cell c 24]) (ht:tmps.getD c undef = .pointer (some ⟨b,0,none⟩)) (hh:w.heap[b]? = some (.cells #[a0,a1] 24 (0,0))) :
 (results fn tmps).run Tryz.prog w = .ok (.agg #[a0,a1]) w:=by
 obtain ⟨f0,f1,_⟩:=rtwo hh
 have ht':tmps[c]?.getD undef = .pointer (some ⟨b,0,none⟩):=by simpa using ht
 simp [results,hr,ht',go_sem,f0,f1]
theorem eat_one (w:World) (x y z:Int):EAt (w.alloc (.cells #[.int .i64 x,.int .i64 y,.int .i64 z] 33)) (some ⟨w.heap.size,0,none⟩) [(x,y,z)]:=by
 have h:=heap_alloc_new w (.cells #[.int .i64 x,.int .i64 y,.int .i64 z] 33)
 intro k e hk
 rcases k with _ | k
 ·simp at hk; subst hk
  exact ⟨_,_,rfl,by rw [Lib.cell_of_heap h]; rfl,by rw [Lib.cell_of_heap h]; rfl,by rw [Lib.cell_of_heap h]; rfl⟩
 ·simp at hk
theorem rjb_two {w wr:World} {V:Int} {s:Value} {es:List Ed} (h:RjB w wr V s es):w.heap.size + 2 <= wr.heap.size:=by have:=lt_of_block h.box; omega
def RgRel (w:World) (n g:Nat) (i:Value) (wr:World):Prop:=∃ (j:Nat) (s:Value),j + g = n/\i = .int .i64 (j:Int)/\Hid (RjB w wr n s (ringL n j))
set_option maxRecDepth 100000 in
set_option maxHeartbeats 2000000 in
theorem ring_any (n:Nat) (hn:n <= 1000) (w:World):Calls Tryz.prog 21 #[.int .i64 (n:Int)] w fun e w' => (∃ A c,e = .returned (.agg #[.int .i64 (n:Int),.slice A n c])/\Hid (EAt w' A (ringL n n)))/\Hid (Below w.heap.size w w'):=by
 have mixed:=mixedP
 have HN1:=jH (heap_alloc_new w (.cells #[.int .i64 0,.slice none 0 0] 24))
 have HZ:Hid (Below w.heap.size w (w.alloc (.cells #[.int .i64 0,.slice none 0 0] 24))):=jH ((Below.refl _ w).alloc (Nat.le_refl _) _)
 go_enter Tryz.func21,Tryz.ntmps21
 go_wp2_with fail
 go_loopg [4] n (fun g i wr => RgRel w n g i wr)
 case atStart => exact ⟨0,_,by omega,rfl,jH (rj_start w _ n HZ.out (by simp) HN1.out)⟩
 case round =>
  obtain ⟨j,s,hj,rfl,HB⟩:=hrel
  obtain ⟨b0,b1,b2,b3,b4⟩:=rtwo HB.out.box
  obtain ⟨A5,c5,rfl,_⟩:=HB.out.own.form
  by_cases hlt:j < n
  ·have hw1:IntKind.i64.wrap ((j:Int) + 1) = ((j + 1:Nat):Int):=by rw [IntWalk.i64_in _ (by omega)]; omega
   have hw2:(((j + 1:Nat):Int)).tmod (n:Int) = (((j + 1) % n:Nat):Int):=by rw [Int.tmod_eq_emod_of_nonneg (by omega)]; omega
   have hw3:IntKind.i64.wrap (((j + 1) % n:Nat):Int) = (((j + 1) % n:Nat):Int):=IntWalk.i64_in _ (by have:=Nat.mod_lt (j + 1) (show 0 < n by omega); omega)
   obtain ⟨t,ht⟩:∃ t,(j + 1) % n = t:=⟨_,rfl⟩
   obtain ⟨m,hm⟩:∃ m,j + 1 = m:=⟨_,rfl⟩
   rw [ht] at hw2 hw3
   rw [hm] at hw1 hw2
   have HCd:Hid (RjB w wr.drew n (.slice A5 (ringL n j).length c5) (ringL n j)):=jH (HB.out.quiet (Below.refl _ wr).drew)
   have HCa:Hid (RjB w (wr.drew.alloc (.cells #[.int .i64 (j:Int),.int .i64 (t:Int),.int .i64 (m:Int)] 33)) n (.slice A5 (ringL n j).length c5) (ringL n j)):=jH (HCd.out.quiet ((Below.refl _ wr.drew).alloc (Nat.le_refl _) _))
   have HE1:=jH (eat_one wr.drew j t m)
   have HL:Hid (ringL n (j + 1) = ringL n j ++ [((j:Int),(t:Int),(m:Int))]):=jH (by rw [ringL_succ,ht,hm])
   rw [ringL_len] at HCd HCa b1
   clear ht
   have hn0:¬ n = 0:=by omega
   go_wp2_with fail
   go_region_law (refine step_more rfl (.tmp 13) (.tmp 22) rfl (w.heap.size + 2) _ (ringL n j) [((j:Int),(t:Int),(m:Int))] 1 rfl (by simp [Act.eval]) HCa.out.own _ 1 (by simp [Act.eval]) HE1.out (by rw [ringL_len]; omega) (rjb_two HCa.out) ?_; intro A6 n6 c6 w2 ho2 hg2; have HC2:=jH (HCa.out.app ho2 hg2); have hmd:=HCa.out.mid hg2; obtain ⟨m0,m1,m2,m3,m4⟩:=rtwo hmd; clear ho2 hg2 hmd)
   all_goals
    clear m0 m1 m2 m3 m4
    go_wp2
    go_roundg (gk - 1)
    case measure => omega
    case rel => exact ⟨j + 1,_,by omega,by go_num,jH (by rw [HL.out]; exact HC2.out)⟩
  ·obtain rfl:j = n:=by omega
   obtain ⟨r0,r1,r2,r3,r4⟩:=rtwo HB.out.res
   have HEA:Hid (RjB w wr (j:Int) (.slice A5 j c5) (ringL j j)):=jH (by have:=HB.out; rw [ringL_len] at this; exact this)
   rw [ringL_len] at b1
   go_wp2_with fail
   have h1:=put2_heap HEA.out.res (.int .i64 (j:Int)) (.slice A5 j c5)
   have h2:=eown_put2 HEA.out.own (b:=w.heap.size) (by omega) (.int .i64 (j:Int)) (.slice A5 j c5)
   have h3:=put2_below HEA.out.bel (b:=w.heap.size) (Nat.le_refl _) (.int .i64 (j:Int)) (.slice A5 j c5)
   unfold put2 at h1 h2 h3
   refine bodyPost_ret (v:=.agg #[.int .i64 (j:Int),.slice A5 j c5]) (res1_g _ _ _ _ _ _ _ Tryz.results21 rfl h1) rfl ⟨?_,jH h3⟩
   obtain ⟨A',c',e,h4,_⟩:=h2.form
   rw [ringL_len] at e
   cases e
   exact ⟨_,_,rfl,jH h4⟩
theorem eat_block {w:World} {g:Nat} {L:List Ed} (h:w.heap[g]? = some (.cells (ecs L).toArray 33 (0,0))):EAt w (some ⟨g,0,none⟩) L:=by
 intro k e hx
 obtain ⟨a0,a1,a2⟩:=ecs_at L k e hx
 refine ⟨g,0,rfl,?_,?_,?_⟩
 ·rw [Nat.zero_add,cell_of_row w g _ _ 33 (0,0) h,List.getElem?_toArray]; exact a0
 ·rw [Nat.zero_add,cell_of_row w g _ _ 33 (0,0) h,List.getElem?_toArray]; exact a1
 ·rw [Nat.zero_add,cell_of_row w g _ _ 33 (0,0) h,List.getElem?_toArray]; exact a2
set_option maxRecDepth 100000 in
set_option maxHeartbeats 1000000 in
theorem kno_mill (w:World):Calls Tryz.prog 20 #[] w fun e w' => (∃ g,e = .returned (.agg #[.int .i64 6,.slice (some ⟨g,0,none⟩) 5 5])/\Hid (EAt w' (some ⟨g,0,none⟩) millL))/\Hid (Below w.heap.size w w'):=by
 have mixed:=mixedP
 go_enter Tryz.func20,Tryz.ntmps20
 go_wp2
 obtain ⟨W1,hW1⟩:∃ W1,W1 = w.alloc (.cells #[.int .i64 6,.slice (some ⟨w.heap.size + 1,0,none⟩) 5 5] 24):=⟨_,rfl⟩
 have s1:W1.heap.size = w.heap.size + 1:=by rw [hW1]; simp
 have y0:W1.heap[w.heap.size]? = some (.cells #[.int .i64 6,.slice (some ⟨w.heap.size + 1,0,none⟩) 5 5] 24 (0,0)):=by rw [hW1]; exact heap_alloc_new w _
 have b1:Below w.heap.size w W1:=by rw [hW1]; exact (Below.refl _ w).alloc (Nat.le_refl _) _
 rw [<- hW1]
 clear hW1
 obtain ⟨C,hC⟩:∃ C:Array Value,C = #[.int .i64 0,.int .i64 1,.int .i64 4,.int .i64 0,.int .i64 2,.int .i64 1,.int .i64 1,.int .i64 3,.int .i64 5,.int .i64 2,.int .i64 1,.int .i64 2,.int .i64 4,.int .i64 4,.int .i64 7]:=⟨_,rfl⟩
 rw [<- hC]
 obtain ⟨W2,hW2⟩:∃ W2,W2 = W1.alloc (.cells C 33):=⟨_,rfl⟩
 have b2:Below W1.heap.size W1 W2:=by rw [hW2]; exact (Below.refl _ W1).alloc (Nat.le_refl _) _
 have y1:=(b2.block _ (lt_of_block y0)).trans y0
 have y2:W2.heap[w.heap.size + 1]? = some (.cells C 33 (0,0)):=by rw [hW2,<- s1]; exact heap_alloc_new W1 _
 rw [<- hW2]
 have k0:W2.cell? ⟨w.heap.size,0,none⟩ = some (.int .i64 6):=by rw [Lib.cell_of_heap y1]; rfl
 have k1:W2.cell? ⟨w.heap.size,1,none⟩ = some (.slice (some ⟨w.heap.size + 1,0,none⟩) 5 5):=by rw [Lib.cell_of_heap y1]; rfl
 refine bodyPost_ret (v:=.agg #[.int .i64 6,.slice (some ⟨w.heap.size + 1,0,none⟩) 5 5]) (by simp [results,Tryz.results20,go_sem,k0,k1]) rfl ⟨⟨_,rfl,jH ?_⟩,jH (b1.trans (b2.mono (by omega)))⟩
 intro k e hk
 rcases k with _ | _ | _ | _ | _ | k
 all_goals (first | (simp [millL] at hk; done) | (simp only [millL,List.getElem?_cons_zero,List.getElem?_cons_succ,Option.some.injEq] at hk; subst hk; exact ⟨_,_,rfl,by rw [Lib.cell_of_heap y2,hC]; rfl,by rw [Lib.cell_of_heap y2,hC]; rfl,by rw [Lib.cell_of_heap y2,hC]; rfl⟩))
open Go.RowKit Go.Shelf Gr Wd Ws Fx Rk Lb Al In Sq Mn
def Grs (W:World) (gb:Nat):Prop:=∃ arr,W.heap[gb]? = some (.cells arr 24 (0,0))/\∀ i,i < 7->∃ (V:Nat) (A:Option Addr) (n c:Nat) (L:List Ed),arr[i * 2]? = some (.int .i64 (V:Int))/\arr[i * 2 + 1]? = some (.slice A n c)/\EAt W A L/\L.length = n/\n <= 80/\V <= 80
def Jbs (W:World) (nb:Nat):Prop:=∃ arr,W.heap[nb]? = some (.cells arr 40 (0,0))/\∀ i,i < 5->∃ k st so dm ep,arr[i * 5]? = some (.int .u8 k)/\arr[i * 5 + 1]? = some (.int .i64 st)/\arr[i * 5 + 2]? = some (.int .i64 so)/\arr[i * 5 + 3]? = some (.int .i64 dm)/\arr[i * 5 + 4]? = some (.int .i64 ep)
theorem Grs.below {W W':World} {b:Nat} (h:Grs W b) (hb:Below W.heap.size W W'):Grs W' b:=by
 obtain ⟨arr,h1,h2⟩:=h
 refine ⟨arr,keepB h1 hb,fun i hi => ?_⟩
 obtain ⟨V,A,n,c,L,a0,a1,a2,a3,a4⟩:=h2 i hi
 exact ⟨V,A,n,c,L,a0,a1,a2.below hb,a3,a4⟩
theorem Jbs.below {W W':World} {b:Nat} (h:Jbs W b) (hb:Below W.heap.size W W'):Jbs W' b:=by
 obtain ⟨arr,h1,h2⟩:=h
 exact ⟨arr,keepB h1 hb,h2⟩
theorem jobs_laid {W:World} {nb:Nat} {s1 k1 k2 s2:Int} (h:W.heap[nb]? = some (.cells #[.int .u8 2,.int .i64 s1,.int .i64 0,.int .i64 0,.int .i64 0,.int .u8 3,.int .i64 9,.int .i64 k1,.int .i64 0,.int .i64 0,.int .u8 3,.int .i64 1,.int .i64 k2,.int .i64 0,.int .i64 0,.int .u8 1,.int .i64 s2,.int .i64 0,.int .i64 3650722201,.int .i64 0,.int .u8 0,.int .i64 0,.int .i64 0,.int .i64 0,.int .i64 0] 40 (0,0))):Jbs W nb:=by
 refine ⟨_,h,fun i hi => ?_⟩
 rcases (show i = 0\/i = 1\/i = 2\/i = 3\/i = 4 by omega) with rfl | rfl | rfl | rfl | rfl <;> exact ⟨_,_,_,_,_,rfl,rfl,rfl,rfl,rfl⟩
def twoL:List Ed:=[(2,0,0),(2,1,2147483647)]
def badL:List Ed:=[(0,2,0)]
theorem graphs_laid {W:World} {gb:Nat} {A0 A1 A2 A4 A6:Option Addr} {c0 c1 c2:Nat} (h0:EAt W A0 millL) (h1:EAt W A1 (ringL 5 5)) (h2:EAt W A2 (ringL 1 1)) (h4:EAt W A4 twoL) (h6:EAt W A6 badL)
 (h:W.heap[gb]? = some (.cells #[.int .i64 6,.slice A0 5 c0,.int .i64 5,.slice A1 5 c1,.int .i64 1,.slice A2 1 c2,.int .i64 4,.slice none 0 0,.int .i64 3,.slice A4 2 2,.int .i64 0,.slice none 0 0,.int .i64 2,.slice A6 1 1] 24 (0,0))):Grs W gb:=by
 refine ⟨_,h,fun i hi => ?_⟩
 rcases (show i = 0\/i = 1\/i = 2\/i = 3\/i = 4\/i = 5\/i = 6 by omega) with rfl | rfl | rfl | rfl | rfl | rfl | rfl
 ·exact ⟨6,_,_,_,millL,rfl,rfl,h0,rfl,by decide⟩
 ·exact ⟨5,_,_,_,ringL 5 5,rfl,rfl,h1,rfl,by decide⟩
 ·exact ⟨1,_,_,_,ringL 1 1,rfl,rfl,h2,rfl,by decide⟩
 ·exact ⟨4,_,_,_,[],rfl,rfl,EAt.nil _ _,rfl,by decide⟩
 ·exact ⟨3,_,_,_,twoL,rfl,rfl,h4,rfl,by decide⟩
 ·exact ⟨0,_,_,_,[],rfl,rfl,EAt.nil _ _,rfl,by decide⟩
 ·exact ⟨2,_,_,_,badL,rfl,rfl,h6,rfl,by decide⟩
theorem two_laid {W:World} {g:Nat} (h:W.heap[g]? = some (.cells #[.int .i64 2,.int .i64 0,.int .i64 0,.int .i64 2,.int .i64 1,.int .i64 2147483647] 33 (0,0))):EAt W (some ⟨g,0,none⟩) twoL:=eat_block h
theorem bad_laid {W:World} {g:Nat} (h:W.heap[g]? = some (.cells #[.int .i64 0,.int .i64 2,.int .i64 0] 33 (0,0))):EAt W (some ⟨g,0,none⟩) badL:=eat_block h
structure KA (w W:World) (gb:Nat):Prop where
 below:Below w.heap.size w W
 graphs:Grs W gb
theorem KA.step {w W W':World} {gb:Nat} (h:KA w W gb) (hb:Below W.heap.size W W'):KA w W' gb:=⟨step_below h.below h.below.size hb,h.graphs.below hb⟩
theorem KA.graph {w W:World} {gb:Nat} (h:KA w W gb) (i:Nat) (hi:i < 7):∃ (V:Nat) (A:Option Addr) (n c:Nat) (L:List Ed),W.cell? ⟨gb,i * 2,none⟩ = some (.int .i64 (V:Int))/\W.cell? ⟨gb,i * 2 + 1,none⟩ = some (.slice A n c)/\EAt W A L/\L.length = n/\n <= 80/\V <= 80:=by
 obtain ⟨arr,h1,h2⟩:=h.graphs
 obtain ⟨V,A,n,c,L,a0,a1,a2⟩:=h2 i hi
 exact ⟨V,A,n,c,L,by rw [cell_of_row W gb _ _ _ (0,0) h1]; exact a0,by rw [cell_of_row W gb _ _ _ (0,0) h1]; exact a1,a2⟩
structure KB (w W:World) (gb b V:Nat) (A:Option Addr) (n c:Nat) (L:List Ed):Prop where
 a:KA w W gb
 gbx:W.heap[b]? = some (.cells #[.int .i64 (V:Int),.slice A n c] 24 (0,0))
 row:EAt W A L
theorem KB.step {w W W':World} {gb b V:Nat} {A:Option Addr} {n c:Nat} {L:List Ed} (h:KB w W gb b V A n c L) (hb:Below W.heap.size W W'):KB w W' gb b V A n c L:=⟨h.a.step hb,keepB h.gbx hb,h.row.below hb⟩
structure KC (w W:World) (gb b V:Nat) (A:Option Addr) (n c:Nat) (L:List Ed) (nb:Nat):Prop where
 g:KB w W gb b V A n c L
 jobs:Jbs W nb
theorem KC.step {w W W':World} {gb b V:Nat} {A:Option Addr} {n c:Nat} {L:List Ed} {nb:Nat} (h:KC w W gb b V A n c L nb) (hb:Below W.heap.size W W'):KC w W' gb b V A n c L nb:=⟨h.g.step hb,h.jobs.below hb⟩
theorem KC.job {w W:World} {gb b V:Nat} {A:Option Addr} {n c:Nat} {L:List Ed} {nb:Nat} (h:KC w W gb b V A n c L nb) (i:Nat) (hi:i < 5):∃ k st so dm ep:Int,W.cell? ⟨nb,i * 5,none⟩ = some (.int .u8 k)/\W.cell? ⟨nb,i * 5 + 1,none⟩ = some (.int .i64 st)/\W.cell? ⟨nb,i * 5 + 2,none⟩ = some (.int .i64 so)/\W.cell? ⟨nb,i * 5 + 3,none⟩ = some (.int .i64 dm)/\W.cell? ⟨nb,i * 5 + 4,none⟩ = some (.int .i64 ep):=by
 obtain ⟨arr,h1,h2⟩:=h.jobs
 obtain ⟨k,st,so,dm,ep,a0,a1,a2,a3,a4⟩:=h2 i hi
 exact ⟨k,st,so,dm,ep,by rw [cell_of_row W nb _ _ _ (0,0) h1]; exact a0,by rw [cell_of_row W nb _ _ _ (0,0) h1]; exact a1,by rw [cell_of_row W nb _ _ _ (0,0) h1]; exact a2,by rw [cell_of_row W nb _ _ _ (0,0) h1]; exact a3,by rw [cell_of_row W nb _ _ _ (0,0) h1]; exact a4⟩
structure KD (w W:World) (gb b V:Nat) (A:Option Addr) (n c:Nat) (L:List Ed) (nb bj:Nat) (k st so dm ep:Int):Prop where
 c:KC w W gb b V A n c L nb
 jbx:W.heap[bj]? = some (.cells #[.int .u8 k,.int .i64 st,.int .i64 so,.int .i64 dm,.int .i64 ep] 40 (0,0))
theorem KD.step {w W W':World} {gb b V:Nat} {A:Option Addr} {n c:Nat} {L:List Ed} {nb bj:Nat} {k st so dm ep:Int} (h:KD w W gb b V A n c L nb bj k st so dm ep) (hb:Below W.heap.size W W'):KD w W' gb b V A n c L nb bj k st so dm ep:=⟨h.c.step hb,keepB h.jbx hb⟩
structure KE (w U W:World) (gb b V:Nat) (A:Option Addr) (n c:Nat) (L:List Ed) (nb bj:Nat) (k st so dm ep:Int) (bs B:Nat) (p:Int) (S:Sq) (Av Ac Ai:Option Addr) (nv nc ni cv cc ci:Nat):Prop where
 d:KD w U gb b V A n c L nb bj k st so dm ep
 bel:Below U.heap.size U W
 lo:U.heap.size <= bs
 sbx:W.heap[bs]? = some (.cells #[.int .i64 p,.slice Av nv cv,.slice Ac nc cc,.slice Ai ni ci,.int .i64 S.sum,.int .i64 S.most] 45 (0,0))
 rows:QOwn W B (.slice Av nv cv) S.vals/\BOwn W B (.slice Ac nc cc) S.chg/\KOwn W B (.slice Ai ni ci) S.inb
section
variable {w U W W':World} {gb b V:Nat} {A:Option Addr} {n c:Nat} {L:List Ed} {nb bj:Nat} {k st so dm ep:Int} {bs B:Nat} {p:Int} {S:Sq} {Av Ac Ai:Option Addr} {nv nc ni cv cc ci:Nat}
theorem KE.step (h:KE w U W gb b V A n c L nb bj k st so dm ep bs B p S Av Ac Ai nv nc ni cv cc ci) (hb:Below W.heap.size W W'):KE w U W' gb b V A n c L nb bj k st so dm ep bs B p S Av Ac Ai nv nc ni cv cc ci:=⟨h.d,step_below h.bel h.bel.size hb,h.lo,keepB h.sbx hb,h.rows.1.below hb,h.rows.2.1.below hb,h.rows.2.2.below hb⟩
theorem KE.now (h:KE w U W gb b V A n c L nb bj k st so dm ep bs B p S Av Ac Ai nv nc ni cv cc ci):KD w W gb b V A n c L nb bj k st so dm ep:=h.d.step h.bel
theorem KE.put (h:KE w U W gb b V A n c L nb bj k st so dm ep bs B p S Av Ac Ai nv nc ni cv cc ci) (q:Int):KE w U (W.setCell ⟨bs,0,none⟩ (.int .i64 q)) gb b V A n c L nb bj k st so dm ep bs B q S Av Ac Ai nv nc ni cv cc ci:=by
 have ho:∀ j,j ≠ bs->(W.setCell ⟨bs,0,none⟩ (.int .i64 q)).heap[j]? = W.heap[j]?:=fun j hj => Below.heap_setCell W ⟨bs,0,none⟩ _ _ hj
 exact ⟨h.d,h.bel.setCell (p:=⟨bs,0,none⟩) h.lo _,h.lo,heap_setCell_same W bs 0 _ _ _ h.sbx,own_moved h.rows.1 h.sbx (by decide) ho,own_moved h.rows.2.1 h.sbx (by decide) ho,own_moved h.rows.2.2 h.sbx (by decide) ho⟩
theorem KE.sat (h:KE w U W gb b V A n c L nb bj k st so dm ep bs B p S Av Ac Ai nv nc ni cv cc ci):SAt W Av Ac Ai nv nc ni S:=by
 obtain ⟨A1,c1,e1,g1⟩:=h.rows.1.form
 obtain ⟨A2,c2,e2,g2⟩:=h.rows.2.1.form
 obtain ⟨A3,c3,e3,g3,_⟩:=h.rows.2.2.room
 cases e1; cases e2; cases e3
 exact ⟨g1,g2,g3,rfl,rfl,rfl⟩
end
theorem kn_run (k st so dm ep V:Int) (A:Option Addr) (n c:Nat) (L:List Ed) (W:World) (h:EAt W A L) (hn:L.length = n) (hm:n <= 80) :
 ∃ (p:Int) (S:Sq) (E:Int),Calls Tryz.prog 17 #[.agg #[.int .i64 V,.slice A n c],.agg #[.int .u8 k,.int .i64 st,.int .i64 so,.int .i64 dm,.int .i64 ep]] W fun e w' => ∃ Av cv Ac cc Ai ci,∃ nv nc ni B:Nat,e = .returned (.tuple #[.agg #[.int .i64 p,.slice Av nv cv,.slice Ac nc cc,.slice Ai ni ci,.int .i64 S.sum,.int .i64 S.most],.int .i64 E]) /\
  Hid (QOwn w' B (.slice Av nv cv) S.vals/\BOwn w' B (.slice Ac nc cc) S.chg/\KOwn w' B (.slice Ai ni ci) S.inb)/\Hid (nv <= 512/\nc <= 512/\ni <= 512)/\Hid (Below W.heap.size W w'):=by
 obtain ⟨N,hN⟩:=run_at k st so dm ep V L
 have hf:=few_run k st so dm ep V L N
 obtain ⟨r,hr⟩:∃ r,runR k st so dm ep V L N = r:=⟨_,rfl⟩
 obtain ⟨p,S,E⟩:=r
 rw [hr] at hf
 refine ⟨p,S,E,(seqRun_any k st so dm ep V A n c L N W h hn (by omega) hN).mono ?_⟩
 rintro e w' ⟨x,rfl,hx,hb⟩
 rw [hr] at hx ⊢
 obtain ⟨Av,cv,Ac,cc,Ai,ci,rfl,_,h1,h2,h3⟩:=hx.out.at
 exact ⟨Av,cv,Ac,cc,Ai,ci,_,_,_,_,rfl,jH ⟨h1,h2,h3⟩,jH hf,hb⟩
end Go.Proofs.YtdcaekmgfcpbmaaGreat.Kn
