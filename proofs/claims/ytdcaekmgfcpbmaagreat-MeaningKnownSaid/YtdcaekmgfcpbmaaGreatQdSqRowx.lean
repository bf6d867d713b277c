/-
  What is proved here: a contract of the document's own mail: what comes to a vertex out of rows. Conditions: lengths fit an int. What is proved here: a contract of the document's own Merge. Conditions: fewer than 10^9 messages, fewer than 1000000 vertices asked for. What is proved here: words for a state in memory: rows of values, of marks, of mail, of rows of messages, of vertices' edges; append of one to each. No condition. What is proved here: boxes of six cells: what they read, what they hold behind a store of all six, and as a function's result. No condition. What is proved here: plain facts on what all vertices send: to vertices of the graph, and not too many. No program.
-/
import Derived.Test.YtdcaekmgfcpbmaaGreatQdInMgx
import Derived.Test.YtdcaekmgfcpbmaaGreatQdTlPrex
import Derived.Test.YtdcaekmgfcpbmaaGreatQdSqMath
import Derived.Test.YtdcaekmgfcpbmaaGreatQdPtG6x
namespace Go.Proofs.YtdcaekmgfcpbmaaGreat.In
open Go.RowKit Go.Maps Gr Wd Ws Fx Rk Lb Al
structure RmH (w wr:World) (b0 b1 b2:Nat) (k st so dm ep:Int) (m:Ml):Prop where
 below:Below w.heap.size w wr
 box:wr.heap[b0]? = some (.cells #[.int .u8 k,.int .i64 st,.int .i64 so,.int .i64 dm,.int .i64 ep] 40 (0,0))
 res:wr.heap[b1]? = some (.cells #[.bool false,.int .i64 0] 114 (0,0))
 ml:wr.heap[b2]? = some (.cells #[.bool m.1,.int .i64 m.2] 114 (0,0))
theorem RmH.step {w w1 w2:World} {b0 b1 b2:Nat} {k st so dm ep:Int} {m:Ml} (h:RmH w w1 b0 b1 b2 k st so dm ep m) (hb:Below w1.heap.size w1 w2):RmH w w2 b0 b1 b2 k st so dm ep m :=
 ⟨step_below h.below h.below.size hb,keep h.box hb,keep h.res hb,keep h.ml hb⟩
theorem set_off {W:World} {b c:Nat} {o:Obj} (h:W.heap[b]? = some o) (hn:b ≠ c) (i:Nat) (u:Value):(W.setCell ⟨c,i,none⟩ u).heap[b]? = some o:=by
 rw [heap_setCell_other W ⟨c,i,none⟩ b u hn]; exact h
theorem RmH.put {w w1:World} {b0 b1 b2:Nat} {k st so dm ep:Int} {m:Ml} (h:RmH w w1 b0 b1 b2 k st so dm ep m) (hw:w.heap.size <= b2) (h0:b0 ≠ b2) (h1:b1 ≠ b2) (p:Bool) (y:Int) :
 RmH w ((w1.setCell ⟨b2,0,none⟩ (.bool p)).setCell ⟨b2,1,none⟩ (.int .i64 y)) b0 b1 b2 k st so dm ep (p,y) :=
 ⟨(h.below.setCell (p:=⟨b2,0,none⟩) hw _).setCell (p:=⟨b2,1,none⟩) hw _,set_off (set_off h.box h0 _ _) h0 _ _,set_off (set_off h.res h1 _ _) h1 _ _,put_ml h.ml p y⟩
theorem RmH.put1 {w w1:World} {b0 b1 b2:Nat} {k st so dm ep:Int} {p:Bool} {x:Int} (h:RmH w w1 b0 b1 b2 k st so dm ep (p,x)) (hw:w.heap.size <= b2) (h0:b0 ≠ b2) (h1:b1 ≠ b2) (y:Int) :
 RmH w (w1.setCell ⟨b2,1,none⟩ (.int .i64 y)) b0 b1 b2 k st so dm ep (p,y) :=
 ⟨h.below.setCell (p:=⟨b2,1,none⟩) hw _,set_off h.box h0 _ _,set_off h.res h1 _ _,by
  have:=heap_setCell_same w1 b2 1 _ 114 (.int .i64 y) h.ml
  exact this⟩
def R1Rel (w:World) (b0 b1 b2:Nat) (k st so dm ep v:Int) (Ls:List (List Ms)) (gk:Nat) (i:Value) (wr:World):Prop :=
 ∃ q:Nat,q + gk = Ls.length/\i = .int .i64 (q:Int)/\Hid (RmH w wr b0 b1 b2 k st so dm ep (mlOf (mailM k v (Ls.take q).flatten)))
def R2Rel (w:World) (b0 b1 b2:Nat) (k st so dm ep v:Int) (P L:List Ms) (gk:Nat) (i:Value) (wr:World):Prop :=
 ∃ q:Nat,q + gk = L.length/\i = .int .i64 (q:Int)/\Hid (RmH w wr b0 b1 b2 k st so dm ep (mlOf (mailM k v (P ++ L.take q))))
set_option maxRecDepth 100000 in
set_option maxHeartbeats 4000000 in
theorem rmail_any (k st so dm ep v:Int) (A:Option Addr) (n c:Nat) (Ls:List (List Ms)) (w:World) (hR:RMs w A Ls) (hn:Ls.length = n) (hn2:n <= 1000000) (hF:Ls.flatten.length < 1000000000) :
 Calls Tryz.prog 117 #[.agg #[.int .u8 k,.int .i64 st,.int .i64 so,.int .i64 dm,.int .i64 ep],.int .i64 v,.slice A n c] w fun e w' => (∃ p y,e = .returned (.agg #[.bool p,.int .i64 y])/\Hid (mlOf (mailM k v Ls.flatten) = (p,y)))/\Hid (Below w.heap.size w w'):=by
 have mixed:=mixedI
 have HR:=jH hR; have HN:=jH hn; have HF:=jH hF
 clear hR hn hF
 obtain ⟨W1,hW1⟩:∃ W1,W1 = ((w.alloc (.cells #[.int .u8 k,.int .i64 st,.int .i64 so,.int .i64 dm,.int .i64 ep] 40)).alloc (.cells #[.bool false,.int .i64 0] 114)).alloc (.cells #[.bool false,.int .i64 0] 114):=⟨_,rfl⟩
 have hal:=al3 w (.cells #[.int .u8 k,.int .i64 st,.int .i64 so,.int .i64 dm,.int .i64 ep] 40) (.cells #[.bool false,.int .i64 0] 114) (.cells #[.bool false,.int .i64 0] 114)
 rw [<- hW1] at hal
 obtain ⟨x0,x1,x2,hb⟩:=hal
 obtain ⟨b0,e0⟩:∃ b0,b0 = w.heap.size:=⟨_,rfl⟩
 obtain ⟨b1,e1⟩:∃ b1,b1 = w.heap.size + 1:=⟨_,rfl⟩
 obtain ⟨b2,e2⟩:∃ b2,b2 = w.heap.size + 2:=⟨_,rfl⟩
 rw [<- e0] at x0; rw [<- e1] at x1; rw [<- e2] at x2
 have HH:Hid (RmH w W1 b0 b1 b2 k st so dm ep (false,0)):=jH ⟨hb,x0,x1,x2⟩
 have HW2:Hid (w.heap.size <= b2):=jH (by omega)
 have HW1:Hid (w.heap.size <= b1):=jH (by omega)
 have H02:Hid (b0 ≠ b2):=jH (by omega)
 have H12:Hid (b1 ≠ b2):=jH (by omega)
 clear x0 x1 x2 hb
 go_enter Tryz.func117,Tryz.ntmps117
 go_upto_region 2 with fail
 rw [<- hW1]
 rw [show w.heap.size + 1 + 1 = b2 from e2.symm,show w.heap.size + 1 = b1 from e1.symm,show w.heap.size = b0 from e0.symm]
 clear hW1 e0 e1 e2
 go_wp2_with fail
 go_loopg [8] n (fun gk i wr => R1Rel w b0 b1 b2 k st so dm ep v Ls gk i wr)
 case atStart => exact ⟨0,by have:=HN.out; omega,rfl,HH⟩
 case round =>
  clear HH
  obtain ⟨q,hq,rfl,HH⟩:=hrel
  rw [HN.out] at hq
  by_cases hlt:q < n
  ·obtain ⟨L,hL⟩:=at_lt Ls q (by rw [HN.out]; exact hlt)
   obtain ⟨bk,o,A',c',rfl,c00,hm⟩:=HR.out q L hL
   have HL:=jH hL; have HM:=jH hm
   obtain ⟨m,hm'⟩:∃ m,m = L.length:=⟨_,rfl⟩
   rw [<- hm'] at c00
   have HC0:=jH c00
   have HMN:=jH hm'
   have hmb:m <= 1000000000:=by
    have:=congrArg List.length (flat_at hL)
    simp only [List.length_append] at this
    have:=HF.out; omega
   clear hL hm hm' c00
   go_wp2_with fail
   obtain ⟨G0,rfl⟩:∃ G0:Nat,G0 = gk:=⟨_,rfl⟩
   go_loopg [9] m (fun gk i wr => R2Rel w b0 b1 b2 k st so dm ep v (Ls.take q).flatten L gk i wr)
   case atStart => exact ⟨0,by have:=HMN.out; omega,rfl,jH (by simpa using HH.out)⟩
   case round =>
    clear HH
    obtain ⟨j,hj,rfl,HH⟩:=hrel
    rw [<- HMN.out] at hj
    have c0:=(HH.out.below.cell (block_lt_of_cell HC0.out)).trans HC0.out
    by_cases hlt2:j < m
    ·obtain ⟨⟨t,y⟩,he⟩:=at_lt L j (by rw [<- HMN.out]; exact hlt2)
     obtain ⟨bk2,o2,rfl,d0,d1⟩:=(HM.out.below HH.out.below) j _ he
     simp only at d0 d1
     obtain ⟨K,hK⟩:∃ K,K = (Ls.take q).flatten ++ L.take j:=⟨_,rfl⟩
     have HNX:Hid ((Ls.take q).flatten ++ L.take (j + 1) = K ++ [(t,y)]):=jH (by rw [take_at he,hK,List.append_assoc])
     rw [<- hK] at HH
     obtain ⟨⟨p,x⟩,hx⟩:∃ hx:Ml,mlOf (mailM k v K) = hx:=⟨_,rfl⟩
     rw [hx] at HH
     have HX:=jH hx
     clear he hK hx
     go_upto_region 9 with fail
     obtain ⟨W1,hW1⟩:∃ W1,W1 = wr.alloc (.cells #[.int .i64 t,.int .i64 y] 155):=⟨_,rfl⟩
     have z0:W1.heap[wr.heap.size]? = some (.cells #[.int .i64 t,.int .i64 y] 155 (0,0)):=by rw [hW1]; exact mb_alloc wr t y
     have hb1:Below wr.heap.size wr W1:=by rw [hW1]; exact (Below.refl _ wr).alloc (Nat.le_refl _) _
     rw [<- hW1]
     obtain ⟨eb,heb⟩:∃ eb,eb = wr.heap.size:=⟨_,rfl⟩
     rw [<- heb] at z0 ⊢
     have HH1:=jH (HH.out.step hb1)
     have HZ:=jH z0
     clear hW1 heb hb1 z0 c0 d0 d1 HH
     obtain ⟨m0,m1,_⟩:=msg_cells HZ.out
     by_cases htv:t = v
     ·subst htv
      obtain ⟨n0,n1,nf,_⟩:=ml_cells HH1.out.ml
      simp only at n0 n1
      cases p with
      | true =>
       obtain ⟨r,hr⟩:∃ r,comb k x y = r:=⟨_,rfl⟩
       have HY:Hid (mlOf (mailM k t ((Ls.take q).flatten ++ L.take (j + 1))) = (true,r)):=jH (by
        rw [HNX.out,nxt_mail,HX.out]; show (true,comb k x y) = _; rw [hr])
       have HC:=jH (fun W => rcomb_y k st so dm ep x y r (jH hr) W)
       obtain ⟨j0,j1,j2,j3,j4,_⟩:=jb_cells HH1.out.box
       clear hr
       go_wp2_with fail
       refine (HC.out _).mono ?_
       rintro e w3 ⟨rfl,hw3⟩
       have hb3:Below W1.heap.size W1 w3:=by rw [hw3]; exact (Below.refl _ W1).alloc (Nat.le_refl _) _
       have HH3:=jH (HH1.out.step hb3)
       clear hw3 hb3 m0 m1 n0 n1 nf j0 j1 j2 j3 j4
       obtain ⟨n0,n1,nf,_⟩:=ml_cells HH3.out.ml
       have HH4:=jH (HH3.out.put1 HW2.out H02.out H12.out r)
       go_wp2
       go_roundg (gk - 1)
       case measure => omega
       case rel => exact ⟨j + 1,by have:=HMN.out; omega,by go_num,by rw [HY.out]; exact HH4⟩
      | false =>
       have HY:Hid (mlOf (mailM k t ((Ls.take q).flatten ++ L.take (j + 1))) = (true,y)):=jH (by
        rw [HNX.out,nxt_mail,HX.out]; rfl)
       have HH4:=jH (HH1.out.put HW2.out H02.out H12.out true y)
       go_wp2
       go_roundg (gk - 1)
       case measure => omega
       case rel => exact ⟨j + 1,by have:=HMN.out; omega,by go_num,by rw [HY.out]; exact HH4⟩
     ·have hb:(t == v) = false:=by simpa using htv
      have HY:Hid (mlOf (mailM k v ((Ls.take q).flatten ++ L.take (j + 1))) = (p,x)):=jH (by
       rw [HNX.out,mailM_snoc]; unfold mst; rw [if_neg htv,HX.out])
      go_wp2
      go_roundg (gk - 1)
      case measure => omega
      case rel => exact ⟨j + 1,by have:=HMN.out; omega,by go_num,by rw [HY.out]; exact HH1⟩
    ·have HH3:Hid (RmH w wr b0 b1 b2 k st so dm ep (mlOf (mailM k v (Ls.take (q + 1)).flatten))):=jH (by
      have:=HH.out
      rwa [show j = L.length by have:=HMN.out; omega,List.take_length,<- flat_next HL.out] at this)
     go_wp2
     go_roundg (G0 - 1)
     case measure => omega
     case rel => exact ⟨q + 1,by have:=HN.out; omega,by go_num,HH3⟩
  ·obtain ⟨⟨p,y⟩,hpy⟩:∃ m:Ml,mlOf (mailM k v Ls.flatten) = m:=⟨_,rfl⟩
   have HH3:Hid (RmH w wr b0 b1 b2 k st so dm ep (p,y)):=jH (by
    have:=HH.out
    rwa [show q = Ls.length by have:=HN.out; omega,List.take_length,hpy] at this)
   have HPY:=jH hpy
   clear HH hpy
   obtain ⟨n0,n1,_⟩:=ml_cells HH3.out.ml
   obtain ⟨u0,u1,uf,_⟩:=ml_cells HH3.out.res
   simp only at n0 n1
   go_wp2_with fail
   have hp:=put_ml HH3.out.res p y
   obtain ⟨k0,k1,_⟩:=ml_cells hp
   have hB5:Below w.heap.size w ((wr.setCell ⟨b1,0,none⟩ (.bool p)).setCell ⟨b1,1,none⟩ (.int .i64 y)):=(HH3.out.below.setCell (p:=⟨b1,0,none⟩) HW1.out _).setCell (p:=⟨b1,1,none⟩) HW1.out _
   exact bodyPost_ret (v:=.agg #[.bool p,.int .i64 y]) (by simp [results,Tryz.results117,go_sem,k0,k1]) rfl ⟨⟨p,y,rfl,HPY⟩,jH hB5⟩
open Go.RowKit Go.Maps Gr Wd Ws Fx Rk Lb Al
structure RgH (w wr:World) (b:Nat) (k st so dm ep:Int) (Ls:List (List Ms)) (own:List Int) (v:Value) (q:Nat):Prop where
 below:Below w.heap.size w wr
 box:wr.heap[b]? = some (.cells #[.int .u8 k,.int .i64 st,.int .i64 so,.int .i64 dm,.int .i64 ep] 40 (0,0))
 row:KOwn wr (b + 1) v (mergeM k (own.take q) Ls)
 size:b + 1 <= wr.heap.size
def RgRel (w:World) (b:Nat) (k st so dm ep:Int) (Ls:List (List Ms)) (own:List Int) (gk:Nat) (v i:Value) (wr:World):Prop :=
 ∃ q:Nat,q + gk = own.length/\i = .int .i64 (q:Int)/\Hid (RgH w wr b k st so dm ep Ls own v q)
set_option maxRecDepth 100000 in
set_option maxHeartbeats 4000000 in
theorem rmerge_any (k st so dm ep:Int) (Ao A:Option Addr) (no co n c:Nat) (own:List Int) (Ls:List (List Ms)) (w:World) (hO:IAt w Ao own) (hno:own.length = no) (hR:RMs w A Ls) (hn:Ls.length = n) (hno2:no < 1000000) (hn2:n <= 1000000) (hF:Ls.flatten.length < 1000000000) :
 Calls Tryz.prog 105 #[.agg #[.int .u8 k,.int .i64 st,.int .i64 so,.int .i64 dm,.int .i64 ep],.slice Ao no co,.slice A n c] w fun e w' => ∃ v,e = .returned v/\Hid (KOwn w' w.heap.size v (mergeM k own Ls))/\Hid (Below w.heap.size w w'):=by
 have mixed:=mixedI
 have HO:=jH hO; have HNO:=jH hno
 have HR:=jH hR; have HN:=jH hn; have HF:=jH hF
 clear hO hno hR hn hF
 obtain ⟨W1,hW1⟩:∃ W1,W1 = w.alloc (.cells #[.int .u8 k,.int .i64 st,.int .i64 so,.int .i64 dm,.int .i64 ep] 40):=⟨_,rfl⟩
 have x0:W1.heap[w.heap.size]? = some (.cells #[.int .u8 k,.int .i64 st,.int .i64 so,.int .i64 dm,.int .i64 ep] 40 (0,0)):=by rw [hW1]; exact heap_alloc_new w _
 have hb1:Below w.heap.size w W1:=by rw [hW1]; exact (Below.refl _ w).alloc (Nat.le_refl _) _
 have hs1:w.heap.size + 1 <= W1.heap.size:=lt_of_block x0
 have HH:Hid (RgH w W1 w.heap.size k st so dm ep Ls own (.slice none 0 0) 0):=jH ⟨hb1,x0,KOwn.none_ _ _,hs1⟩
 obtain ⟨b,eb⟩:∃ b,b = w.heap.size:=⟨_,rfl⟩
 rw [<- eb] at HH
 have HBW:Hid (w.heap.size <= b + 1):=jH (by omega)
 have HBB:Hid (b = w.heap.size):=jH eb
 clear x0 hb1 hs1
 go_enter Tryz.func105,Tryz.ntmps105
 go_upto_region 1 with fail
 rw [<- hW1,<- eb]
 clear hW1 eb
 go_wp2_with fail
 go_loopg [7,8] no (fun gk v i wr => RgRel w b k st so dm ep Ls own gk v i wr)
 case atStart => exact ⟨0,by have:=HNO.out; omega,rfl,HH⟩
 case round =>
  clear HH
  obtain ⟨q,hq,rfl,HH⟩:=hrel
  rw [HNO.out] at hq
  by_cases hlt:q < no
  ·obtain ⟨x,hx⟩:=at_lt own q (by rw [HNO.out]; exact hlt)
   obtain ⟨bk,o,rfl,c0⟩:=(HO.out.below HH.out.below) q x hx
   obtain ⟨j0,j1,j2,j3,j4,_⟩:=jb_cells HH.out.box
   obtain ⟨⟨p,y⟩,hpy⟩:∃ m:Ml,mlOf (mailM k x Ls.flatten) = m:=⟨_,rfl⟩
   have HNX:Hid (mergeM k (own.take q) Ls ++ [(p,y)] = mergeM k (own.take (q + 1)) Ls):=jH (by rw [<- mergeM_take hx,hpy])
   have HSX:Hid ((mergeM k (own.take q) Ls).length < 1000000000):=jH (by rw [mergeM_len,List.length_take]; omega)
   have HC:Hid (∀ W,Below wr.heap.size wr W->Calls Tryz.prog 117 #[.agg #[.int .u8 k,.int .i64 st,.int .i64 so,.int .i64 dm,.int .i64 ep],.int .i64 x,.slice A n c] W fun e w' => e = .returned (.agg #[.bool p,.int .i64 y])/\Below W.heap.size W w'):=jH (fun W hW => by
    refine (rmail_any k st so dm ep x A n c Ls W (HR.out.below (step_below HH.out.below HH.out.below.size hW)) HN.out hn2 HF.out).mono ?_
    rintro e w' ⟨⟨p',y',he,hp'⟩,hb⟩
    have:=hp'.out
    rw [hpy] at this
    cases this
    exact ⟨he,hb.out⟩)
   clear hx hpy
   go_wp2_with fail
   have z0:=cell_regrown c0
   have y0:=cell_regrown j0; have y1:=cell_regrown j1; have y2:=cell_regrown j2; have y3:=cell_regrown j3; have y4:=cell_regrown j4
   refine Tl.region_move_tail_below 7 mixed rfl rfl (by kernel_rfl) (fun d _ _ _ _ h => by cases d <;> exact h) ?_
   simp only [List.take_succ_cons,List.take_zero,List.drop_succ_cons,List.drop_zero,Nat.reduceSub]
   go_simp
   repeat (go_big_quiet_step (fail))
   refine wpQuiet_nil ?_
   intro pp
   obtain ⟨dq,osq⟩:=pp
   dsimp only
   obtain ⟨W4,hW4⟩:∃ W4,W4 = Sort.grow (redrawn wr dq) osq:=⟨_,rfl⟩
   have hb4:Below wr.heap.size wr W4:=by rw [hW4]; exact below_regrown wr dq osq
   rw [<- hW4]
   have HB4:=jH hb4
   clear hW4 hb4 z0 y0 y1 y2 y3 y4 c0 j0 j1 j2 j3 j4
   go_wp2_with fail
   refine (HC.out W4 HB4.out).mono ?_
   rintro e w5 ⟨rfl,hb5⟩
   have hb45:Below wr.heap.size wr w5:=step_below HB4.out HB4.out.size hb5
   have HO1:=jH ((HH.out.row.below hb45).alloc (.cells #[.bool p,.int .i64 y] 114))
   have HN1:=jH (kb_alloc w5 p y)
   have hb1:Below wr.heap.size wr (w5.alloc (.cells #[.bool p,.int .i64 y] 114)):=hb45.alloc hb45.size _
   have HB1:=jH (step_below HH.out.below HH.out.below.size hb1)
   have HX1:=jH (keep HH.out.box hb1)
   have HS1:Hid (b + 1 <= (w5.alloc (.cells #[.bool p,.int .i64 y] 114)).heap.size):=jH (Nat.le_trans HH.out.size hb1.size)
   clear hb45 hb5 hb1 HC HB4
   go_wp2_with (at_builtin; refine app_k rfl (.tmp 15) (.tmp 23) rfl (b + 1) _ _ p y rfl HO1.out _ rfl HN1.out HSX.out HS1.out ?_)
   intro v2 w2' ho2 hg2
   have HH2:Hid (RgH w w2' b k st so dm ep Ls own v2 (q + 1)):=jH
    ⟨Below.grown HB1.out hg2 HB1.out.size (fun j e => by have:=(own_lt HO1.out j e).1; have:=HBW.out; omega),(hg2.block b (lt_of_block HX1.out) (fun e => by have:=(own_lt HO1.out b e.symm).1; omega)).trans HX1.out,by rw [<- HNX.out]; exact ho2,Nat.le_trans HS1.out hg2.size⟩
   clear ho2 hg2 HO1 HN1 HB1 HX1 HS1 HNX HSX HH
   go_wp2
   go_roundg (gk - 1)
   case measure => omega
   case rel => exact ⟨q + 1,by have:=HNO.out; omega,by go_num,HH2⟩
  ·have HO9:=HH.out.row
   rw [show q = own.length by have:=HNO.out; omega,List.take_length] at HO9
   have HO8:=jH (HO9.mono HBW.out)
   clear HO9
   go_wp2
   go_ret
   exact ⟨_,rfl,HO8,jH HH.out.below⟩
end Go.Proofs.YtdcaekmgfcpbmaaGreat.In
namespace Go.Proofs.YtdcaekmgfcpbmaaGreat.Sq
open Go.RowKit Gr Wd Ws Fx Rk Lb Al In
theorem own_other {w w':World} {B B':Nat} {T T':TypeId} {s s' n n':Nat} {z v:Value} {xs ys:List Value} (hz:w.ownsRow B T s z n xs) (hv:w.ownsRow B' T' s' v n' ys) (hT:T ≠ T') (hg:w.grownBy w' v.ownBlock):w'.ownsRow B T s z n xs :=
 own_kept hz fun b c fz hb hc => hg.block b (lt_of_block hc) (fun e => by
  obtain ⟨_,c1,hc1⟩:=own_lt hv b e.symm
  rw [hc1] at hc; injection hc with hc; injection hc with _ hc _
  exact hT hc.symm)
theorem box_other {w w':World} {B' b:Nat} {T T':TypeId} {s' n':Nat} {v:Value} {ys:List Value} {c:Array Value} {fz:Nat × Nat} (hb:w.heap[b]? = some (.cells c T fz)) (hv:w.ownsRow B' T' s' v n' ys) (hT:T ≠ T') (hg:w.grownBy w' v.ownBlock):w'.heap[b]? = some (.cells c T fz) :=
 (hg.block b (lt_of_block hb) (fun e => by
  obtain ⟨_,c1,hc1⟩:=own_lt hv b e.symm
  rw [hc1] at hb; injection hb with hb; injection hb with _ hb _
  exact hT hb.symm)).trans hb
theorem own_grown {w w':World} {B B':Nat} {T':TypeId} {s' n':Nat} {v:Value} {ys:List Value} (hv:w.ownsRow B' T' s' v n' ys) (hg:w.grownBy w' v.ownBlock) (h:B <= B') (hs:B <= w.heap.size):Below B w w' :=
 Below.grown (Below.refl _ _) hg hs (fun j e => Nat.le_trans h (own_lt hv j e).1)
def QOwn (w:World) (B:Nat) (v:Value) (l:List Int):Prop:=w.ownsRow B 2 1 v l.length (ints l)
theorem QOwn.none_ (w:World) (B:Nat):QOwn w B (.slice none 0 0) []:=World.ownsRow_nil _ _ _ _
theorem QOwn.below {w w':World} {B:Nat} {v:Value} {l:List Int} (h:QOwn w B v l) (hb:Below w.heap.size w w'):QOwn w' B v l:=own_below h hb
theorem QOwn.mono {w:World} {B B':Nat} {v:Value} {l:List Int} (h:QOwn w B v l) (hb:B' <= B):QOwn w B' v l:=own_mono h hb
theorem QOwn.form {w:World} {B:Nat} {v:Value} {l:List Int} (h:QOwn w B v l):∃ (A:Option Addr) (c:Nat),v = .slice A l.length c/\IAt w A l:=by
 obtain ⟨h0,h1 | ⟨g,cap,cur,h1,h2,h3,h4,h5,h6,h7⟩⟩:=h
 ·have:l = []:=List.eq_nil_of_length_eq_zero h1.2
  subst this
  exact ⟨none,0,h1.1,IAt.nil _ _⟩
 ·refine ⟨some ⟨g,0,none⟩,cap,h1,fun k x hx => ⟨g,0,rfl,?_⟩⟩
  have hk:=lt_at hx
  rw [Nat.zero_add,cell_of_row w g k _ 2 (0,0) h3]
  have e1:cur[k]? = (cur.toList.take (l.length * 1))[k]?:=by
   rw [List.getElem?_take,if_pos (by omega),Array.getElem?_toList]
  rw [e1,h7,ints_at,hx]; rfl
theorem infoQ:(Tryz.prog.info? 2).map (fun i => (i.zero,i.size,i.bytes)) = some (some (.int .i64 0),1,8):=by kernel_rfl
theorem app_q {w:World} {ops:Array Oper} {rest:List Oper} {o:Oper} {a:Act} {Q:Exit->Act->World->Prop} (hgd:o.guard = none) (s x:Operand)
 (ho:o.op = .call { callee:=.builtin .append,args:=#[s,x],argTypes:=#[27,27] }) (B:Nat) (v:Value) (l:List Int) (y:Int) (hs:a.eval s = v) (hown:QOwn w B v l)
 (g:Nat) (hx:a.eval x = .slice (some ⟨g,0,none⟩) 1 1) (hg:w.heap[g]? = some (.cells #[.int .i64 y] 2 (0,0))) (hn:l.length < 1000000000) (hB:B <= w.heap.size)
 (h:∀ v' w',QOwn w' B v' (l ++ [y])->w.grownBy w' v.ownBlock->wpList Tryz.prog ops Q rest (a.put o.dst v') w'):wpList Tryz.prog ops Q (o :: rest) a w:=by
 obtain ⟨i0,hi,hz0,hz1,hz2⟩:=info_parts infoQ
 refine wpList_append_own w hgd s x 27 ho B 2 i0 _ 1 8 Tryz.underlying27 hi hz0 hz1 hz2 rfl (by decide) v l.length (ints l) hs hown ⟨g,0,none⟩ 1 1 [.int .i64 y] hx rfl ?_ ?_ ?_ ?_ hB ?_
 ·intro j u hu
  rw [add_plain,Lib.cell_of_heap hg]
  rcases j with _ | j
  ·simpa using hu
  ·simp at hu
 ·intro u hu
  simp only [List.mem_cons,List.not_mem_nil,or_false] at hu
  rw [hu]; rfl
 ·unfold maxLen; omega
 ·omega
 ·intro v' w' h1 h2 _
  refine h v' w' ?_ h2
  unfold QOwn
  rw [show ints (l ++ [y]) = ints l ++ [.int .i64 y] by simp [ints],List.length_append]; exact h1
def bls (l:List Bool):List Value:=l.map Value.bool
theorem bls_at (l:List Bool) (k:Nat):(bls l)[k]? = (l[k]?).map Value.bool:=by simp [bls]
def BAt (w:World) (A:Option Addr) (l:List Bool):Prop:=∀ (k:Nat) (x:Bool),l[k]? = some x->∃ bk o,A = some ⟨bk,o,none⟩/\w.cell? ⟨bk,o + k,none⟩ = some (.bool x)
theorem BAt.below {w w':World} {A:Option Addr} {l:List Bool} (h:BAt w A l) (hb:Below w.heap.size w w'):BAt w' A l:=by
 intro k x hx
 obtain ⟨bk,o,hA,c⟩:=h k x hx
 exact ⟨bk,o,hA,(hb.cell (block_lt_of_cell c)).trans c⟩
theorem BAt.nil (w:World) (A:Option Addr):BAt w A []:=fun k x h => by simp at h
def BOwn (w:World) (B:Nat) (v:Value) (l:List Bool):Prop:=w.ownsRow B 4 1 v l.length (bls l)
theorem BOwn.none_ (w:World) (B:Nat):BOwn w B (.slice none 0 0) []:=World.ownsRow_nil _ _ _ _
theorem BOwn.below {w w':World} {B:Nat} {v:Value} {l:List Bool} (h:BOwn w B v l) (hb:Below w.heap.size w w'):BOwn w' B v l:=own_below h hb
theorem BOwn.mono {w:World} {B B':Nat} {v:Value} {l:List Bool} (h:BOwn w B v l) (hb:B' <= B):BOwn w B' v l:=own_mono h hb
theorem BOwn.form {w:World} {B:Nat} {v:Value} {l:List Bool} (h:BOwn w B v l):∃ (A:Option Addr) (c:Nat),v = .slice A l.length c/\BAt w A l:=by
 obtain ⟨h0,h1 | ⟨g,cap,cur,h1,h2,h3,h4,h5,h6,h7⟩⟩:=h
 ·have:l = []:=List.eq_nil_of_length_eq_zero h1.2
  subst this
  exact ⟨none,0,h1.1,BAt.nil _ _⟩
 ·refine ⟨some ⟨g,0,none⟩,cap,h1,fun k x hx => ⟨g,0,rfl,?_⟩⟩
  have hk:=lt_at hx
  rw [Nat.zero_add,cell_of_row w g k _ 4 (0,0) h3]
  have e1:cur[k]? = (cur.toList.take (l.length * 1))[k]?:=by
   rw [List.getElem?_take,if_pos (by omega),Array.getElem?_toList]
  rw [e1,h7,bls_at,hx]; rfl
theorem infoB:(Tryz.prog.info? 4).map (fun i => (i.zero,i.size,i.bytes)) = some (some (.bool false),1,1):=by kernel_rfl
theorem app_b {w:World} {ops:Array Oper} {rest:List Oper} {o:Oper} {a:Act} {Q:Exit->Act->World->Prop} (hgd:o.guard = none) (s x:Operand)
 (ho:o.op = .call { callee:=.builtin .append,args:=#[s,x],argTypes:=#[42,42] }) (B:Nat) (v:Value) (l:List Bool) (y:Bool) (hs:a.eval s = v) (hown:BOwn w B v l)
 (g:Nat) (hx:a.eval x = .slice (some ⟨g,0,none⟩) 1 1) (hg:w.heap[g]? = some (.cells #[.bool y] 4 (0,0))) (hn:l.length < 1000000000) (hB:B <= w.heap.size)
 (h:∀ v' w',BOwn w' B v' (l ++ [y])->w.grownBy w' v.ownBlock->wpList Tryz.prog ops Q rest (a.put o.dst v') w'):wpList Tryz.prog ops Q (o :: rest) a w:=by
 obtain ⟨i0,hi,hz0,hz1,hz2⟩:=info_parts infoB
 refine wpList_append_own w hgd s x 42 ho B 4 i0 _ 1 1 Tryz.underlying42 hi hz0 hz1 hz2 rfl (by decide) v l.length (bls l) hs hown ⟨g,0,none⟩ 1 1 [.bool y] hx rfl ?_ ?_ ?_ ?_ hB ?_
 ·intro j u hu
  rw [add_plain,Lib.cell_of_heap hg]
  rcases j with _ | j
  ·simpa using hu
  ·simp at hu
 ·intro u hu
  simp only [List.mem_cons,List.not_mem_nil,or_false] at hu
  rw [hu]; rfl
 ·unfold maxLen; omega
 ·omega
 ·intro v' w' h1 h2 _
  refine h v' w' ?_ h2
  unfold BOwn
  rw [show bls (l ++ [y]) = bls l ++ [.bool y] by simp [bls],List.length_append]; exact h1
def EachM (w:World) (B:Nat) (xs:List Value) (Ls:List (List Ms)):Prop:=xs.length = Ls.length/\∀ (k:Nat) (L:List Ms),Ls[k]? = some L->∃ x,xs[k]? = some x/\MOwn w B x L
theorem EachM.below {w w':World} {B:Nat} {xs:List Value} {Ls:List (List Ms)} (h:EachM w B xs Ls) (hb:Below w.heap.size w w'):EachM w' B xs Ls :=
 ⟨h.1,fun k L hk => by obtain ⟨x,h1,h2⟩:=h.2 k L hk; exact ⟨x,h1,h2.below hb⟩⟩
theorem EachM.nil (w:World) (B:Nat):EachM w B [] []:=⟨rfl,fun k L h => by simp at h⟩
theorem EachM.snoc {w:World} {B:Nat} {xs:List Value} {Ls:List (List Ms)} (h:EachM w B xs Ls) {x:Value} {L:List Ms} (hx:MOwn w B x L):EachM w B (xs ++ [x]) (Ls ++ [L]):=by
 refine ⟨by simp [h.1],fun k M hk => ?_⟩
 rcases Nat.lt_or_ge k Ls.length with hh | hh
 ·rw [List.getElem?_append_left hh] at hk
  obtain ⟨y,h1,h2⟩:=h.2 k M hk
  exact ⟨y,by rw [List.getElem?_append_left (by rw [h.1]; exact hh)]; exact h1,h2⟩
 ·rw [List.getElem?_append_right hh] at hk
  have hk0:k - Ls.length = 0:=by
   have:=lt_at hk; simp at this; omega
  rw [hk0] at hk
  simp at hk; subst hk
  exact ⟨x,by rw [List.getElem?_append_right (by rw [h.1]; exact hh),h.1,hk0]; rfl,hx⟩
def ROwn (w:World) (B:Nat) (v:Value) (Ls:List (List Ms)):Prop:=∃ xs,w.ownsRow B 133 1 v Ls.length xs/\EachM w B xs Ls
theorem ROwn.none_ (w:World) (B:Nat):ROwn w B (.slice none 0 0) []:=⟨[],World.ownsRow_nil _ _ _ _,EachM.nil _ _⟩
theorem ROwn.below {w w':World} {B:Nat} {v:Value} {Ls:List (List Ms)} (h:ROwn w B v Ls) (hb:Below w.heap.size w w'):ROwn w' B v Ls:=by
 obtain ⟨xs,h1,h2⟩:=h
 exact ⟨xs,own_below h1 hb,h2.below hb⟩
theorem ROwn.other {w w':World} {B B':Nat} {T':TypeId} {s' n':Nat} {v z:Value} {ys:List Value} {Ls:List (List Ms)} (h:ROwn w B z Ls) (hv:w.ownsRow B' T' s' v n' ys) (h1:133 ≠ T') (h2:155 ≠ T') (hg:w.grownBy w' v.ownBlock):ROwn w' B z Ls:=by
 obtain ⟨xs,g1,g2⟩:=h
 exact ⟨xs,own_other g1 hv h1 hg,g2.1,fun k L hk => by obtain ⟨x,e1,e2⟩:=g2.2 k L hk; exact ⟨x,e1,own_other e2 hv h2 hg⟩⟩
theorem ROwn.form {w:World} {B:Nat} {v:Value} {Ls:List (List Ms)} (h:ROwn w B v Ls):∃ (A:Option Addr) (c:Nat),v = .slice A Ls.length c/\RMs w A Ls:=by
 obtain ⟨xs,⟨h0,h1 | ⟨g,cap,cur,h1,h2,h3,h4,h5,h6,h7⟩⟩,he⟩:=h
 ·have:Ls = []:=List.eq_nil_of_length_eq_zero h1.2
  subst this
  exact ⟨none,0,h1.1,fun k L hk => by simp at hk⟩
 ·refine ⟨some ⟨g,0,none⟩,cap,h1,fun k L hx => ?_⟩
  have hk:=lt_at hx
  obtain ⟨x,hx1,hx2⟩:=he.2 k L hx
  obtain ⟨A',c',rfl,hE,_⟩:=hx2.room
  refine ⟨g,0,A',c',rfl,?_,hE⟩
  rw [Nat.zero_add,cell_of_row w g k _ 133 (0,0) h3]
  have e1:cur[k]? = (cur.toList.take (Ls.length * 1))[k]?:=by
   rw [List.getElem?_take,if_pos (by omega),Array.getElem?_toList]
  rw [e1,h7,hx1]
theorem infoR:(Tryz.prog.info? 133).map (fun i => (i.zero,i.size,i.bytes)) = some (some (.slice none 0 0),1,24):=by kernel_rfl
theorem app_r {w:World} {ops:Array Oper} {rest:List Oper} {o:Oper} {a:Act} {Q:Exit->Act->World->Prop} (hgd:o.guard = none) (s x:Operand)
 (ho:o.op = .call { callee:=.builtin .append,args:=#[s,x],argTypes:=#[130,130] }) (B:Nat) (v:Value) (Ls:List (List Ms)) (y:Value) (L:List Ms) (hs:a.eval s = v) (hown:ROwn w B v Ls)
 (g:Nat) (hx:a.eval x = .slice (some ⟨g,0,none⟩) 1 1) (hg:w.heap[g]? = some (.cells #[y] 133 (0,0))) (hy:MOwn w B y L) (hn:Ls.length < 1000000000) (hB:B <= w.heap.size)
 (h:∀ v' w',ROwn w' B v' (Ls ++ [L])->w.grownBy w' v.ownBlock->wpList Tryz.prog ops Q rest (a.put o.dst v') w'):wpList Tryz.prog ops Q (o :: rest) a w:=by
 obtain ⟨i0,hi,hz0,hz1,hz2⟩:=info_parts infoR
 obtain ⟨xs,hown,hea⟩:=hown
 refine wpList_append_own w hgd s x 130 ho B 133 i0 _ 1 24 Tryz.underlying130 hi hz0 hz1 hz2 rfl (by decide) v Ls.length xs hs hown ⟨g,0,none⟩ 1 1 [y] hx rfl ?_ ?_ ?_ ?_ hB ?_
 ·intro j u hu
  rw [add_plain,Lib.cell_of_heap hg]
  rcases j with _ | j
  ·simpa using hu
  ·simp at hu
 ·intro u hu
  simp only [List.mem_cons,List.not_mem_nil,or_false] at hu
  rw [hu]
  obtain ⟨A,c,rfl,_⟩:=hy.room; rfl
 ·unfold maxLen; omega
 ·omega
 ·intro v' w' h1 h2 _
  have hk:∀ (z:Value) (M:List Ms),MOwn w B z M->MOwn w' B z M:=fun z M hz => own_other hz hown (by decide) h2
  refine h v' w' ⟨xs ++ [y],by rw [List.length_append]; exact h1,EachM.snoc ⟨hea.1,fun k M hM => ?_⟩ (hk _ _ hy)⟩ h2
  obtain ⟨z,h3,h4⟩:=hea.2 k M hM
  exact ⟨z,h3,hk _ _ h4⟩
abbrev Eg:=List Ed × List Ed
def WAt (w:World) (A:Option Addr) (Ls:List Eg):Prop:=∀ (k:Nat) (L:Eg),Ls[k]? = some L->∃ bk o A1 c1 A2 c2,A = some ⟨bk,o,none⟩/\w.cell? ⟨bk,o + k * 2,none⟩ = some (.slice A1 L.1.length c1)/\w.cell? ⟨bk,o + k * 2 + 1,none⟩ = some (.slice A2 L.2.length c2)/\EAt w A1 L.1/\EAt w A2 L.2
theorem WAt.below {w w':World} {A:Option Addr} {Ls:List Eg} (h:WAt w A Ls) (hb:Below w.heap.size w w'):WAt w' A Ls:=by
 intro k L hx
 obtain ⟨bk,o,A1,c1,A2,c2,hA,e1,e2,g1,g2⟩:=h k L hx
 exact ⟨bk,o,A1,c1,A2,c2,hA,(hb.cell (block_lt_of_cell e1)).trans e1,(hb.cell (block_lt_of_cell e2)).trans e2,g1.below hb,g2.below hb⟩
theorem WAt.nil (w:World) (A:Option Addr):WAt w A []:=fun k x h => by simp at h
def EachW (w:World) (B:Nat) (xs:List Value) (Ls:List Eg):Prop:=xs.length = Ls.length * 2/\∀ (k:Nat) (L:Eg),Ls[k]? = some L->∃ x y,xs[k * 2]? = some x/\xs[k * 2 + 1]? = some y/\EOwn w B x L.1/\EOwn w B y L.2
theorem EachW.below {w w':World} {B:Nat} {xs:List Value} {Ls:List Eg} (h:EachW w B xs Ls) (hb:Below w.heap.size w w'):EachW w' B xs Ls :=
 ⟨h.1,fun k L hk => by obtain ⟨x,y,h1,h2,h3,h4⟩:=h.2 k L hk; exact ⟨x,y,h1,h2,h3.below hb,h4.below hb⟩⟩
theorem EachW.nil (w:World) (B:Nat):EachW w B [] []:=⟨rfl,fun k L h => by simp at h⟩
theorem EachW.snoc {w:World} {B:Nat} {xs:List Value} {Ls:List Eg} (h:EachW w B xs Ls) {x y:Value} {L M:List Ed} (hx:EOwn w B x L) (hy:EOwn w B y M):EachW w B (xs ++ [x,y]) (Ls ++ [(L,M)]):=by
 refine ⟨by simp [h.1]; omega,fun k N hk => ?_⟩
 rcases Nat.lt_or_ge k Ls.length with hh | hh
 ·rw [List.getElem?_append_left hh] at hk
  obtain ⟨u,v,h1,h2,h3,h4⟩:=h.2 k N hk
  exact ⟨u,v,by rw [List.getElem?_append_left (by rw [h.1]; omega)]; exact h1,by rw [List.getElem?_append_left (by rw [h.1]; omega)]; exact h2,h3,h4⟩
 ·rw [List.getElem?_append_right hh] at hk
  have hk0:k - Ls.length = 0:=by
   have:=lt_at hk; simp at this; omega
  rw [hk0] at hk
  simp at hk; subst hk
  obtain rfl:k = Ls.length:=by omega
  refine ⟨x,y,?_,?_,hx,hy⟩
  ·rw [List.getElem?_append_right (by rw [h.1]; exact Nat.le_refl _),h.1,Nat.sub_self]; rfl
  ·rw [List.getElem?_append_right (by rw [h.1]; omega),h.1,show Ls.length * 2 + 1 - Ls.length * 2 = 1 by omega]; rfl
def WOwn (w:World) (B:Nat) (v:Value) (Ls:List Eg):Prop:=∃ xs,w.ownsRow B 103 2 v Ls.length xs/\EachW w B xs Ls
theorem WOwn.none_ (w:World) (B:Nat):WOwn w B (.slice none 0 0) []:=⟨[],World.ownsRow_nil _ _ _ _,EachW.nil _ _⟩
theorem WOwn.below {w w':World} {B:Nat} {v:Value} {Ls:List Eg} (h:WOwn w B v Ls) (hb:Below w.heap.size w w'):WOwn w' B v Ls:=by
 obtain ⟨xs,h1,h2⟩:=h
 exact ⟨xs,own_below h1 hb,h2.below hb⟩
theorem WOwn.form {w:World} {B:Nat} {v:Value} {Ls:List Eg} (h:WOwn w B v Ls):∃ (A:Option Addr) (c:Nat),v = .slice A Ls.length c/\WAt w A Ls:=by
 obtain ⟨xs,⟨h0,h1 | ⟨g,cap,cur,h1,h2,h3,h4,h5,h6,h7⟩⟩,he⟩:=h
 ·have:Ls = []:=List.eq_nil_of_length_eq_zero h1.2
  subst this
  exact ⟨none,0,h1.1,fun k L hk => by simp at hk⟩
 ·refine ⟨some ⟨g,0,none⟩,cap,h1,fun k L hx => ?_⟩
  have hk:=lt_at hx
  obtain ⟨x,y,hx1,hx2,hx3,hx4⟩:=he.2 k L hx
  obtain ⟨A1,c1,rfl,g1,_⟩:=hx3.form
  obtain ⟨A2,c2,rfl,g2,_⟩:=hx4.form
  have key:∀ j,j < Ls.length * 2->w.cell? ⟨g,0 + j,none⟩ = xs[j]?:=fun j hj => by
   rw [Nat.zero_add,cell_of_row w g j _ 103 (0,0) h3]
   have e1:cur[j]? = (cur.toList.take (Ls.length * 2))[j]?:=by
    rw [List.getElem?_take,if_pos hj,Array.getElem?_toList]
   rw [e1,h7]
  refine ⟨g,0,A1,c1,A2,c2,rfl,?_,?_,g1,g2⟩
  ·rw [key _ (by omega)]; exact hx1
  ·rw [Nat.add_assoc,key _ (by omega)]; exact hx2
theorem infoW:(Tryz.prog.info? 103).map (fun i => (i.zero,i.size,i.bytes)) = some (some (.agg #[.slice none 0 0,.slice none 0 0]),2,48):=by kernel_rfl
theorem app_w {w:World} {ops:Array Oper} {rest:List Oper} {o:Oper} {a:Act} {Q:Exit->Act->World->Prop} (hgd:o.guard = none) (s x:Operand)
 (ho:o.op = .call { callee:=.builtin .append,args:=#[s,x],argTypes:=#[69,69] }) (B:Nat) (v:Value) (Ls:List Eg) (y z:Value) (L M:List Ed) (hs:a.eval s = v) (hown:WOwn w B v Ls)
 (g:Nat) (hx:a.eval x = .slice (some ⟨g,0,none⟩) 1 1) (hg:w.heap[g]? = some (.cells #[y,z] 103 (0,0))) (hy:EOwn w B y L) (hz:EOwn w B z M) (hn:Ls.length < 1000000000) (hB:B <= w.heap.size)
 (h:∀ v' w',WOwn w' B v' (Ls ++ [(L,M)])->w.grownBy w' v.ownBlock->wpList Tryz.prog ops Q rest (a.put o.dst v') w'):wpList Tryz.prog ops Q (o :: rest) a w:=by
 obtain ⟨i0,hi,hz0,hz1,hz2⟩:=info_parts infoW
 obtain ⟨xs,hown,hea⟩:=hown
 refine wpList_append_own w hgd s x 69 ho B 103 i0 _ 2 48 Tryz.underlying69 hi hz0 hz1 hz2 rfl (by decide) v Ls.length xs hs hown ⟨g,0,none⟩ 1 1 [y,z] hx rfl ?_ ?_ ?_ ?_ hB ?_
 ·intro j u hu
  rw [add_plain,Lib.cell_of_heap hg]
  rcases j with _ | _ | j
  ·simpa using hu
  ·simpa using hu
  ·simp at hu
 ·intro u hu
  simp only [List.mem_cons,List.not_mem_nil,or_false] at hu
  rcases hu with rfl | rfl
  ·obtain ⟨A,c,rfl,_⟩:=hy.form; rfl
  ·obtain ⟨A,c,rfl,_⟩:=hz.form; rfl
 ·unfold maxLen; omega
 ·omega
 ·intro v' w' h1 h2 _
  have hk:∀ (u:Value) (N:List Ed),EOwn w B u N->EOwn w' B u N:=fun u N hu => own_other hu hown (by decide) h2
  refine h v' w' ⟨xs ++ [y,z],by rw [List.length_append]; exact h1,EachW.snoc ⟨hea.1,fun k N hN => ?_⟩ (hk _ _ hy) (hk _ _ hz)⟩ h2
  obtain ⟨u,t,h3,h4,h5,h6⟩:=hea.2 k N hN
  exact ⟨u,t,h3,h4,hk _ _ h5,hk _ _ h6⟩
open Go.RowKit Gr Wd Ws Fx Rk Lb Al In
theorem six {w:World} {b:Nat} {T:TypeId} {a0 a1 a2 a3 a4 a5:Value} (h:w.heap[b]? = some (.cells #[a0,a1,a2,a3,a4,a5] T (0,0))) :
 w.cell? ⟨b,0,none⟩ = some a0/\w.cell? ⟨b,1,none⟩ = some a1/\w.cell? ⟨b,2,none⟩ = some a2/\w.cell? ⟨b,3,none⟩ = some a3/\w.cell? ⟨b,4,none⟩ = some a4/\w.cell? ⟨b,5,none⟩ = some a5/\b < w.heap.size :=
 ⟨by rw [Lib.cell_of_heap h]; rfl,by rw [Lib.cell_of_heap h]; rfl,by rw [Lib.cell_of_heap h]; rfl,by rw [Lib.cell_of_heap h]; rfl,by rw [Lib.cell_of_heap h]; rfl,by rw [Lib.cell_of_heap h]; rfl,lt_of_block h⟩
theorem warm {w:World} {b:Nat} {T:TypeId} {c:Array Value} (h:w.heap[b]? = some (.cells c T (0,0))) (i:Nat):w.frozen? ⟨b,i,none⟩ = false:=Lib.frozen_of_heap h _
def put6 (w:World) (b:Nat) (u0 u1 u2 u3 u4 u5:Value):World:=(((((w.setCell ⟨b,0,none⟩ u0).setCell ⟨b,1,none⟩ u1).setCell ⟨b,2,none⟩ u2).setCell ⟨b,3,none⟩ u3).setCell ⟨b,4,none⟩ u4).setCell ⟨b,5,none⟩ u5
theorem set_heap {w:World} {b i:Nat} {T:TypeId} {c:Array Value} (h:w.heap[b]? = some (.cells c T (0,0))) (u:Value):(w.setCell ⟨b,i,none⟩ u).heap[b]? = some (.cells (c.setIfInBounds i u) T (0,0)):=heap_setCell_same w b i c T u h
theorem put6_heap {w:World} {b:Nat} {T:TypeId} {a0 a1 a2 a3 a4 a5:Value} (h:w.heap[b]? = some (.cells #[a0,a1,a2,a3,a4,a5] T (0,0))) (u0 u1 u2 u3 u4 u5:Value):(put6 w b u0 u1 u2 u3 u4 u5).heap[b]? = some (.cells #[u0,u1,u2,u3,u4,u5] T (0,0)):=by
 have h0:=set_heap (i:=0) h u0
 have h1:=set_heap (i:=1) h0 u1
 have h2:=set_heap (i:=2) h1 u2
 have h3:=set_heap (i:=3) h2 u3
 have h4:=set_heap (i:=4) h3 u4
 exact set_heap (i:=5) h4 u5
theorem set_other (w:World) (b i k:Nat) (u:Value) (hk:k ≠ b):(w.setCell ⟨b,i,none⟩ u).heap[k]? = w.heap[k]?:=Below.heap_setCell w ⟨b,i,none⟩ u k hk
theorem put6_other (w:World) (b k:Nat) (u0 u1 u2 u3 u4 u5:Value) (hk:k ≠ b):(put6 w b u0 u1 u2 u3 u4 u5).heap[k]? = w.heap[k]?:=by
 unfold put6
 rw [set_other _ _ _ _ _ hk,set_other _ _ _ _ _ hk,set_other _ _ _ _ _ hk,set_other _ _ _ _ _ hk,set_other _ _ _ _ _ hk,set_other _ _ _ _ _ hk]
theorem put6_below {B:Nat} {a w:World} (h:Below B a w) {b:Nat} (hb:B <= b) (u0 u1 u2 u3 u4 u5:Value):Below B a (put6 w b u0 u1 u2 u3 u4 u5) :=
 (((((h.setCell (p:=⟨b,0,none⟩) hb u0).setCell (p:=⟨b,1,none⟩) hb u1).setCell (p:=⟨b,2,none⟩) hb u2).setCell (p:=⟨b,3,none⟩) hb u3).setCell (p:=⟨b,4,none⟩) hb u4).setCell (p:=⟨b,5,none⟩) hb u5
theorem own_moved {w w':World} {b B n s:Nat} {T:TypeId} {v:Value} {xs:List Value} {c:Array Value} {T':TypeId} (h:w.ownsRow B T s v n xs) (hb:w.heap[b]? = some (.cells c T' (0,0))) (hT:T ≠ T') (ho:∀ k,k ≠ b->w'.heap[k]? = w.heap[k]?):w'.ownsRow B T s v n xs :=
 own_kept h fun g c' fz _ hc => ho g fun e => by
  subst e; rw [hb] at hc; injection hc with hc; injection hc with _ hc _
  exact hT hc.symm
theorem EachM.moved {w w':World} {b B:Nat} {xs:List Value} {Ls:List (List Ms)} {c:Array Value} {T':TypeId} (h:EachM w B xs Ls) (hb:w.heap[b]? = some (.cells c T' (0,0))) (hT:155 ≠ T') (ho:∀ k,k ≠ b->w'.heap[k]? = w.heap[k]?):EachM w' B xs Ls :=
 ⟨h.1,fun k L hk => by obtain ⟨x,h1,h2⟩:=h.2 k L hk; exact ⟨x,h1,own_moved h2 hb hT ho⟩⟩
theorem EachW.moved {w w':World} {b B:Nat} {xs:List Value} {Ls:List Eg} {c:Array Value} {T':TypeId} (h:EachW w B xs Ls) (hb:w.heap[b]? = some (.cells c T' (0,0))) (hT:33 ≠ T') (ho:∀ k,k ≠ b->w'.heap[k]? = w.heap[k]?):EachW w' B xs Ls :=
 ⟨h.1,fun k L hk => by obtain ⟨x,y,h1,h2,h3,h4⟩:=h.2 k L hk; exact ⟨x,y,h1,h2,own_moved h3 hb hT ho,own_moved h4 hb hT ho⟩⟩
theorem WOwn.moved {w w':World} {b B:Nat} {v:Value} {Ls:List Eg} {c:Array Value} {T':TypeId} (h:WOwn w B v Ls) (hb:w.heap[b]? = some (.cells c T' (0,0))) (hT:103 ≠ T') (hT2:33 ≠ T') (ho:∀ k,k ≠ b->w'.heap[k]? = w.heap[k]?):WOwn w' B v Ls:=by
 obtain ⟨xs,h1,h2⟩:=h
 exact ⟨xs,own_moved h1 hb hT ho,h2.moved hb hT2 ho⟩
theorem ROwn.moved {w w':World} {b B:Nat} {v:Value} {Ls:List (List Ms)} {c:Array Value} {T':TypeId} (h:ROwn w B v Ls) (hb:w.heap[b]? = some (.cells c T' (0,0))) (hT:133 ≠ T') (hT2:155 ≠ T') (ho:∀ k,k ≠ b->w'.heap[k]? = w.heap[k]?):ROwn w' B v Ls:=by
 obtain ⟨xs,h1,h2⟩:=h
 exact ⟨xs,own_moved h1 hb hT ho,h2.moved hb hT2 ho⟩
set_option maxRecDepth 100000 in
theorem res_c (fn:Func) (c:Nat) (tmps:Array Value) (w:World) (b:Nat) (a0 a1 a2 a3 a4 a5:Value) (hr:fn.results = #[.cell c 71]) (ht:tmps.getD c undef = .pointer (some ⟨b,0,none⟩))
 (f:w.heap[b]? = some (.cells #[a0,a1,a2,a3,a4,a5] 71 (0,0))):(results fn tmps).run Tryz.prog w = .ok (.agg #[a0,a1,a2,a3,a4,a5]) w:=by
 have ht':tmps[c]?.getD undef = .pointer (some ⟨b,0,none⟩):=by simpa using ht
 obtain ⟨f0,f1,f2,f3,f4,f5,_⟩:=six f
 simp [results,hr,ht',go_sem,f0,f1,f2,f3,f4,f5]
set_option maxRecDepth 100000 in
theorem res_s (fn:Func) (c:Nat) (tmps:Array Value) (w:World) (b:Nat) (a0 a1 a2 a3 a4 a5:Value) (hr:fn.results = #[.cell c 45]) (ht:tmps.getD c undef = .pointer (some ⟨b,0,none⟩))
 (f:w.heap[b]? = some (.cells #[a0,a1,a2,a3,a4,a5] 45 (0,0))):(results fn tmps).run Tryz.prog w = .ok (.agg #[a0,a1,a2,a3,a4,a5]) w:=by
 have ht':tmps[c]?.getD undef = .pointer (some ⟨b,0,none⟩):=by simpa using ht
 obtain ⟨f0,f1,f2,f3,f4,f5,_⟩:=six f
 simp [results,hr,ht',go_sem,f0,f1,f2,f3,f4,f5]
set_option maxRecDepth 100000 in
theorem res2_s (fn:Func) (c d:Nat) (tmps:Array Value) (w:World) (b:Nat) (a0 a1 a2 a3 a4 a5 u:Value) (hr:fn.results = #[.cell c 45,.tmp d]) (ht:tmps.getD c undef = .pointer (some ⟨b,0,none⟩)) (hd:tmps.getD d undef = u)
 (f:w.heap[b]? = some (.cells #[a0,a1,a2,a3,a4,a5] 45 (0,0))):(results fn tmps).run Tryz.prog w = .ok (.tuple #[.agg #[a0,a1,a2,a3,a4,a5],u]) w:=by
 have ht':tmps[c]?.getD undef = .pointer (some ⟨b,0,none⟩):=by simpa using ht
 have hd':tmps[d]?.getD undef = u:=by simpa using hd
 obtain ⟨f0,f1,f2,f3,f4,f5,_⟩:=six f
 simp [results,hr,ht',hd',go_sem,f0,f1,f2,f3,f4,f5]
open Gr Fx Rk Lb Al In
open Pa (vl bt)
theorem mem_putM {k:Int} {y:Ms}:∀ (xs l:List Ms),y ∈ putM k l xs->(∃ x ∈ xs,y.1 = x.1)\/y ∈ l
 | [],l,h => Or.inr h
 | x :: xs,l,h => by
  rcases mem_putM xs (insM k l x) h with ⟨z,hz,e⟩ | h
  ·exact Or.inl ⟨z,List.mem_cons_of_mem _ hz,e⟩
  ·rcases mem_insM h with e | h
   ·exact Or.inl ⟨x,List.mem_cons_self,e⟩
   ·exact Or.inr h
theorem raw_to {V:Nat} {L:List Ed} (hf:∀ e ∈ L,fitE (V:Int) e = true) (k v x:Int) (ch:Bool):∀ m ∈ rawM k v x ch (outE L v) (bckE L v),0 <= m.1/\m.1 < (V:Int):=by
 intro m hm
 have h1:∀ e ∈ outE L v,0 <= e.2.1/\e.2.1 < (V:Int):=fun e he => by have:=(fitE_iff _ _).1 (hf e (List.mem_filter.1 he).1); omega
 have h2:∀ e ∈ bckE L v,0 <= e.1/\e.1 < (V:Int):=fun e he => by have:=(fitE_iff _ _).1 (hf e (List.mem_filter.1 he).1); omega
 unfold rawM at hm
 split at hm
 ·obtain ⟨e,he,rfl⟩:=List.mem_map.1 hm; exact h1 e he
 ·split at hm
  ·split at hm
   ·obtain ⟨u,hu,rfl⟩:=List.mem_map.1 hm
    unfold nearL at hu
    rcases (mem_putAll _ _).1 hu with hu | hu
    ·simp at hu
    ·rcases List.mem_append.1 hu with hu | hu
     ·obtain ⟨e,he,rfl⟩:=List.mem_map.1 (List.mem_filter.1 hu).1; exact h1 e he
     ·obtain ⟨e,he,rfl⟩:=List.mem_map.1 (List.mem_filter.1 hu).1; exact h2 e he
   ·split at hm
    ·obtain ⟨e,he,rfl⟩:=List.mem_map.1 hm; exact h1 e he
    ·simp at hm
  ·simp at hm
theorem rows_toin {k:Int} {V:Nat} {L:List Ed} {vals:List Int} {chg:List Bool} (hf:∀ e ∈ L,fitE (V:Int) e = true) (hV:V <= 512):ToIn (rowsS k V L vals chg).flatten:=by
 intro m hm
 obtain ⟨r,hr,hm⟩:=List.mem_flatten.1 hm
 obtain ⟨v,_,rfl⟩:=List.mem_map.1 hr
 rcases mem_putM _ _ hm with ⟨x,hx,e⟩ | h
 ·have:=raw_to hf _ _ _ _ x hx
  omega
 ·simp at h
theorem own_in (V:Nat) (hV:V <= 512):OwnIn ((List.range V).map fun (v:Nat) => (v:Int)):=by
 intro x hx
 obtain ⟨v,hv,rfl⟩:=List.mem_map.1 hx
 have:=List.mem_range.1 hv
 omega
theorem flat_len (m:Nat):∀ l:List (List Ms),(∀ r ∈ l,r.length <= m)->l.flatten.length <= l.length * m
 | [],_ => by simp
 | r :: l,h => by
  have h1:=h r List.mem_cons_self
  have h2:=flat_len m l fun s hs => h s (List.mem_cons_of_mem _ hs)
  rw [List.flatten_cons,List.length_append,List.length_cons,Nat.add_mul]
  omega
theorem send_len (k v x:Int) (ch:Bool) (L M:List Ed):(sendM k v x ch L M).length <= L.length + M.length:=by
 have h:=putM_len k (rawM k v x ch L M) []
 have h2:(rawM k v x ch L M).length <= L.length + M.length:=by
  unfold rawM
  split
  ·simp [sentR]
  ·split
   ·split
    ·have h3:=putAll_len (tos v L ++ froms v M) []
     have h4:=tos_len v L
     have h5:=froms_len v M
     simp only [sentL,List.length_map]
     unfold nearL
     simp only [List.length_append,List.length_nil] at h3
     omega
    ·split <;> simp [sentP]
   ·simp
 unfold sendM
 simp only [List.length_nil] at h
 omega
theorem rows_few (k:Int) (V:Nat) (L:List Ed) (vals:List Int) (chg:List Bool) (hV:V <= 512) (hL:L.length <= 1000):(rowsS k V L vals chg).flatten.length < 1000000000:=by
 have h:=flat_len 2000 (rowsS k V L vals chg) fun r hr => by
  obtain ⟨v,_,rfl⟩:=List.mem_map.1 hr
  have h1:=send_len k (v:Int) (vl vals v) (bt chg v) (outE L (v:Int)) (bckE L (v:Int))
  have h2:(outE L (v:Int)).length <= L.length:=List.length_filter_le _ _
  have h3:(bckE L (v:Int)).length <= L.length:=List.length_filter_le _ _
  omega
 have hl:(rowsS k V L vals chg).length = V:=by simp [rowsS]
 rw [hl] at h
 omega
end Go.Proofs.YtdcaekmgfcpbmaaGreat.Sq
