/-
  What is proved here: a contract of the document's own Add: a row of messages, rising, with one more. Conditions: the row is one that the call has made, of fewer than 1000000 messages. What is proved here: a contract of the document's own Send: what any vertex sends is sendM. Conditions: at most 1000 edges each way.
-/
import Derived.Test.YtdcaekmgfcpbmaaGreatQdAlP2x
import Derived.Test.YtdcaekmgfcpbmaaGreatQdAlLR2x
namespace Go.Proofs.YtdcaekmgfcpbmaaGreat.Al
open Go.RowKit Go.Sort Gr Wd Ws Fx Rk Lb
theorem job_cells {W:World} {b:Nat} {k st so dm ep:Int} (h:W.heap[b]? = some (.cells #[.int .u8 k,.int .i64 st,.int .i64 so,.int .i64 dm,.int .i64 ep] 40 (0,0))):W.cell? ⟨b,0,none⟩ = some (.int .u8 k)/\W.cell? ⟨b,1,none⟩ = some (.int .i64 st)/\W.cell? ⟨b,2,none⟩ = some (.int .i64 so)/\W.cell? ⟨b,3,none⟩ = some (.int .i64 dm)/\W.cell? ⟨b,4,none⟩ = some (.int .i64 ep)/\b < W.heap.size :=
 ⟨by rw [Lib.cell_of_heap h]; rfl,by rw [Lib.cell_of_heap h]; rfl,by rw [Lib.cell_of_heap h]; rfl,by rw [Lib.cell_of_heap h]; rfl,by rw [Lib.cell_of_heap h]; rfl,lt_of_block h⟩
theorem rcomb_y (k st so dm ep a b y:Int) (hy:Hid (comb k a b = y)) (w:World):Calls Tryz.prog 122 #[.agg #[.int .u8 k,.int .i64 st,.int .i64 so,.int .i64 dm,.int .i64 ep],.int .i64 a,.int .i64 b] w fun e w' => e = .returned (.int .i64 y)/\w' = w.alloc (.cells #[.int .u8 k,.int .i64 st,.int .i64 so,.int .i64 dm,.int .i64 ep] 40):=by
 rw [<- hy.out]; exact rcomb_x k st so dm ep a b w
def AdRel (w:World) (l:List Ms) (t:Int) (n:Nat) (gk:Nat) (i:Value) (wr:World):Prop :=
 ∃ q:Nat,q + gk = n/\i = .int .i64 (q:Int)/\Hid (Low l t q)/\Hid (Below w.heap.size w wr)
set_option maxRecDepth 100000 in
set_option maxHeartbeats 4000000 in
theorem radd_any (k st so dm ep:Int) (v:Value) (l:List Ms) (B:Nat) (t y:Int) (w:World) (h:MOwn w B v l) (hB:B <= w.heap.size) (hlen:l.length < 1000000) :
 Calls Tryz.prog 113 #[.agg #[.int .u8 k,.int .i64 st,.int .i64 so,.int .i64 dm,.int .i64 ep],v,.agg #[.int .i64 t,.int .i64 y]] w fun e w' => ∃ r,e = .returned r/\Hid (MOwn w' B r (insM k l (t,y)))/\Hid (Below w.heap.size w w'):=by
 have mixed:=mixedO
 obtain ⟨A,c,rfl,hat,hc,hcm,hA⟩:=h.room
 have hcm2:c <= 9223372036854775807:=by unfold maxLen at hcm; omega
 obtain ⟨W1,hW1⟩:∃ W1,W1 = (w.alloc (.cells #[.int .u8 k,.int .i64 st,.int .i64 so,.int .i64 dm,.int .i64 ep] 40)).alloc (.cells #[.int .i64 t,.int .i64 y] 155):=⟨_,rfl⟩
 have hb0:Below w.heap.size w (w.alloc (.cells #[.int .u8 k,.int .i64 st,.int .i64 so,.int .i64 dm,.int .i64 ep] 40)):=(Below.refl _ w).alloc (Nat.le_refl _) _
 have hb1:Below w.heap.size w W1:=by rw [hW1]; exact hb0.alloc hb0.size _
 have hX1:W1.heap[w.heap.size]? = some (.cells #[.int .u8 k,.int .i64 st,.int .i64 so,.int .i64 dm,.int .i64 ep] 40 (0,0)):=by
  rw [hW1]
  have e1:(w.alloc (.cells #[.int .u8 k,.int .i64 st,.int .i64 so,.int .i64 dm,.int .i64 ep] 40)).heap[w.heap.size]? = some (.cells #[.int .u8 k,.int .i64 st,.int .i64 so,.int .i64 dm,.int .i64 ep] 40 (0,0)):=heap_alloc_new w _
  exact ((((Below.refl _ (w.alloc (.cells #[.int .u8 k,.int .i64 st,.int .i64 so,.int .i64 dm,.int .i64 ep] 40))).alloc (Nat.le_refl _) (.cells #[.int .i64 t,.int .i64 y] 155))).block _ (lt_of_block e1)).trans e1
 have hY1:W1.heap[w.heap.size + 1]? = some (.cells #[.int .i64 t,.int .i64 y] 155 (0,0)):=by
  rw [hW1]
  have:=msg_new (w.alloc (.cells #[.int .u8 k,.int .i64 st,.int .i64 so,.int .i64 dm,.int .i64 ep] 40)) t y
  rw [show (w.alloc (.cells #[.int .u8 k,.int .i64 st,.int .i64 so,.int .i64 dm,.int .i64 ep] 40)).heap.size = w.heap.size + 1 by simp] at this
  exact this
 obtain ⟨bj,hbj⟩:∃ bj,bj = w.heap.size:=⟨_,rfl⟩
 obtain ⟨bm,hbm⟩:∃ bm,bm = w.heap.size + 1:=⟨_,rfl⟩
 rw [<- hbj] at hX1
 rw [<- hbm] at hY1
 have HB1:=jH hb1; have HX1:=jH hX1; have HY1:=jH hY1
 have HAt:=jH (hat.below hb1); have HA:=jH hA; have HAw:=jH hat
 obtain ⟨n,hn⟩:∃ n,n = l.length:=⟨_,rfl⟩
 rw [<- hn] at hc hlen ⊢
 have HN:=jH hn
 have HO:=jH (h.mono (Nat.le_refl B))
 clear hb0 hb1 hX1 hY1 hat hA hcm h hn
 go_enter Tryz.func113,Tryz.ntmps113
 go_upto_region 1 with fail
 rw [<- hW1]
 rw [show w.heap.size + 1 = bm from hbm.symm]
 rw [show w.heap.size = bj from hbj.symm]
 have HBJ:=jH hbj; have HBM:=jH hbm
 clear hW1 hbj hbm
 go_wp2_with fail
 go_loopg [7] n (fun gk i wr => AdRel W1 l t n gk i wr)
 case atStart => exact ⟨0,by omega,rfl,jH (fun j x hj => absurd hj (Nat.not_lt_zero j)),jH (Below.refl _ _)⟩
 case round =>
  obtain ⟨q,hq,rfl,HLo,HBq⟩:=hrel
  have HXr:Hid (wr.heap[bj]? = some (.cells #[.int .u8 k,.int .i64 st,.int .i64 so,.int .i64 dm,.int .i64 ep] 40 (0,0))):=jH ((HBq.out.block _ (lt_of_block HX1.out)).trans HX1.out)
  have HYr:Hid (wr.heap[bm]? = some (.cells #[.int .i64 t,.int .i64 y] 155 (0,0))):=jH ((HBq.out.block _ (lt_of_block HY1.out)).trans HY1.out)
  have HBr:Hid (Below w.heap.size w wr):=jS HB1 HBq.out
  have HAr:Hid (MAt wr A l):=jH (HAt.out.below HBq.out)
  obtain ⟨p0,p1,p2⟩:=msg_cells HYr.out
  have hlk:(l.take q).length = q:=by rw [List.length_take,<- HN.out]; omega
  have HLK:=jH hlk
  clear hlk
  have HS1:Hid (([]:List Ms).length + q < 1000000000):=jH (by show 0 + q < _; omega)
  by_cases hlt:q < n
  ·obtain ⟨⟨z1,z2⟩,hz⟩:=at_lt l q (by rw [<- HN.out]; exact hlt)
   obtain ⟨bk,o,hA0,c0,c1⟩:=HAr.out q _ hz
   obtain ⟨g,hg⟩:∃ g,A = some ⟨g,0,none⟩:=by
    rcases HA.out with ⟨h,_⟩ | ⟨g',h,_⟩
    ·rw [h] at hA0; cases hA0
    ·exact ⟨g',h⟩
   subst hg
   cases hA0
   rw [Nat.zero_add] at c0 c1
   have HZ:=jH hz
   clear hz
   by_cases hzt:z1 < t
   ·have HL2:=jH (HLo.out.step HZ.out hzt)
    clear c1 p1
    go_wp2_with fail
    go_big_region
    go_wp2
    go_roundg (gk - 1)
    case measure => omega
    case rel => exact ⟨q + 1,by omega,by go_num,HL2,jH HBq.out.drew⟩
   ·have hat1:=HAr.out.take q
    have hqc:q < c:=by omega
    by_cases hze:z1 = t
    ·have HI:=jH (low_eq (k:=k) (y:=y) HLo.out HZ.out hze)
     subst hze
     obtain ⟨yy,hyy⟩:∃ yy,comb k z2 y = yy:=⟨_,rfl⟩
     have HYY:=jH hyy
     rw [show comb k (z1,z2).2 y = yy from hyy] at HI
     clear hyy
     have HBd:Hid (Below w.heap.size w wr.drew):=jH HBr.out.drew
     have hatd:MAt wr.drew (some ⟨bk,0,none⟩) (l.take q):=hat1
     go_wp2_with fail
     go_big_region
     go_wp2_with (at_builtin; refine app_mrest rfl (.tmp 25) (.tmp 28) rfl w.heap.size _ [] (l.take q) rfl (MOwn.none_ _ _) _ _ _ rfl hatd HLK.out HS1.out HBd.out.size ?_)
     intro v3 w3 ho3 hg3
     have hb3:Below w.heap.size w w3:=grown_own HBd.out HBd.out.size (MOwn.none_ _ w.heap.size) hg3
     have hb3':Below wr.heap.size wr w3:=Below.grown (Below.refl _ wr).drew hg3 (Nat.le_refl _) (fun j e => by cases e)
     obtain ⟨A3,c3,hv3,_⟩:=ho3.room
     have hv4:=hv3.trans (congrArg (fun z => Value.slice A3 z c3) (show (l.take q).length = q from HLK.out))
     subst hv4
     clear hv3
     have HO3:Hid (MOwn w3 w.heap.size (.slice A3 q c3) (l.take q)):=jH ho3
     have hx3:=(hb3'.block _ (lt_of_block HXr.out)).trans HXr.out
     have HY3:Hid (w3.heap[bm]? = some (.cells #[.int .i64 z1,.int .i64 y] 155 (0,0))):=jH ((hb3'.block _ (lt_of_block HYr.out)).trans HYr.out)
     have HA3:Hid (MAt w3 (some ⟨bk,0,none⟩) l):=jH (HAr.out.below hb3')
     have HB3:=jH hb3
     have HX3:=jH hx3
     clear ho3 hg3 hb3 hb3' hx3 p0 p1 p2
     obtain ⟨p0,p1,p2⟩:=msg_cells HY3.out
     obtain ⟨_,_,e0,c0,c1⟩:=HA3.out q _ HZ.out
     cases e0
     rw [Nat.zero_add] at c0 c1
     go_wp2_with fail
     go_big_region
     obtain ⟨W4,hW4⟩:∃ W4,W4 = w3.drew:=⟨_,rfl⟩
     rw [show W4 = w3.drew from hW4] at *
     clear hW4 W4
     have q0:(w3.drew.drew.alloc (.cells #[.int .u8 k,.int .i64 st,.int .i64 so,.int .i64 dm,.int .i64 ep] 40)).cell? ⟨bm,0,none⟩ = some (.int .i64 z1):=by
      have hb:=(((Below.refl _ w3).drew).drew).alloc (Nat.le_refl _) (.cells #[.int .u8 k,.int .i64 st,.int .i64 so,.int .i64 dm,.int .i64 ep] 40)
      exact (hb.cell (p:=⟨bm,0,none⟩) p2).trans p0
     obtain ⟨j0,j1,j2,j3,j4,_⟩:=job_cells HX3.out
     have hb4:Below w.heap.size w (w3.drew.drew.alloc (.cells #[.int .u8 k,.int .i64 st,.int .i64 so,.int .i64 dm,.int .i64 ep] 40)):=(((HB3.out.drew).drew).alloc HB3.out.size _)
     have HO4:Hid (MOwn ((w3.drew.drew.alloc (.cells #[.int .u8 k,.int .i64 st,.int .i64 so,.int .i64 dm,.int .i64 ep] 40)).alloc (.cells #[.int .i64 z1,.int .i64 yy] 155)) w.heap.size (.slice A3 q c3) (l.take q)):=jH ((HO3.out.alloc _).alloc _)
     have HN4:=jH (mat_new (w3.drew.drew.alloc (.cells #[.int .u8 k,.int .i64 st,.int .i64 so,.int .i64 dm,.int .i64 ep] 40)) z1 yy)
     have HB4:=jH (hb4.alloc hb4.size (.cells #[.int .i64 z1,.int .i64 yy] 155))
     have HLN:Hid ((l.take q).length < 1000000000):=jH (by rw [HLK.out]; omega)
     clear hb4
     go_wp2_with fail
     go_region_law (first | (refine step_m rfl (.tmp 44) (.tmp 57) rfl w.heap.size _ (l.take q) [(z1,yy)] 1 rfl (by simp [Act.eval]) HO4.out _ 1 (by simp [Act.eval]) HN4.out HLN.out HB4.out.size ?_; intro A6 n6 c6 w6 ho6 hg6; have HB6:=jH (grown_own HB4.out HB4.out.size HO4.out hg6); have HO6:=jH ho6; clear ho6 hg6) | (go_simp; go_at_call 122; refine (rcomb_y k st so dm ep z2 y yy HYY _).mono ?_; rintro _ _ ⟨rfl,rfl⟩))
     all_goals
      clear q0 p0 p1 p2 j0 j1 j2 j3 j4 c0 c1
      have hld:(l.drop (q + 1)).length = n - (q + 1):=by rw [List.length_drop,<- HN.out]
      have hs3:(l.take q ++ [(z1,yy)]).length + (n - (q + 1)) < 1000000000:=by rw [List.length_append,HLK.out]; simp; omega
      have HLD:=jH hld; have HS3:=jH hs3
      clear hld hs3
      by_cases hqc1:q + 1 < c
      ·have hat6:=(HAw.out.below HB6.out).drop (q + 1)
       rw [Nat.zero_add] at hat6
       go_wp2_with (at_builtin; refine app_mrest rfl (.tmp 59) (.tmp 63) rfl w.heap.size _ (l.take q ++ [(z1,yy)]) (l.drop (q + 1)) rfl HO6.out _ _ _ rfl hat6 HLD.out HS3.out HB6.out.size ?_)
       intro v7 w7 ho7 hg7
       have HB7:=jH (grown_own HB6.out HB6.out.size HO6.out hg7)
       have HO7:Hid (MOwn w7 B v7 (l.take q ++ (z1,yy) :: l.drop (q + 1))):=jH (by have h:=MOwn.mono ho7 hB; simpa using h)
       clear ho7 hg7 hat6
       go_wp2
       go_ret
       exact ⟨_,rfl,by rw [HI.out]; exact HO7,HB7⟩
      ·have HE:Hid (l.drop (q + 1) = []):=jH (List.drop_eq_nil_of_le (by rw [<- HN.out]; omega))
       have hc1:q + 1 = c:=by omega
       have hn1:n = q + 1:=by omega
       subst hc1
       have hat6:=MAt.nil w6 (some ⟨bk,0,none⟩)
       have hs4:(l.take q ++ [(z1,yy)]).length + 0 < 1000000000:=by have:=HS3.out; omega
       have HS4:=jH hs4
       clear hs4
       subst hn1
       go_wp2_with (at_builtin; refine app_mrest rfl (.tmp 59) (.tmp 63) rfl w.heap.size _ (l.take q ++ [(z1,yy)]) [] rfl HO6.out _ _ _ rfl hat6 rfl HS4.out HB6.out.size ?_)
       intro v7 w7 ho7 hg7
       have HB7:=jH (grown_own HB6.out HB6.out.size HO6.out hg7)
       have HO7:Hid (MOwn w7 B v7 (l.take q ++ (z1,yy) :: l.drop (q + 1))):=jH (by have h:=MOwn.mono ho7 hB; rw [HE.out]; simpa using h)
       clear ho7 hg7 hat6
       go_wp2
       go_ret
       exact ⟨_,rfl,by rw [HI.out]; exact HO7,HB7⟩
    ·have HI:=jH (low_gap (k:=k) (y:=y) HLo.out (fun x hx => by rw [HZ.out] at hx; cases hx; show t < z1; omega))
     have HBd:Hid (Below w.heap.size w wr.drew):=jH HBr.out.drew
     have hatd:MAt wr.drew (some ⟨bk,0,none⟩) (l.take q):=hat1
     clear c1
     go_wp2_with fail
     go_big_region
     go_wp2_with (at_builtin; refine app_mrest rfl (.tmp 25) (.tmp 28) rfl w.heap.size _ [] (l.take q) rfl (MOwn.none_ _ _) _ _ _ rfl hatd HLK.out HS1.out HBd.out.size ?_)
     intro v3 w3 ho3 hg3
     have hb3:Below w.heap.size w w3:=grown_own HBd.out HBd.out.size (MOwn.none_ _ w.heap.size) hg3
     have hb3':Below wr.heap.size wr w3:=Below.grown (Below.refl _ wr).drew hg3 (Nat.le_refl _) (fun j e => by cases e)
     obtain ⟨A3,c3,hv3,_⟩:=ho3.room
     have hv4:=hv3.trans (congrArg (fun z => Value.slice A3 z c3) (show (l.take q).length = q from HLK.out))
     subst hv4
     clear hv3
     have HO3:Hid (MOwn w3 w.heap.size (.slice A3 q c3) (l.take q)):=jH ho3
     have hx3:=(hb3'.block _ (lt_of_block HXr.out)).trans HXr.out
     have HY3:Hid (w3.heap[bm]? = some (.cells #[.int .i64 t,.int .i64 y] 155 (0,0))):=jH ((hb3'.block _ (lt_of_block HYr.out)).trans HYr.out)
     have HA3:Hid (MAt w3 (some ⟨bk,0,none⟩) l):=jH (HAr.out.below hb3')
     have HB3:=jH hb3
     have HX3:=jH hx3
     clear ho3 hg3 hb3 hb3' hx3 p0 p1 p2
     obtain ⟨p0,p1,p2⟩:=msg_cells HY3.out
     obtain ⟨_,_,e0,c0,c1⟩:=HA3.out q _ HZ.out
     cases e0
     rw [Nat.zero_add] at c0 c1
     clear c1
     have HO4:Hid (MOwn (w3.alloc (.cells #[.int .i64 t,.int .i64 y] 155)).drew w.heap.size (.slice A3 q c3) (l.take q)):=jH (HO3.out.alloc _)
     have HN4:Hid ((w3.alloc (.cells #[.int .i64 t,.int .i64 y] 155)).drew.heap[w3.heap.size]? = some (.cells #[.int .i64 t,.int .i64 y] 155 (0,0))):=jH (msg_new w3 t y)
     have HB4:Hid (Below w.heap.size w (w3.alloc (.cells #[.int .i64 t,.int .i64 y] 155)).drew):=jH (HB3.out.alloc HB3.out.size _).drew
     have HLN:Hid ((l.take q).length < 1000000000):=jH (by rw [HLK.out]; omega)
     go_wp2_with fail
     go_big_region
     go_wp2_with (at_builtin; refine app_m rfl (.tmp 65) (.tmp 67) rfl w.heap.size _ (l.take q) t y rfl HO4.out _ rfl HN4.out HLN.out HB4.out.size ?_)
     intro v5 w5 ho5 hg5
     have HB5:=jH (grown_own HB4.out HB4.out.size HO4.out hg5)
     have HO5:Hid (MOwn w5 w.heap.size v5 (l.take q ++ [(t,y)])):=jH ho5
     clear ho5 hg5
     have hld:(l.drop q).length = n - q:=by rw [List.length_drop,<- HN.out]
     have hs3:(l.take q ++ [(t,y)]).length + (n - q) < 1000000000:=by rw [List.length_append,HLK.out]; simp; omega
     have HLD:=jH hld; have HS3:=jH hs3
     clear hld hs3 c0
     have hat6:=(by have h:=(HAw.out.below HB5.out).drop q; rw [Nat.zero_add] at h; exact h:MAt w5 (some ⟨bk,q * 2,none⟩) (l.drop q))
     go_wp2_with (at_builtin; refine app_mrest rfl (.tmp 69) (.tmp 72) rfl w.heap.size _ (l.take q ++ [(t,y)]) (l.drop q) rfl HO5.out _ _ _ rfl hat6 HLD.out HS3.out HB5.out.size ?_)
     intro v7 w7 ho7 hg7
     have HB7:=jH (grown_own HB5.out HB5.out.size HO5.out hg7)
     have HO7:Hid (MOwn w7 B v7 (insM k l (t,y))):=jH (by have h:=MOwn.mono ho7 hB; rw [HI.out]; simpa using h)
     clear ho7 hg7 hat6
     go_wp2
     go_ret
     exact ⟨_,rfl,HO7,HB7⟩
  ·have hqn:q = n:=by omega
   have HI0:=low_gap (k:=k) (y:=y) HLo.out (fun x hx => by have:=lt_at hx; rw [<- HN.out] at this; omega)
   rw [hqn,HN.out,List.take_length,List.drop_length] at HI0
   have HI:Hid (insM k l (t,y) = l ++ [(t,y)]):=jH HI0
   have HLL:Hid (l.length = q):=jH (by rw [<- HN.out,hqn])
   have HBd:Hid (Below w.heap.size w wr.drew):=jH HBr.out.drew
   clear HI0 hq hlt
   subst hqn
   rcases HA.out with ⟨rfl,rfl⟩ | ⟨g,rfl,_⟩
   ·have hq0:q = 0:=by omega
    subst hq0
    have hl0:l = []:=List.eq_nil_of_length_eq_zero HLL.out
    subst hl0
    go_wp2_with fail
    go_big_region
    go_wp2_with (at_builtin; refine app_mrest rfl (.tmp 25) (.tmp 28) rfl w.heap.size _ [] (([]:List Ms)) rfl (MOwn.none_ _ _) _ _ _ rfl (MAt.nil wr.drew none) (show ([]:List Ms).length = 0 from rfl) HS1.out HBd.out.size ?_)
    intro v3 w3 ho3 hg3
    have hb3:Below w.heap.size w w3:=grown_own HBd.out HBd.out.size (MOwn.none_ _ w.heap.size) hg3
    have hb3':Below wr.heap.size wr w3:=Below.grown (Below.refl _ wr).drew hg3 (Nat.le_refl _) (fun j e => by cases e)
    obtain ⟨A3,c3,hv3,_⟩:=ho3.room
    have hv4:=hv3.trans (congrArg (fun z => Value.slice A3 z c3) (show (([]:List Ms)).length = 0 from (show ([]:List Ms).length = 0 from rfl)))
    subst hv4
    clear hv3
    have HO3:Hid (MOwn w3 w.heap.size (.slice A3 0 c3) (([]:List Ms))):=jH ho3
    have hx3:=(hb3'.block _ (lt_of_block HXr.out)).trans HXr.out
    have HY3:Hid (w3.heap[bm]? = some (.cells #[.int .i64 t,.int .i64 y] 155 (0,0))):=jH ((hb3'.block _ (lt_of_block HYr.out)).trans HYr.out)
    have HA3:Hid (MAt w3 none ([]:List Ms)):=jH (HAr.out.below hb3')
    have HB3:=jH hb3
    have HX3:=jH hx3
    clear ho3 hg3 hb3 hb3' hx3 p0 p1 p2
    obtain ⟨p0,p1,p2⟩:=msg_cells HY3.out
    have HO4:Hid (MOwn (w3.alloc (.cells #[.int .i64 t,.int .i64 y] 155)).drew w.heap.size (.slice A3 0 c3) (([]:List Ms))):=jH (HO3.out.alloc _)
    have HN4:Hid ((w3.alloc (.cells #[.int .i64 t,.int .i64 y] 155)).drew.heap[w3.heap.size]? = some (.cells #[.int .i64 t,.int .i64 y] 155 (0,0))):=jH (msg_new w3 t y)
    have HB4:Hid (Below w.heap.size w (w3.alloc (.cells #[.int .i64 t,.int .i64 y] 155)).drew):=jH (HB3.out.alloc HB3.out.size _).drew
    have HLN:Hid ((([]:List Ms)).length < 1000000000):=jH (by rw [(show ([]:List Ms).length = 0 from rfl)]; omega)
    go_wp2_with fail
    go_big_region
    go_wp2_with (at_builtin; refine app_m rfl (.tmp 65) (.tmp 67) rfl w.heap.size _ (([]:List Ms)) t y rfl HO4.out _ rfl HN4.out HLN.out HB4.out.size ?_)
    intro v5 w5 ho5 hg5
    have HB5:=jH (grown_own HB4.out HB4.out.size HO4.out hg5)
    have HO5:Hid (MOwn w5 w.heap.size v5 (([]:List Ms) ++ [(t,y)])):=jH ho5
    clear ho5 hg5
    have HS3:Hid ((([]:List Ms) ++ [(t,y)]).length + 0 < 1000000000):=jH (by simp)
    have hat6:=MAt.nil w5 none
    go_wp2_with (at_builtin; refine app_mrest rfl (.tmp 69) (.tmp 72) rfl w.heap.size _ (([]:List Ms) ++ [(t,y)]) [] rfl HO5.out _ _ _ rfl hat6 rfl HS3.out HB5.out.size ?_)
    intro v7 w7 ho7 hg7
    have HB7:=jH (grown_own HB5.out HB5.out.size HO5.out hg7)
    have HO7:Hid (MOwn w7 B v7 (insM k ([]:List Ms) (t,y))):=jH (by have h:=MOwn.mono ho7 hB; rw [HI.out]; simpa using h)
    clear ho7 hg7 hat6
    go_wp2
    go_ret
    exact ⟨_,rfl,HO7,HB7⟩
   ·have hatd:MAt wr.drew (some ⟨g,0,none⟩) l:=HAr.out
    by_cases hqc:q < c
    ·go_wp2_with fail
     go_big_region
     go_wp2_with (at_builtin; refine app_mrest rfl (.tmp 25) (.tmp 28) rfl w.heap.size _ [] (l) rfl (MOwn.none_ _ _) _ _ _ rfl hatd HLL.out HS1.out HBd.out.size ?_)
     intro v3 w3 ho3 hg3
     have hb3:Below w.heap.size w w3:=grown_own HBd.out HBd.out.size (MOwn.none_ _ w.heap.size) hg3
     have hb3':Below wr.heap.size wr w3:=Below.grown (Below.refl _ wr).drew hg3 (Nat.le_refl _) (fun j e => by cases e)
     obtain ⟨A3,c3,hv3,_⟩:=ho3.room
     have hv4:=hv3.trans (congrArg (fun z => Value.slice A3 z c3) (show (l).length = q from HLL.out))
     subst hv4
     clear hv3
     have HO3:Hid (MOwn w3 w.heap.size (.slice A3 q c3) (l)):=jH ho3
     have hx3:=(hb3'.block _ (lt_of_block HXr.out)).trans HXr.out
     have HY3:Hid (w3.heap[bm]? = some (.cells #[.int .i64 t,.int .i64 y] 155 (0,0))):=jH ((hb3'.block _ (lt_of_block HYr.out)).trans HYr.out)
     have HA3:Hid (MAt w3 (some ⟨g,0,none⟩) l):=jH (HAr.out.below hb3')
     have HB3:=jH hb3
     have HX3:=jH hx3
     clear ho3 hg3 hb3 hb3' hx3 p0 p1 p2
     obtain ⟨p0,p1,p2⟩:=msg_cells HY3.out
     have HO4:Hid (MOwn (w3.alloc (.cells #[.int .i64 t,.int .i64 y] 155)).drew w.heap.size (.slice A3 q c3) (l)):=jH (HO3.out.alloc _)
     have HN4:Hid ((w3.alloc (.cells #[.int .i64 t,.int .i64 y] 155)).drew.heap[w3.heap.size]? = some (.cells #[.int .i64 t,.int .i64 y] 155 (0,0))):=jH (msg_new w3 t y)
     have HB4:Hid (Below w.heap.size w (w3.alloc (.cells #[.int .i64 t,.int .i64 y] 155)).drew):=jH (HB3.out.alloc HB3.out.size _).drew
     have HLN:Hid ((l).length < 1000000000):=jH (by rw [HLL.out]; omega)
     go_wp2_with fail
     go_big_region
     go_wp2_with (at_builtin; refine app_m rfl (.tmp 65) (.tmp 67) rfl w.heap.size _ (l) t y rfl HO4.out _ rfl HN4.out HLN.out HB4.out.size ?_)
     intro v5 w5 ho5 hg5
     have HB5:=jH (grown_own HB4.out HB4.out.size HO4.out hg5)
     have HO5:Hid (MOwn w5 w.heap.size v5 (l ++ [(t,y)])):=jH ho5
     clear ho5 hg5
     have HS3:Hid ((l ++ [(t,y)]).length + 0 < 1000000000):=jH (by rw [List.length_append,HLL.out]; simp; omega)
     have hat6:=MAt.nil w5 (some ⟨g,q * 2,none⟩)
     go_wp2_with (at_builtin; refine app_mrest rfl (.tmp 69) (.tmp 72) rfl w.heap.size _ (l ++ [(t,y)]) [] rfl HO5.out _ _ _ rfl hat6 rfl HS3.out HB5.out.size ?_)
     intro v7 w7 ho7 hg7
     have HB7:=jH (grown_own HB5.out HB5.out.size HO5.out hg7)
     have HO7:Hid (MOwn w7 B v7 (insM k l (t,y))):=jH (by have h:=MOwn.mono ho7 hB; rw [HI.out]; simpa using h)
     clear ho7 hg7 hat6
     go_wp2
     go_ret
     exact ⟨_,rfl,HO7,HB7⟩
    ·have hqc2:q = c:=by omega
     subst hqc2
     go_wp2_with fail
     go_big_region
     go_wp2_with (at_builtin; refine app_mrest rfl (.tmp 25) (.tmp 28) rfl w.heap.size _ [] (l) rfl (MOwn.none_ _ _) _ _ _ rfl hatd HLL.out HS1.out HBd.out.size ?_)
     intro v3 w3 ho3 hg3
     have hb3:Below w.heap.size w w3:=grown_own HBd.out HBd.out.size (MOwn.none_ _ w.heap.size) hg3
     have hb3':Below wr.heap.size wr w3:=Below.grown (Below.refl _ wr).drew hg3 (Nat.le_refl _) (fun j e => by cases e)
     obtain ⟨A3,c3,hv3,_⟩:=ho3.room
     have hv4:=hv3.trans (congrArg (fun z => Value.slice A3 z c3) (show (l).length = q from HLL.out))
     subst hv4
     clear hv3
     have HO3:Hid (MOwn w3 w.heap.size (.slice A3 q c3) (l)):=jH ho3
     have hx3:=(hb3'.block _ (lt_of_block HXr.out)).trans HXr.out
     have HY3:Hid (w3.heap[bm]? = some (.cells #[.int .i64 t,.int .i64 y] 155 (0,0))):=jH ((hb3'.block _ (lt_of_block HYr.out)).trans HYr.out)
     have HA3:Hid (MAt w3 (some ⟨g,0,none⟩) l):=jH (HAr.out.below hb3')
     have HB3:=jH hb3
     have HX3:=jH hx3
     clear ho3 hg3 hb3 hb3' hx3 p0 p1 p2
     obtain ⟨p0,p1,p2⟩:=msg_cells HY3.out
     have HO4:Hid (MOwn (w3.alloc (.cells #[.int .i64 t,.int .i64 y] 155)).drew w.heap.size (.slice A3 q c3) (l)):=jH (HO3.out.alloc _)
     have HN4:Hid ((w3.alloc (.cells #[.int .i64 t,.int .i64 y] 155)).drew.heap[w3.heap.size]? = some (.cells #[.int .i64 t,.int .i64 y] 155 (0,0))):=jH (msg_new w3 t y)
     have HB4:Hid (Below w.heap.size w (w3.alloc (.cells #[.int .i64 t,.int .i64 y] 155)).drew):=jH (HB3.out.alloc HB3.out.size _).drew
     have HLN:Hid ((l).length < 1000000000):=jH (by rw [HLL.out]; omega)
     go_wp2_with fail
     go_big_region
     go_wp2_with (at_builtin; refine app_m rfl (.tmp 65) (.tmp 67) rfl w.heap.size _ (l) t y rfl HO4.out _ rfl HN4.out HLN.out HB4.out.size ?_)
     intro v5 w5 ho5 hg5
     have HB5:=jH (grown_own HB4.out HB4.out.size HO4.out hg5)
     have HO5:Hid (MOwn w5 w.heap.size v5 (l ++ [(t,y)])):=jH ho5
     clear ho5 hg5
     have HS3:Hid ((l ++ [(t,y)]).length + 0 < 1000000000):=jH (by rw [List.length_append,HLL.out]; simp; omega)
     have hat6:=MAt.nil w5 (some ⟨g,0,none⟩)
     go_wp2_with (at_builtin; refine app_mrest rfl (.tmp 69) (.tmp 72) rfl w.heap.size _ (l ++ [(t,y)]) [] rfl HO5.out _ _ _ rfl hat6 rfl HS3.out HB5.out.size ?_)
     intro v7 w7 ho7 hg7
     have HB7:=jH (grown_own HB5.out HB5.out.size HO5.out hg7)
     have HO7:Hid (MOwn w7 B v7 (insM k l (t,y))):=jH (by have h:=MOwn.mono ho7 hB; rw [HI.out]; simpa using h)
     clear ho7 hg7 hat6
     go_wp2
     go_ret
     exact ⟨_,rfl,HO7,HB7⟩
open Go.RowKit Go.Sort Gr Wd Ws Fx Rk Lb
def Sn (w:World) (b:Nat) (k st so dm ep:Int) (W:World):Prop:=Below w.heap.size w W/\W.heap[b]? = some (.cells #[.int .u8 k,.int .i64 st,.int .i64 so,.int .i64 dm,.int .i64 ep] 40 (0,0))
theorem Sn.step {w W W':World} {b:Nat} {k st so dm ep:Int} (h:Sn w b k st so dm ep W) (hb:Below W.heap.size W W'):Sn w b k st so dm ep W':=⟨step_below h.1 h.1.size hb,(hb.block _ (lt_of_block h.2)).trans h.2⟩
def SnRel (w:World) (b:Nat) (k st so dm ep:Int) (L0:List Ms) (M:List Ms) (n:Nat) (gk:Nat) (v i:Value) (wr:World):Prop :=
 ∃ q:Nat,q + gk = n/\i = .int .i64 (q:Int)/\Hid (MOwn wr w.heap.size v (putM k L0 (M.take q)))/\Hid (Sn w b k st so dm ep wr)
theorem rgive_q (v n g:Int) (hg:Hid (giveI v n = g)) (w:World) (h0:-9223372036854775808 <= v) (h1:v <= 9223372036854775807) (h2:-9223372036854775808 <= n) (h3:n <= 9223372036854775807) :
 Calls Tryz.prog 114 #[.int .i64 v,.int .i64 n] w fun e w' => e = .returned (.int .i64 g)/\w = w':=Rk.rgive_any v n g w hg h0 h1 h2 h3
theorem rgived_q (v x y z g:Int) (hg:Hid (addI v z = g)) (w:World):Calls Tryz.prog 115 #[.int .i64 v,.agg #[.int .i64 x,.int .i64 y,.int .i64 z]] w fun e w' => e = .returned (.int .i64 g)/\Below w.heap.size w w':=by
 rw [<- hg.out]; exact Pa.rgive_any v x y z w
set_option maxRecDepth 100000 in
set_option maxHeartbeats 4000000 in
theorem rsend_1 (st so dm ep v x:Int) (ch:Bool) (A C:Option Addr) (c d:Nat) (L M:List Ed) (w:World) (hL:EAt w A L) (_hM:EAt w C M) (hl:L.length <= 1000) (_hm:M.length <= 1000) (hx0:-9223372036854775808 <= x) (hx1:x <= 9223372036854775807) :
 Calls Tryz.prog 101 #[.agg #[.int .u8 1,.int .i64 st,.int .i64 so,.int .i64 dm,.int .i64 ep],.int .i64 v,.int .i64 x,.bool ch,.slice A L.length c,.slice C M.length d] w fun e w' => ∃ r,e = .returned r/\Hid (MOwn w' w.heap.size r (sendM (1) v x ch L M))/\Hid (Below w.heap.size w w'):=by
 have mixed:=mixedO
 have HSM:=jH (sendM_one v x ch L M)
 obtain ⟨W1,hW1⟩:∃ W1,W1 = w.alloc (.cells #[.int .u8 1,.int .i64 st,.int .i64 so,.int .i64 dm,.int .i64 ep] 40):=⟨_,rfl⟩
 have hb1:Below w.heap.size w W1:=by rw [hW1]; exact (Below.refl _ w).alloc (Nat.le_refl _) _
 have x0:W1.heap[w.heap.size]? = some (.cells #[.int .u8 1,.int .i64 st,.int .i64 so,.int .i64 dm,.int .i64 ep] 40 (0,0)):=by rw [hW1]; exact heap_alloc_new w _
 obtain ⟨b,e0⟩:∃ b,b = w.heap.size:=⟨_,rfl⟩
 rw [<- e0] at x0
 have HS:Hid (Sn w b (1) st so dm ep W1):=jH ⟨hb1,x0⟩
 have HL:=jH hL
 obtain ⟨n,hn⟩:∃ n,n = L.length:=⟨_,rfl⟩
 obtain ⟨m,hmm⟩:∃ m,m = M.length:=⟨_,rfl⟩
 rw [<- hn] at hl ⊢
 have HNL:=jH hn
 obtain ⟨j0,j1,j2,j3,j4,_⟩:=job_cells x0
 rw [show sentR x L.length L = sentR x n L by rw [hn]] at HSM
 go_enter Tryz.func101,Tryz.ntmps101
 go_upto_region 1 with fail
 rw [<- hW1,show w.heap.size = b from e0.symm]
 clear hW1 e0 hb1 x0 hn
 go_wp2_with fail
 clear j0 j1 j2 j3 j4
 go_loopg [13,16] n (fun gk v i wr => SnRel w b 1 st so dm ep [] (sentR x n L) n gk v i wr)
 case atStart => exact ⟨0,by omega,rfl,jH (MOwn.none_ _ _),HS⟩
 case round =>
  obtain ⟨q,hq,rfl,HO,HSq⟩:=hrel
  obtain ⟨j0,j1,j2,j3,j4,_⟩:=job_cells HSq.out.2
  by_cases hlt:q < n
  ·obtain ⟨⟨e0,e1,e2⟩,hu⟩:=at_lt L q (by rw [<- HNL.out]; exact hlt)
   obtain ⟨bk,o,rfl,c0,c1,c2⟩:=(HL.out.below HSq.out.1) q _ hu
   obtain ⟨y,hy⟩:∃ y,giveI x n = y:=⟨_,rfl⟩
   have hm1:(sentR x n L)[q]? = some (e1,y):=by rw [<- hy]; unfold sentR; rw [List.getElem?_map,hu]; rfl
   have HM1:Hid (putM 1 [] ((sentR x n L).take (q + 1)) = insM 1 (putM 1 [] ((sentR x n L).take q)) (e1,y)):=jH (by rw [take_at hm1,putM_snoc])
   have hlen:(putM 1 [] ((sentR x n L).take q)).length < 1000000:=by
    have h1:=putM_len 1 ((sentR x n L).take q) []
    have h2:((sentR x n L).take q).length <= q:=by rw [List.length_take]; omega
    simp at h1; omega
   have HLEN:=jH hlen
   have HY:=jH hy
   clear hu hm1 hlen hy
   go_upto_region 12 with fail
   have f0:=cell_regrown j0; have f1:=cell_regrown j1; have f2:=cell_regrown j2; have f3:=cell_regrown j3; have f4:=cell_regrown j4
   have z0:=cell_regrown c0; have z1:=cell_regrown c1; have z2:=cell_regrown c2
   have HC:=jH (regr fun W (_:Below wr.heap.size wr W) => ((rgive_q x (n:Int) y HY W hx0 hx1 (by omega) (by omega)).mono fun _ _ k => ⟨k.1,k.2 ▸ Below.refl _ _⟩:Calls Tryz.prog 114 #[.int .i64 x,.int .i64 (n:Int)] W fun e w' => e = .returned (.int .i64 y)/\Below W.heap.size W w'))
   clear j0 j1 j2 j3 j4 c0 c1 c2
   refine Tl.region_tail_below 12 mixed (by kernel_rfl) ?_
   simp only [List.take_succ_cons,List.take_zero,List.drop_succ_cons,List.drop_zero]
   repeat (go_big_quiet_step ((with_reducible exact HC.out _ _)))
   refine wpQuiet_nil ?_
   intro _ hw'
   obtain ⟨⟨dq,osq⟩,hw''⟩:=hw'
   subst hw''
   obtain ⟨W3,hW3⟩:∃ W3,W3 = Sort.grow (redrawn wr dq) osq:=⟨_,rfl⟩
   have hb3:Below wr.heap.size wr W3:=by rw [hW3]; exact below_regrown wr dq osq
   rw [<- hW3]
   have HO3:=jH (HO.out.below hb3)
   have HS3:=jH (HSq.out.step hb3)
   clear hW3 hb3 HO HSq f0 f1 f2 f3 f4 z0 z1 z2 HC
   go_wp2_with fail
   refine (radd_any 1 st so dm ep _ _ w.heap.size e1 y _ HO3.out HS3.out.1.size HLEN.out).mono ?_
   rintro e w4 ⟨r4,rfl,HO4,hb4⟩
   have HS4:=jH (HS3.out.step hb4.out)
   clear hb4
   obtain ⟨j0,_,_,_,_,_⟩:=job_cells HS4.out.2
   go_wp2
   go_roundg (gk - 1)
   case measure => omega
   case rel => exact ⟨q + 1,by omega,by go_num,jH (by rw [HM1.out]; exact HO4.out),HS4⟩
  ·have HE:Hid ((sentR x n L).take q = sentR x n L):=jH (List.take_of_length_le (by unfold sentR; rw [List.length_map,<- HNL.out]; omega))
   go_wp2
   go_ret
   refine ⟨_,rfl,jH ?_,jH HSq.out.1⟩
   have:=HO.out
   rw [HE.out] at this
   rw [HSM.out]
   exact this
set_option maxRecDepth 100000 in
set_option maxHeartbeats 4000000 in
theorem rsend_3 (st so dm ep v x:Int) (A C:Option Addr) (c d:Nat) (L M:List Ed) (w:World) (hL:EAt w A L) (_hM:EAt w C M) (hl:L.length <= 1000) (_hm:M.length <= 1000) (_hx0:-9223372036854775808 <= x) (_hx1:x <= 9223372036854775807) :
 Calls Tryz.prog 101 #[.agg #[.int .u8 3,.int .i64 st,.int .i64 so,.int .i64 dm,.int .i64 ep],.int .i64 v,.int .i64 x,.bool true,.slice A L.length c,.slice C M.length d] w fun e w' => ∃ r,e = .returned r/\Hid (MOwn w' w.heap.size r (sendM (3) v x true L M))/\Hid (Below w.heap.size w w'):=by
 have mixed:=mixedO
 have HSM:Hid (sendM 3 v x true L M = putM 3 [] (sentP x L)):=jH (sendM_three v x true L M)
 obtain ⟨W1,hW1⟩:∃ W1,W1 = w.alloc (.cells #[.int .u8 3,.int .i64 st,.int .i64 so,.int .i64 dm,.int .i64 ep] 40):=⟨_,rfl⟩
 have hb1:Below w.heap.size w W1:=by rw [hW1]; exact (Below.refl _ w).alloc (Nat.le_refl _) _
 have x0:W1.heap[w.heap.size]? = some (.cells #[.int .u8 3,.int .i64 st,.int .i64 so,.int .i64 dm,.int .i64 ep] 40 (0,0)):=by rw [hW1]; exact heap_alloc_new w _
 obtain ⟨b,e0⟩:∃ b,b = w.heap.size:=⟨_,rfl⟩
 rw [<- e0] at x0
 have HS:Hid (Sn w b (3) st so dm ep W1):=jH ⟨hb1,x0⟩
 have HL:=jH hL
 obtain ⟨n,hn⟩:∃ n,n = L.length:=⟨_,rfl⟩
 obtain ⟨m,hmm⟩:∃ m,m = M.length:=⟨_,rfl⟩
 rw [<- hn] at hl ⊢
 have HNL:=jH hn
 obtain ⟨j0,j1,j2,j3,j4,_⟩:=job_cells x0
 go_enter Tryz.func101,Tryz.ntmps101
 go_upto_region 1 with fail
 rw [<- hW1,show w.heap.size = b from e0.symm]
 clear hW1 e0 hb1 x0 hn
 go_wp2_with fail
 clear j0 j1 j2 j3 j4
 go_loopg [13,16] n (fun gk v i wr => SnRel w b 3 st so dm ep [] (sentP x L) n gk v i wr)
 case atStart => exact ⟨0,by omega,rfl,jH (MOwn.none_ _ _),HS⟩
 case round =>
  obtain ⟨q,hq,rfl,HO,HSq⟩:=hrel
  obtain ⟨j0,j1,j2,j3,j4,_⟩:=job_cells HSq.out.2
  by_cases hlt:q < n
  ·obtain ⟨⟨e0,e1,e2⟩,hu⟩:=at_lt L q (by rw [<- HNL.out]; exact hlt)
   obtain ⟨bk,o,rfl,c0,c1,c2⟩:=(HL.out.below HSq.out.1) q _ hu
   obtain ⟨y,hy⟩:∃ y,addI x e2 = y:=⟨_,rfl⟩
   have hm1:(sentP x L)[q]? = some (e1,y):=by rw [<- hy]; unfold sentP; rw [List.getElem?_map,hu]; rfl
   have HM1:Hid (putM 3 [] ((sentP x L).take (q + 1)) = insM 3 (putM 3 [] ((sentP x L).take q)) (e1,y)):=jH (by rw [take_at hm1,putM_snoc])
   have hlen:(putM 3 [] ((sentP x L).take q)).length < 1000000:=by
    have h1:=putM_len 3 ((sentP x L).take q) []
    have h2:((sentP x L).take q).length <= q:=by rw [List.length_take]; omega
    simp at h1; omega
   have HLEN:=jH hlen
   have HY:=jH hy
   clear hu hm1 hlen hy
   go_upto_region 14 with fail
   have f0:=cell_regrown j0; have f1:=cell_regrown j1; have f2:=cell_regrown j2; have f3:=cell_regrown j3; have f4:=cell_regrown j4
   have z0:=cell_regrown c0; have z1:=cell_regrown c1; have z2:=cell_regrown c2
   have HC:=jH (regr fun W (_:Below wr.heap.size wr W) => rgived_q x e0 e1 e2 y HY W)
   clear j0 j1 j2 j3 j4 c0 c1 c2
   refine Tl.region_tail_below 14 mixed (by kernel_rfl) ?_
   simp only [List.take_succ_cons,List.take_zero,List.drop_succ_cons,List.drop_zero]
   repeat (go_big_quiet_step ((with_reducible exact HC.out _ _)))
   refine wpQuiet_nil ?_
   intro _ hw'
   obtain ⟨⟨dq,osq⟩,hw''⟩:=hw'
   subst hw''
   obtain ⟨W3,hW3⟩:∃ W3,W3 = Sort.grow (redrawn wr dq) osq:=⟨_,rfl⟩
   have hb3:Below wr.heap.size wr W3:=by rw [hW3]; exact below_regrown wr dq osq
   rw [<- hW3]
   have HO3:=jH (HO.out.below hb3)
   have HS3:=jH (HSq.out.step hb3)
   clear hW3 hb3 HO HSq f0 f1 f2 f3 f4 z0 z1 z2 HC
   go_wp2_with fail
   refine (radd_any 3 st so dm ep _ _ w.heap.size e1 y _ HO3.out HS3.out.1.size HLEN.out).mono ?_
   rintro e w4 ⟨r4,rfl,HO4,hb4⟩
   have HS4:=jH (HS3.out.step hb4.out)
   clear hb4
   obtain ⟨j0,_,_,_,_,_⟩:=job_cells HS4.out.2
   go_wp2
   go_roundg (gk - 1)
   case measure => omega
   case rel => exact ⟨q + 1,by omega,by go_num,jH (by rw [HM1.out]; exact HO4.out),HS4⟩
  ·have HE:Hid ((sentP x L).take q = sentP x L):=jH (List.take_of_length_le (by unfold sentP; rw [List.length_map,<- HNL.out]; omega))
   go_wp2
   go_ret
   refine ⟨_,rfl,jH ?_,jH HSq.out.1⟩
   have:=HO.out
   rw [HE.out] at this
   rw [HSM.out]
   exact this
set_option maxRecDepth 100000 in
set_option maxHeartbeats 4000000 in
theorem rsend_f2 (st so dm ep v x:Int) (A C:Option Addr) (c d:Nat) (L M:List Ed) (w:World) (hL:EAt w A L) (_hM:EAt w C M) (hl:L.length <= 1000) (_hm:M.length <= 1000) (_hx0:-9223372036854775808 <= x) (_hx1:x <= 9223372036854775807) :
 Calls Tryz.prog 101 #[.agg #[.int .u8 2,.int .i64 st,.int .i64 so,.int .i64 dm,.int .i64 ep],.int .i64 v,.int .i64 x,.bool false,.slice A L.length c,.slice C M.length d] w fun e w' => ∃ r,e = .returned r/\Hid (MOwn w' w.heap.size r (sendM (2) v x false L M))/\Hid (Below w.heap.size w w'):=by
 have HSM:Hid (sendM 2 v x false L M = []):=jH (by rw [sendM_two]; rfl)
 obtain ⟨W1,hW1⟩:∃ W1,W1 = w.alloc (.cells #[.int .u8 2,.int .i64 st,.int .i64 so,.int .i64 dm,.int .i64 ep] 40):=⟨_,rfl⟩
 have hb1:Below w.heap.size w W1:=by rw [hW1]; exact (Below.refl _ w).alloc (Nat.le_refl _) _
 have x0:W1.heap[w.heap.size]? = some (.cells #[.int .u8 2,.int .i64 st,.int .i64 so,.int .i64 dm,.int .i64 ep] 40 (0,0)):=by rw [hW1]; exact heap_alloc_new w _
 obtain ⟨b,e0⟩:∃ b,b = w.heap.size:=⟨_,rfl⟩
 rw [<- e0] at x0
 have HS:Hid (Sn w b (2) st so dm ep W1):=jH ⟨hb1,x0⟩
 have HL:=jH hL
 obtain ⟨n,hn⟩:∃ n,n = L.length:=⟨_,rfl⟩
 obtain ⟨m,hmm⟩:∃ m,m = M.length:=⟨_,rfl⟩
 rw [<- hn] at hl ⊢
 have HNL:=jH hn
 obtain ⟨j0,j1,j2,j3,j4,_⟩:=job_cells x0
 go_enter Tryz.func101,Tryz.ntmps101
 go_upto_region 1 with fail
 rw [<- hW1,show w.heap.size = b from e0.symm]
 clear hW1 e0 hb1 x0 hn
 go_wp2_with fail
 clear j0 j1 j2 j3 j4
 have HSB:=HS
 go_loopg [13,16] n (fun gk v i wr => v = .slice none 0 0/\∃ q:Nat,q + gk = n/\i = .int .i64 (q:Int)/\Hid (Below W1.heap.size W1 wr))
 case atStart => exact ⟨rfl,0,by omega,rfl,jH (Below.refl _ _)⟩
 case round =>
  obtain ⟨rfl,q,hq,rfl,HBq⟩:=hrel
  obtain ⟨j0,j1,j2,j3,j4,_⟩:=job_cells (HSB.out.step HBq.out).2
  by_cases hlt:q < n
  ·go_wp2
   go_roundg (gk - 1)
   case measure => omega
   case rel => exact ⟨rfl,q + 1,by omega,by go_num,HBq⟩
  ·go_wp2
   go_ret
   exact ⟨_,rfl,jH (by rw [HSM.out]; exact (MOwn.none_ W1 w.heap.size).below HBq.out),jH (step_below HSB.out.1 HSB.out.1.size HBq.out)⟩
set_option maxRecDepth 100000 in
set_option maxHeartbeats 4000000 in
theorem rsend_f3 (st so dm ep v x:Int) (A C:Option Addr) (c d:Nat) (L M:List Ed) (w:World) (hL:EAt w A L) (_hM:EAt w C M) (hl:L.length <= 1000) (_hm:M.length <= 1000) (_hx0:-9223372036854775808 <= x) (_hx1:x <= 9223372036854775807) :
 Calls Tryz.prog 101 #[.agg #[.int .u8 3,.int .i64 st,.int .i64 so,.int .i64 dm,.int .i64 ep],.int .i64 v,.int .i64 x,.bool false,.slice A L.length c,.slice C M.length d] w fun e w' => ∃ r,e = .returned r/\Hid (MOwn w' w.heap.size r (sendM (3) v x false L M))/\Hid (Below w.heap.size w w'):=by
 have HSM:Hid (sendM 3 v x false L M = []):=jH (by rw [sendM_three]; rfl)
 obtain ⟨W1,hW1⟩:∃ W1,W1 = w.alloc (.cells #[.int .u8 3,.int .i64 st,.int .i64 so,.int .i64 dm,.int .i64 ep] 40):=⟨_,rfl⟩
 have hb1:Below w.heap.size w W1:=by rw [hW1]; exact (Below.refl _ w).alloc (Nat.le_refl _) _
 have x0:W1.heap[w.heap.size]? = some (.cells #[.int .u8 3,.int .i64 st,.int .i64 so,.int .i64 dm,.int .i64 ep] 40 (0,0)):=by rw [hW1]; exact heap_alloc_new w _
 obtain ⟨b,e0⟩:∃ b,b = w.heap.size:=⟨_,rfl⟩
 rw [<- e0] at x0
 have HS:Hid (Sn w b (3) st so dm ep W1):=jH ⟨hb1,x0⟩
 have HL:=jH hL
 obtain ⟨n,hn⟩:∃ n,n = L.length:=⟨_,rfl⟩
 obtain ⟨m,hmm⟩:∃ m,m = M.length:=⟨_,rfl⟩
 rw [<- hn] at hl ⊢
 have HNL:=jH hn
 obtain ⟨j0,j1,j2,j3,j4,_⟩:=job_cells x0
 go_enter Tryz.func101,Tryz.ntmps101
 go_upto_region 1 with fail
 rw [<- hW1,show w.heap.size = b from e0.symm]
 clear hW1 e0 hb1 x0 hn
 go_wp2_with fail
 clear j0 j1 j2 j3 j4
 have HSB:=HS
 go_loopg [13,16] n (fun gk v i wr => v = .slice none 0 0/\∃ q:Nat,q + gk = n/\i = .int .i64 (q:Int)/\Hid (Below W1.heap.size W1 wr))
 case atStart => exact ⟨rfl,0,by omega,rfl,jH (Below.refl _ _)⟩
 case round =>
  obtain ⟨rfl,q,hq,rfl,HBq⟩:=hrel
  obtain ⟨j0,j1,j2,j3,j4,_⟩:=job_cells (HSB.out.step HBq.out).2
  by_cases hlt:q < n
  ·go_wp2
   go_roundg (gk - 1)
   case measure => omega
   case rel => exact ⟨rfl,q + 1,by omega,by go_num,HBq⟩
  ·go_wp2
   go_ret
   exact ⟨_,rfl,jH (by rw [HSM.out]; exact (MOwn.none_ W1 w.heap.size).below HBq.out),jH (step_below HSB.out.1 HSB.out.1.size HBq.out)⟩
set_option maxRecDepth 100000 in
set_option maxHeartbeats 4000000 in
theorem rsend_no (k st so dm ep v x:Int) (ch:Bool) (A C:Option Addr) (c d:Nat) (L M:List Ed) (w:World) (hL:EAt w A L) (_hM:EAt w C M) (hl:L.length <= 1000) (_hm:M.length <= 1000) (_hx0:-9223372036854775808 <= x) (_hx1:x <= 9223372036854775807) (h1:¬ k = 1) (h2:¬ k = 2) (h3:¬ k = 3) :
 Calls Tryz.prog 101 #[.agg #[.int .u8 k,.int .i64 st,.int .i64 so,.int .i64 dm,.int .i64 ep],.int .i64 v,.int .i64 x,.bool ch,.slice A L.length c,.slice C M.length d] w fun e w' => ∃ r,e = .returned r/\Hid (MOwn w' w.heap.size r (sendM (k) v x ch L M))/\Hid (Below w.heap.size w w'):=by
 have HSM:Hid (sendM k v x ch L M = []):=jH (sendM_no k v x ch L M h1 h2 h3)
 obtain ⟨W1,hW1⟩:∃ W1,W1 = w.alloc (.cells #[.int .u8 k,.int .i64 st,.int .i64 so,.int .i64 dm,.int .i64 ep] 40):=⟨_,rfl⟩
 have hb1:Below w.heap.size w W1:=by rw [hW1]; exact (Below.refl _ w).alloc (Nat.le_refl _) _
 have x0:W1.heap[w.heap.size]? = some (.cells #[.int .u8 k,.int .i64 st,.int .i64 so,.int .i64 dm,.int .i64 ep] 40 (0,0)):=by rw [hW1]; exact heap_alloc_new w _
 obtain ⟨b,e0⟩:∃ b,b = w.heap.size:=⟨_,rfl⟩
 rw [<- e0] at x0
 have HS:Hid (Sn w b (k) st so dm ep W1):=jH ⟨hb1,x0⟩
 have HL:=jH hL
 obtain ⟨n,hn⟩:∃ n,n = L.length:=⟨_,rfl⟩
 obtain ⟨m,hmm⟩:∃ m,m = M.length:=⟨_,rfl⟩
 rw [<- hn] at hl ⊢
 have HNL:=jH hn
 obtain ⟨j0,j1,j2,j3,j4,_⟩:=job_cells x0
 have g1:(k == 1) = false:=by simp [h1]
 have g2:(k == 2) = false:=by simp [h2]
 have g3:(k == 3) = false:=by simp [h3]
 go_enter Tryz.func101,Tryz.ntmps101
 go_upto_region 1 with fail
 rw [<- hW1,show w.heap.size = b from e0.symm]
 clear hW1 e0 hb1 x0 hn
 go_wp2_with fail
 clear j0 j1 j2 j3 j4
 have HSB:=HS
 go_loopg [13,16] n (fun gk v i wr => v = .slice none 0 0/\∃ q:Nat,q + gk = n/\i = .int .i64 (q:Int)/\Hid (Below W1.heap.size W1 wr))
 case atStart => exact ⟨rfl,0,by omega,rfl,jH (Below.refl _ _)⟩
 case round =>
  obtain ⟨rfl,q,hq,rfl,HBq⟩:=hrel
  obtain ⟨j0,j1,j2,j3,j4,_⟩:=job_cells (HSB.out.step HBq.out).2
  by_cases hlt:q < n
  ·go_wp2
   go_roundg (gk - 1)
   case measure => omega
   case rel => exact ⟨rfl,q + 1,by omega,by go_num,HBq⟩
  ·go_wp2
   go_ret
   exact ⟨_,rfl,jH (by rw [HSM.out]; exact (MOwn.none_ W1 w.heap.size).below HBq.out),jH (step_below HSB.out.1 HSB.out.1.size HBq.out)⟩
theorem near_up (v:Int) (L M:List Ed):Up (nearL v L M):=putAll_up _ _ (by simp [Up])
theorem sendM_near (v x:Int) (L M:List Ed):sendM 2 v x true L M = sentL x (nearL v L M):=by
 rw [sendM_two,if_pos rfl,putM_up 2 _ [] (by simpa using sentL_up x (near_up v L M))]; rfl
set_option maxRecDepth 100000 in
set_option maxHeartbeats 4000000 in
theorem rsend_2 (st so dm ep v x:Int) (A C:Option Addr) (c d:Nat) (L M:List Ed) (w:World) (hL:EAt w A L) (hM:EAt w C M) (hl:L.length <= 1000) (hm:M.length <= 1000) (_hx0:-9223372036854775808 <= x) (_hx1:x <= 9223372036854775807) :
 Calls Tryz.prog 101 #[.agg #[.int .u8 2,.int .i64 st,.int .i64 so,.int .i64 dm,.int .i64 ep],.int .i64 v,.int .i64 x,.bool true,.slice A L.length c,.slice C M.length d] w fun e w' => ∃ r,e = .returned r/\Hid (MOwn w' w.heap.size r (sendM (2) v x true L M))/\Hid (Below w.heap.size w w'):=by
 have HSM:Hid (sendM 2 v x true L M = sentL x (nearL v L M)):=jH (sendM_near v x L M)
 obtain ⟨W1,hW1⟩:∃ W1,W1 = w.alloc (.cells #[.int .u8 2,.int .i64 st,.int .i64 so,.int .i64 dm,.int .i64 ep] 40):=⟨_,rfl⟩
 have hb1:Below w.heap.size w W1:=by rw [hW1]; exact (Below.refl _ w).alloc (Nat.le_refl _) _
 have x0:W1.heap[w.heap.size]? = some (.cells #[.int .u8 2,.int .i64 st,.int .i64 so,.int .i64 dm,.int .i64 ep] 40 (0,0)):=by rw [hW1]; exact heap_alloc_new w _
 obtain ⟨b,e0⟩:∃ b,b = w.heap.size:=⟨_,rfl⟩
 rw [<- e0] at x0
 have HS:Hid (Sn w b (2) st so dm ep W1):=jH ⟨hb1,x0⟩
 have HL:=jH hL
 obtain ⟨n,hn⟩:∃ n,n = L.length:=⟨_,rfl⟩
 obtain ⟨m,hmm⟩:∃ m,m = M.length:=⟨_,rfl⟩
 rw [<- hn] at hl ⊢
 have HNL:=jH hn
 obtain ⟨j0,j1,j2,j3,j4,_⟩:=job_cells x0
 have HN:=jH (rnear_any v A C c d L M W1 (hL.below hb1) (hM.below hb1) (by omega) (by omega))
 rw [<- hn] at HN
 go_enter Tryz.func101,Tryz.ntmps101
 go_upto_region 1 with fail
 rw [<- hW1,show w.heap.size = b from e0.symm]
 clear hW1 e0 hb1 x0 hn
 go_wp2_with fail
 clear j0 j1 j2 j3 j4
 refine HN.out.mono ?_
 rintro e w2 ⟨r,rfl,HR,HB2⟩
 obtain ⟨N,hN⟩:∃ N,N = nearL v L M:=⟨_,rfl⟩
 rw [<- hN] at HR HSM
 obtain ⟨A2,c2,rfl,hat⟩:=HR.out.form
 have HS2:=jH (HS.out.step HB2.out)
 obtain ⟨nn,hnn⟩:∃ nn,nn = N.length:=⟨_,rfl⟩
 have hn2:nn <= 2000:=by
  have:=near_length v L M
  rw [hnn,hN]; have:=HNL.out; omega
 rw [<- hnn]
 have HNN:=jH hnn; have HAT:=jH hat
 clear hN hnn hat HR HB2 HN
 go_wp2_with fail
 go_loopg [13,15] nn (fun gk v i wr => SdRel w2 (sentL x N) nn gk v i wr)
 case atStart => exact ⟨0,by omega,rfl,jH (MOwn.none_ _ _),jH (Below.refl _ _)⟩
 case round =>
  obtain ⟨q,hq,rfl,HO,HBq⟩:=hrel
  by_cases hlt:q < nn
  ·obtain ⟨u,hu⟩:=at_lt N q (by rw [<- HNN.out]; exact hlt)
   obtain ⟨bk,o,rfl,c0⟩:=(HAT.out.below HBq.out) q u hu
   have hm1:(sentL x N)[q]? = some (u,x):=by unfold sentL; rw [List.getElem?_map,hu]; rfl
   have HM1:=jH (take_at hm1)
   have hlen:((sentL x N).take q).length < 1000000000:=by simp; omega
   have HO1:=jH (HO.out.alloc (.cells #[.int .i64 u,.int .i64 x] 155))
   have HN1:=jH (msg_new wr u x)
   have HB1:=jH (HBq.out.alloc HBq.out.size (.cells #[.int .i64 u,.int .i64 x] 155))
   have HLEN:=jH hlen
   clear hu hm1 hlen
   go_wp2_with (at_builtin; refine app_m rfl (.tmp 33) (.tmp 40) rfl w2.heap.size _ ((sentL x N).take q) u x rfl HO1.out _ rfl HN1.out HLEN.out HB1.out.size ?_)
   intro v3 w3 ho3 hg3
   have HB4:=jH (grown_own HB1.out HB1.out.size HO1.out hg3)
   have HO3:=jH ho3
   clear ho3 hg3
   go_wp2
   go_roundg (gk - 1)
   case measure => omega
   case rel => exact ⟨q + 1,by omega,by go_num,jH (by rw [HM1.out]; exact HO3.out),HB4⟩
  ·have HE:Hid ((sentL x N).take q = sentL x N):=jH (List.take_of_length_le (by unfold sentL; rw [List.length_map,<- HNN.out]; omega))
   obtain ⟨G,rfl⟩:∃ G:Nat,G = gk:=⟨_,rfl⟩
   obtain ⟨wo,rfl⟩:∃ wo:World,wo = wr:=⟨_,rfl⟩
   have HSB:=jH (HS2.out.step HBq.out)
   have HOF:Hid (MOwn wo w.heap.size u13 (sentL x N)):=jH (by have h:=HO.out; rw [HE.out] at h; exact h.mono HS2.out.1.size)
   clear HE HO
   go_wp2_with fail
   go_loopg [13,16] n (fun gk v i wr => v = u13/\∃ q:Nat,q + gk = n/\i = .int .i64 (q:Int)/\Hid (Below wo.heap.size wo wr))
   case atStart => exact ⟨rfl,0,by omega,rfl,jH (Below.refl _ _)⟩
   case round =>
    obtain ⟨rfl,q,hq,rfl,HBq⟩:=hrel
    obtain ⟨j0,j1,j2,j3,j4,_⟩:=job_cells (HSB.out.step HBq.out).2
    by_cases hlt:q < n
    ·go_wp2
     go_roundg (gk - 1)
     case measure => omega
     case rel => exact ⟨rfl,q + 1,by omega,by go_num,HBq⟩
    ·go_wp2
     go_ret
     exact ⟨_,rfl,jH (by rw [HSM.out]; exact (HOF.out).below HBq.out),jH (step_below HSB.out.1 HSB.out.1.size HBq.out)⟩
theorem rsend_any (k st so dm ep v x:Int) (ch:Bool) (A C:Option Addr) (c d:Nat) (L M:List Ed) (w:World) (hL:EAt w A L) (hM:EAt w C M) (hl:L.length <= 1000) (hm:M.length <= 1000) (hx0:-9223372036854775808 <= x) (hx1:x <= 9223372036854775807) :
 Calls Tryz.prog 101 #[.agg #[.int .u8 k,.int .i64 st,.int .i64 so,.int .i64 dm,.int .i64 ep],.int .i64 v,.int .i64 x,.bool ch,.slice A L.length c,.slice C M.length d] w fun e w' => ∃ r,e = .returned r/\Hid (MOwn w' w.heap.size r (sendM k v x ch L M))/\Hid (Below w.heap.size w w'):=by
 by_cases h1:k = 1
 ·subst h1; exact rsend_1 st so dm ep v x ch A C c d L M w hL hM hl hm hx0 hx1
 ·by_cases h2:k = 2
  ·subst h2
   cases ch
   ·exact rsend_f2 st so dm ep v x A C c d L M w hL hM hl hm hx0 hx1
   ·exact rsend_2 st so dm ep v x A C c d L M w hL hM hl hm hx0 hx1
  ·by_cases h3:k = 3
   ·subst h3
    cases ch
    ·exact rsend_f3 st so dm ep v x A C c d L M w hL hM hl hm hx0 hx1
    ·exact rsend_3 st so dm ep v x A C c d L M w hL hM hl hm hx0 hx1
   ·exact rsend_no k st so dm ep v x ch A C c d L M w hL hM hl hm hx0 hx1 h1 h2 h3
end Go.Proofs.YtdcaekmgfcpbmaaGreat.Al
