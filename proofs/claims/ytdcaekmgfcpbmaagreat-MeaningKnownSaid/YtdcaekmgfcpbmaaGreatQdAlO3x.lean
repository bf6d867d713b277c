/-
  What is proved here: what the three programs send: contracts of their methods send. Conditions: at most 1000 edges each way. What is proved here: algos.oneToEach at the program of Rank: sorted and put together, messages are one row, rising, one to each vertex. Conditions: the row is one that the call has made, of at most 100000 messages. What is proved here: algos.oneToEach at the program of Label: sorted and put together, messages are one row, rising, one to each vertex. Conditions: the row is one that the call has made, of at most 100000 messages. What is proved here: algos.oneToEach at the program of Paths: sorted and put together, messages are one row, rising, one to each vertex. Conditions: the row is one that the call has made, of at most 100000 messages.
-/
import Derived.Test.YtdcaekmgfcpbmaaGreatQdAlSd1
import Derived.Deep.AppendLies
import Derived.Test.YtdcaekmgfcpbmaaGreatQdAlP1
import Derived.Test.YtdcaekmgfcpbmaaGreatQdAlS7x
namespace Go.Proofs.YtdcaekmgfcpbmaaGreat.Al
open Go.RowKit Gr Wd Ws Fx Rk Lb
theorem gived_x (v x y z g:Int) (hg:Hid (addI v z = g)) (w:World):Calls Tryz.prog 53 #[.int .i64 v,.agg #[.int .i64 x,.int .i64 y,.int .i64 z]] w fun e w' => e = .returned (.int .i64 g)/\w' = w.alloc (.cells #[.int .i64 x,.int .i64 y,.int .i64 z] 33):=by
 rw [<- hg.out]
 go_enter Tryz.func53,Tryz.ntmps53
 go_wp2_with fail
 refine (Pa.add_of v z _).mono ?_
 rintro e w' ⟨rfl,rfl⟩
 go_wp2
 go_ret
 exact ⟨rfl,rfl⟩
theorem mat_new (W:World) (x y:Int):MAt (W.alloc (.cells #[.int .i64 x,.int .i64 y] 155)) (some ⟨W.heap.size,0,none⟩) [(x,y)]:=by
 intro k e hk
 rcases k with _ | k
 ·simp at hk; subst hk
  have h:=msg_new W x y
  exact ⟨_,0,rfl,by rw [Lib.cell_of_heap h]; rfl,by rw [Lib.cell_of_heap h]; rfl⟩
 ·simp at hk
theorem step_m {ops:Array Oper} {o:Oper} {a:Act} {w:World} {K:Act->World->Prop} {Q:Exit->Act->World->Prop} {E:Prop} (hgd:o.guard = none) (s x:Operand)
 (ho:o.op = .call { callee:=.builtin .append,args:=#[s,x],argTypes:=#[133,133] }) (B:Nat) (v:Value) (M L:List Ms) (z:Nat) (hz:L.length = z) (hs:a.eval s = v) (hown:MOwn w B v M)
 (A:Option Addr) (c:Nat) (hx:a.eval x = .slice A z c) (hL:MAt w A L) (hn:M.length < 1000000000) (hB:B <= w.heap.size)
 (h:∀ A' n' c' w',MOwn w' B (.slice A' n' c') (M ++ L)->w.grownBy w' v.ownBlock->K (a.put o.dst (.slice A' n' c')) w') (hzz:z <= 1000000000:=by decide) :
 if Region.wanted o (yielded ops a.tmps) = true then Oper.wp Tryz.prog o a w K Q else E:=by
 subst hz
 have hw:Region.wanted o (yielded ops a.tmps) = true:=by simp [Region.wanted,hgd]
 rw [if_pos hw]
 obtain ⟨i0,hi,hz0,hz1,hz2⟩:=info_parts infoM
 have ht:Tryz.prog.underlying 133 = some (.slice 155):=Tryz.underlying133
 obtain ⟨v',w',hr,h2,h3⟩:∃ v' w',(Builtin.append_ #[133,133] o.type #[v,.slice A L.length c]).run Tryz.prog w = .ok v' w'/\MOwn w' B v' (M ++ L)/\w.grownBy w' v.ownBlock:=by
  cases A with
  | some ad =>
   obtain ⟨v',w',hr,h2,h3,_⟩:=run_append_own (P:=Tryz.prog) w B 133 o.type 155 i0 _ 2 16 ht hi hz0 hz1 hz2 rfl (by decide) v M.length (mcs M) hown ad L.length c (mcs L) (mcs_len L) (mat_cells hL ad rfl) (mcs_one L) (by unfold maxLen; omega) (by omega) hB
   refine ⟨v',w',hr,?_,h3⟩
   unfold MOwn
   rw [mcs_append,List.length_append]
   exact h2
  | none =>
   obtain rfl:=mat_none hL
   refine ⟨v,w,?_,by rw [List.append_nil]; exact hown,⟨rfl,rfl,rfl,Nat.le_refl _,fun _ _ _ => rfl⟩⟩
   rcases hown.2 with ⟨rfl,_⟩ | ⟨g,cap,cur,rfl,_,_,hnc,_⟩
   ·simp [Builtin.append_,run_underlying ht,sizeOf,typeInfo,hi,Builtin.lenOf,Builtin.firstCells]
   ·simp [Builtin.append_,run_underlying ht,sizeOf,typeInfo,hi,Builtin.lenOf,Builtin.firstCells,hnc,storeCells]
 obtain ⟨A',c',rfl,_⟩:=h2.room
 unfold Oper.wp execOp
 simp only [ho,resolve,invoke,builtin,Sem.run_bind,Sem.run_pure,Result.andThen_ok,List.map_toArray,List.map_cons,List.map_nil,hs,hx,hr]
 exact h _ _ _ _ h2 h3
set_option maxRecDepth 100000 in
set_option maxHeartbeats 2000000 in
theorem send_ranks (k st so dm ep v x:Int) (ch:Bool) (A C:Option Addr) (c d:Nat) (L M:List Ed) (w:World) (hL:EAt w A L) (hl:L.length <= 1000) (hx0:-9223372036854775808 <= x) (hx1:x <= 9223372036854775807) :
 Calls Tryz.prog 152 #[.agg #[.int .u8 k,.int .i64 st,.int .i64 so,.int .i64 dm,.int .i64 ep],.int .i64 v,.int .i64 x,.bool ch,.slice A L.length c,.slice C M.length d] w fun e w' => ∃ r,e = .returned r/\Hid (MOwn w' w.heap.size r (sentR x L.length L))/\Hid (Below w.heap.size w w'):=by
 have mixed:=mixedO
 obtain ⟨W1,hW1⟩:∃ W1,W1 = w.alloc (.cells #[.int .u8 k,.int .i64 st,.int .i64 so,.int .i64 dm,.int .i64 ep] 96):=⟨_,rfl⟩
 have HB:Hid (Below w.heap.size w W1):=jH (by rw [hW1]; exact (Below.refl _ w).alloc (Nat.le_refl _) _)
 have HL:=jH (hL.below HB.out)
 obtain ⟨n,hn⟩:∃ n,n = L.length:=⟨_,rfl⟩
 obtain ⟨m,hm⟩:∃ m,m = M.length:=⟨_,rfl⟩
 rw [<- hn] at hl ⊢
 rw [<- hm]
 have HNL:=jH hn
 clear hn hL hm
 go_enter Tryz.func152,Tryz.ntmps152
 go_upto_region 1 with fail
 rw [<- hW1]
 clear hW1
 go_wp2_with fail
 go_loopg [13,18] n (fun gk v i wr => SdRel W1 (sentR x n L) n gk v i wr)
 case atStart => exact ⟨0,by omega,rfl,jH (MOwn.none_ _ _),jH (Below.refl _ _)⟩
 case round =>
  obtain ⟨q,hq,rfl,HO,HBq⟩:=hrel
  by_cases hlt:q < n
  ·obtain ⟨⟨e0,e1,e2⟩,hu⟩:=at_lt L q (by rw [<- HNL.out]; exact hlt)
   obtain ⟨bk,o,rfl,c0,c1,c2⟩:=(HL.out.below HBq.out) q _ hu
   obtain ⟨y,hy⟩:∃ y,giveI x n = y:=⟨_,rfl⟩
   have hm1:(sentR x n L)[q]? = some (e1,y):=by rw [<- hy]; unfold sentR; rw [List.getElem?_map,hu]; rfl
   have HM1:=jH (take_at hm1)
   have hlen:((sentR x n L).take q).length < 1000000000:=by simp; omega
   have HLEN:=jH hlen
   have HY:=jH hy
   clear hu hm1 hlen hy
   obtain ⟨W2,hW2⟩:∃ W2,W2 = wr.alloc (.cells #[.int .i64 e0,.int .i64 e1,.int .i64 e2] 33):=⟨_,rfl⟩
   have hb2:Below wr.heap.size wr W2:=by rw [hW2]; exact (Below.refl _ wr).alloc (Nat.le_refl _) _
   have HE2:Hid (W2.heap[wr.heap.size]? = some (.cells #[.int .i64 e0,.int .i64 e1,.int .i64 e2] 33 (0,0))):=jH (by rw [hW2]; exact heap_alloc_new wr _)
   have HO2:=jH (HO.out.below hb2); have HB2:=jS HBq hb2
   obtain ⟨eb,heb⟩:∃ eb,eb = wr.heap.size:=⟨_,rfl⟩
   rw [<- heb] at HE2
   go_upto_region 5 with fail
   rw [<- hW2,<- heb]
   obtain ⟨p0,p1,p2,_⟩:=eb_cells HE2.out
   have hb3:Below W2.heap.size W2 (W2.drew):=(Below.refl _ W2).drew
   have HO3:=jH ((HO2.out.below hb3).alloc (.cells #[.int .i64 e1,.int .i64 y] 155))
   have hb4:=step_below HB2.out HB2.out.size hb3
   have HB3:=jH (hb4.alloc hb4.size (.cells #[.int .i64 e1,.int .i64 y] 155))
   have HN3:=jH (mat_new (W2.drew) e1 y)
   clear hb3 hb4
   clear c0 c1 c2 hW2 heb hb2 HO HBq
   go_wp2_with fail
   go_region_law (first | (refine step_m rfl (.tmp 22) (.tmp 30) rfl W1.heap.size _ ((sentR x n L).take q) [(e1,y)] 1 rfl (by simp [Act.eval]) HO3.out _ 1 (by simp [Act.eval]) HN3.out HLEN.out HB3.out.size ?_; intro A6 n6 c6 w6 ho6 hg6; have HB4:=jH (grown_own HB3.out HB3.out.size HO3.out hg6); have HO4:=jH ho6; clear ho6 hg6) | (go_simp; go_at_call 159; refine (Rk.give_any x (n:Int) y _ HY hx0 hx1 (by omega) (by omega)).mono ?_; rintro _ _ ⟨rfl,rfl⟩))
   all_goals
    go_wp2
    go_roundg (gk - 1)
    case measure => omega
    case rel => exact ⟨q + 1,by omega,by go_num,jH (by rw [HM1.out]; exact HO4.out),HB4⟩
  ·have HE:Hid ((sentR x n L).take q = sentR x n L):=jH (List.take_of_length_le (by unfold sentR; rw [List.length_map,<- HNL.out]; omega))
   go_wp2
   go_ret
   refine ⟨_,rfl,jH ?_,jS HB HBq.out⟩
   have:=HO.out
   rw [HE.out] at this
   exact this.mono HB.out.size
set_option maxRecDepth 100000 in
set_option maxHeartbeats 2000000 in
theorem send_distances (k st so dm ep v x:Int) (ch:Bool) (A C:Option Addr) (c d:Nat) (L M:List Ed) (w:World) (hL:EAt w A L) (hl:L.length <= 1000) :
 Calls Tryz.prog 201 #[.agg #[.int .u8 k,.int .i64 st,.int .i64 so,.int .i64 dm,.int .i64 ep],.int .i64 v,.int .i64 x,.bool ch,.slice A L.length c,.slice C M.length d] w fun e w' => ∃ r,e = .returned r/\Hid (MOwn w' w.heap.size r (if ch = true then sentP x L else []))/\Hid (Below w.heap.size w w'):=by
 have mixed:=mixedO
 obtain ⟨W1,hW1⟩:∃ W1,W1 = w.alloc (.cells #[.int .u8 k,.int .i64 st,.int .i64 so,.int .i64 dm,.int .i64 ep] 101):=⟨_,rfl⟩
 have HB:Hid (Below w.heap.size w W1):=jH (by rw [hW1]; exact (Below.refl _ w).alloc (Nat.le_refl _) _)
 have HL:=jH (hL.below HB.out)
 obtain ⟨n,hn⟩:∃ n,n = L.length:=⟨_,rfl⟩
 obtain ⟨m,hm⟩:∃ m,m = M.length:=⟨_,rfl⟩
 rw [<- hn] at hl ⊢
 rw [<- hm]
 have HNL:=jH hn
 clear hn hL hm
 cases ch with
 | false =>
  go_enter Tryz.func201,Tryz.ntmps201
  go_wp2
  go_ret
  rw [<- hW1]
  exact ⟨_,rfl,jH (MOwn.none_ _ _),HB⟩
 | true =>
 go_enter Tryz.func201,Tryz.ntmps201
 go_upto_region 4 with fail
 rw [<- hW1]
 clear hW1
 go_wp2_with fail
 go_loopg [13,20] n (fun gk v i wr => SdRel W1 (sentP x L) n gk v i wr)
 case atStart => exact ⟨0,by omega,rfl,jH (MOwn.none_ _ _),jH (Below.refl _ _)⟩
 case round =>
  obtain ⟨q,hq,rfl,HO,HBq⟩:=hrel
  by_cases hlt:q < n
  ·obtain ⟨⟨e0,e1,e2⟩,hu⟩:=at_lt L q (by rw [<- HNL.out]; exact hlt)
   obtain ⟨bk,o,rfl,c0,c1,c2⟩:=(HL.out.below HBq.out) q _ hu
   obtain ⟨y,hy⟩:∃ y,addI x e2 = y:=⟨_,rfl⟩
   have hm1:(sentP x L)[q]? = some (e1,y):=by rw [<- hy]; unfold sentP; rw [List.getElem?_map,hu]; rfl
   have HM1:=jH (take_at hm1)
   have hlen:((sentP x L).take q).length < 1000000000:=by simp; omega
   have HLEN:=jH hlen
   have HY:=jH hy
   clear hu hm1 hlen hy
   obtain ⟨W2,hW2⟩:∃ W2,W2 = wr.alloc (.cells #[.int .i64 e0,.int .i64 e1,.int .i64 e2] 33):=⟨_,rfl⟩
   have hb2:Below wr.heap.size wr W2:=by rw [hW2]; exact (Below.refl _ wr).alloc (Nat.le_refl _) _
   have HE2:Hid (W2.heap[wr.heap.size]? = some (.cells #[.int .i64 e0,.int .i64 e1,.int .i64 e2] 33 (0,0))):=jH (by rw [hW2]; exact heap_alloc_new wr _)
   have HO2:=jH (HO.out.below hb2); have HB2:=jS HBq hb2
   obtain ⟨eb,heb⟩:∃ eb,eb = wr.heap.size:=⟨_,rfl⟩
   rw [<- heb] at HE2
   go_upto_region 7 with fail
   rw [<- hW2,<- heb]
   obtain ⟨p0,p1,p2,_⟩:=eb_cells HE2.out
   have hb3:Below W2.heap.size W2 (W2.drew.alloc (.cells #[.int .i64 e0,.int .i64 e1,.int .i64 e2] 33)):=((Below.refl _ W2).drew).alloc (Nat.le_refl _) _
   have HO3:=jH ((HO2.out.below hb3).alloc (.cells #[.int .i64 e1,.int .i64 y] 155))
   have hb4:=step_below HB2.out HB2.out.size hb3
   have HB3:=jH (hb4.alloc hb4.size (.cells #[.int .i64 e1,.int .i64 y] 155))
   have HN3:=jH (mat_new (W2.drew.alloc (.cells #[.int .i64 e0,.int .i64 e1,.int .i64 e2] 33)) e1 y)
   clear hb3 hb4
   clear c0 c1 c2 hW2 heb hb2 HO HBq
   go_wp2_with fail
   go_region_law (first | (refine step_m rfl (.tmp 24) (.tmp 31) rfl W1.heap.size _ ((sentP x L).take q) [(e1,y)] 1 rfl (by simp [Act.eval]) HO3.out _ 1 (by simp [Act.eval]) HN3.out HLEN.out HB3.out.size ?_; intro A6 n6 c6 w6 ho6 hg6; have HB4:=jH (grown_own HB3.out HB3.out.size HO3.out hg6); have HO4:=jH ho6; clear ho6 hg6) | (go_simp; go_at_call 53; refine (gived_x x e0 e1 e2 y HY _).mono ?_; rintro _ _ ⟨rfl,rfl⟩))
   all_goals
    go_wp2
    go_roundg (gk - 1)
    case measure => omega
    case rel => exact ⟨q + 1,by omega,by go_num,jH (by rw [HM1.out]; exact HO4.out),HB4⟩
  ·have HE:Hid ((sentP x L).take q = sentP x L):=jH (List.take_of_length_le (by unfold sentP; rw [List.length_map,<- HNL.out]; omega))
   go_wp2
   go_ret
   refine ⟨_,rfl,jH ?_,jS HB HBq.out⟩
   have:=HO.out
   rw [HE.out] at this
   exact this.mono HB.out.size
open Go.RowKit Go.Sort Gr Wd Ws Fx Rk Lb
def OeRel (w:World) (kk:Int) (S:List Ms) (n:Nat) (gk:Nat) (v i:Value) (wr:World):Prop :=
 ∃ q:Nat,q + gk = n/\i = .int .i64 (q:Int)/\Hid (MOwn wr w.heap.size v (grp kk [] (S.take q)))/\Hid (Below w.heap.size w wr)
theorem msg_cells {W:World} {b:Nat} {x y:Int} (h:W.heap[b]? = some (.cells #[.int .i64 x,.int .i64 y] 155 (0,0))):W.cell? ⟨b,0,none⟩ = some (.int .i64 x)/\W.cell? ⟨b,1,none⟩ = some (.int .i64 y)/\b < W.heap.size :=
 ⟨by rw [Lib.cell_of_heap h]; rfl,by rw [Lib.cell_of_heap h]; rfl,lt_of_block h⟩
theorem last_of {α:Type}:∀ l:List α,l ≠ []->∃ (l0:List α) (z:α),l = l0 ++ [z]
 | [],h => absurd rfl h
 | x :: l,_ => by
  by_cases h:l = []
  ·exact ⟨[],x,by rw [h]; rfl⟩
  ·obtain ⟨l0,z,e⟩:=last_of l h
   exact ⟨x :: l0,z,by rw [e]; rfl⟩
theorem mown_free {w:World} {B g n c:Nat} {L:List Ms} (hn:L.length = n) (h:MOwn w B (.slice (some ⟨g,0,none⟩) n c) L):∀ j,w.frozen? ⟨g,j,none⟩ = false:=by
 subst hn; exact World.ownsRow.frozenAt h
theorem grp_length (k:Int):∀ (xs l:List Ms),(grp k l xs).length <= l.length + xs.length
 | [],l => by simp [grp]
 | m :: xs,l => by have h1:=grp_length k xs (stp k l m); have h2:=grp_len k m l; show (grp k (stp k l m) xs).length <= _; simp at *; omega
theorem sorted_list {n:Nat} {L:List Ms} {d:Array Ms} (hn:L.length = n) (hp:PermIn 0 n L.toArray d) (hs:Srt 0 n d):d.toList.length = n/\∀ k,grp k [] d.toList = putM k [] L:=by
 have h1:d.size = n:=by rw [hp.1]; simp [hn]
 refine ⟨by simp [h1],fun k => grp_sorted k (srt_list h1 hs) ?_⟩
 have:=perm_list (d:=L.toArray) (by simp [hn]) hp
 simpa using this
theorem combq_1 (st so dm ep a b y:Int) (hy:Hid (comb 1 a b = y)) (W:World):Calls Tryz.prog 147 #[.agg #[.int .u8 1,.int .i64 st,.int .i64 so,.int .i64 dm,.int .i64 ep],.int .i64 a,.int .i64 b] W fun e w' => e = .returned (.int .i64 y)/\Below W.heap.size W w':=by
 rw [<- hy.out]
 exact comb_ranks 1 st so dm ep a b W
theorem ahead_1 (st so dm ep:Int) (w:World):(nilAhead 329 96 (.agg #[.int .u8 1,.int .i64 st,.int .i64 so,.int .i64 dm,.int .i64 ep]) "treadwheel/algos.combine").run Tryz.prog w = .ok (some false) w:=by kernel_rfl
theorem one_none_1 (st so dm ep:Int) (w:World) (B:Nat) :
 Calls Tryz.prog 90 #[.iface 96 (.agg #[.int .u8 1,.int .i64 st,.int .i64 so,.int .i64 dm,.int .i64 ep]),.slice none 0 0] w fun e w' => ∃ r,e = .returned r/\Hid (MOwn w' B r [])/\Hid (Below B w w'):=by
 go_enter Tryz.func90,Tryz.ntmps90
 go_wp2_with fail
 refine (sortStable_none _).mono ?_
 rintro e w2 ⟨rfl,rfl⟩
 go_wp2_with fail
 go_loopg [5,13] 0 (fun gk v i wr => v = .slice none 0 0/\i = .int .i64 0/\gk = 0/\wr = w)
 case atStart => exact ⟨rfl,rfl,rfl,rfl⟩
 case round =>
  obtain ⟨rfl,rfl,rfl,rfl⟩:=hrel
  go_wp2
  go_ret
  exact ⟨_,rfl,jH (MOwn.none_ _ _),jH (Below.refl _ _)⟩
set_option maxRecDepth 100000 in
set_option maxHeartbeats 4000000 in
theorem one_some_1 (st so dm ep:Int) (B g n c:Nat) (L:List Ms) (w:World) (hO:Hid (MOwn w B (.slice (some ⟨g,0,none⟩) n c) L)) (hL:Hid (L.length = n)) (hn:n <= 100000) (hBg:B <= g) (hB:B <= w.heap.size) :
 Calls Tryz.prog 90 #[.iface 96 (.agg #[.int .u8 1,.int .i64 st,.int .i64 so,.int .i64 dm,.int .i64 ep]),.slice (some ⟨g,0,none⟩) n c] w fun e w' => ∃ r,e = .returned r/\Hid (MOwn w' B r (putM 1 [] L))/\Hid (Below B w w'):=by
 have mixed:=mixedO
 obtain ⟨N,hN⟩:=MOwn.row hL.out hO.out
 have HN:=jH hN
 have HZ:Hid (L.toArray.size = n):=jH (by simp [hL.out])
 clear hN
 go_enter Tryz.func90,Tryz.ntmps90
 go_wp2_with fail
 refine (sortStable_any w g N n c L.toArray HN HZ (by omega)).mono ?_
 rintro e w2 ⟨rfl,d,hd⟩
 have HB2:Hid (Below B w w2):=jH (Below.grown (Below.refl _ w) hd.out.1.grown hB fun j e => by cases e; exact hBg)
 obtain ⟨hs1,hs2⟩:=sorted_list hL.out hd.out.2.1 hd.out.2.2
 obtain ⟨S,hS⟩:∃ S,S = d.toList:=⟨_,rfl⟩
 have HAT:Hid (MAt w2 (some ⟨g,0,none⟩) S):=jH (by rw [hS]; exact hd.out.1.mat)
 rw [<- hS] at hs1 hs2
 have HSN:=jH hs1; have HSP:=jH hs2
 clear hd hs1 hs2 hS HN HZ
 go_wp2_with fail
 go_loopg [5,13] n (fun gk v i wr => OeRel w2 1 S n gk v i wr)
 case atStart => exact ⟨0,by omega,rfl,jH (MOwn.none_ _ _),jH (Below.refl _ _)⟩
 case round =>
  obtain ⟨q,hq,rfl,HO,HBq⟩:=hrel
  by_cases hlt:q < n
  ·obtain ⟨⟨t,y⟩,hu⟩:=at_lt S q (by rw [HSN.out]; exact hlt)
   obtain ⟨bk,o,he,c0,c1⟩:=(HAT.out.below HBq.out) q _ hu
   cases he
   rw [Nat.zero_add] at c0 c1
   have HG:Hid (grp 1 [] (S.take (q + 1)) = stp 1 (grp 1 [] (S.take q)) (t,y)):=jH (by rw [take_at hu,grp_snoc])
   obtain ⟨acc,hacc⟩:∃ acc,acc = grp 1 [] (S.take q):=⟨_,rfl⟩
   have hal:acc.length <= 100000:=by
    rw [hacc]
    have h1:=grp_length 1 (S.take q) []
    have h2:(S.take q).length <= q:=by rw [List.length_take]; omega
    simp at h1; omega
   rw [<- hacc] at HO HG
   clear hu hacc
   obtain ⟨W2,hW2⟩:∃ W2,W2 = wr.alloc (.cells #[.int .i64 t,.int .i64 y] 155):=⟨_,rfl⟩
   have hb2:Below wr.heap.size wr W2:=by rw [hW2]; exact (Below.refl _ wr).alloc (Nat.le_refl _) _
   have HE2:Hid (W2.heap[wr.heap.size]? = some (.cells #[.int .i64 t,.int .i64 y] 155 (0,0))):=jH (by rw [hW2]; exact msg_new wr t y)
   have HO2:=jH (HO.out.below hb2); have HBW:=jS HBq hb2
   obtain ⟨eb,heb⟩:∃ eb,eb = wr.heap.size:=⟨_,rfl⟩
   rw [<- heb] at HE2
   obtain ⟨A2,c2,rfl,hat,hc2,hm2,hA2⟩:=HO2.out.room
   go_upto_region 6 with fail
   rw [<- hW2,<- heb]
   clear c0 c1 hW2 heb hb2 HO HBq hc2 hm2
   obtain ⟨E,hE⟩:∃ E,E = acc.length:=⟨_,rfl⟩
   rw [<- hE] at hal HO2 ⊢
   by_cases hnil:acc = []
   ·subst hnil
    have hE0:E = 0:=hE
    subst hE0
    clear hE hal
    have HGX:Hid (grp 1 [] (S.take (q + 1)) = [(t,y)]):=HG
    have HO3:Hid (MOwn (W2.alloc (.cells #[.int .i64 t,.int .i64 y] 155)).drew w2.heap.size (.slice A2 0 c2) []):=jH (HO2.out.alloc _)
    have HN3:Hid ((W2.alloc (.cells #[.int .i64 t,.int .i64 y] 155)).drew.heap[W2.heap.size]? = some (.cells #[.int .i64 t,.int .i64 y] 155 (0,0))):=jH (msg_new W2 t y)
    have HB3:Hid (Below w2.heap.size w2 (W2.alloc (.cells #[.int .i64 t,.int .i64 y] 155)).drew):=jH (HBW.out.alloc HBW.out.size _).drew
    obtain ⟨p0,p1,p2⟩:=msg_cells HE2.out
    have hlen:([]:List Ms).length < 1000000000:=by decide
    go_wp2_with fail
    go_big_region
    go_wp2_with (at_builtin; refine app_m rfl (.tmp 48) (.tmp 50) rfl w2.heap.size _ [] t y rfl HO3.out _ rfl HN3.out hlen HB3.out.size ?_)
    intro v4 w4 ho4 hg4
    have HB4:=jH (grown_own HB3.out HB3.out.size HO3.out hg4)
    have HO4:Hid (MOwn w4 w2.heap.size v4 [(t,y)]):=jH ho4
    clear ho4 hg4
    go_wp2
    go_roundg (gk - 1)
    case measure => omega
    case rel => exact ⟨q + 1,by omega,by go_num,jH (by rw [HGX.out]; exact HO4.out),HB4⟩
   ·obtain ⟨l0,⟨z1,z2⟩,hz⟩:=last_of acc hnil
    subst hz
    obtain ⟨p,hp⟩:∃ p,p = l0.length:=⟨_,rfl⟩
    have hpE:p + 1 = E:=by rw [hE,hp]; simp
    obtain ⟨bk,o,hA3,d0,d1⟩:=hat p (z1,z2) (by rw [hp,List.getElem?_append_right (Nat.le_refl _),Nat.sub_self]; rfl)
    rcases hA2 with ⟨hA2,_⟩ | ⟨gX,hA2,hgE,_,hfz⟩
    ·rw [hA2] at hA3; cases hA3
    rw [hA2] at hA3
    cases hA3
    subst hA2
    rw [Nat.zero_add] at d0 d1
    have HP:=jH hp
    subst hpE
    have HEL:Hid ((l0 ++ [(z1,z2)]).length = p + 1):=jH hE.symm
    have HFZ:=jH hfz
    clear hp hE hnil hfz hat
    obtain ⟨p0,p1,p2⟩:=msg_cells HE2.out
    by_cases hzt:z1 = t
    ·subst hzt
     obtain ⟨yy,hyy⟩:∃ yy,comb 1 z2 y = yy:=⟨_,rfl⟩
     have HYY:=jH hyy
     have HGX:Hid (grp 1 [] (S.take (q + 1)) = l0 ++ [(z1,yy)]):=jH (by rw [HG.out,stp_snoc,if_pos rfl,hyy])
     clear hyy HG
     go_wp2_with fail
     go_big_region
     go_wp2_with fail
     obtain ⟨W3,hW3⟩:∃ W3,W3 = W2.drew:=⟨_,rfl⟩
     have HO3:Hid (MOwn W3 w2.heap.size (.slice (some ⟨bk,0,none⟩) (p + 1) c2) (l0 ++ [(z1,z2)])):=jH (by rw [hW3]; exact HO2.out)
     have HB3:Hid (Below w2.heap.size w2 W3):=jH (by rw [hW3]; exact HBW.out.drew)
     have x0:W3.cell? ⟨bk,p * 2 + 1,none⟩ = some (.int .i64 z2):=by rw [hW3]; exact d1
     have x1:W3.cell? ⟨eb,1,none⟩ = some (.int .i64 y):=by rw [hW3]; exact p1
     rw [<- hW3]
     have y0:=cell_regrown x0; have y1:=cell_regrown x1
     have HC:=jH (regr fun W (_:Below W3.heap.size W3 W) => combq_1 st so dm ep z2 y yy HYY W)
     have hlk:=look_combine_1 st so dm ep
     have hah:=ahead_1 st so dm ep
     clear d0 d1 p0 p1 x0 x1 hW3 HO2 HBW HE2
     refine Tl.region_tail_below 14 mixed (by kernel_rfl) ?_
     simp only [List.take_succ_cons,List.take_zero,List.drop_succ_cons,List.drop_zero]
     repeat (go_big_quiet_step ((with_reducible exact HC.out _ _)))
     refine wpQuiet_nil ?_
     intro _ hw'
     obtain ⟨⟨dq,osq⟩,hw''⟩:=hw'
     subst hw''
     obtain ⟨W4,hW4⟩:∃ W4,W4 = Sort.grow (redrawn W3 dq) osq:=⟨_,rfl⟩
     have hb4:Below W3.heap.size W3 W4:=by rw [hW4]; exact below_regrown W3 dq osq
     rw [<- hW4]
     have HO4:=jH (HO3.out.below hb4)
     have HB4:=jS HB3 hb4
     have u0:W4.cell? ⟨bk,p * 2 + 1,none⟩ = some (.int .i64 z2):=by rw [hW4]; exact y0 _ _
     have u1:=mown_free HEL.out HO4.out
     have HO5:Hid (MOwn (W4.setCell ⟨bk,p * 2 + 1,none⟩ (.int .i64 yy)) w2.heap.size (.slice (some ⟨bk,0,none⟩) (p + 1) c2) (l0 ++ [(z1,yy)])):=jH (by have h:=MOwn.put_last HEL.out HO4.out yy; rw [<- HP.out] at h; exact h)
     have HB5:Hid (Below w2.heap.size w2 (W4.setCell ⟨bk,p * 2 + 1,none⟩ (.int .i64 yy))):=jH (HB4.out.setCell (p:=⟨bk,p * 2 + 1,none⟩) hgE _)
     clear y0 y1 hW4 hb4 HO3 HB3 hlk hah HC
     go_wp2
     go_roundg (gk - 1)
     case measure => omega
     case rel => exact ⟨q + 1,by omega,by go_num,jH (by rw [HGX.out]; exact HO5.out),HB5⟩
    ·have HGX:Hid (grp 1 [] (S.take (q + 1)) = l0 ++ [(z1,z2),(t,y)]):=jH (by rw [HG.out,stp_snoc,if_neg hzt])
     have HO3:Hid (MOwn (W2.alloc (.cells #[.int .i64 t,.int .i64 y] 155)).drew w2.heap.size (.slice (some ⟨bk,0,none⟩) (p + 1) c2) (l0 ++ [(z1,z2)])):=jH (HO2.out.alloc _)
     have HN3:Hid ((W2.alloc (.cells #[.int .i64 t,.int .i64 y] 155)).drew.heap[W2.heap.size]? = some (.cells #[.int .i64 t,.int .i64 y] 155 (0,0))):=jH (msg_new W2 t y)
     have HB3:Hid (Below w2.heap.size w2 (W2.alloc (.cells #[.int .i64 t,.int .i64 y] 155)).drew):=jH (HBW.out.alloc HBW.out.size _).drew
     have hlen:(l0 ++ [(z1,z2)]).length < 1000000000:=by rw [HEL.out]; omega
     have HLEN:=jH hlen
     clear hlen HG
     go_wp2_with fail
     go_big_region
     go_wp2_with (at_builtin; refine app_m rfl (.tmp 48) (.tmp 50) rfl w2.heap.size _ (l0 ++ [(z1,z2)]) t y rfl HO3.out _ rfl HN3.out HLEN.out HB3.out.size ?_)
     intro v4 w4 ho4 hg4
     have HB4:=jH (grown_own HB3.out HB3.out.size HO3.out hg4)
     have HO4:Hid (MOwn w4 w2.heap.size v4 (l0 ++ [(z1,z2),(t,y)])):=jH (by simpa using ho4)
     clear ho4 hg4
     go_wp2
     go_roundg (gk - 1)
     case measure => omega
     case rel => exact ⟨q + 1,by omega,by go_num,jH (by rw [HGX.out]; exact HO4.out),HB4⟩
  ·have HE:Hid (S.take q = S):=jH (List.take_of_length_le (by rw [HSN.out]; omega))
   go_wp2
   go_ret
   refine ⟨_,rfl,jH ?_,jH (HB2.out.trans (HBq.out.mono (Nat.le_trans hB HB2.out.size)))⟩
   have:=HO.out
   rw [HE.out,HSP.out] at this
   exact this.mono (Nat.le_trans hB HB2.out.size)
open Go.RowKit Go.Sort Gr Wd Ws Fx Rk Lb
theorem combq_2 (_st _so _dm _ep a b y:Int) (hy:Hid (comb 2 a b = y)) (W:World):Calls Tryz.prog 169 #[.agg #[],.int .i64 a,.int .i64 b] W fun e w' => e = .returned (.int .i64 y)/\Below W.heap.size W w':=by
 rw [<- hy.out]
 exact comb_least a b W
theorem ahead_2 (st so dm ep:Int) (w:World):(nilAhead 329 100 (.agg #[.int .u8 2,.int .i64 st,.int .i64 so,.int .i64 dm,.int .i64 ep]) "treadwheel/algos.combine").run Tryz.prog w = .ok (some false) w:=by kernel_rfl
theorem one_none_2 (st so dm ep:Int) (w:World) (B:Nat) :
 Calls Tryz.prog 90 #[.iface 100 (.agg #[.int .u8 2,.int .i64 st,.int .i64 so,.int .i64 dm,.int .i64 ep]),.slice none 0 0] w fun e w' => ∃ r,e = .returned r/\Hid (MOwn w' B r [])/\Hid (Below B w w'):=by
 go_enter Tryz.func90,Tryz.ntmps90
 go_wp2_with fail
 refine (sortStable_none _).mono ?_
 rintro e w2 ⟨rfl,rfl⟩
 go_wp2_with fail
 go_loopg [5,13] 0 (fun gk v i wr => v = .slice none 0 0/\i = .int .i64 0/\gk = 0/\wr = w)
 case atStart => exact ⟨rfl,rfl,rfl,rfl⟩
 case round =>
  obtain ⟨rfl,rfl,rfl,rfl⟩:=hrel
  go_wp2
  go_ret
  exact ⟨_,rfl,jH (MOwn.none_ _ _),jH (Below.refl _ _)⟩
set_option maxRecDepth 100000 in
set_option maxHeartbeats 4000000 in
theorem one_some_2 (st so dm ep:Int) (B g n c:Nat) (L:List Ms) (w:World) (hO:Hid (MOwn w B (.slice (some ⟨g,0,none⟩) n c) L)) (hL:Hid (L.length = n)) (hn:n <= 100000) (hBg:B <= g) (hB:B <= w.heap.size) :
 Calls Tryz.prog 90 #[.iface 100 (.agg #[.int .u8 2,.int .i64 st,.int .i64 so,.int .i64 dm,.int .i64 ep]),.slice (some ⟨g,0,none⟩) n c] w fun e w' => ∃ r,e = .returned r/\Hid (MOwn w' B r (putM 2 [] L))/\Hid (Below B w w'):=by
 have mixed:=mixedO
 obtain ⟨N,hN⟩:=MOwn.row hL.out hO.out
 have HN:=jH hN
 have HZ:Hid (L.toArray.size = n):=jH (by simp [hL.out])
 clear hN
 go_enter Tryz.func90,Tryz.ntmps90
 go_wp2_with fail
 refine (sortStable_any w g N n c L.toArray HN HZ (by omega)).mono ?_
 rintro e w2 ⟨rfl,d,hd⟩
 have HB2:Hid (Below B w w2):=jH (Below.grown (Below.refl _ w) hd.out.1.grown hB fun j e => by cases e; exact hBg)
 obtain ⟨hs1,hs2⟩:=sorted_list hL.out hd.out.2.1 hd.out.2.2
 obtain ⟨S,hS⟩:∃ S,S = d.toList:=⟨_,rfl⟩
 have HAT:Hid (MAt w2 (some ⟨g,0,none⟩) S):=jH (by rw [hS]; exact hd.out.1.mat)
 rw [<- hS] at hs1 hs2
 have HSN:=jH hs1; have HSP:=jH hs2
 clear hd hs1 hs2 hS HN HZ
 go_wp2_with fail
 go_loopg [5,13] n (fun gk v i wr => OeRel w2 2 S n gk v i wr)
 case atStart => exact ⟨0,by omega,rfl,jH (MOwn.none_ _ _),jH (Below.refl _ _)⟩
 case round =>
  obtain ⟨q,hq,rfl,HO,HBq⟩:=hrel
  by_cases hlt:q < n
  ·obtain ⟨⟨t,y⟩,hu⟩:=at_lt S q (by rw [HSN.out]; exact hlt)
   obtain ⟨bk,o,he,c0,c1⟩:=(HAT.out.below HBq.out) q _ hu
   cases he
   rw [Nat.zero_add] at c0 c1
   have HG:Hid (grp 2 [] (S.take (q + 1)) = stp 2 (grp 2 [] (S.take q)) (t,y)):=jH (by rw [take_at hu,grp_snoc])
   obtain ⟨acc,hacc⟩:∃ acc,acc = grp 2 [] (S.take q):=⟨_,rfl⟩
   have hal:acc.length <= 100000:=by
    rw [hacc]
    have h1:=grp_length 2 (S.take q) []
    have h2:(S.take q).length <= q:=by rw [List.length_take]; omega
    simp at h1; omega
   rw [<- hacc] at HO HG
   clear hu hacc
   obtain ⟨W2,hW2⟩:∃ W2,W2 = wr.alloc (.cells #[.int .i64 t,.int .i64 y] 155):=⟨_,rfl⟩
   have hb2:Below wr.heap.size wr W2:=by rw [hW2]; exact (Below.refl _ wr).alloc (Nat.le_refl _) _
   have HE2:Hid (W2.heap[wr.heap.size]? = some (.cells #[.int .i64 t,.int .i64 y] 155 (0,0))):=jH (by rw [hW2]; exact msg_new wr t y)
   have HO2:=jH (HO.out.below hb2); have HBW:=jS HBq hb2
   obtain ⟨eb,heb⟩:∃ eb,eb = wr.heap.size:=⟨_,rfl⟩
   rw [<- heb] at HE2
   obtain ⟨A2,c2,rfl,hat,hc2,hm2,hA2⟩:=HO2.out.room
   go_upto_region 6 with fail
   rw [<- hW2,<- heb]
   clear c0 c1 hW2 heb hb2 HO HBq hc2 hm2
   obtain ⟨E,hE⟩:∃ E,E = acc.length:=⟨_,rfl⟩
   rw [<- hE] at hal HO2 ⊢
   by_cases hnil:acc = []
   ·subst hnil
    have hE0:E = 0:=hE
    subst hE0
    clear hE hal
    have HGX:Hid (grp 2 [] (S.take (q + 1)) = [(t,y)]):=HG
    have HO3:Hid (MOwn (W2.alloc (.cells #[.int .i64 t,.int .i64 y] 155)).drew w2.heap.size (.slice A2 0 c2) []):=jH (HO2.out.alloc _)
    have HN3:Hid ((W2.alloc (.cells #[.int .i64 t,.int .i64 y] 155)).drew.heap[W2.heap.size]? = some (.cells #[.int .i64 t,.int .i64 y] 155 (0,0))):=jH (msg_new W2 t y)
    have HB3:Hid (Below w2.heap.size w2 (W2.alloc (.cells #[.int .i64 t,.int .i64 y] 155)).drew):=jH (HBW.out.alloc HBW.out.size _).drew
    obtain ⟨p0,p1,p2⟩:=msg_cells HE2.out
    have hlen:([]:List Ms).length < 1000000000:=by decide
    go_wp2_with fail
    go_big_region
    go_wp2_with (at_builtin; refine app_m rfl (.tmp 48) (.tmp 50) rfl w2.heap.size _ [] t y rfl HO3.out _ rfl HN3.out hlen HB3.out.size ?_)
    intro v4 w4 ho4 hg4
    have HB4:=jH (grown_own HB3.out HB3.out.size HO3.out hg4)
    have HO4:Hid (MOwn w4 w2.heap.size v4 [(t,y)]):=jH ho4
    clear ho4 hg4
    go_wp2
    go_roundg (gk - 1)
    case measure => omega
    case rel => exact ⟨q + 1,by omega,by go_num,jH (by rw [HGX.out]; exact HO4.out),HB4⟩
   ·obtain ⟨l0,⟨z1,z2⟩,hz⟩:=last_of acc hnil
    subst hz
    obtain ⟨p,hp⟩:∃ p,p = l0.length:=⟨_,rfl⟩
    have hpE:p + 1 = E:=by rw [hE,hp]; simp
    obtain ⟨bk,o,hA3,d0,d1⟩:=hat p (z1,z2) (by rw [hp,List.getElem?_append_right (Nat.le_refl _),Nat.sub_self]; rfl)
    rcases hA2 with ⟨hA2,_⟩ | ⟨gX,hA2,hgE,_,hfz⟩
    ·rw [hA2] at hA3; cases hA3
    rw [hA2] at hA3
    cases hA3
    subst hA2
    rw [Nat.zero_add] at d0 d1
    have HP:=jH hp
    subst hpE
    have HEL:Hid ((l0 ++ [(z1,z2)]).length = p + 1):=jH hE.symm
    have HFZ:=jH hfz
    clear hp hE hnil hfz hat
    obtain ⟨p0,p1,p2⟩:=msg_cells HE2.out
    by_cases hzt:z1 = t
    ·subst hzt
     obtain ⟨yy,hyy⟩:∃ yy,comb 2 z2 y = yy:=⟨_,rfl⟩
     have HYY:=jH hyy
     have HGX:Hid (grp 2 [] (S.take (q + 1)) = l0 ++ [(z1,yy)]):=jH (by rw [HG.out,stp_snoc,if_pos rfl,hyy])
     clear hyy HG
     go_wp2_with fail
     go_big_region
     go_wp2_with fail
     obtain ⟨W3,hW3⟩:∃ W3,W3 = W2.drew:=⟨_,rfl⟩
     have HO3:Hid (MOwn W3 w2.heap.size (.slice (some ⟨bk,0,none⟩) (p + 1) c2) (l0 ++ [(z1,z2)])):=jH (by rw [hW3]; exact HO2.out)
     have HB3:Hid (Below w2.heap.size w2 W3):=jH (by rw [hW3]; exact HBW.out.drew)
     have x0:W3.cell? ⟨bk,p * 2 + 1,none⟩ = some (.int .i64 z2):=by rw [hW3]; exact d1
     have x1:W3.cell? ⟨eb,1,none⟩ = some (.int .i64 y):=by rw [hW3]; exact p1
     rw [<- hW3]
     have y0:=cell_regrown x0; have y1:=cell_regrown x1
     have HC:=jH (regr fun W (_:Below W3.heap.size W3 W) => combq_2 st so dm ep z2 y yy HYY W)
     have hlk:=look_combine_2 st so dm ep
     have hah:=ahead_2 st so dm ep
     clear d0 d1 p0 p1 x0 x1 hW3 HO2 HBW HE2
     refine Tl.region_tail_below 14 mixed (by kernel_rfl) ?_
     simp only [List.take_succ_cons,List.take_zero,List.drop_succ_cons,List.drop_zero]
     repeat (go_big_quiet_step ((with_reducible exact HC.out _ _)))
     refine wpQuiet_nil ?_
     intro _ hw'
     obtain ⟨⟨dq,osq⟩,hw''⟩:=hw'
     subst hw''
     obtain ⟨W4,hW4⟩:∃ W4,W4 = Sort.grow (redrawn W3 dq) osq:=⟨_,rfl⟩
     have hb4:Below W3.heap.size W3 W4:=by rw [hW4]; exact below_regrown W3 dq osq
     rw [<- hW4]
     have HO4:=jH (HO3.out.below hb4)
     have HB4:=jS HB3 hb4
     have u0:W4.cell? ⟨bk,p * 2 + 1,none⟩ = some (.int .i64 z2):=by rw [hW4]; exact y0 _ _
     have u1:=mown_free HEL.out HO4.out
     have HO5:Hid (MOwn (W4.setCell ⟨bk,p * 2 + 1,none⟩ (.int .i64 yy)) w2.heap.size (.slice (some ⟨bk,0,none⟩) (p + 1) c2) (l0 ++ [(z1,yy)])):=jH (by have h:=MOwn.put_last HEL.out HO4.out yy; rw [<- HP.out] at h; exact h)
     have HB5:Hid (Below w2.heap.size w2 (W4.setCell ⟨bk,p * 2 + 1,none⟩ (.int .i64 yy))):=jH (HB4.out.setCell (p:=⟨bk,p * 2 + 1,none⟩) hgE _)
     clear y0 y1 hW4 hb4 HO3 HB3 hlk hah HC
     go_wp2
     go_roundg (gk - 1)
     case measure => omega
     case rel => exact ⟨q + 1,by omega,by go_num,jH (by rw [HGX.out]; exact HO5.out),HB5⟩
    ·have HGX:Hid (grp 2 [] (S.take (q + 1)) = l0 ++ [(z1,z2),(t,y)]):=jH (by rw [HG.out,stp_snoc,if_neg hzt])
     have HO3:Hid (MOwn (W2.alloc (.cells #[.int .i64 t,.int .i64 y] 155)).drew w2.heap.size (.slice (some ⟨bk,0,none⟩) (p + 1) c2) (l0 ++ [(z1,z2)])):=jH (HO2.out.alloc _)
     have HN3:Hid ((W2.alloc (.cells #[.int .i64 t,.int .i64 y] 155)).drew.heap[W2.heap.size]? = some (.cells #[.int .i64 t,.int .i64 y] 155 (0,0))):=jH (msg_new W2 t y)
     have HB3:Hid (Below w2.heap.size w2 (W2.alloc (.cells #[.int .i64 t,.int .i64 y] 155)).drew):=jH (HBW.out.alloc HBW.out.size _).drew
     have hlen:(l0 ++ [(z1,z2)]).length < 1000000000:=by rw [HEL.out]; omega
     have HLEN:=jH hlen
     clear hlen HG
     go_wp2_with fail
     go_big_region
     go_wp2_with (at_builtin; refine app_m rfl (.tmp 48) (.tmp 50) rfl w2.heap.size _ (l0 ++ [(z1,z2)]) t y rfl HO3.out _ rfl HN3.out HLEN.out HB3.out.size ?_)
     intro v4 w4 ho4 hg4
     have HB4:=jH (grown_own HB3.out HB3.out.size HO3.out hg4)
     have HO4:Hid (MOwn w4 w2.heap.size v4 (l0 ++ [(z1,z2),(t,y)])):=jH (by simpa using ho4)
     clear ho4 hg4
     go_wp2
     go_roundg (gk - 1)
     case measure => omega
     case rel => exact ⟨q + 1,by omega,by go_num,jH (by rw [HGX.out]; exact HO4.out),HB4⟩
  ·have HE:Hid (S.take q = S):=jH (List.take_of_length_le (by rw [HSN.out]; omega))
   go_wp2
   go_ret
   refine ⟨_,rfl,jH ?_,jH (HB2.out.trans (HBq.out.mono (Nat.le_trans hB HB2.out.size)))⟩
   have:=HO.out
   rw [HE.out,HSP.out] at this
   exact this.mono (Nat.le_trans hB HB2.out.size)
open Go.RowKit Go.Sort Gr Wd Ws Fx Rk Lb
theorem combq_3 (_st _so _dm _ep a b y:Int) (hy:Hid (comb 3 a b = y)) (W:World):Calls Tryz.prog 169 #[.agg #[],.int .i64 a,.int .i64 b] W fun e w' => e = .returned (.int .i64 y)/\Below W.heap.size W w':=by
 rw [<- hy.out]
 exact comb_least a b W
theorem ahead_3 (st so dm ep:Int) (w:World):(nilAhead 329 101 (.agg #[.int .u8 3,.int .i64 st,.int .i64 so,.int .i64 dm,.int .i64 ep]) "treadwheel/algos.combine").run Tryz.prog w = .ok (some false) w:=by kernel_rfl
theorem one_none_3 (st so dm ep:Int) (w:World) (B:Nat) :
 Calls Tryz.prog 90 #[.iface 101 (.agg #[.int .u8 3,.int .i64 st,.int .i64 so,.int .i64 dm,.int .i64 ep]),.slice none 0 0] w fun e w' => ∃ r,e = .returned r/\Hid (MOwn w' B r [])/\Hid (Below B w w'):=by
 go_enter Tryz.func90,Tryz.ntmps90
 go_wp2_with fail
 refine (sortStable_none _).mono ?_
 rintro e w2 ⟨rfl,rfl⟩
 go_wp2_with fail
 go_loopg [5,13] 0 (fun gk v i wr => v = .slice none 0 0/\i = .int .i64 0/\gk = 0/\wr = w)
 case atStart => exact ⟨rfl,rfl,rfl,rfl⟩
 case round =>
  obtain ⟨rfl,rfl,rfl,rfl⟩:=hrel
  go_wp2
  go_ret
  exact ⟨_,rfl,jH (MOwn.none_ _ _),jH (Below.refl _ _)⟩
set_option maxRecDepth 100000 in
set_option maxHeartbeats 4000000 in
theorem one_some_3 (st so dm ep:Int) (B g n c:Nat) (L:List Ms) (w:World) (hO:Hid (MOwn w B (.slice (some ⟨g,0,none⟩) n c) L)) (hL:Hid (L.length = n)) (hn:n <= 100000) (hBg:B <= g) (hB:B <= w.heap.size) :
 Calls Tryz.prog 90 #[.iface 101 (.agg #[.int .u8 3,.int .i64 st,.int .i64 so,.int .i64 dm,.int .i64 ep]),.slice (some ⟨g,0,none⟩) n c] w fun e w' => ∃ r,e = .returned r/\Hid (MOwn w' B r (putM 3 [] L))/\Hid (Below B w w'):=by
 have mixed:=mixedO
 obtain ⟨N,hN⟩:=MOwn.row hL.out hO.out
 have HN:=jH hN
 have HZ:Hid (L.toArray.size = n):=jH (by simp [hL.out])
 clear hN
 go_enter Tryz.func90,Tryz.ntmps90
 go_wp2_with fail
 refine (sortStable_any w g N n c L.toArray HN HZ (by omega)).mono ?_
 rintro e w2 ⟨rfl,d,hd⟩
 have HB2:Hid (Below B w w2):=jH (Below.grown (Below.refl _ w) hd.out.1.grown hB fun j e => by cases e; exact hBg)
 obtain ⟨hs1,hs2⟩:=sorted_list hL.out hd.out.2.1 hd.out.2.2
 obtain ⟨S,hS⟩:∃ S,S = d.toList:=⟨_,rfl⟩
 have HAT:Hid (MAt w2 (some ⟨g,0,none⟩) S):=jH (by rw [hS]; exact hd.out.1.mat)
 rw [<- hS] at hs1 hs2
 have HSN:=jH hs1; have HSP:=jH hs2
 clear hd hs1 hs2 hS HN HZ
 go_wp2_with fail
 go_loopg [5,13] n (fun gk v i wr => OeRel w2 3 S n gk v i wr)
 case atStart => exact ⟨0,by omega,rfl,jH (MOwn.none_ _ _),jH (Below.refl _ _)⟩
 case round =>
  obtain ⟨q,hq,rfl,HO,HBq⟩:=hrel
  by_cases hlt:q < n
  ·obtain ⟨⟨t,y⟩,hu⟩:=at_lt S q (by rw [HSN.out]; exact hlt)
   obtain ⟨bk,o,he,c0,c1⟩:=(HAT.out.below HBq.out) q _ hu
   cases he
   rw [Nat.zero_add] at c0 c1
   have HG:Hid (grp 3 [] (S.take (q + 1)) = stp 3 (grp 3 [] (S.take q)) (t,y)):=jH (by rw [take_at hu,grp_snoc])
   obtain ⟨acc,hacc⟩:∃ acc,acc = grp 3 [] (S.take q):=⟨_,rfl⟩
   have hal:acc.length <= 100000:=by
    rw [hacc]
    have h1:=grp_length 3 (S.take q) []
    have h2:(S.take q).length <= q:=by rw [List.length_take]; omega
    simp at h1; omega
   rw [<- hacc] at HO HG
   clear hu hacc
   obtain ⟨W2,hW2⟩:∃ W2,W2 = wr.alloc (.cells #[.int .i64 t,.int .i64 y] 155):=⟨_,rfl⟩
   have hb2:Below wr.heap.size wr W2:=by rw [hW2]; exact (Below.refl _ wr).alloc (Nat.le_refl _) _
   have HE2:Hid (W2.heap[wr.heap.size]? = some (.cells #[.int .i64 t,.int .i64 y] 155 (0,0))):=jH (by rw [hW2]; exact msg_new wr t y)
   have HO2:=jH (HO.out.below hb2); have HBW:=jS HBq hb2
   obtain ⟨eb,heb⟩:∃ eb,eb = wr.heap.size:=⟨_,rfl⟩
   rw [<- heb] at HE2
   obtain ⟨A2,c2,rfl,hat,hc2,hm2,hA2⟩:=HO2.out.room
   go_upto_region 6 with fail
   rw [<- hW2,<- heb]
   clear c0 c1 hW2 heb hb2 HO HBq hc2 hm2
   obtain ⟨E,hE⟩:∃ E,E = acc.length:=⟨_,rfl⟩
   rw [<- hE] at hal HO2 ⊢
   by_cases hnil:acc = []
   ·subst hnil
    have hE0:E = 0:=hE
    subst hE0
    clear hE hal
    have HGX:Hid (grp 3 [] (S.take (q + 1)) = [(t,y)]):=HG
    have HO3:Hid (MOwn (W2.alloc (.cells #[.int .i64 t,.int .i64 y] 155)).drew w2.heap.size (.slice A2 0 c2) []):=jH (HO2.out.alloc _)
    have HN3:Hid ((W2.alloc (.cells #[.int .i64 t,.int .i64 y] 155)).drew.heap[W2.heap.size]? = some (.cells #[.int .i64 t,.int .i64 y] 155 (0,0))):=jH (msg_new W2 t y)
    have HB3:Hid (Below w2.heap.size w2 (W2.alloc (.cells #[.int .i64 t,.int .i64 y] 155)).drew):=jH (HBW.out.alloc HBW.out.size _).drew
    obtain ⟨p0,p1,p2⟩:=msg_cells HE2.out
    have hlen:([]:List Ms).length < 1000000000:=by decide
    go_wp2_with fail
    go_big_region
    go_wp2_with (at_builtin; refine app_m rfl (.tmp 48) (.tmp 50) rfl w2.heap.size _ [] t y rfl HO3.out _ rfl HN3.out hlen HB3.out.size ?_)
    intro v4 w4 ho4 hg4
    have HB4:=jH (grown_own HB3.out HB3.out.size HO3.out hg4)
    have HO4:Hid (MOwn w4 w2.heap.size v4 [(t,y)]):=jH ho4
    clear ho4 hg4
    go_wp2
    go_roundg (gk - 1)
    case measure => omega
    case rel => exact ⟨q + 1,by omega,by go_num,jH (by rw [HGX.out]; exact HO4.out),HB4⟩
   ·obtain ⟨l0,⟨z1,z2⟩,hz⟩:=last_of acc hnil
    subst hz
    obtain ⟨p,hp⟩:∃ p,p = l0.length:=⟨_,rfl⟩
    have hpE:p + 1 = E:=by rw [hE,hp]; simp
    obtain ⟨bk,o,hA3,d0,d1⟩:=hat p (z1,z2) (by rw [hp,List.getElem?_append_right (Nat.le_refl _),Nat.sub_self]; rfl)
    rcases hA2 with ⟨hA2,_⟩ | ⟨gX,hA2,hgE,_,hfz⟩
    ·rw [hA2] at hA3; cases hA3
    rw [hA2] at hA3
    cases hA3
    subst hA2
    rw [Nat.zero_add] at d0 d1
    have HP:=jH hp
    subst hpE
    have HEL:Hid ((l0 ++ [(z1,z2)]).length = p + 1):=jH hE.symm
    have HFZ:=jH hfz
    clear hp hE hnil hfz hat
    obtain ⟨p0,p1,p2⟩:=msg_cells HE2.out
    by_cases hzt:z1 = t
    ·subst hzt
     obtain ⟨yy,hyy⟩:∃ yy,comb 3 z2 y = yy:=⟨_,rfl⟩
     have HYY:=jH hyy
     have HGX:Hid (grp 3 [] (S.take (q + 1)) = l0 ++ [(z1,yy)]):=jH (by rw [HG.out,stp_snoc,if_pos rfl,hyy])
     clear hyy HG
     go_wp2_with fail
     go_big_region
     go_wp2_with fail
     obtain ⟨W3,hW3⟩:∃ W3,W3 = W2.drew:=⟨_,rfl⟩
     have HO3:Hid (MOwn W3 w2.heap.size (.slice (some ⟨bk,0,none⟩) (p + 1) c2) (l0 ++ [(z1,z2)])):=jH (by rw [hW3]; exact HO2.out)
     have HB3:Hid (Below w2.heap.size w2 W3):=jH (by rw [hW3]; exact HBW.out.drew)
     have x0:W3.cell? ⟨bk,p * 2 + 1,none⟩ = some (.int .i64 z2):=by rw [hW3]; exact d1
     have x1:W3.cell? ⟨eb,1,none⟩ = some (.int .i64 y):=by rw [hW3]; exact p1
     rw [<- hW3]
     have y0:=cell_regrown x0; have y1:=cell_regrown x1
     have HC:=jH (regr fun W (_:Below W3.heap.size W3 W) => combq_3 st so dm ep z2 y yy HYY W)
     have hlk:=look_combine_3 st so dm ep
     have hah:=ahead_3 st so dm ep
     clear d0 d1 p0 p1 x0 x1 hW3 HO2 HBW HE2
     refine Tl.region_tail_below 14 mixed (by kernel_rfl) ?_
     simp only [List.take_succ_cons,List.take_zero,List.drop_succ_cons,List.drop_zero]
     repeat (go_big_quiet_step ((with_reducible exact HC.out _ _)))
     refine wpQuiet_nil ?_
     intro _ hw'
     obtain ⟨⟨dq,osq⟩,hw''⟩:=hw'
     subst hw''
     obtain ⟨W4,hW4⟩:∃ W4,W4 = Sort.grow (redrawn W3 dq) osq:=⟨_,rfl⟩
     have hb4:Below W3.heap.size W3 W4:=by rw [hW4]; exact below_regrown W3 dq osq
     rw [<- hW4]
     have HO4:=jH (HO3.out.below hb4)
     have HB4:=jS HB3 hb4
     have u0:W4.cell? ⟨bk,p * 2 + 1,none⟩ = some (.int .i64 z2):=by rw [hW4]; exact y0 _ _
     have u1:=mown_free HEL.out HO4.out
     have HO5:Hid (MOwn (W4.setCell ⟨bk,p * 2 + 1,none⟩ (.int .i64 yy)) w2.heap.size (.slice (some ⟨bk,0,none⟩) (p + 1) c2) (l0 ++ [(z1,yy)])):=jH (by have h:=MOwn.put_last HEL.out HO4.out yy; rw [<- HP.out] at h; exact h)
     have HB5:Hid (Below w2.heap.size w2 (W4.setCell ⟨bk,p * 2 + 1,none⟩ (.int .i64 yy))):=jH (HB4.out.setCell (p:=⟨bk,p * 2 + 1,none⟩) hgE _)
     clear y0 y1 hW4 hb4 HO3 HB3 hlk hah HC
     go_wp2
     go_roundg (gk - 1)
     case measure => omega
     case rel => exact ⟨q + 1,by omega,by go_num,jH (by rw [HGX.out]; exact HO5.out),HB5⟩
    ·have HGX:Hid (grp 3 [] (S.take (q + 1)) = l0 ++ [(z1,z2),(t,y)]):=jH (by rw [HG.out,stp_snoc,if_neg hzt])
     have HO3:Hid (MOwn (W2.alloc (.cells #[.int .i64 t,.int .i64 y] 155)).drew w2.heap.size (.slice (some ⟨bk,0,none⟩) (p + 1) c2) (l0 ++ [(z1,z2)])):=jH (HO2.out.alloc _)
     have HN3:Hid ((W2.alloc (.cells #[.int .i64 t,.int .i64 y] 155)).drew.heap[W2.heap.size]? = some (.cells #[.int .i64 t,.int .i64 y] 155 (0,0))):=jH (msg_new W2 t y)
     have HB3:Hid (Below w2.heap.size w2 (W2.alloc (.cells #[.int .i64 t,.int .i64 y] 155)).drew):=jH (HBW.out.alloc HBW.out.size _).drew
     have hlen:(l0 ++ [(z1,z2)]).length < 1000000000:=by rw [HEL.out]; omega
     have HLEN:=jH hlen
     clear hlen HG
     go_wp2_with fail
     go_big_region
     go_wp2_with (at_builtin; refine app_m rfl (.tmp 48) (.tmp 50) rfl w2.heap.size _ (l0 ++ [(z1,z2)]) t y rfl HO3.out _ rfl HN3.out HLEN.out HB3.out.size ?_)
     intro v4 w4 ho4 hg4
     have HB4:=jH (grown_own HB3.out HB3.out.size HO3.out hg4)
     have HO4:Hid (MOwn w4 w2.heap.size v4 (l0 ++ [(z1,z2),(t,y)])):=jH (by simpa using ho4)
     clear ho4 hg4
     go_wp2
     go_roundg (gk - 1)
     case measure => omega
     case rel => exact ⟨q + 1,by omega,by go_num,jH (by rw [HGX.out]; exact HO4.out),HB4⟩
  ·have HE:Hid (S.take q = S):=jH (List.take_of_length_le (by rw [HSN.out]; omega))
   go_wp2
   go_ret
   refine ⟨_,rfl,jH ?_,jH (HB2.out.trans (HBq.out.mono (Nat.le_trans hB HB2.out.size)))⟩
   have:=HO.out
   rw [HE.out,HSP.out] at this
   exact this.mono (Nat.le_trans hB HB2.out.size)
end Go.Proofs.YtdcaekmgfcpbmaaGreat.Al
