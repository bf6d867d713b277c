/-
  What is proved here: a contract of what keeps a graph's edges by vertices. Conditions: at most 512 vertices, at most 1000 edges.
-/
import Derived.Test.YtdcaekmgfcpbmaaGreatQdSqRowx
import Derived.Test.YtdcaekmgfcpbmaaGreatQdTlIn
import Derived.Deep.RegionHeld3
namespace Go.Proofs.YtdcaekmgfcpbmaaGreat.Sq
open Go.RowKit Gr Wd Ws Fx Rk Lb Al In
def egs (V:Nat) (L:List Ed):List Eg:=(List.range V).map fun (v:Nat) => (outE L (v:Int),bckE L (v:Int))
theorem egs_len (V:Nat) (L:List Ed):(egs V L).length = V:=by simp [egs]
theorem egs_at {V:Nat} {L:List Ed} {v:Nat} (h:v < V):(egs V L)[v]? = some (outE L (v:Int),bckE L (v:Int)):=by
 unfold egs; rw [List.getElem?_map,List.getElem?_range h]; rfl
theorem egs_next {V:Nat} {L:List Ed} {v:Nat} (h:v < V):(egs V L).take v ++ [(outE L (v:Int),bckE L (v:Int))] = (egs V L).take (v + 1):=(take_at (egs_at h)).symm
structure CoH (w wr:World) (b0 b2 b3:Nat) (k st so dm ep:Int) (V:Int) (A:Option Addr) (n c:Nat) (Ls:List Eg) (v u:Value):Prop where
 below:Below w.heap.size w wr
 gb:wr.heap[b0]? = some (.cells #[.int .i64 V,.slice A n c] 24 (0,0))
 rb:wr.heap[b2]? = some (.cells #[.int .u8 0,.int .i64 0,.int .i64 0,.int .i64 0,.int .i64 0,.slice none 0 0] 71 (0,0))
 cb:wr.heap[b3]? = some (.cells #[.int .u8 k,.int .i64 st,.int .i64 so,.int .i64 dm,.int .i64 ep,v] 71 (0,0))
 own:WOwn wr (b3 + 1) u Ls
section
variable {w wr w':World} {b0 b2 b3 n c:Nat} {k st so dm ep V:Int} {A:Option Addr} {Ls Ls':List Eg} {v u u':Value}
theorem CoH.step (h:CoH w wr b0 b2 b3 k st so dm ep V A n c Ls v u) (hb:Below wr.heap.size wr w'):CoH w w' b0 b2 b3 k st so dm ep V A n c Ls v u :=
 ⟨step_below h.below h.below.size hb,keep h.gb hb,keep h.rb hb,keep h.cb hb,h.own.below hb⟩
theorem CoH.grown (h:CoH w wr b0 b2 b3 k st so dm ep V A n c Ls v u) (hg:wr.grownBy w' u.ownBlock) (hl:w.heap.size <= b3 + 1) (ho:WOwn w' (b3 + 1) u' Ls'):CoH w w' b0 b2 b3 k st so dm ep V A n c Ls' v u':=by
 obtain ⟨xs,h1,_⟩:=h.own
 exact ⟨h.below.trans (own_grown h1 hg hl h.below.size),box_other h.gb h1 (by decide) hg,box_other h.rb h1 (by decide) hg,box_other h.cb h1 (by decide) hg,ho⟩
theorem CoH.put (h:CoH w wr b0 b2 b3 k st so dm ep V A n c Ls v u) (hl:w.heap.size <= b3) (h0:b0 ≠ b3) (h2:b2 ≠ b3):CoH w (wr.setCell ⟨b3,5,none⟩ u) b0 b2 b3 k st so dm ep V A n c Ls u u :=
 ⟨h.below.setCell (p:=⟨b3,5,none⟩) hl u,(set_other _ _ _ _ _ h0).trans h.gb,(set_other _ _ _ _ _ h2).trans h.rb,set_heap (i:=5) h.cb u,h.own.moved h.cb (by decide) (by decide) (fun k hk => set_other _ _ _ _ _ hk)⟩
end
def CoRel (w:World) (b0 b2 b3:Nat) (k st so dm ep:Int) (V:Nat) (A:Option Addr) (n c:Nat) (L:List Ed) (gk:Nat) (i:Value) (wr:World):Prop :=
 ∃ (q:Nat) (v:Value),q + gk = V/\i = .int .i64 (q:Int)/\Hid (CoH w wr b0 b2 b3 k st so dm ep (V:Int) A n c ((egs V L).take q) v v)
theorem own_mono_w {w:World} {B B':Nat} {v:Value} {Ls:List Eg} (h:WOwn w B v Ls) (hb:B' <= B):WOwn w B' v Ls:=by
 obtain ⟨xs,h1,h2⟩:=h
 exact ⟨xs,own_mono h1 hb,h2.1,fun k L hk => by obtain ⟨x,y,e1,e2,e3,e4⟩:=h2.2 k L hk; exact ⟨x,y,e1,e2,own_mono e3 hb,own_mono e4 hb⟩⟩
theorem two {w:World} {b:Nat} {T:TypeId} {a0 a1:Value} (h:w.heap[b]? = some (.cells #[a0,a1] T (0,0))):w.cell? ⟨b,0,none⟩ = some a0/\w.cell? ⟨b,1,none⟩ = some a1/\b < w.heap.size :=
 ⟨by rw [Lib.cell_of_heap h]; rfl,by rw [Lib.cell_of_heap h]; rfl,lt_of_block h⟩
theorem new_w (w:World) (x y:Value):(w.alloc (.cells #[x,y] 103)).heap[w.heap.size]? = some (.cells #[x,y] 103 (0,0)):=heap_alloc_new w _
set_option maxRecDepth 100000 in
set_option maxHeartbeats 8000000 in
theorem course_any (k st so dm ep:Int) (V:Nat) (A:Option Addr) (c n:Nat) (L:List Ed) (w:World) (hL:EAt w A L) (hn:n = L.length) (hm:L.length <= 1000) (hV:V <= 512) :
 Calls Tryz.prog 35 #[.agg #[.int .i64 (V:Int),.slice A n c],.agg #[.int .u8 k,.int .i64 st,.int .i64 so,.int .i64 dm,.int .i64 ep]] w fun e w' => ∃ v,e = .returned (.agg #[.int .u8 k,.int .i64 st,.int .i64 so,.int .i64 dm,.int .i64 ep,v])/\Hid (WOwn w' w.heap.size v (egs V L))/\Hid (Below w.heap.size w w'):=by
 have mixed:=mixedI
 have HL:=jH hL; have HN:=jH hn
 clear hL hn
 obtain ⟨W4,hW4⟩:∃ W4,W4 = (((w.alloc (.cells #[.int .i64 (V:Int),.slice A n c] 24)).alloc (.cells #[.int .u8 k,.int .i64 st,.int .i64 so,.int .i64 dm,.int .i64 ep] 40)).alloc (.cells #[.int .u8 0,.int .i64 0,.int .i64 0,.int .i64 0,.int .i64 0,.slice none 0 0] 71)).alloc (.cells #[.int .u8 k,.int .i64 st,.int .i64 so,.int .i64 dm,.int .i64 ep,.slice none 0 0] 71):=⟨_,rfl⟩
 have hal:=al4 w (.cells #[.int .i64 (V:Int),.slice A n c] 24) (.cells #[.int .u8 k,.int .i64 st,.int .i64 so,.int .i64 dm,.int .i64 ep] 40) (.cells #[.int .u8 0,.int .i64 0,.int .i64 0,.int .i64 0,.int .i64 0,.slice none 0 0] 71) (.cells #[.int .u8 k,.int .i64 st,.int .i64 so,.int .i64 dm,.int .i64 ep,.slice none 0 0] 71)
 rw [<- hW4] at hal
 obtain ⟨b0,e0⟩:∃ b0,b0 = w.heap.size:=⟨_,rfl⟩
 obtain ⟨b2,e2⟩:∃ b2,b2 = w.heap.size + 1 + 1:=⟨_,rfl⟩
 obtain ⟨b3,e3⟩:∃ b3,b3 = w.heap.size + 1 + 1 + 1:=⟨_,rfl⟩
 have HLO:Hid (w.heap.size <= b2/\w.heap.size <= b3/\b0 ≠ b2/\b0 ≠ b3/\b2 ≠ b3/\b2 < b3):=jH (by omega)
 have HH0:Hid (CoH w W4 b0 b2 b3 k st so dm ep (V:Int) A n c ((egs V L).take 0) (.slice none 0 0) (.slice none 0 0)):=jH (by
  rw [e0,e2,e3]; exact ⟨hal.2.2.2.2,hal.1,hal.2.2.1,hal.2.2.2.1,by rw [List.take_zero]; exact WOwn.none_ _ _⟩)
 clear hal
 go_enter Tryz.func35,Tryz.ntmps35
 go_upto_region 2 with fail
 rw [<- hW4,show w.heap.size + 1 + 1 + 1 = b3 from e3.symm,show w.heap.size + 1 + 1 = b2 from e2.symm,show w.heap.size = b0 from e0.symm]
 clear hW4 e0 e2 e3
 obtain ⟨g0,g1,gl⟩:=two HH0.out.gb
 go_wp2_with fail
 clear g0 g1 gl
 go_loopg [11] V (fun gk i wr => CoRel w b0 b2 b3 k st so dm ep V A n c L gk i wr)
 case atStart => exact ⟨0,_,by omega,rfl,HH0⟩
 case round =>
  clear HH0
  obtain ⟨q,v,hq,rfl,HH⟩:=hrel
  by_cases hlt:q < V
  ·obtain ⟨g0,g1,gl⟩:=two HH.out.gb
   obtain ⟨Av,cv,rfl,_⟩:=HH.out.own.form
   have hq2:((egs V L).take q).length = q:=by rw [List.length_take,egs_len]; omega
   have HLEN:Hid (((egs V L).take q).length < 1000000000):=jH (by rw [hq2]; omega)
   rw [hq2] at HH
   clear hq2
   obtain ⟨_,_,_,_,_,c5,cl⟩:=six HH.out.cb
   have fr5:=warm HH.out.cb 5
   have HS:Hid (Below w.heap.size w wr.drew):=jH HH.out.below.drew
   have HEA:Hid (∀ W,Below w.heap.size w W->EAt W A L):=jH fun W h => HL.out.below h
   have HO:Hid (∀ W,Below w.heap.size w W->Calls Tryz.prog 52 #[.agg #[.int .i64 (V:Int),.slice A n c],.int .i64 (q:Int)] W fun e w' => ∃ x,e = .returned x/\Hid (EOwn w' W.heap.size x (outE L (q:Int))/\Below W.heap.size W w')):=jH (fun W h => by
    rw [HN.out]
    refine (out_any (V:Int) (q:Int) A c L W (HL.out.below h) (by omega)).mono ?_
    rintro e w' ⟨x,rfl,hx,hb⟩
    exact ⟨_,rfl,jH ⟨hx,hb⟩⟩)
   have HK:Hid (∀ W,Below w.heap.size w W->Calls Tryz.prog 57 #[.agg #[.int .i64 (V:Int),.slice A n c],.int .i64 (q:Int)] W fun e w' => ∃ x,e = .returned x/\Hid (EOwn w' W.heap.size x (bckE L (q:Int))/\Below W.heap.size W w')):=jH (fun W h => by
    rw [HN.out]
    refine (back_any (V:Int) (q:Int) A c L W (HL.out.below h) (by omega)).mono ?_
    rintro e w' ⟨x,rfl,hx,hb⟩
    exact ⟨_,rfl,jH ⟨hx,hb⟩⟩)
   have HB3:Hid (w.heap.size <= b3 + 1/\b3 + 1 <= wr.heap.size):=jH ⟨by have:=HLO.out; omega,cl⟩
   have HBD:Hid (Below wr.heap.size wr wr.drew):=jH (Below.refl _ wr).drew
   go_upto_region 5 with fail
   have hS:(fun w':World => w'.cell? ⟨b0,0,none⟩ = some (.int .i64 (V:Int))/\w'.cell? ⟨b0,1,none⟩ = some (.slice A n c)/\w'.cell? ⟨b3,5,none⟩ = some (.slice Av q cv)) wr.drew:=⟨by simpa using g0,by simpa using g1,by simpa using c5⟩
   refine Tl.headX_region (S:=fun w':World => w'.cell? ⟨b0,0,none⟩ = some (.int .i64 (V:Int))/\w'.cell? ⟨b0,1,none⟩ = some (.slice A n c)/\w'.cell? ⟨b3,5,none⟩ = some (.slice Av q cv)) 10 (by kernel_rfl) (by decide) ?_
   refine Tl.headX_tk 0 ?v0_1 rfl (by kernel_rfl) (by decide) (by kernel_rfl) (by kernel_rfl) (by kernel_rfl) (fun _ _ _ h => h) (by rfl) (fun W hSw => ?hy0_1) hS ?_
   case hy0_1 => ((try dsimp only at hSw); go_simp; try with_reducible rfl)
   simp only [Act.put,jZ,jY,jX]
   refine Tl.headX_tk 1 ?v1_2 rfl (by kernel_rfl) (by decide) (by kernel_rfl) (by kernel_rfl) (by kernel_rfl) (fun _ _ _ h => h) (by rfl) (fun W hSw => ?hy1_2) hS ?_
   case hy1_2 => ((try dsimp only at hSw); go_simp; try with_reducible rfl)
   simp only [Act.put,jZ,jY,jX]
   refine Tl.headX_tk 2 ?v2_3 rfl (by kernel_rfl) (by decide) (by kernel_rfl) (by kernel_rfl) (by kernel_rfl) (fun _ _ _ h => h) (by rfl) (fun W hSw => ?hy2_3) hS ?_
   case hy2_3 => ((try dsimp only at hSw); go_simp; try with_reducible rfl)
   simp only [Act.put,jZ,jY,jX]
   refine Tl.headX_tk 3 ?v3_4 rfl (by kernel_rfl) (by decide) (by kernel_rfl) (by kernel_rfl) (by kernel_rfl) (fun _ _ _ h => h) (by rfl) (fun W hSw => ?hy3_4) hS ?_
   case hy3_4 => ((try dsimp only at hSw); go_simp; try with_reducible rfl)
   simp only [Act.put,jZ,jY,jX]
   refine Tl.headX_tk 5 ?v5_5 rfl (by kernel_rfl) (by decide) (by kernel_rfl) (by kernel_rfl) (by kernel_rfl) (fun _ _ _ h => h) (by rfl) (fun W hSw => ?hy5_5) hS ?_
   case hy5_5 => ((try dsimp only at hSw); go_simp; try with_reducible rfl)
   simp only [Act.put,jZ,jY,jX]
   refine Tl.headX_tk 6 ?v6_6 rfl (by kernel_rfl) (by decide) (by kernel_rfl) (by kernel_rfl) (by kernel_rfl) (fun _ _ _ h => h) (by rfl) (fun W hSw => ?hy6_6) hS ?_
   case hy6_6 => ((try dsimp only at hSw); go_simp; try with_reducible rfl)
   simp only [Act.put,jZ,jY,jX]
   refine Tl.headX_cl 4 _ _ rfl (by decide) (by kernel_rfl) (by rfl) ?he4 (HO.out wr.drew HS.out) ?_
   case he4 => (go_simp; try with_reducible rfl)
   rintro x w5 hx5
   have HX5:=jH hx5.out.1
   have HH5:=jH ((HH.out.step HBD.out).step hx5.out.2)
   obtain ⟨Ax,cx,rfl,_⟩:=HX5.out.form
   obtain ⟨nx,hnx⟩:∃ m,m = (outE L (q:Int)).length:=⟨_,rfl⟩
   rw [<- hnx] at HX5 ⊢
   clear hx5 hnx hS g0 g1 gl c5 cl fr5
   obtain ⟨g0,g1,gl⟩:=two HH5.out.gb
   obtain ⟨_,_,_,_,_,c5,cl⟩:=six HH5.out.cb
   refine ⟨⟨g0,g1,c5⟩,?_⟩
   simp only [Act.put,jZ,jY,jX]
   refine Tl.headX_cl 7 _ _ rfl (by decide) (by kernel_rfl) (by rfl) ?he7 (HK.out w5 HH5.out.below) ?_
   case he7 => (go_simp; try with_reducible rfl)
   rintro y w6 hx6
   have HY6:=jH hx6.out.1
   have HH6:=jH (HH5.out.step hx6.out.2)
   have HX6:=jH (HX5.out.below hx6.out.2)
   obtain ⟨Ay,cy,rfl,_⟩:=HY6.out.form
   obtain ⟨ny,hny⟩:∃ m,m = (bckE L (q:Int)).length:=⟨_,rfl⟩
   rw [<- hny] at HY6 ⊢
   have HB56:Hid (b3 + 1 <= w5.heap.size):=jH cl
   clear hx6 hny g0 g1 gl c5 cl
   obtain ⟨g0,g1,gl⟩:=two HH6.out.gb
   obtain ⟨_,_,_,_,_,c5,cl⟩:=six HH6.out.cb
   have hS:(fun w':World => w'.cell? ⟨b0,0,none⟩ = some (.int .i64 (V:Int))/\w'.cell? ⟨b0,1,none⟩ = some (.slice A n c)/\w'.cell? ⟨b3,5,none⟩ = some (.slice Av q cv)) w6:=⟨g0,g1,c5⟩
   refine ⟨hS,?_⟩
   simp only [Act.put,jZ,jY,jX]
   refine Tl.headX_tk 8 ?v8_7 rfl (by kernel_rfl) (by decide) (by kernel_rfl) (by kernel_rfl) (by kernel_rfl) (fun _ _ _ h => h) (by rfl) (fun W hSw => ?hy8_7) hS ?_
   case hy8_7 => ((try dsimp only at hSw); go_simp; try with_reducible rfl)
   simp only [Act.put,jZ,jY,jX]
   have HB7:Hid (Below w6.heap.size w6 (w6.alloc (.cells #[.slice Ax nx cx,.slice Ay ny cy] 103))):=jH ((Below.refl _ w6).alloc (Nat.le_refl _) _)
   have HH7:=jH (HH6.out.step HB7.out)
   have HO7:=jH HH7.out.own
   have HX7:Hid (EOwn (w6.alloc (.cells #[.slice Ax nx cx,.slice Ay ny cy] 103)) (b3 + 1) (.slice Ax nx cx) (outE L (q:Int))):=jH (own_mono (HX6.out.below HB7.out) HB3.out.2)
   have HY7:Hid (EOwn (w6.alloc (.cells #[.slice Ax nx cx,.slice Ay ny cy] 103)) (b3 + 1) (.slice Ay ny cy) (bckE L (q:Int))):=jH (own_mono (HY6.out.below HB7.out) HB56.out)
   have HN7:=jH (new_w w6 (.slice Ax nx cx) (.slice Ay ny cy))
   have HZ7:Hid (b3 + 1 <= (w6.alloc (.cells #[.slice Ax nx cx,.slice Ay ny cy] 103)).heap.size):=jH (lt_of_block HH7.out.cb)
   obtain ⟨g07,g17,_⟩:=two HH7.out.gb
   obtain ⟨_,_,_,_,_,c57,_⟩:=six HH7.out.cb
   refine Tl.headX_vl 9 ?v9_8 ?w9_8 rfl (by decide) (by kernel_rfl) (by rfl) ?hy9_8 ?hs9_8 ?_
   case hy9_8 => (go_simp; first | (constructor <;> with_reducible rfl) | with_reducible rfl)
   case hs9_8 => exact ⟨g07,g17,c57⟩
   simp only [Act.put,jZ,jY,jX]
   refine Tl.headX_rest (by kernel_rfl) ?_
   simp only [List.drop_succ_cons,List.drop_zero]
   clear hS HO HK HX6 HY6 HX5 g0 g1 gl c5 cl g07 g17 c57
   go_wp2_with (at_builtin; refine app_w rfl (.tmp 15) (.tmp 23) rfl (b3 + 1) _ _ _ _ _ _ rfl HO7.out _ rfl HN7.out HX7.out HY7.out HLEN.out HZ7.out ?_)
   intro v8 w8 ho8 hg8
   have HH8:=jH (HH7.out.grown hg8 HB3.out.1 ho8)
   obtain ⟨A8,c8,rfl,_⟩:=ho8.form
   rw [show ((egs V L).take q ++ [(outE L (q:Int),bckE L (q:Int))]).length = q + 1 by rw [egs_next hlt,List.length_take,egs_len]; omega] at HH8 ⊢
   clear hg8 ho8
   have HH9:=jH (HH8.out.put HLO.out.2.1 HLO.out.2.2.2.1 HLO.out.2.2.2.2.1)
   rw [egs_next hlt] at HH9
   obtain ⟨_,_,_,_,_,c5,cl⟩:=six HH8.out.cb
   have fr8:=warm HH8.out.cb 5
   go_wp2
   go_roundg (gk - 1)
   case measure => omega
   case rel => exact ⟨q + 1,_,by omega,by go_num,HH9⟩
  ·obtain rfl:q = V:=by omega
   rw [List.take_of_length_le (by rw [egs_len]; exact Nat.le_refl _)] at HH
   obtain ⟨Av,cv,rfl,_⟩:=HH.out.own.form
   obtain ⟨qn,hqn⟩:∃ m,m = (egs q L).length:=⟨_,rfl⟩
   rw [<- hqn] at HH
   clear hqn
   have HB3':Hid (w.heap.size <= b3 + 1):=jH (by have:=HLO.out; omega)
   obtain ⟨c0,c1,c2,c3,c4,c5,cl⟩:=six HH.out.cb
   obtain ⟨r0,r1,r2,r3,r4,r5,rl⟩:=six HH.out.rb
   have f0:=warm HH.out.rb 0; have f1:=warm HH.out.rb 1; have f2:=warm HH.out.rb 2; have f3:=warm HH.out.rb 3; have f4:=warm HH.out.rb 4; have f5:=warm HH.out.rb 5
   go_wp2
   have h6:=put6_heap HH.out.rb (.int .u8 k) (.int .i64 st) (.int .i64 so) (.int .i64 dm) (.int .i64 ep) (.slice Av qn cv)
   have ho:=own_mono_w (HH.out.own.moved HH.out.rb (by decide) (by decide) (fun j hj => put6_other wr b2 j (.int .u8 k) (.int .i64 st) (.int .i64 so) (.int .i64 dm) (.int .i64 ep) (.slice Av qn cv) hj)) HB3'.out
   have hb:=put6_below HH.out.below HLO.out.1 (.int .u8 k) (.int .i64 st) (.int .i64 so) (.int .i64 dm) (.int .i64 ep) (.slice Av qn cv)
   unfold put6 at h6 ho hb
   exact bodyPost_ret (v:=.agg #[.int .u8 k,.int .i64 st,.int .i64 so,.int .i64 dm,.int .i64 ep,.slice Av qn cv]) (res_c _ _ _ _ _ _ _ _ _ _ _ Tryz.results35 rfl h6) rfl ⟨_,rfl,jH ho,jH hb⟩
end Go.Proofs.YtdcaekmgfcpbmaaGreat.Sq
