/-
  What is proved here: contracts of the heap's own Push and Pop, and of container/heap's. Conditions: it is not longer than memory bears; Pop: there is one.
-/
import Derived.Test.YtdcaekmgfcpbmaaGreatQdMnHrx
import Derived.Test.YtdcaekmgfcpbmaaGreatQdTlIn
namespace Go.Proofs.YtdcaekmgfcpbmaaGreat.Mn
open Go.RowKit Gr Wd Ws Fx Rk Lb
open Pa (vl bt vl_of vl_at bt_of bt_at)
theorem WOw.size {w:World} {B g n cp:Nat} {H:List Wy} (h:WOw w B (.slice (some ⟨g,0,none⟩) n cp) H):∃ c,w.heap[g]? = some (.cells c 86 (0,0))/\c.size = cp * 2:=by
 obtain ⟨_,h1 | ⟨g',cap,cur,h1,_,h3,_,_,h6,_⟩⟩:=h
 ·cases h1.1
 ·injection h1 with e1 e2 e3
  injection e1 with e1
  injection e1 with e1
  subst e1 e3
  exact ⟨cur,h3,h6⟩
theorem pushed {b B g n cp g' cp':Nat} {H:List Wy} {p:Wy} {w W w2:World} (h:Hp b B g n cp H w) (hW:Below w.heap.size w W) (h2:WOw w2 B (.slice (some ⟨g',0,none⟩) (n + 1) cp') (H ++ [p])) (hc:1 <= cp') (hg':g' = g\/2 <= cp') (hg:W.grownBy w2 (some g)) :
 Hp b B g' (n + 1) cp' (H ++ [p]) (w2.setCell ⟨b,0,none⟩ (.slice (some ⟨g',0,none⟩) (n + 1) cp'))/\Sd B b g g' w (w2.setCell ⟨b,0,none⟩ (.slice (some ⟨g',0,none⟩) (n + 1) cp')):=by
 have hp:=h.below hW
 obtain ⟨_,c,hcg⟩:=hp.row.blk
 have hb2:=grown_box hg hp.box hcg (by decide)
 obtain ⟨c',hc',hs'⟩:=h2.size
 refine ⟨⟨set_same hb2 _,nown_set h2 hb2 (by decide),hc,by rw [List.length_append,h.len]; rfl,⟨h.lo.1,?_⟩⟩,⟨?_,fun j cj T hj hT hjb hjg => ?_⟩⟩
 ·have:=hp.lo.2; have:=hg.size; simp [World.setCell]; omega
 ·exact ((hW.mono h.lo.2).trans (grown_below hg hp.own hp.lo.2)).setCell (p:=⟨b,0,none⟩) h.lo.1 _
 ·have h3:=(hg.block j (Nat.lt_of_lt_of_le (lt_of_block hj) hW.size) (fun e => hjg (by injection e))).trans (keepB hj hW)
  refine ⟨(set_off _ _ _ _ _ hjb).trans h3,fun e => ?_⟩
  rcases hg' with rfl | hg'
  ·exact hjg e
  ·subst e
   rw [h3] at hc'
   injection hc' with hc'
   injection hc' with hc1 hc2 _
   rcases hT with hT | hT
   ·exact hT hc2
   ·rw [hc1,hs'] at hT; omega
theorem popped {b B g n cp:Nat} {H:List Wy} {p:Wy} {w:World} (h:Hp b B g (n + 1) cp (H ++ [p]) w) (o:Obj) :
 Hp b B g n cp H ((w.setCell ⟨b,0,none⟩ (.slice (some ⟨g,0,none⟩) n cp)).alloc o)/\Sd B b g g w ((w.setCell ⟨b,0,none⟩ (.slice (some ⟨g,0,none⟩) n cp)).alloc o):=by
 have hn:H.length = n:=by have:=h.len; rw [List.length_append] at this; simpa using this
 have hs:(w.setCell ⟨b,0,none⟩ (.slice (some ⟨g,0,none⟩) n cp)).heap.size = w.heap.size:=by simp [World.setCell]
 have h1:Hp b B g n cp H (w.setCell ⟨b,0,none⟩ (.slice (some ⟨g,0,none⟩) n cp)):=⟨set_same h.box _,nown_set (h.row.cut hn) h.box (by decide),h.cap,hn,⟨h.lo.1,by rw [hs]; exact h.lo.2⟩⟩
 have h2:Sd B b g g w (w.setCell ⟨b,0,none⟩ (.slice (some ⟨g,0,none⟩) n cp)):=⟨(Below.refl _ _).setCell (p:=⟨b,0,none⟩) h.lo.1 _,fun j cj T hj _ hjb hjg => ⟨(set_off _ _ _ _ _ hjb).trans hj,hjg⟩⟩
 have hb:Below (w.setCell ⟨b,0,none⟩ (.slice (some ⟨g,0,none⟩) n cp)).heap.size (w.setCell ⟨b,0,none⟩ (.slice (some ⟨g,0,none⟩) n cp)) ((w.setCell ⟨b,0,none⟩ (.slice (some ⟨g,0,none⟩) n cp)).alloc o):=(Below.refl _ _).alloc (Nat.le_refl _) o
 exact ⟨h1.below hb,h2.trans (.of_below hb h1.lo.2)⟩
theorem Hp.room {b B g n cp:Nat} {H:List Wy} {w:World} (h:Hp b B g n cp H w):n <= cp:=by
 obtain ⟨_,h1 | ⟨g',cap,cur,h1,_,_,h4,_⟩⟩:=h.row
 ·cases h1.1
 ·injection h1 with e1 e2 e3
  omega
abbrev wayV (u:Nat) (d:Int):Value:=.iface 86 (.agg #[.int .i64 (u:Int),.int .i64 d])
theorem assert_way (u:Nat) (d:Int) (W:World):(Instr.typeAssert (wayV u d) 20 86 false).run Tryz.prog W = .ok (.agg #[.int .i64 (u:Int),.int .i64 d]) W:=by kernel_rfl
set_option maxRecDepth 100000 in
set_option maxHeartbeats 2000000 in
theorem push_any (b B g n cp u:Nat) (d:Int) (H:List Wy) (w:World) (hm:n < 4000000000000) (h:Hp b B g n cp H w) :
 Calls Tryz.prog 144 #[.pointer (some ⟨b,0,none⟩),wayV u d] w fun e w' => e = .returned (.tuple #[])/\∃ g' cp',Hid (Hp b B g' (n + 1) cp' (H ++ [(u,d)]) w'/\Sd B b g g' w w'):=by
 have mixed:=mixedP
 have hta:=assert_way u d
 have HH:=jH h
 have hS:(fun W:World => W.cell? ⟨b,0,none⟩ = some (.slice (some ⟨g,0,none⟩) n cp)) w.drew:=h.cell
 have hb1:Below w.heap.size w (w.drew.alloc (.cells #[.int .i64 (u:Int),.int .i64 d] 86)):=(Below.refl _ w).drew.alloc (Nat.le_refl _) _
 have HB1:=jH hb1
 have HO1:=jH (h.row.below hb1)
 have HN1:=jH (heap_alloc_new w.drew (.cells #[.int .i64 (u:Int),.int .i64 d] 86))
 have HL:=jH h.len; have HCP:=jH h.cap
 have HZ1:=jH (Nat.le_trans h.lo.2 hb1.size)
 have HC1:=jH (h.below hb1).cell
 clear h hb1
 go_enter Tryz.func144,Tryz.ntmps144
 refine Tl.headX_region (S:=(fun W:World => W.cell? ⟨b,0,none⟩ = some (.slice (some ⟨g,0,none⟩) n cp))) 8 mixed (by decide) ?_
 try dsimp only
 refine Tl.headX_tk 0 ?v0_1 rfl (by kernel_rfl) (by decide) (by kernel_rfl) (by kernel_rfl) (by kernel_rfl) (fun _ _ _ h => h) (by rfl) (fun W hSw => ?hy0_1) hS ?_
 case hy0_1 => ((try dsimp only at hSw); go_simp; try with_reducible rfl)
 simp only [Act.put,jZ,jY,jX]
 refine Tl.headX_tk 1 ?v1_2 rfl (by kernel_rfl) (by decide) (by kernel_rfl) (by kernel_rfl) (by kernel_rfl) (fun _ _ _ h => h) (by rfl) (fun W hSw => ?hy1_2) hS ?_
 case hy1_2 => ((try dsimp only at hSw); go_simp; try with_reducible rfl)
 simp only [Act.put,jZ,jY,jX]
 refine Tl.headX_tk 2 ?v2_3 rfl (by kernel_rfl) (by decide) (by kernel_rfl) (by kernel_rfl) (by kernel_rfl) (fun _ _ _ h => h) (by rfl) (fun W hSw => ?hy2_3) hS ?_
 case hy2_3 => ((try dsimp only at hSw); go_simp; try with_reducible rfl)
 simp only [Act.put,jZ,jY,jX]
 refine Tl.headX_tk 3 ?v3_4 rfl (by kernel_rfl) (by decide) (by kernel_rfl) (by kernel_rfl) (by kernel_rfl) (fun _ _ _ h => h) (by rfl) (fun W hSw => ?hy3_4) hS ?_
 case hy3_4 => ((try dsimp only at hSw); go_simp; try with_reducible rfl)
 simp only [Act.put,jZ,jY,jX]
 refine Tl.headX_tk 4 ?v4_5 rfl (by kernel_rfl) (by decide) (by kernel_rfl) (by kernel_rfl) (by kernel_rfl) (fun _ _ _ h => h) (by rfl) (fun W hSw => ?hy4_5) hS ?_
 case hy4_5 => ((try dsimp only at hSw); go_simp; try with_reducible rfl)
 simp only [Act.put,jZ,jY,jX]
 refine Tl.headX_tk 5 ?v5_6 rfl (by kernel_rfl) (by decide) (by kernel_rfl) (by kernel_rfl) (by kernel_rfl) (fun _ _ _ h => h) (by rfl) (fun W hSw => ?hy5_6) hS ?_
 case hy5_6 => ((try dsimp only at hSw); go_simp; try with_reducible rfl)
 simp only [Act.put,jZ,jY,jX]
 refine Tl.headX_vl 6 ?v6_7 ?w6_7 rfl (by decide) (by kernel_rfl) (by rfl) ?hy6_7 ?hs6_7 ?_
 case hy6_7 => (go_simp; first | (constructor <;> with_reducible rfl) | with_reducible rfl)
 case hs6_7 => exact HC1.out
 simp only [Act.put,jZ,jY,jX]
 have HSB:=HH.out.below HB1.out
 refine Tl.headX_one (i:=7) (by rfl) (by decide) (by kernel_rfl) (by rfl) fun K hK => ?_
 refine app_w (.tmp 7) (.tmp 10) rfl B g n cp H (u,d) HL.out rfl HO1.out HCP.out _ rfl HN1.out hm HZ1.out ?_
 intro g' cp' w2 ho2 hc2 hg' hg2
 obtain ⟨_,cc,hcc⟩:=HO1.out.blk
 have hb2:=grown_box hg2 HSB.box hcc (by decide)
 obtain ⟨z0,z1,_⟩:=one_cell hb2
 refine hK _ _ z0 ?_
 simp only [Act.put,List.setIfInBounds_toArray]
 refine Tl.headX_rest (by kernel_rfl) ?_
 simp only [List.drop_succ_cons,List.drop_zero]
 clear hS
 have HP:=jH (pushed HH.out HB1.out ho2 hc2 hg' hg2)
 clear HSB ho2 hc2 hg' hg2 hcc hb2 HH HB1 HO1 HN1 HL HCP HZ1 HC1
 go_wp2
 go_end0
 exact ⟨rfl,g',cp',HP⟩
set_option maxRecDepth 100000 in
set_option maxHeartbeats 2000000 in
theorem pop_any (b B g n cp u:Nat) (d:Int) (H:List Wy) (w:World) (hm:n < 4000000000000) (h:Hp b B g (n + 1) cp (H ++ [(u,d)]) w) :
 Calls Tryz.prog 143 #[.pointer (some ⟨b,0,none⟩)] w fun e w' => e = .returned (wayV u d)/\Hid (Hp b B g n cp H w'/\Sd B b g g w w'):=by
 have HH:=jH h
 obtain ⟨b0,b1,_⟩:=one_cell h.box
 have hn:H.length = n:=by have:=h.len; rw [List.length_append] at this; simpa using this
 obtain ⟨y0,y1,_⟩:=h.row.at_ h.len (k:=n) (p:=(u,d)) (by rw [List.getElem?_append_right (by omega),hn]; simp)
 have hroom:=h.room
 have hr2:n <= cp:=by omega
 have HP:=jH (popped h (.cells #[.int .i64 (u:Int),.int .i64 d] 86))
 clear h hn
 go_enter Tryz.func143,Tryz.ntmps143
 go_wp2
 go_ret
 exact ⟨rfl,HP⟩
set_option maxRecDepth 100000 in
set_option maxHeartbeats 2000000 in
theorem hpush_any (b B g n cp u:Nat) (d:Int) (H:List Wy) (w:World) (hm:n < 3999999999999) (h:Hp b B g n cp H w) :
 Calls Tryz.prog 54 #[hpV b,wayV u d] w fun e w' => e = .returned (.tuple #[])/\∃ g' cp' H',Hid (H'.Perm ((u,d) :: H)/\Hp b B g' (n + 1) cp' H' w'/\Sd B b g g' w w'):=by
 have hlk:=look_push w b
 have HC:=jH (push_any b B g n cp u d H w (by omega) h)
 clear h
 go_enter Tryz.func54,Tryz.ntmps54
 go_wp2_with fail
 refine HC.out.mono ?_
 rintro e w2 ⟨rfl,g',cp',h2⟩
 have HH2:=jH h2.out.1; have HS2:=jH h2.out.2
 clear hlk HC h2
 have hlk:=look_len w2 b _ HH2.out.cell
 go_wp2_with fail
 refine (len_any _ _ _ _).mono ?_
 rintro e w3 ⟨rfl,rfl⟩
 clear hlk
 go_wp2_with fail
 refine (up_any b B g' (n + 1) cp' _ n w2 (by omega) HH2.out (by omega)).mono ?_
 rintro e w3 ⟨rfl,H',h3⟩
 have HR:=jH h3.out
 clear h3
 go_wp2
 go_end0
 exact ⟨rfl,g',cp',H',jH ⟨HR.out.perm.trans (List.perm_append_comm.trans (List.Perm.refl _)),HR.out.hp,HS2.out.trans HR.out.sd⟩⟩
set_option maxRecDepth 100000 in
set_option maxHeartbeats 2000000 in
theorem hpop_any (b B g n cp:Nat) (H:List Wy) (w:World) (hm:n < 3999999999999) (h:Hp b B g (n + 1) cp H w) :
 Calls Tryz.prog 51 #[hpV b] w fun e w' => ∃ u d H',e = .returned (wayV u d)/\Hid (((u,d) :: H').Perm H/\Hp b B g n cp H' w'/\Sd B b g g w w'):=by
 have HH:=jH h
 have hlk:=look_len w b _ h.cell
 clear h
 go_enter Tryz.func51,Tryz.ntmps51
 go_wp2_with fail
 refine (len_any _ _ _ _).mono ?_
 rintro e w2 ⟨rfl,rfl⟩
 clear hlk
 have hlk:=look_swap w b _ HH.out.cell
 obtain ⟨p,hp⟩:=way_at HH.out.len (show 0 < n + 1 by omega)
 obtain ⟨q,hq⟩:=way_at HH.out.len (show n < n + 1 by omega)
 have HP:=jH hp; have HQ:=jH hq
 have HC:=jH (swap_at B g (n + 1) cp 0 n H p q w 0 (n:Int) rfl rfl HH.out.len HH.out.row hp hq (by omega))
 clear hp hq
 go_wp2_with fail
 refine HC.out.mono ?_
 rintro e w3 ⟨rfl,h3⟩
 have HR3:=jH ((Mv.refl HH.out).swap HP.out HQ.out h3.out)
 clear HC h3 hlk
 go_wp2_with fail
 refine (down_any b B g (n + 1) cp n _ w3 (by omega) HR3.out.hp (by omega)).mono ?_
 rintro e w4 ⟨⟨r,rfl⟩,H4,h4⟩
 have HR4:=jH h4.out
 clear h4
 obtain ⟨H5,⟨u,d⟩,h5⟩:∃ H5 p,H4 = H5 ++ [p]:=⟨H4.dropLast,H4.getLast (fun e => by have:=HR4.out.hp.len; rw [e] at this; simp at this),(List.dropLast_concat_getLast _).symm⟩
 subst h5
 have hlk:=look_pop w4 b
 go_wp2_with fail
 refine (pop_any b B g n cp u d H5 w4 (by omega) HR4.out.hp).mono ?_
 rintro e w5 ⟨rfl,h5⟩
 have HR5:=jH h5.out
 clear h5 hlk
 go_wp2
 go_ret
 exact ⟨u,d,H5,rfl,jH ⟨((List.perm_append_comm (l₁:=[(u,d)]) (l₂:=H5)).trans HR4.out.perm).trans HR3.out.perm,HR5.out.1,(HR3.out.sd.trans HR4.out.sd).trans HR5.out.2⟩⟩
end Go.Proofs.YtdcaekmgfcpbmaaGreat.Mn
