/-
  What is proved here: contracts of paths.reached: which vertices are reached (over and over, by a label), and of areHeldUp. Conditions: at most 512 vertices; edges lead between them; the source is one of them. What is proved here: contracts of paths.areHeldUp and paths.Tight. Conditions: counts fit an int.
-/
import Derived.Test.YtdcaekmgfcpbmaaGreatQdMnT2x
import Derived.ScopeJumps
import Derived.WalkMore
import Derived.Outline
import Derived.Deep.Cut
import Derived.Test.YtdcaekmgfcpbmaaGreatQdPtMathx
namespace Go.Proofs.YtdcaekmgfcpbmaaGreat.Pa
open Go.RowKit Gr Wd Ws Fx Lb
theorem info_b:(Tryz.prog.info? 4).map (fun i => (i.zero,i.size,i.bytes)) = some (some (.bool false),1,1):=by kernel_rfl
theorem make_b (n:Nat) (hn:n <= 1000000) (W:World):(Instr.makeSlice 42 (.int .i64 (n:Int)) (.int .i64 (n:Int))).run Tryz.prog W = .ok (.slice (some ⟨W.heap.size,0,none⟩) n n) (W.alloc (.cells (madeCells #[.bool false] n) 4)) :=
 run_make_row' (P:=Tryz.prog) 42 4 (.bool false) 1 Tryz.underlying42 info_b rfl .i64 .i64 n (by omega) (by omega) W
def bs (r:List Bool):List Value:=r.map Value.bool
theorem bs_at (l:List Bool) (k:Nat):(bs l)[k]? = (l[k]?).map Value.bool:=by simp [bs]
theorem bs_set (l:List Bool) (k:Nat) (x:Bool):(bs l).set k (.bool x) = bs (l.set k x):=by
 unfold bs; rw [List.map_set]
theorem bs_made (n:Nat):madeCells #[Value.bool false] n = (bs (List.replicate n false)).toArray:=by
 unfold madeCells bs
 apply Array.ext
 ·simp
 ·intro i h1 h2; simp [Nat.mod_one]
def Br (w:World) (g:Nat) (r:List Bool):Prop:=w.heap[g]? = some (.cells (bs r).toArray 4 (0,0))
theorem Br.lt {w:World} {g:Nat} {r:List Bool} (h:Br w g r):g < w.heap.size:=lt_of_block h
theorem Br.cell {w:World} {g:Nat} {r:List Bool} (h:Br w g r) {k:Nat} (hk:k < r.length):w.cell? ⟨g,k,none⟩ = some (.bool (bt r k)):=by
 rw [cell_of_row w g k _ 4 (0,0) h,List.getElem?_toArray,bs_at,bt_at hk]; rfl
theorem Br.free {w:World} {g:Nat} {r:List Bool} (h:Br w g r) (k:Nat):w.frozen? ⟨g,k,none⟩ = false:=frozen_of_row w g k _ 4 h
theorem Br.set {w:World} {g:Nat} {r:List Bool} (h:Br w g r) (k:Nat) (x:Bool):Br (w.setCell ⟨g,k,none⟩ (.bool x)) g (r.set k x):=by
 have:=heap_setCell_same w g k _ 4 (.bool x) h
 unfold Br
 rw [this,List.setIfInBounds_toArray,bs_set]
theorem Br.made (w:World) (n:Nat):Br (w.alloc (.cells (madeCells #[.bool false] n) 4)) w.heap.size (List.replicate n false):=by
 unfold Br; rw [heap_alloc_new,bs_made]
theorem Br.below {w w':World} {g:Nat} {r:List Bool} (h:Br w g r) (hb:Below w.heap.size w w'):Br w' g r:=(hb.block g h.lt).trans h
theorem jump_weak {l:Nat} {J J':Act->World->Prop} {Q:Exit->Act->World->Prop} (h:∀ a w,J' a w->J a w) (e:Exit) (a:Act) (w:World) (k:Exit.jump l J' Q e a w):Exit.jump l J Q e a w:=by
 cases e with
 | goto l' => exact ⟨k.1,h _ _ k.2⟩
 | normal => exact k
 | exit id => exact k
 | ret => exact k
 | panic ch => exact k
 | outgrown => exact k
theorem scope_once {P:Program} {c rest:Code} {a:Act} {w:World} {Q:Exit->Act->World->Prop} (l:Nat) (J:Act->World->Prop) (μ:Act->World->Nat) (hf:findLabel c l = some (Code.skip.seq rest))
 (pass:∀ a w,J a w->rest.wp P (Exit.jump l (fun a' w' => J a' w'/\μ a' w' < μ a w) Q) a w)
 (first:(∀ a w,J a w->rest.wp P (Exit.jump l J Q) a w)->c.wp P (Exit.jump l J Q) a w):(Code.scope c).wp P Q a w :=
 wp_scope_jumps l J μ hf (first fun a w h => Code.wp_mono (jump_weak fun _ _ k => k.1) (pass a w h)) fun a w h => wp_seq (wp_skip (pass a w h))
theorem set_other {w:World} {b g k:Nat} {x:Option Obj} {v:Value} (h:w.heap[b]? = x) (hn:b ≠ g):(w.setCell ⟨g,k,none⟩ v).heap[b]? = x :=
 (heap_setCell_other w ⟨g,k,none⟩ b v (fun e => hn (by simpa using e))).trans h
def unb:Value->Bool
 | .bool b => b
 | _ => false
def marks (w:World) (g:Nat):List Bool:=match w.heap[g]? with
 | some (.cells c _ _) => c.toList.map unb
 | _ => []
theorem marks_of {w:World} {g:Nat} {r:List Bool} (h:Br w g r):marks w g = r:=by
 unfold marks; rw [h]
 show (bs r).map unb = r
 unfold bs; rw [List.map_map]
 exact (List.map_congr_left (fun x _ => rfl)).trans (List.map_id r)
structure ReH (m s b g:Nat) (A:Option Addr) (n c:Nat) (L:List Ed) (l:List Int) (w w':World) (r:List Bool):Prop where
 below:Below w.heap.size w w'
 row:Br w' g r
 box:w'.heap[b]? = some (.cells #[.int .i64 (m:Int),.slice A n c] 24 (0,0))
 len:r.length = m
 is:∃ q,r = itr (rstA L l) q (one m s)
def ReJ (m s b g:Nat) (A B:Option Addr) (n c d:Nat) (L:List Ed) (l:List Int) (w:World) (a':Act) (w':World):Prop :=
 ∃ (r:List Bool) (u8 u9 u10 u17 u18 u19 u20 u21 u22 u23 u24 u25 u26 u27 u28 u29 u30 u31 u32 u33 u34 u35 u36 u37 u38 u39 u40 u41 u42 u43 u44 u45 u46 u47 u48 u49 u50 u51 u52 u53 u54 u55 u56 u57 u58:Value),a' = { tmps:=#[.agg #[.int .i64 (m:Int),.slice A n c],.int .i64 (s:Int),.slice B m d,.pointer (some ⟨b,0,none⟩),undef,undef,.slice none 0 0,.slice (some ⟨g,0,none⟩) m m,u8,u9,u10,.pointer (some ⟨b,0,none⟩),.int .i64 (m:Int),.slice (some ⟨g,0,none⟩) m m,.slice (some ⟨g,0,none⟩) m m,.int .i64 (s:Int),.pointer (some ⟨g,s,none⟩),u17,u18,u19,u20,u21,u22,u23,u24,u25,u26,u27,u28,u29,u30,u31,u32,u33,u34,u35,u36,u37,u38,u39,u40,u41,u42,u43,u44,u45,u46,u47,u48,u49,u50,u51,u52,u53,u54,u55,u56,u57,u58],defers:=[] }/\Hid (ReH m s b g A n c L l w w' r)
def RsRel (m b g:Nat) (A:Option Addr) (n c:Nat) (L:List Ed) (l:List Int) (w:World) (r0:List Bool) (gk:Nat) (f i:Value) (wr:World):Prop :=
 ∃ (k:Nat) (r:List Bool) (x:Bool),k + gk = n/\i = .int .i64 (k:Int)/\f = .bool x/\Hid (x = decide (cnt r0 < cnt r)/\cnt r0 <= cnt r/\r.length = m/\r = rstA (L.take k) l r0) /\
  Hid (Below w.heap.size w wr)/\Hid (Br wr g r)/\Hid (wr.heap[b]? = some (.cells #[.int .i64 (m:Int),.slice A n c] 24 (0,0)))
theorem rst_next {L:List Ed} {l:List Int} {r0 r:List Bool} {k:Nat} {e:Ed} (h:r = rstA (L.take k) l r0) (he:L[k]? = some e):rst l r e = rstA (L.take (k + 1)) l r0:=by
 rw [take_at he]
 show _ = List.foldl (rst l) r0 (L.take k ++ [e])
 rw [List.foldl_append,h]; rfl
theorem rst_yes {l:List Int} {r:List Bool} {f t:Nat} {z:Int} (h1:bt r f = true) (h2:addI (vl l f) z = vl l t):rst l r ((f:Int),(t:Int),z) = r.set t true:=by
 have e1:gv l ((f:Int),(t:Int),z) = addI (vl l f) z:=by unfold gv; rw [fr_of]
 unfold rst; rw [e1,fr_of,to_of,if_pos ⟨h1,h2⟩]
theorem rst_off {l:List Int} {r:List Bool} {f t:Nat} {z:Int} (h1:bt r f = false):rst l r ((f:Int),(t:Int),z) = r:=by
 unfold rst; rw [fr_of,if_neg (fun h => by rw [h1] at h; exact absurd h.1 (by simp))]
theorem rst_on {l:List Int} {r:List Bool} {f t:Nat} {z:Int} (h1:bt r t = true):rst l r ((f:Int),(t:Int),z) = r:=by
 unfold rst; rw [to_of]; split
 ·exact bt_same h1
 ·rfl
theorem rst_un {l:List Int} {r:List Bool} {f t:Nat} {z:Int} (h2:¬ addI (vl l f) z = vl l t):rst l r ((f:Int),(t:Int),z) = r:=by
 have e1:gv l ((f:Int),(t:Int),z) = addI (vl l f) z:=by unfold gv; rw [fr_of]
 unfold rst; rw [e1,to_of,if_neg (fun h => h2 h.2)]
set_option maxRecDepth 100000 in
set_option maxHeartbeats 4000000 in
theorem reached_any (A B:Option Addr) (c d s:Nat) (L:List Ed) (l:List Int) (w:World) (hL:EAt w A L) (hl:IAt w B l) (hn:L.length <= 9223372036854775807) (hm:l.length <= 512) (hF:FitsI l.length L) (hs:s < l.length) :
 Calls Tryz.prog 56 #[.agg #[.int .i64 (l.length:Int),.slice A L.length c],.int .i64 (s:Int),.slice B l.length d] w fun e w' =>
  (∃ g,e = .returned (.slice (some ⟨g,0,none⟩) l.length l.length)/\Hid (Br w' g (rch l.length s L l)))/\Hid (Below w.heap.size w w'):=by
 have mixed:=mixedP
 have HL:=jH hL; have Hl:=jH hl; have HF:=jH hF; clear hL hl hF
 obtain ⟨n,hn'⟩:∃ n,n = L.length:=⟨_,rfl⟩
 obtain ⟨m,hm'⟩:∃ m,m = l.length:=⟨_,rfl⟩
 rw [<- hn'] at hn ⊢
 rw [<- hm'] at HF hm hs ⊢
 have HN:=jH hn'; have HM:=jH hm'; clear hn' hm'
 have hmk:=make_b m (by omega)
 obtain ⟨b,hb⟩:∃ b,b = w.heap.size:=⟨_,rfl⟩
 obtain ⟨g,hg⟩:∃ g,g = b + 1:=⟨_,rfl⟩
 have HBb:=jH hb; have HGg:=jH hg
 clear hb hg
 go_enter Tryz.func56,Tryz.ntmps56
 go_wp2
 refine scope_once 0 (ReJ m s b g A B n c d L l w) (fun _ w' => ((m:Int) - cnt (marks w' g)).toNat) rfl ?_ ?_
 ·rintro a' w1 ⟨r0,u8,u9,u10,u17,u18,u19,u20,u21,u22,u23,u24,u25,u26,u27,u28,u29,u30,u31,u32,u33,u34,u35,u36,u37,u38,u39,u40,u41,u42,u43,u44,u45,u46,u47,u48,u49,u50,u51,u52,u53,u54,u55,u56,u57,u58,rfl,HJ⟩
  have HB0:=jH HJ.out.below; have HR0:=jH HJ.out.row; have HX0:=jH HJ.out.box
  have k1:w1.cell? ⟨b,1,none⟩ = some (.slice A n c):=by rw [Lib.cell_of_heap HX0.out]; rfl
  go_wp2_with fail
  go_loopg [8,20] n (fun gk f i wr => RsRel m b g A n c L l w r0 gk f i wr)
  case atStart => exact ⟨0,r0,false,by omega,rfl,rfl,jH ⟨by simp,Int.le_refl _,HJ.out.len,rfl⟩,HB0,HR0,HX0⟩
  case round =>
   clear k1 HB0 HR0 HX0
   obtain ⟨k,r,x,hk,rfl,rfl,HK,HB,HR,HX⟩:=hrel
   by_cases hlt:k < n
   ·obtain ⟨f,t,z,he,hf,ht⟩:=edge_nat HF.out (show k < L.length by rw [<- HN.out]; exact hlt)
    obtain ⟨bk,o,rfl,c0,c1,c2⟩:=(HL.out.below HB.out) k _ he
    obtain ⟨bv,ov,rfl,x0⟩:=iat_at (Hl.out.below HB.out) (show f < l.length by rw [<- HM.out]; exact hf)
    obtain ⟨_,_,e0,y0⟩:=iat_at (Hl.out.below HB.out) (show t < l.length by rw [<- HM.out]; exact ht)
    cases e0
    have HNX:=jH (rst_next HK.out.2.2.2 he)
    obtain ⟨X,hX⟩:∃ X,vl l f = X:=⟨_,rfl⟩
    obtain ⟨Y,hY⟩:∃ Y,vl l t = Y:=⟨_,rfl⟩
    obtain ⟨G,hG⟩:∃ G,addI X z = G:=⟨_,rfl⟩
    rw [hX] at x0
    rw [hY] at y0
    have HG:Hid (addI (vl l f) z = G):=jH (by rw [hX,hG])
    have HY:=jH hY
    have HW:Hid (Below wr.heap.size wr (wr.alloc (.cells #[.int .i64 (f:Int),.int .i64 (t:Int),.int .i64 z] 33))):=jH ((Below.refl _ wr).alloc (Nat.le_refl _) _)
    have HE:=jH (eb_alloc wr (f:Int) (t:Int) z)
    clear hX hY he
    go_upto_region 7 with fail
    obtain ⟨W1,hW1⟩:∃ W1,W1 = wr.alloc (.cells #[.int .i64 (f:Int),.int .i64 (t:Int),.int .i64 z] 33):=⟨_,rfl⟩
    rw [<- hW1] at HW HE ⊢
    obtain ⟨eb,heb⟩:∃ eb,eb = wr.heap.size:=⟨_,rfl⟩
    rw [<- heb] at HE ⊢
    have HB1:=jS HB HW.out
    have HR1:=jH (HR.out.below HW.out)
    have HX1:=jH ((HW.out.block _ (lt_of_block HX.out)).trans HX.out)
    have q0:=cell_regrown ((HW.out.cell (block_lt_of_cell x0)).trans x0)
    have q1:=cell_regrown ((HW.out.cell (block_lt_of_cell y0)).trans y0)
    obtain ⟨p0,p1,p2,_⟩:=eb_cells HE.out
    have z0:=cell_regrown p0; have z1:=cell_regrown p1; have z2:=cell_regrown p2
    have hC:=regr fun W (_:Below W1.heap.size W1 W) => give_any X (f:Int) (t:Int) z W
    rw [hG] at hC
    have C1:=jH hC
    obtain ⟨bf,hbf⟩:∃ bf,bt r f = bf:=⟨_,rfl⟩
    obtain ⟨bt',hbt⟩:∃ bt',bt r t = bt':=⟨_,rfl⟩
    have v0:=HR1.out.cell (k:=f) (by rw [HK.out.2.2.1]; exact hf)
    have v1:=HR1.out.cell (k:=t) (by rw [HK.out.2.2.1]; exact ht)
    rw [hbf] at v0
    rw [hbt] at v1
    have v0:=cell_regrown v0; have v1:=cell_regrown v1
    have HF0:=jH hbf; have HT0:=jH hbt
    clear hC hG p0 p1 p2 x0 y0 c0 c1 c2 hW1 heb hbf hbt
    cases bf with
    | false =>
     refine wp_region_quiet_below mixed (by kernel_rfl) ?_
     repeat (go_big_quiet_step ((with_reducible first | exact C1.out _ _)))
     refine wpQuiet_nil ?_
     intro _ hw'
     obtain ⟨⟨dq,osq⟩,hw''⟩:=hw'
     subst hw''
     have hb2:=below_regrown W1 dq osq
     have HB2:=jS HB1 hb2
     have HR2:=jH (HR1.out.below hb2)
     have HX2:=jH ((hb2.block _ (lt_of_block HX1.out)).trans HX1.out)
     have HE2:=jH ((hb2.block _ (lt_of_block HE.out)).trans HE.out)
     clear hb2 q0 q1 z0 z1 z2 v0 v1 C1
     go_wp2
     go_roundg (gk - 1)
     case measure => omega
     case rel => exact ⟨k + 1,r,x,by omega,by go_num,rfl,jH ⟨HK.out.1,HK.out.2.1,HK.out.2.2.1,by rw [<- HNX.out,rst_off HF0.out]⟩,HB2,HR2,HX2⟩
    | true =>
     cases bt' with
     | true =>
      refine wp_region_quiet_below mixed (by kernel_rfl) ?_
      repeat (go_big_quiet_step ((with_reducible first | exact C1.out _ _)))
      refine wpQuiet_nil ?_
      intro _ hw'
      obtain ⟨⟨dq,osq⟩,hw''⟩:=hw'
      subst hw''
      have hb2:=below_regrown W1 dq osq
      have HB2:=jS HB1 hb2
      have HR2:=jH (HR1.out.below hb2)
      have HX2:=jH ((hb2.block _ (lt_of_block HX1.out)).trans HX1.out)
      have HE2:=jH ((hb2.block _ (lt_of_block HE.out)).trans HE.out)
      clear hb2 q0 q1 z0 z1 z2 v0 v1 C1
      go_wp2
      go_roundg (gk - 1)
      case measure => omega
      case rel => exact ⟨k + 1,r,x,by omega,by go_num,rfl,jH ⟨HK.out.1,HK.out.2.1,HK.out.2.2.1,by rw [<- HNX.out,rst_on HT0.out]⟩,HB2,HR2,HX2⟩
     | false =>
      by_cases hgy:G = Y
      ·subst hgy
       refine wp_region_quiet_below mixed (by kernel_rfl) ?_
       repeat (go_big_quiet_step ((with_reducible first | exact C1.out _ _)))
       refine wpQuiet_nil ?_
       intro _ hw'
       obtain ⟨⟨dq,osq⟩,hw''⟩:=hw'
       subst hw''
       have hb2:=below_regrown W1 dq osq
       have HB2:=jS HB1 hb2
       have HR2:=jH (HR1.out.below hb2)
       have HX2:=jH ((hb2.block _ (lt_of_block HX1.out)).trans HX1.out)
       have HE2:=jH ((hb2.block _ (lt_of_block HE.out)).trans HE.out)
       clear hb2 q0 q1 z0 z1 z2 v0 v1 C1
       have v2:=HR2.out.cell (k:=t) (by rw [HK.out.2.2.1]; exact ht)
       have v3:=HR2.out.free t
       obtain ⟨_,v4,_,_⟩:=eb_cells HE2.out
       have HB3:=jH (HB2.out.setCell (p:=⟨g,t,none⟩) (show w.heap.size <= g by have:=HBb.out; have:=HGg.out; omega) (.bool true))
       have HR3:=jH (HR2.out.set t true)
       have HX3:=jH (set_other (g:=g) (k:=t) (v:=.bool true) HX2.out (by have:=HGg.out; omega))
       go_wp2
       go_roundg (gk - 1)
       case measure => omega
       case rel =>
        have hcs:=cnt_set r t (by rw [HK.out.2.2.1]; exact ht) HT0.out
        have hcl:=HK.out.2.1
        exact ⟨k + 1,r.set t true,true,by omega,by go_num,rfl,jH ⟨by rw [hcs]; simp; omega,by rw [hcs]; omega,by rw [List.length_set]; exact HK.out.2.2.1,by rw [<- HNX.out,rst_yes HF0.out (by rw [HG.out,HY.out])]⟩,HB3,HR3,HX3⟩
      ·have HGY:Hid (¬ addI (vl l f) z = vl l t):=jH (by rw [HG.out,HY.out]; exact hgy)
       refine wp_region_quiet_below mixed (by kernel_rfl) ?_
       repeat (go_big_quiet_step ((with_reducible first | exact C1.out _ _)))
       refine wpQuiet_nil ?_
       intro _ hw'
       obtain ⟨⟨dq,osq⟩,hw''⟩:=hw'
       subst hw''
       have hb2:=below_regrown W1 dq osq
       have HB2:=jS HB1 hb2
       have HR2:=jH (HR1.out.below hb2)
       have HX2:=jH ((hb2.block _ (lt_of_block HX1.out)).trans HX1.out)
       have HE2:=jH ((hb2.block _ (lt_of_block HE.out)).trans HE.out)
       clear hb2 q0 q1 z0 z1 z2 v0 v1 C1
       go_wp2
       go_roundg (gk - 1)
       case measure => omega
       case rel => exact ⟨k + 1,r,x,by omega,by go_num,rfl,jH ⟨HK.out.1,HK.out.2.1,HK.out.2.2.1,by rw [<- HNX.out,rst_un HGY.out]⟩,HB2,HR2,HX2⟩
   ·have hkn:k = L.length:=by rw [<- HN.out]; omega
    have HT:Hid (r = rstA L l r0):=jH (by rw [HK.out.2.2.2,hkn,List.take_length])
    clear hkn
    cases x with
    | true =>
     have hlt2:cnt r0 < cnt r:=by have:=HK.out.1; simpa using this.symm
     have HLT:=jH hlt2; clear hlt2
     go_wp2
     go_step3
     refine ⟨rfl,⟨r,_,_,_,_,_,_,_,_,_,_,_,_,_,_,_,_,_,_,_,_,_,_,_,_,_,_,_,_,_,_,_,_,_,_,_,_,_,_,_,_,_,_,_,_,_,rfl,jH ⟨HB.out,HR.out,HX.out,HK.out.2.2.1,?_⟩⟩,?_⟩
     ·obtain ⟨q,hq⟩:=HJ.out.is
      exact ⟨q + 1,by rw [itr_next,<- hq]; exact HT.out⟩
     ·rw [marks_of HR.out,marks_of HJ.out.row]
      have h1:=(cnt_le r).2; have h2:=HK.out.2.2.1; have h3:=HLT.out
      rw [h2] at h1
      omega
    | false =>
     have hge:¬ cnt r0 < cnt r:=by have:=HK.out.1; simpa using this.symm
     have hrr:rstA L l r0 = r0:=by
      rcases rstA_step l HF.out.fits HJ.out.len with h | h
      ·exact h.1
      ·rw [<- HT.out] at h; exact absurd h hge
     have HRR:Hid (r = rch m s L l):=jH (by
      obtain ⟨q,hq⟩:=HJ.out.is
      rw [HT.out,hrr]; exact rch_one HF.out.fits q r0 hq hrr)
     clear hge hrr
     go_wp2
     simp only [Exit.jump]
     go_ret
     refine ⟨⟨g,rfl,?_⟩,HB⟩
     rw [<- HRR.out]; exact HR
 ·intro HKEY
  have HKEY:=jH HKEY
  go_upto_region 2 with fail
  obtain ⟨W0,hW0⟩:∃ W0,W0 = w.alloc (.cells #[.int .i64 (m:Int),.slice A n c] 24):=⟨_,rfl⟩
  have s0:W0.heap.size = g:=by rw [hW0,HGg.out,HBb.out]; simp
  have hx0:W0.heap[b]? = some (.cells #[.int .i64 (m:Int),.slice A n c] 24 (0,0)):=by rw [hW0,HBb.out]; exact heap_alloc_new w _
  have hb0:Below w.heap.size w W0:=by rw [hW0]; exact (Below.refl _ w).alloc (Nat.le_refl _) _
  rw [<- hW0]
  obtain ⟨W1,hW1⟩:∃ W1,W1 = W0.alloc (.cells (madeCells #[.bool false] m) 4):=⟨_,rfl⟩
  have hr1:Br W1 g (List.replicate m false):=by rw [hW1,<- s0]; exact Br.made _ _
  have hbb:Below W0.heap.size W0 W1:=by rw [hW1]; exact (Below.refl _ W0).alloc (Nat.le_refl _) _
  have hx1:=(hbb.block _ (lt_of_block hx0)).trans hx0
  have HB1:=jH (step_below hb0 hb0.size hbb)
  rw [<- hW1,show w.heap.size + 1 = g by rw [HGg.out,HBb.out],<- HBb.out]
  have v0:=hr1.cell (k:=s) (by simp; exact hs)
  have v1:=hr1.free s
  have HR1:=jH hr1; have HX1:=jH hx1
  clear hW0 hW1 hx0 hx1 hr1 hbb hb0 s0 hmk
  go_wp2_with fail
  go_step3
  apply_assumption
  refine HKEY.out _ _ ⟨one m s,_,_,_,_,_,_,_,_,_,_,_,_,_,_,_,_,_,_,_,_,_,_,_,_,_,_,_,_,_,_,_,_,_,_,_,_,_,_,_,_,_,_,_,_,_,rfl,jH ⟨?_,HR1.out.set s true,set_other HX1.out (by have:=HGg.out; omega),one_len m s,0,rfl⟩⟩
  exact HB1.out.setCell (p:=⟨g,s,none⟩) (show w.heap.size <= g by have:=HBb.out; have:=HGg.out; omega) (.bool true)
open Go.RowKit Gr Wd Ws Fx Lb
def HdRel (w:World) (r:List Bool) (l:List Int) (g:Nat) (gk:Nat) (i:Value) (wr:World):Prop :=
 ∃ k:Nat,k + gk = l.length/\i = .int .i64 (k:Int)/\Hid (Below w.heap.size w wr)/\Hid (Br wr g r)/\Hid (heldB r l 0 l.length = heldB r l k gk)
set_option maxRecDepth 100000 in
set_option maxHeartbeats 600000 in
theorem held_any (A B:Option Addr) (c d s:Nat) (L:List Ed) (l:List Int) (w:World) (hL:EAt w A L) (hl:IAt w B l) (hn:L.length <= 9223372036854775807) (hm:l.length <= 512) (hF:FitsI l.length L) (hs:s < l.length) :
 Calls Tryz.prog 33 #[.agg #[.int .i64 (l.length:Int),.slice A L.length c],.int .i64 (s:Int),.slice B l.length d] w fun e w' =>
  e = .returned (.bool (heldB (rch l.length s L l) l 0 l.length))/\Below w.heap.size w w':=by
 have HL:=jH hL; have Hl:=jH hl
 have HZ:=jH ((Below.refl _ w).alloc (Nat.le_refl _) (.cells #[.int .i64 (l.length:Int),.slice A L.length c] 24))
 have HC:=jH (fun W (hb:Below w.heap.size w W) => reached_any A B c d s L l W (hL.below hb) (hl.below hb) hn hm hF hs)
 clear hL hl hF
 obtain ⟨r,hr⟩:∃ r,rch l.length s L l = r:=⟨_,rfl⟩
 have hrl:=rch_len l.length s L l
 rw [hr] at HC hrl ⊢
 have HRL:=jH hrl
 clear hr hrl
 obtain ⟨n,hn'⟩:∃ n,n = L.length:=⟨_,rfl⟩
 obtain ⟨m,hm'⟩:∃ m,m = l.length:=⟨_,rfl⟩
 rw [<- hn'] at hn HZ HC ⊢
 rw [<- hm'] at hm hs HZ HC HRL ⊢
 have HN:=jH hn'; have HM:=jH hm'; clear hn' hm'
 obtain ⟨R,hR⟩:∃ R,heldB r l 0 m = R:=⟨_,rfl⟩
 rw [hR]
 have HR:=jH hR; clear hR
 go_enter Tryz.func33,Tryz.ntmps33
 go_wp2_with fail
 refine (HC.out _ HZ.out).mono ?_
 rintro e w1 ⟨⟨g,rfl,HB1⟩,HW1⟩
 have HW2:=jS HZ HW1.out
 clear HW1
 go_wp2_with fail
 go_loopg [16] m (fun gk i wr => HdRel w r l g gk i wr)
 case atStart => exact ⟨0,by have:=HM.out; omega,rfl,HW2,HB1,jH (by rw [<- HM.out])⟩
 case round =>
  clear HW2 HB1
  obtain ⟨k,hk,rfl,HB,HBr,HD⟩:=hrel
  rw [<- HM.out] at hk
  by_cases hlt:k < m
  ·obtain ⟨bk,o,rfl,x0⟩:=iat_at (Hl.out.below HB.out) (show k < l.length by rw [<- HM.out]; exact hlt)
   have v0:=HBr.out.cell (k:=k) (by rw [HRL.out]; exact hlt)
   obtain ⟨G,hG⟩:∃ G,gk = G + 1:=⟨gk - 1,by omega⟩
   subst hG
   obtain ⟨X,hX⟩:∃ X,vl l k = X:=⟨_,rfl⟩
   obtain ⟨b,hb⟩:∃ b,bt r k = b:=⟨_,rfl⟩
   have hd:=HD.out
   rw [heldB,hX,hb] at hd
   rw [hX] at x0
   rw [hb] at v0
   have HD2:=jH hd
   clear hd hX hb HD
   by_cases hi:X = 4611686018427387904
   ·subst hi
    go_wp2
    go_roundg G
    case measure => omega
    case rel => exact ⟨k + 1,by have:=HM.out; omega,by go_num,HB,HBr,jH (by rw [HD2.out]; simp)⟩
   ·cases b with
    | true =>
     go_wp2
     go_roundg G
     case measure => omega
     case rel => exact ⟨k + 1,by have:=HM.out; omega,by go_num,HB,HBr,jH (by rw [HD2.out]; simp)⟩
    | false =>
     go_wp2
     go_ret
     refine ⟨ret_b ?_,HB.out⟩
     rw [<- HR.out,HM.out,HD2.out]; simp [hi]
  ·have HK:Hid (k = m):=jH (by omega)
   have HG0:Hid (gk = 0):=jH (by omega)
   go_wp2
   go_ret
   refine ⟨ret_b ?_,HB.out⟩
   rw [<- HR.out,HM.out,HD.out,HG0.out]; rfl
theorem okP_no (V:Int) (L:List Ed) (s:Int) (l:List Int) (h:¬ (chk V L = 0/\0 <= s/\s < V/\(l.length:Int) = V)):tgt V L s l = false:=by
 unfold tgt
 cases ho:okP V L s l with
 | true => exact absurd ((okP_iff V L s l).1 ho) h
 | false => rfl
theorem okP_yes (V:Int) (L:List Ed) (s:Int) (l:List Int) (h:chk V L = 0/\0 <= s/\s < V/\(l.length:Int) = V):tgt V L s l = inP L s.toNat l:=by
 unfold tgt
 rw [(okP_iff V L s l).2 h]; rfl
theorem inP_at {L:List Ed} {s:Nat} {l:List Int} {D N H:Bool} {z:Int} (h1:distB l = D) (h2:vl l s = z) (h3:nearB l L = N) (h4:heldB (rch l.length s L l) l 0 l.length = H):inP L s l = (D && decide (z = 0) && N && H):=by
 unfold inP; rw [h1,h2,h3,h4]
set_option maxRecDepth 100000 in
set_option maxHeartbeats 2000000 in
theorem tight_any (V s:Int) (A B:Option Addr) (c d:Nat) (L:List Ed) (l:List Int) (w:World) (hL:EAt w A L) (hl:IAt w B l) (hn:L.length <= 9223372036854775807) (hm:l.length <= 9223372036854775807) :
 Calls Tryz.prog 15 #[.agg #[.int .i64 V,.slice A L.length c],.int .i64 s,.slice B l.length d] w fun e w' =>
  e = .returned (.bool (tgt V L s l))/\Below w.heap.size w w':=by
 have HX:=jH (heap_alloc_new w (.cells #[.int .i64 V,.slice A L.length c] 24))
 have HZ:=jH ((Below.refl _ w).alloc (Nat.le_refl _) (.cells #[.int .i64 V,.slice A L.length c] 24))
 have HC:=jH (fun W (hb:Below w.heap.size w W) => check_any V A c L W (hL.below hb) hn)
 obtain ⟨W1,hW1⟩:∃ W1,W1 = w.alloc (.cells #[.int .i64 V,.slice A L.length c] 24):=⟨_,rfl⟩
 rw [<- hW1] at HX HZ
 obtain ⟨T,hT⟩:∃ T,tgt V L s l = T:=⟨_,rfl⟩
 rw [hT]
 obtain ⟨E,hE⟩:∃ E,chk V L = E:=⟨_,rfl⟩
 rw [hE] at HC
 by_cases hok:E = 0/\0 <= s/\s < V/\(l.length:Int) = V
 ·obtain ⟨rfl,hs0,hs1,hlV⟩:=hok
  obtain ⟨q,rfl⟩:∃ q:Nat,s = (q:Int):=⟨s.toNat,by omega⟩
  subst hlV
  have hq:q < l.length:=by omega
  have hV:=((chk_zero _ _).1 hE).2.1
  have hFI:=fitsI_of hE
  have hTT:=okP_yes (l.length:Int) L q l ⟨hE,hs0,hs1,rfl⟩
  rw [hT] at hTT
  obtain ⟨D,hD⟩:∃ D,distB l = D:=⟨_,rfl⟩
  obtain ⟨z,hz⟩:∃ z,vl l q = z:=⟨_,rfl⟩
  obtain ⟨N,hN⟩:∃ N,nearB l L = N:=⟨_,rfl⟩
  obtain ⟨H,hH⟩:∃ H,heldB (rch l.length q L l) l 0 l.length = H:=⟨_,rfl⟩
  have h1:=inP_at hD hz hN hH
  rw [show (q:Int).toNat = q by omega,h1] at hTT
  have HTT:=jH hTT
  have HD:=jH (fun W (hb:Below w.heap.size w W) => dists_any B d l W (hl.below hb) hm)
  have HNn:=jH (fun W (hb:Below w.heap.size w W) => near_any (l.length:Int) A B c d L l W (hL.below hb) (hl.below hb) hn hFI)
  have HH:=jH (fun W (hb:Below w.heap.size w W) => held_any A B c d q L l W (hL.below hb) (hl.below hb) hn (by omega) hFI hq)
  rw [hD] at HD
  rw [hN] at HNn
  rw [hH] at HH
  have Hl:=jH hl
  have HQ:Hid (∀ W,Below w.heap.size w W->∃ bk o,B = some ⟨bk,o,none⟩/\W.cell? ⟨bk,o + q,none⟩ = some (.int .i64 z)):=jH fun W hb => by
   have:=iat_at (hl.below hb) hq
   rwa [hz] at this
  clear hT hE hV hFI hTT hD hz hN hH h1 hL hl Hl hs0
  obtain ⟨m,hm'⟩:∃ m,m = l.length:=⟨_,rfl⟩
  obtain ⟨n,hn'⟩:∃ n,n = L.length:=⟨_,rfl⟩
  rw [<- hm'] at hm hq HX HC HD HNn HH hW1 hs1 ⊢
  rw [<- hn'] at hn HX HC HNn HH hW1 ⊢
  clear hm' hn'
  obtain ⟨b,hb⟩:∃ b,b = w.heap.size:=⟨_,rfl⟩
  rw [<- hb] at HX
  have HBb:=jH hb; clear hb
  go_enter Tryz.func15,Tryz.ntmps15
  go_upto_region 1 with fail
  rw [<- hW1,<- HBb.out]
  obtain ⟨k0,k1,_⟩:=Bx.cells HX.out
  clear hW1
  go_wp2_with fail
  refine (HC.out _ HZ.out).mono ?_
  rintro e w2 ⟨rfl,hw2⟩
  have HZ2:=jS HZ hw2
  have HX2:=jH ((hw2.block _ (lt_of_block HX.out)).trans HX.out)
  clear hw2 k0 k1 HX HZ HC
  obtain ⟨k0,k1,_⟩:=Bx.cells HX2.out
  go_wp2_with fail
  refine (HD.out _ HZ2.out).mono ?_
  rintro e w3 ⟨rfl,rfl⟩
  clear HD
  cases D with
  | false =>
   go_wp2
   go_ret
   exact ⟨ret_b (by rw [HTT.out]; rfl),HZ2.out⟩
  | true =>
   obtain ⟨bk,o,rfl,y0⟩:=HQ.out _ HZ2.out
   by_cases hz:z = 0
   ·subst hz
    go_wp2_with fail
    refine (HNn.out _ HZ2.out).mono ?_
    rintro e w3 ⟨rfl,hw3⟩
    have HZ3:=jS HZ2 hw3
    have HX3:=jH ((hw3.block _ (lt_of_block HX2.out)).trans HX2.out)
    clear hw3 k0 k1 HX2 HZ2 y0
    obtain ⟨k0,k1,_⟩:=Bx.cells HX3.out
    cases N with
    | false =>
     go_wp2
     go_ret
     exact ⟨ret_b (by rw [HTT.out]; rfl),HZ3.out⟩
    | true =>
     go_wp2_with fail
     refine (HH.out _ HZ3.out).mono ?_
     rintro e w4 ⟨rfl,hw4⟩
     have HZ4:=jS HZ3 hw4
     clear hw4 k0 k1 HX3 HZ3
     go_wp2
     go_ret
     exact ⟨ret_b (by rw [HTT.out]; simp),HZ4.out⟩
   ·go_wp2
    go_ret
    exact ⟨ret_b (by rw [HTT.out]; simp [hz]),HZ2.out⟩
 ·have hF:=okP_no V L s l (by rw [hE]; exact hok)
  rw [hT] at hF
  subst hF
  clear hT hE hL hl
  obtain ⟨m,hm'⟩:∃ m,m = l.length:=⟨_,rfl⟩
  obtain ⟨n,hn'⟩:∃ n,n = L.length:=⟨_,rfl⟩
  rw [<- hm'] at hm hok ⊢
  rw [<- hn'] at hn HX HC hW1 ⊢
  clear hm' hn'
  obtain ⟨b,hb⟩:∃ b,b = w.heap.size:=⟨_,rfl⟩
  rw [<- hb] at HX
  have HBb:=jH hb; clear hb
  rcases (show ¬ E = 0\/(E = 0/\s < 0)\/(E = 0/\0 <= s/\V <= s)\/(E = 0/\0 <= s/\s < V/\¬ (m:Int) = V) by omega) with g1 | ⟨g1,g2⟩ | ⟨g1,g2,g3⟩ | ⟨g1,g2,g3,g4⟩
  all_goals
   clear hok
   try (have g5:((m:Int) != V) = true:=by simpa using g4)
   go_enter Tryz.func15,Tryz.ntmps15
   go_upto_region 1 with fail
   rw [<- hW1,<- HBb.out]
   obtain ⟨k0,k1,_⟩:=Bx.cells HX.out
   clear hW1
   go_wp2_with fail
   refine (HC.out _ HZ.out).mono ?_
   rintro e w2 ⟨rfl,hw2⟩
   have HZ2:=jS HZ hw2
   have HX2:=jH ((hw2.block _ (lt_of_block HX.out)).trans HX.out)
   clear hw2 k0 k1 HX HZ HC
   obtain ⟨k0,k1,_⟩:=Bx.cells HX2.out
   go_wp2
   go_ret
   exact ⟨rfl,HZ2.out⟩
end Go.Proofs.YtdcaekmgfcpbmaaGreat.Pa
