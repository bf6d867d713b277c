/-
  What is proved here: contracts of what tells whether two rows, and two states, are the same. Conditions: counts fit an int. What is proved here: a contract of the document's own Same of two states. Conditions: counts fit an int.
-/
import Derived.Test.YtdcaekmgfcpbmaaGreatQdSqNmx
namespace Go.Proofs.YtdcaekmgfcpbmaaGreat.Sq
open Go.RowKit Gr Wd Ws Fx Rk Lb Al In
def SqRel (w:World) (L M:List Int) (g:Nat) (i:Value) (wr:World):Prop :=
 ∃ k:Nat,k + g = L.length/\i = .int .i64 (k:Int)/\Below w.heap.size w wr/\decide (L = M) = decide (L.drop k = M.drop k)
def SbRel (w:World) (L M:List Bool) (g:Nat) (i:Value) (wr:World):Prop :=
 ∃ k:Nat,k + g = L.length/\i = .int .i64 (k:Int)/\Below w.heap.size w wr/\decide (L = M) = decide (L.drop k = M.drop k)
set_option maxRecDepth 100000 in
set_option maxHeartbeats 600000 in
theorem equalQ_any (A B:Option Addr) (n m c d:Nat) (L M:List Int) (w:World) (hL:IAt w A L) (hM:IAt w B M) (hn:L.length = n) (hm:M.length = m) (hl:n <= 9223372036854775807) (_hm2:m <= 9223372036854775807) :
 Calls Tryz.prog 40 #[.slice A n c,.slice B m d] w fun e w' => e = .returned (.bool (decide (L = M)))/\Below w.heap.size w w':=by
 have mixed:=mixedI
 have HL:=jH hL; have HM:=jH hM; have HLn:=jH hn; have HMm:=jH hm; clear hL hM hn hm
 obtain ⟨R,hR⟩:∃ R,decide (L = M) = R:=⟨_,rfl⟩
 rw [hR]
 have HR:=jH hR; clear hR
 by_cases hlm:n = m
 ·subst hlm
  go_enter Tryz.func40,Tryz.ntmps40
  go_wp2
  go_loopg [13] n (fun g i wr => SqRel w L M g i wr)
  case atStart => exact ⟨0,by have:=HLn.out; omega,rfl,Below.refl _ w,rfl⟩
  case round =>
   obtain ⟨k,hk,rfl,hb,hd⟩:=hrel
   rw [HLn.out] at hk
   by_cases hlt:k < n
   ·obtain ⟨e,he⟩:=at_lt L k (by rw [HLn.out]; exact hlt)
    obtain ⟨f,hf⟩:=at_lt M k (by rw [HMm.out]; exact hlt)
    obtain ⟨bk,o,rfl,c0⟩:=(HL.out.below hb) k e he
    obtain ⟨bk',o',rfl,d0⟩:=(HM.out.below hb) k f hf
    rw [drop_at he,drop_at hf] at hd
    have HB:=jH hb; have HD:=jH hd
    clear hb hd he hf
    by_cases hef:e = f
    ·subst hef
     go_wp2
     go_quiet (fail)
     go_wp2
     go_roundg (gk - 1)
     case measure => omega
     case rel =>
      refine ⟨k + 1,by have:=HLn.out; omega,by go_num,Ws.below_drewN HB.out _,?_⟩
      rw [HD.out]; simp
    ·go_wp2
     go_quiet (fail)
     go_wp2
     go_ret
     refine ⟨ret_b ?_,Ws.below_drewN HB.out _⟩
     rw [<- HR.out,HD.out]
     simp only [List.cons.injEq,hef,false_and,decide_false]
   ·have HB:=jH hb; have HD:=jH hd
    have HK:Hid (k = n):=jH (by omega)
    clear hb hd
    go_wp2
    go_ret
    refine ⟨ret_b ?_,HB.out⟩
    rw [<- HR.out,HD.out,HK.out]
    rw [List.drop_eq_nil_of_le (by rw [HLn.out]; exact Nat.le_refl _),List.drop_eq_nil_of_le (by rw [HMm.out]; exact Nat.le_refl _)]; simp
 ·have hne:R = false:=by
   rw [<- HR.out]
   exact decide_eq_false fun h => hlm (by rw [<- HLn.out,<- HMm.out,h])
  subst hne
  go_enter Tryz.func40,Tryz.ntmps40
  go_wp2
  go_ret
  exact ⟨rfl,Below.refl _ w⟩
set_option maxRecDepth 100000 in
set_option maxHeartbeats 600000 in
theorem equalB_any (A B:Option Addr) (n m c d:Nat) (L M:List Bool) (w:World) (hL:BAt w A L) (hM:BAt w B M) (hn:L.length = n) (hm:M.length = m) (hl:n <= 9223372036854775807) (_hm2:m <= 9223372036854775807) :
 Calls Tryz.prog 62 #[.slice A n c,.slice B m d] w fun e w' => e = .returned (.bool (decide (L = M)))/\Below w.heap.size w w':=by
 have mixed:=mixedI
 have HL:=jH hL; have HM:=jH hM; have HLn:=jH hn; have HMm:=jH hm; clear hL hM hn hm
 obtain ⟨R,hR⟩:∃ R,decide (L = M) = R:=⟨_,rfl⟩
 rw [hR]
 have HR:=jH hR; clear hR
 by_cases hlm:n = m
 ·subst hlm
  go_enter Tryz.func62,Tryz.ntmps62
  go_wp2
  go_loopg [13] n (fun g i wr => SbRel w L M g i wr)
  case atStart => exact ⟨0,by have:=HLn.out; omega,rfl,Below.refl _ w,rfl⟩
  case round =>
   obtain ⟨k,hk,rfl,hb,hd⟩:=hrel
   rw [HLn.out] at hk
   by_cases hlt:k < n
   ·obtain ⟨e,he⟩:=at_lt L k (by rw [HLn.out]; exact hlt)
    obtain ⟨f,hf⟩:=at_lt M k (by rw [HMm.out]; exact hlt)
    obtain ⟨bk,o,rfl,c0⟩:=(HL.out.below hb) k e he
    obtain ⟨bk',o',rfl,d0⟩:=(HM.out.below hb) k f hf
    rw [drop_at he,drop_at hf] at hd
    have HB:=jH hb; have HD:=jH hd
    clear hb hd he hf
    rcases e with _ | _ <;> rcases f with _ | _
    ·go_wp2
     go_quiet (fail)
     go_wp2
     go_roundg (gk - 1)
     case measure => omega
     case rel =>
      refine ⟨k + 1,by have:=HLn.out; omega,by go_num,Ws.below_drewN HB.out _,?_⟩
      rw [HD.out]; simp
    ·go_wp2
     go_quiet (fail)
     go_wp2
     go_ret
     refine ⟨ret_b ?_,Ws.below_drewN HB.out _⟩
     rw [<- HR.out,HD.out]
     simp
    ·go_wp2
     go_quiet (fail)
     go_wp2
     go_ret
     refine ⟨ret_b ?_,Ws.below_drewN HB.out _⟩
     rw [<- HR.out,HD.out]
     simp
    ·go_wp2
     go_quiet (fail)
     go_wp2
     go_roundg (gk - 1)
     case measure => omega
     case rel =>
      refine ⟨k + 1,by have:=HLn.out; omega,by go_num,Ws.below_drewN HB.out _,?_⟩
      rw [HD.out]; simp
   ·have HB:=jH hb; have HD:=jH hd
    have HK:Hid (k = n):=jH (by omega)
    clear hb hd
    go_wp2
    go_ret
    refine ⟨ret_b ?_,HB.out⟩
    rw [<- HR.out,HD.out,HK.out]
    rw [List.drop_eq_nil_of_le (by rw [HLn.out]; exact Nat.le_refl _),List.drop_eq_nil_of_le (by rw [HMm.out]; exact Nat.le_refl _)]; simp
 ·have hne:R = false:=by
   rw [<- HR.out]
   exact decide_eq_false fun h => hlm (by rw [<- HLn.out,<- HMm.out,h])
  subst hne
  go_enter Tryz.func62,Tryz.ntmps62
  go_wp2
  go_ret
  exact ⟨rfl,Below.refl _ w⟩
set_option maxRecDepth 100000 in
set_option maxHeartbeats 600000 in
theorem kitq_any (A B:Option Addr) (n m c d:Nat) (L M:List Int) (w:World) (hL:IAt w A L) (hM:IAt w B M) (hn:L.length = n) (hm:M.length = m) (hl:n <= 9223372036854775807) (_hm2:m <= 9223372036854775807) :
 Calls Tryz.prog 11 #[.slice A n c,.slice B m d] w fun e w' => e = .returned (.bool (decide (L = M)))/\Below w.heap.size w w':=by
 have mixed:=mixedI
 have HL:=jH hL; have HM:=jH hM; have HLn:=jH hn; have HMm:=jH hm; clear hL hM hn hm
 obtain ⟨R,hR⟩:∃ R,decide (L = M) = R:=⟨_,rfl⟩
 rw [hR]
 have HR:=jH hR; clear hR
 by_cases hlm:n = m
 ·subst hlm
  go_enter Tryz.func11,Tryz.ntmps11
  go_wp2
  go_loopg [5] n (fun g i wr => SqRel w L M g i wr)
  case atStart => exact ⟨0,by have:=HLn.out; omega,rfl,Below.refl _ w,rfl⟩
  case round =>
   obtain ⟨k,hk,rfl,hb,hd⟩:=hrel
   rw [HLn.out] at hk
   by_cases hlt:k < n
   ·obtain ⟨e,he⟩:=at_lt L k (by rw [HLn.out]; exact hlt)
    obtain ⟨f,hf⟩:=at_lt M k (by rw [HMm.out]; exact hlt)
    obtain ⟨bk,o,rfl,c0⟩:=(HL.out.below hb) k e he
    obtain ⟨bk',o',rfl,d0⟩:=(HM.out.below hb) k f hf
    rw [drop_at he,drop_at hf] at hd
    have HB:=jH hb; have HD:=jH hd
    clear hb hd he hf
    by_cases hef:e = f
    ·subst hef
     go_wp2
     go_quiet (fail)
     go_wp2
     go_roundg (gk - 1)
     case measure => omega
     case rel =>
      refine ⟨k + 1,by have:=HLn.out; omega,by go_num,Ws.below_drewN HB.out _,?_⟩
      rw [HD.out]; simp
    ·go_wp2
     go_quiet (fail)
     go_wp2
     go_ret
     refine ⟨ret_b ?_,Ws.below_drewN HB.out _⟩
     rw [<- HR.out,HD.out]
     simp only [List.cons.injEq,hef,false_and,decide_false]
   ·have HB:=jH hb; have HD:=jH hd
    have HK:Hid (k = n):=jH (by omega)
    clear hb hd
    go_wp2
    go_ret
    refine ⟨ret_b ?_,HB.out⟩
    rw [<- HR.out,HD.out,HK.out]
    rw [List.drop_eq_nil_of_le (by rw [HLn.out]; exact Nat.le_refl _),List.drop_eq_nil_of_le (by rw [HMm.out]; exact Nat.le_refl _)]; simp
 ·have hne:R = false:=by
   rw [<- HR.out]
   exact decide_eq_false fun h => hlm (by rw [<- HLn.out,<- HMm.out,h])
  subst hne
  go_enter Tryz.func11,Tryz.ntmps11
  go_wp2
  go_ret
  exact ⟨rfl,Below.refl _ w⟩
def sameS (p q:Int) (a b:Sq):Bool:=decide (p = q) && (decide (a.sum = b.sum) && (decide (a.most = b.most) && (decide (a.vals = b.vals) && (decide (a.chg = b.chg) && sameB a.inb b.inb))))
theorem sameB_refl:∀ l:List Ml,sameB l l = true
 | [] => rfl
 | x :: l => by rw [sameB_cons,sameB_refl l]; unfold eqM; simp
theorem sameS_refl (p:Int) (a:Sq):sameS p p a a = true:=by unfold sameS; simp [sameB_refl]
structure SAt (w:World) (Av Ac Ai:Option Addr) (nv nc ni:Nat) (s:Sq):Prop where
 v:IAt w Av s.vals
 c:BAt w Ac s.chg
 i:KAt w Ai s.inb
 nv:s.vals.length = nv
 nc:s.chg.length = nc
 ni:s.inb.length = ni
theorem SAt.below {w w':World} {Av Ac Ai:Option Addr} {nv nc ni:Nat} {s:Sq} (h:SAt w Av Ac Ai nv nc ni s) (hb:Below w.heap.size w w'):SAt w' Av Ac Ai nv nc ni s:=⟨h.v.below hb,h.c.below hb,h.i.below hb,h.nv,h.nc,h.ni⟩
set_option maxRecDepth 100000 in
set_option maxHeartbeats 2000000 in
theorem seqSame_any (p q:Int) (a b:Sq) (Av Ac Ai Bv Bc Bi:Option Addr) (nv nc ni cv cc ci mv mc mi dv dc di:Nat) (w:World) (ha:SAt w Av Ac Ai nv nc ni a) (hb:SAt w Bv Bc Bi mv mc mi b)
 (h1:nv <= 9223372036854775807) (h2:nc <= 9223372036854775807) (h3:ni <= 9223372036854775807) (g1:mv <= 9223372036854775807) (g2:mc <= 9223372036854775807) (g3:mi <= 9223372036854775807) :
 Calls Tryz.prog 39 #[.agg #[.int .i64 p,.slice Av nv cv,.slice Ac nc cc,.slice Ai ni ci,.int .i64 a.sum,.int .i64 a.most],.agg #[.int .i64 q,.slice Bv mv dv,.slice Bc mc dc,.slice Bi mi di,.int .i64 b.sum,.int .i64 b.most]] w fun e w' => e = .returned (.bool (sameS p q a b))/\Below w.heap.size w w':=by
 have HA:=jH ha; have HB:=jH hb
 clear ha hb
 obtain ⟨sa,esa⟩:∃ sa,sa = a.sum:=⟨_,rfl⟩
 obtain ⟨ma,eam⟩:∃ ma,ma = a.most:=⟨_,rfl⟩
 obtain ⟨sb,ebs⟩:∃ sb,sb = b.sum:=⟨_,rfl⟩
 obtain ⟨mb,ebm⟩:∃ mb,mb = b.most:=⟨_,rfl⟩
 obtain ⟨r,hr⟩:∃ r,sameS p q a b = r:=⟨_,rfl⟩
 rw [hr]
 unfold sameS at hr
 rw [<- esa,<- eam,<- ebs,<- ebm] at hr ⊢
 clear esa eam ebs ebm
 obtain ⟨W2,hW2⟩:∃ W2,W2 = (w.alloc (.cells #[.int .i64 p,.slice Av nv cv,.slice Ac nc cc,.slice Ai ni ci,.int .i64 sa,.int .i64 ma] 45)).alloc (.cells #[.int .i64 q,.slice Bv mv dv,.slice Bc mc dc,.slice Bi mi di,.int .i64 sb,.int .i64 mb] 45):=⟨_,rfl⟩
 have hal:=al2 w (.cells #[.int .i64 p,.slice Av nv cv,.slice Ac nc cc,.slice Ai ni ci,.int .i64 sa,.int .i64 ma] 45) (.cells #[.int .i64 q,.slice Bv mv dv,.slice Bc mc dc,.slice Bi mi di,.int .i64 sb,.int .i64 mb] 45)
 rw [<- hW2] at hal
 have HB2:=jH hal.2.2
 have HX:=jH hal.1; have HY:=jH hal.2.1
 obtain ⟨b0,e0⟩:∃ b0,b0 = w.heap.size:=⟨_,rfl⟩
 obtain ⟨b1,e1⟩:∃ b1,b1 = w.heap.size + 1:=⟨_,rfl⟩
 rw [<- e0] at HX
 rw [<- e1] at HY
 obtain ⟨x0,x1,x2,x3,x4,x5,_⟩:=six HX.out
 obtain ⟨y0,y1,y2,y3,y4,y5,_⟩:=six HY.out
 clear hal
 by_cases k1:p = q
 ·by_cases k2:sa = sb
  ·by_cases k3:ma = mb
   ·rw [decide_eq_true k1,decide_eq_true k2,decide_eq_true k3,Bool.true_and,Bool.true_and,Bool.true_and] at hr
    subst k1; subst k2; subst k3
    obtain ⟨t1,ht1⟩:∃ t,decide (a.vals = b.vals) = t:=⟨_,rfl⟩
    obtain ⟨t2,ht2⟩:∃ t,decide (a.chg = b.chg) = t:=⟨_,rfl⟩
    obtain ⟨t3,ht3⟩:∃ t,sameB a.inb b.inb = t:=⟨_,rfl⟩
    rw [ht1,ht2,ht3] at hr
    have HC1:=jH (fun W (h:Below w.heap.size w W) => equalQ_any Av Bv nv mv cv dv a.vals b.vals W (HA.out.v.below h) (HB.out.v.below h) HA.out.nv HB.out.nv h1 g1)
    have HC2:=jH (fun W (h:Below w.heap.size w W) => equalB_any Ac Bc nc mc cc dc a.chg b.chg W (HA.out.c.below h) (HB.out.c.below h) HA.out.nc HB.out.nc h2 g2)
    have HC3:=jH (fun W (h:Below w.heap.size w W) => In.same_any Ai Bi ni mi ci di a.inb b.inb W (HA.out.i.below h) (HB.out.i.below h) HA.out.ni HB.out.ni h3 g3)
    rw [ht1] at HC1; rw [ht2] at HC2; rw [ht3] at HC3
    clear ht1 ht2 ht3 h1 h2 h3 g1 g2 g3
    go_enter Tryz.func39,Tryz.ntmps39
    go_upto_region 1 with fail
    rw [<- hW2,show w.heap.size + 1 = b1 from e1.symm,show w.heap.size = b0 from e0.symm]
    clear hW2 e0 e1
    go_wp2_with fail
    refine (HC1.out _ HB2.out).mono ?_
    rintro e w3 ⟨rfl,hb3⟩
    have HB3:=jS HB2 hb3
    have HX3:=jK HX hb3; have HY3:=jK HY hb3
    clear hb3 x0 x1 x2 x3 x4 x5 y0 y1 y2 y3 y4 y5
    obtain ⟨x0,x1,x2,x3,x4,x5,_⟩:=six HX3.out
    obtain ⟨y0,y1,y2,y3,y4,y5,_⟩:=six HY3.out
    cases t1 with
    | false =>
     obtain rfl:false = r:=by rw [<- hr]; rfl
     go_wp2_with fail
     go_ret
     exact ⟨rfl,HB3.out⟩
    | true =>
     go_wp2_with fail
     refine (HC2.out _ HB3.out).mono ?_
     rintro e w4 ⟨rfl,hb4⟩
     have HB4:=jS HB3 hb4
     have HX4:=jK HX3 hb4; have HY4:=jK HY3 hb4
     clear hb4 x0 x1 x2 x3 x4 x5 y0 y1 y2 y3 y4 y5
     obtain ⟨x0,x1,x2,x3,x4,x5,_⟩:=six HX4.out
     obtain ⟨y0,y1,y2,y3,y4,y5,_⟩:=six HY4.out
     cases t2 with
     | false =>
      obtain rfl:false = r:=by rw [<- hr]; rfl
      go_wp2_with fail
      go_ret
      exact ⟨rfl,HB4.out⟩
     | true =>
      go_wp2_with fail
      refine (HC3.out _ HB4.out).mono ?_
      rintro e w5 ⟨rfl,hb5⟩
      have HB5:=jS HB4 hb5.out
      obtain rfl:t3 = r:=by rw [<- hr]; rfl
      clear hb5 x0 x1 x2 x3 x4 x5 y0 y1 y2 y3 y4 y5
      go_wp2_with fail
      go_ret
      exact ⟨rfl,HB5.out⟩
   ·obtain rfl:false = r:=by rw [<- hr]; rw [decide_eq_false k3]; simp
    clear hr
    subst k1; subst k2
    go_enter Tryz.func39,Tryz.ntmps39
    go_upto_region 1 with fail
    rw [<- hW2,show w.heap.size + 1 = b1 from e1.symm,show w.heap.size = b0 from e0.symm]
    clear hW2 e0 e1
    go_wp2_with fail
    go_ret
    exact ⟨rfl,HB2.out⟩
  ·obtain rfl:false = r:=by rw [<- hr]; rw [decide_eq_false k2]; simp
   clear hr
   subst k1
   go_enter Tryz.func39,Tryz.ntmps39
   go_upto_region 1 with fail
   rw [<- hW2,show w.heap.size + 1 = b1 from e1.symm,show w.heap.size = b0 from e0.symm]
   clear hW2 e0 e1
   go_wp2_with fail
   go_ret
   exact ⟨rfl,HB2.out⟩
 ·obtain rfl:false = r:=by rw [<- hr]; rw [decide_eq_false k1]; simp
  clear hr
  go_enter Tryz.func39,Tryz.ntmps39
  go_upto_region 1 with fail
  rw [<- hW2,show w.heap.size + 1 = b1 from e1.symm,show w.heap.size = b0 from e0.symm]
  clear hW2 e0 e1
  go_wp2_with fail
  go_ret
  exact ⟨rfl,HB2.out⟩
open Go.RowKit Gr Wd Ws Fx Rk Lb Al In
def RqRel {α:Type} [DecidableEq α] (w:World) (L M:List α) (g:Nat) (i:Value) (wr:World):Prop :=
 ∃ k:Nat,k + g = L.length/\i = .int .i64 (k:Int)/\Hid (Below w.heap.size w wr)/\Hid (decide (L = M) = decide (L.drop k = M.drop k))
set_option maxRecDepth 100000 in
set_option maxHeartbeats 4000000 in
theorem rsqSame_any (p q:Int) (a b:Sq) (Av Ac Ai Bv Bc Bi:Option Addr) (nv nc ni cv cc ci mv mc mi dv dc di:Nat) (w:World) (ha:SAt w Av Ac Ai nv nc ni a) (hb:SAt w Bv Bc Bi mv mc mi b)
 (h1:nv <= 9223372036854775807) (h2:nc <= 9223372036854775807) (h3:ni <= 9223372036854775807) (g1:mv <= 9223372036854775807) (g2:mc <= 9223372036854775807) (g3:mi <= 9223372036854775807) :
 Calls Tryz.prog 67 #[.agg #[.int .i64 p,.slice Av nv cv,.slice Ac nc cc,.slice Ai ni ci,.int .i64 a.sum,.int .i64 a.most],.agg #[.int .i64 q,.slice Bv mv dv,.slice Bc mc dc,.slice Bi mi di,.int .i64 b.sum,.int .i64 b.most]] w fun e w' => e = .returned (.bool (sameS p q a b))/\Below w.heap.size w w':=by
 have mixed:=mixedI
 have HA:=jH ha; have HB:=jH hb
 clear ha hb
 obtain ⟨sa,esa⟩:∃ sa,sa = a.sum:=⟨_,rfl⟩
 obtain ⟨ma,ema⟩:∃ ma,ma = a.most:=⟨_,rfl⟩
 obtain ⟨sb,esb⟩:∃ sb,sb = b.sum:=⟨_,rfl⟩
 obtain ⟨mb,emb⟩:∃ mb,mb = b.most:=⟨_,rfl⟩
 obtain ⟨r,hr⟩:∃ r,sameS p q a b = r:=⟨_,rfl⟩
 rw [hr]
 unfold sameS at hr
 rw [<- esa,<- ema,<- esb,<- emb] at hr ⊢
 clear esa ema esb emb
 obtain ⟨W2,hW2⟩:∃ W2,W2 = (w.alloc (.cells #[.int .i64 p,.slice Av nv cv,.slice Ac nc cc,.slice Ai ni ci,.int .i64 sa,.int .i64 ma] 45)).alloc (.cells #[.int .i64 q,.slice Bv mv dv,.slice Bc mc dc,.slice Bi mi di,.int .i64 sb,.int .i64 mb] 45):=⟨_,rfl⟩
 have hal:=al2 w (.cells #[.int .i64 p,.slice Av nv cv,.slice Ac nc cc,.slice Ai ni ci,.int .i64 sa,.int .i64 ma] 45) (.cells #[.int .i64 q,.slice Bv mv dv,.slice Bc mc dc,.slice Bi mi di,.int .i64 sb,.int .i64 mb] 45)
 rw [<- hW2] at hal
 have HB2:=jH hal.2.2
 have HX:=jH hal.1; have HY:=jH hal.2.1
 obtain ⟨b0,e0⟩:∃ b0,b0 = w.heap.size:=⟨_,rfl⟩
 obtain ⟨b1,e1⟩:∃ b1,b1 = w.heap.size + 1:=⟨_,rfl⟩
 rw [<- e0] at HX
 rw [<- e1] at HY
 obtain ⟨x0,x1,x2,x3,x4,x5,_⟩:=six HX.out
 obtain ⟨y0,y1,y2,y3,y4,y5,_⟩:=six HY.out
 clear hal
 by_cases k1:p = q
 ·by_cases k2:sa = sb
  ·by_cases k3:ma = mb
   ·by_cases k4:nv = mv
    ·by_cases k5:nc = mc
     ·rw [decide_eq_true k1,decide_eq_true k2,decide_eq_true k3,Bool.true_and,Bool.true_and,Bool.true_and] at hr
      subst k1; subst k2; subst k3; subst k4; subst k5
      obtain ⟨t3,ht3⟩:∃ t,sameB a.inb b.inb = t:=⟨_,rfl⟩
      rw [ht3] at hr
      have HR:=jH hr
      have HC3:=jH (fun W (h:Below w.heap.size w W) => In.rsame_any Ai Bi ni mi ci di a.inb b.inb W (HA.out.i.below h) (HB.out.i.below h) HA.out.ni HB.out.ni h3 g3)
      rw [ht3] at HC3
      clear ht3 hr
      go_enter Tryz.func67,Tryz.ntmps67
      go_upto_region 1 with fail
      rw [<- hW2,show w.heap.size + 1 = b1 from e1.symm,show w.heap.size = b0 from e0.symm]
      clear hW2 e0 e1
      go_wp2_with fail
      refine (HC3.out _ HB2.out).mono ?_
      rintro e w3 ⟨rfl,hb3⟩
      have HB3:=jS HB2 hb3.out
      have HX3:=jK HX hb3.out; have HY3:=jK HY hb3.out
      clear hb3 x0 x1 x2 x3 x4 x5 y0 y1 y2 y3 y4 y5 HC3 HX HY HB2
      obtain ⟨x0,x1,x2,x3,x4,x5,_⟩:=six HX3.out
      obtain ⟨y0,y1,y2,y3,y4,y5,_⟩:=six HY3.out
      cases t3 with
      | false =>
       obtain rfl:false = r:=by rw [<- HR.out]; simp
       go_wp2_with fail
       go_ret
       exact ⟨rfl,HB3.out⟩
      | true =>
       go_wp2_with fail
       clear x0 x1 x2 x3 x4 x5 y0 y1 y2 y3 y4 y5
       go_loopg [5] nv (fun g i wr => RqRel w3 a.vals b.vals g i wr)
       case atStart => exact ⟨0,by have:=HA.out.nv; omega,rfl,jH (Below.refl _ w3),jH rfl⟩
       case round =>
        obtain ⟨k,hk,rfl,hb,hd⟩:=hrel
        rw [HA.out.nv] at hk
        obtain ⟨x0,x1,x2,x3,x4,x5,_⟩:=six (keep HX3.out hb.out)
        obtain ⟨y0,y1,y2,y3,y4,y5,_⟩:=six (keep HY3.out hb.out)
        by_cases hlt:k < nv
        ·obtain ⟨e,he⟩:=at_lt a.vals k (by rw [HA.out.nv]; exact hlt)
         obtain ⟨f,hf⟩:=at_lt b.vals k (by rw [HB.out.nv]; exact hlt)
         obtain ⟨bk,o,rfl,c0⟩:=((HA.out.v.below HB3.out).below hb.out) k e he
         obtain ⟨bk',o',rfl,d0⟩:=((HB.out.v.below HB3.out).below hb.out) k f hf
         have HD:Hid (decide (a.vals = b.vals) = decide (e :: a.vals.drop (k + 1) = f :: b.vals.drop (k + 1))):=jH (by rw [hd.out,drop_at he,drop_at hf])
         clear hd he hf
         by_cases hef:e = f
         ·subst hef
          go_wp2
          go_quiet (fail)
          go_wp2
          go_roundg (gk - 1)
          case measure => omega
          case rel =>
           refine ⟨k + 1,by have:=HA.out.nv; omega,by go_num,jH (Ws.below_drewN hb.out _),jH ?_⟩
           rw [HD.out]; simp
         ·have e3:false = r:=by rw [<- HR.out,HD.out]; simp [hef]
          subst e3
          go_wp2
          go_quiet (fail)
          go_wp2
          go_ret
          exact ⟨rfl,Ws.below_drewN (step_below HB3.out HB3.out.size hb.out) _⟩
        ·have hkn:k = nv:=by omega
         have hval:decide (a.vals = b.vals) = true:=by
          rw [hd.out,List.drop_eq_nil_of_le (by rw [HA.out.nv]; omega),List.drop_eq_nil_of_le (by rw [HB.out.nv]; omega)]; simp
         have HR2:Hid (decide (a.chg = b.chg) = r):=jH (by rw [<- HR.out,hval]; simp)
         clear hd hval
         go_wp2_with fail
         clear x0 x1 x2 x3 x4 x5 y0 y1 y2 y3 y4 y5
         obtain ⟨G,rfl⟩:∃ G:Nat,G = gk:=⟨_,rfl⟩
         obtain ⟨w4,rfl⟩:∃ w4:World,w4 = wr:=⟨_,rfl⟩
         have HB4:=jS HB3 hb.out
         have HX4:=jK HX3 hb.out; have HY4:=jK HY3 hb.out
         clear hb HX3 HY3 HB3 hk hkn
         go_loopg [6] nc (fun g i wr => RqRel w4 a.chg b.chg g i wr)
         case atStart => exact ⟨0,by have:=HA.out.nc; omega,rfl,jH (Below.refl _ w4),jH rfl⟩
         case round =>
          obtain ⟨j,hj,rfl,hb,hd⟩:=hrel
          rw [HA.out.nc] at hj
          obtain ⟨x0,x1,x2,x3,x4,x5,_⟩:=six (keep HX4.out hb.out)
          obtain ⟨y0,y1,y2,y3,y4,y5,_⟩:=six (keep HY4.out hb.out)
          by_cases hlt2:j < nc
          ·obtain ⟨e,he⟩:=at_lt a.chg j (by rw [HA.out.nc]; exact hlt2)
           obtain ⟨f,hf⟩:=at_lt b.chg j (by rw [HB.out.nc]; exact hlt2)
           obtain ⟨bk,o,rfl,c0⟩:=((HA.out.c.below HB4.out).below hb.out) j e he
           obtain ⟨bk',o',rfl,d0⟩:=((HB.out.c.below HB4.out).below hb.out) j f hf
           have HD:Hid (decide (a.chg = b.chg) = decide (e :: a.chg.drop (j + 1) = f :: b.chg.drop (j + 1))):=jH (by rw [hd.out,drop_at he,drop_at hf])
           clear hd he hf
           rcases e with _ | _ <;> rcases f with _ | _
           ·go_wp2
            go_quiet (fail)
            go_wp2
            go_roundg (gk - 1)
            case measure => omega
            case rel =>
             refine ⟨j + 1,by have:=HA.out.nc; omega,by go_num,jH (Ws.below_drewN hb.out _),jH ?_⟩
             rw [HD.out]; simp
           ·have e3:false = r:=by rw [<- HR2.out,HD.out]; simp
            subst e3
            go_wp2
            go_quiet (fail)
            go_wp2
            go_ret
            exact ⟨rfl,Ws.below_drewN (step_below HB4.out HB4.out.size hb.out) _⟩
           ·have e3:false = r:=by rw [<- HR2.out,HD.out]; simp
            subst e3
            go_wp2
            go_quiet (fail)
            go_wp2
            go_ret
            exact ⟨rfl,Ws.below_drewN (step_below HB4.out HB4.out.size hb.out) _⟩
           ·go_wp2
            go_quiet (fail)
            go_wp2
            go_roundg (gk - 1)
            case measure => omega
            case rel =>
             refine ⟨j + 1,by have:=HA.out.nc; omega,by go_num,jH (Ws.below_drewN hb.out _),jH ?_⟩
             rw [HD.out]; simp
          ·have e3:true = r:=by
            rw [<- HR2.out,hd.out,List.drop_eq_nil_of_le (by rw [HA.out.nc]; omega),List.drop_eq_nil_of_le (by rw [HB.out.nc]; omega)]; simp
           subst e3
           go_wp2_with fail
           go_ret
           exact ⟨rfl,step_below HB4.out HB4.out.size hb.out⟩
     ·obtain rfl:false = r:=by
       rw [<- hr,show decide (a.chg = b.chg) = false from decide_eq_false fun h => k5 (by rw [<- HA.out.nc,<- HB.out.nc,h])]; simp
      clear hr
      subst k1; subst k2; subst k3; subst k4
      go_enter Tryz.func67,Tryz.ntmps67
      go_upto_region 1 with fail
      rw [<- hW2,show w.heap.size + 1 = b1 from e1.symm,show w.heap.size = b0 from e0.symm]
      clear hW2 e0 e1
      go_wp2_with fail
      go_ret
      exact ⟨rfl,HB2.out⟩
    ·obtain rfl:false = r:=by
      rw [<- hr,show decide (a.vals = b.vals) = false from decide_eq_false fun h => k4 (by rw [<- HA.out.nv,<- HB.out.nv,h])]; simp
     clear hr
     subst k1; subst k2; subst k3
     go_enter Tryz.func67,Tryz.ntmps67
     go_upto_region 1 with fail
     rw [<- hW2,show w.heap.size + 1 = b1 from e1.symm,show w.heap.size = b0 from e0.symm]
     clear hW2 e0 e1
     go_wp2_with fail
     go_ret
     exact ⟨rfl,HB2.out⟩
   ·obtain rfl:false = r:=by rw [<- hr]; rw [decide_eq_false k3]; simp
    clear hr
    subst k1; subst k2
    go_enter Tryz.func67,Tryz.ntmps67
    go_upto_region 1 with fail
    rw [<- hW2,show w.heap.size + 1 = b1 from e1.symm,show w.heap.size = b0 from e0.symm]
    clear hW2 e0 e1
    go_wp2_with fail
    go_ret
    exact ⟨rfl,HB2.out⟩
  ·obtain rfl:false = r:=by rw [<- hr]; rw [decide_eq_false k2]; simp
   clear hr
   subst k1
   go_enter Tryz.func67,Tryz.ntmps67
   go_upto_region 1 with fail
   rw [<- hW2,show w.heap.size + 1 = b1 from e1.symm,show w.heap.size = b0 from e0.symm]
   clear hW2 e0 e1
   go_wp2_with fail
   go_ret
   exact ⟨rfl,HB2.out⟩
 ·obtain rfl:false = r:=by rw [<- hr]; rw [decide_eq_false k1]; simp
  clear hr
  go_enter Tryz.func67,Tryz.ntmps67
  go_upto_region 1 with fail
  rw [<- hW2,show w.heap.size + 1 = b1 from e1.symm,show w.heap.size = b0 from e0.symm]
  clear hW2 e0 e1
  go_wp2_with fail
  go_ret
  exact ⟨rfl,HB2.out⟩
end Go.Proofs.YtdcaekmgfcpbmaaGreat.Sq
