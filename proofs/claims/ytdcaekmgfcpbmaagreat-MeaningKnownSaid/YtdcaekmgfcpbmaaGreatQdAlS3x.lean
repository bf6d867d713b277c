/-
  What is proved here: words for a row of messages while it is sorted; the contract of the library's swapRangeCmpFunc over it. Conditions: the row is one that the call has made. What is proved here: the contract of the library's swapRangeCmpFunc over a row of messages. Conditions: the row is one that the call has made. What is proved here: the contract of the library's rotateCmpFunc over a row of messages. Conditions: the row is one that the call has made. What is proved here: contracts of the library's cmp.Compare at ints, of the closure that holds two messages against each other, and of insertionSortCmpFunc over a row of messages. Conditions: the row is one that the call has made.
-/
import Derived.Test.YtdcaekmgfcpbmaaGreatQdPtMathx
import Derived.Test.YtdcaekmgfcpbmaaGreatQdAlSort
import Derived.Shelf.SlSortFuncK.RowK2
namespace Go.Proofs.YtdcaekmgfcpbmaaGreat.Al
open Go.RowKit Go.Sort Gr Wd Ws
def mc (m:Ms):List Value:=[.int .i64 m.1,.int .i64 m.2]
theorem mc_len (m:Ms):(mc m).length = 2:=rfl
structure SWm (w0 w:World) (g N:Nat) (d:Array Ms):Prop where
 holds:HoldsK mc 2 w g 0 d
 grown:w0.grownBy w (some g)
 row:∃ cur,w.heap[g]? = some (.cells cur 155 (0,0))/\cur.size = N
 lt:g < w0.heap.size
theorem SWm.size {w0 w:World} {g N:Nat} {d:Array Ms} (h:SWm w0 w g N d):w0.heap.size <= w.heap.size:=h.grown.size
theorem grown_below {w w':World} (h:Below w.heap.size w w') (r:Option Nat):w.grownBy w' r:=⟨h.os,h.tape,h.output,h.size,fun i hi _ => h.block i hi⟩
theorem holdsK_heap {w w':World} {g:Nat} {d:Array Ms} (h:HoldsK mc 2 w g 0 d) (e:w'.heap[g]? = w.heap[g]?):HoldsK mc 2 w' g 0 d:=by
 intro j hj
 obtain ⟨h1,h2⟩:=h j hj
 exact ⟨by unfold World.cell? at h1 ⊢; rw [e]; exact h1,by unfold World.frozen? at h2 ⊢; rw [e]; exact h2⟩
theorem SWm.below {w0 w w':World} {g N:Nat} {d:Array Ms} (h:SWm w0 w g N d) (hb:Below w.heap.size w w'):SWm w0 w' g N d:=by
 have e:=hb.block g (Nat.lt_of_lt_of_le h.lt h.size)
 obtain ⟨cur,h1,h2⟩:=h.row
 exact ⟨holdsK_heap h.holds e,h.grown.trans (grown_below hb _),⟨cur,e.trans h1,h2⟩,h.lt⟩
theorem grown_set (w:World) (a:Addr) (u:Value):w.grownBy (w.setCell a u) (some a.block) :=
 ⟨rfl,rfl,rfl,by simp,fun i _ hi => heap_setCell_other w a i u (fun e => hi (by rw [e]))⟩
theorem grown_sets (g:Nat):∀ (vs:List Value) (o:Nat) (w:World),w.grownBy (w.setCells g o vs) (some g)
 | [],_,_ => ⟨rfl,rfl,rfl,Nat.le_refl _,fun _ _ _ => rfl⟩
 | v :: vs,o,w => (grown_set w ⟨g,o,none⟩ v).trans (grown_sets g vs (o + 1) _)
theorem row_sets (g N:Nat):∀ (vs:List Value) (o:Nat) (w:World),(∃ cur,w.heap[g]? = some (.cells cur 155 (0,0))/\cur.size = N)->∃ cur,(w.setCells g o vs).heap[g]? = some (.cells cur 155 (0,0))/\cur.size = N
 | [],_,_,h => h
 | v :: vs,o,w,⟨cur,h1,h2⟩ => row_sets g N vs (o + 1) _ ⟨_,heap_setCell_same w g o cur _ v h1,by simpa using h2⟩
theorem SWm.swap {w0 w:World} {g N:Nat} {d:Array Ms} (h:SWm w0 w g N d) (i j:Nat) (hi:i < d.size) (hj:j < d.size) :
 SWm w0 ((w.setCells g (0 + i * 2) (mc d[j]!)).setCells g (0 + j * 2) (mc d[i]!)) g N (swp d i j):=by
 have e:=putRowK_swp mc 2 mc_len w g 0 d i j hi hj
 rw [putRowK_self mc 2 w g 0 d h.holds] at e
 refine ⟨?_,h.grown.trans ((grown_sets g _ _ _).trans (grown_sets g _ _ _)),row_sets g N _ _ _ (row_sets g N _ _ _ h.row),h.lt⟩
 rw [e]
 exact holdsK_putRowK mc 2 w g 0 d (swp d i j) h.holds (by rw [size_swp])
theorem SWm.cells {w0 w:World} {g N:Nat} {d:Array Ms} (h:SWm w0 w g N d) (i:Nat) (hi:i < d.size) :
 w.cell? ⟨g,i * 2,none⟩ = some (.int .i64 d[i]!.1)/\w.cell? ⟨g,i * 2 + 1,none⟩ = some (.int .i64 d[i]!.2):=by
 have h0:=(h.holds.cell hi (c:=0) (by omega)).1
 have h1:=(h.holds.cell hi (c:=1) (by omega)).1
 rw [Nat.zero_add] at h0 h1
 exact ⟨h0,h1⟩
theorem SWm.free {w0 w:World} {g N:Nat} {d:Array Ms} (h:SWm w0 w g N d) (j:Nat):w.frozen? ⟨g,j,none⟩ = false:=by
 obtain ⟨cur,h1,_⟩:=h.row
 exact Lib.frozen_of_heap h1 j
theorem SWm.start {w0 w:World} {g N:Nat} {d:Array Ms} (h:SWm w0 w g N d):SWm w w g N d:=⟨h.holds,⟨rfl,rfl,rfl,Nat.le_refl _,fun _ _ _ => rfl⟩,h.row,Nat.lt_of_lt_of_le h.lt h.size⟩
theorem SWm.on {w0 w w':World} {g N:Nat} {d d':Array Ms} (h:SWm w0 w g N d) (k:SWm w w' g N d'):SWm w0 w' g N d':=⟨k.holds,h.grown.trans k.grown,k.row,h.lt⟩
theorem SWm.drewN {w0 w:World} {g N:Nat} {d:Array Ms} (h:SWm w0 w g N d) (n:Nat):SWm w0 (w.drewN n) g N d:=h.below (below_drewN (Below.refl _ w) n)
theorem SWm.drew {w0 w:World} {g N:Nat} {d:Array Ms} (h:SWm w0 w g N d):SWm w0 w.drew g N d:=h.drewN 1
theorem SWm.xch {w0 w:World} {g N:Nat} {d:Array Ms} (h:SWm w0 w g N d) (i j:Nat) (hi:i < d.size) (hj:j < d.size) (a b x y:Int) (h1:d[i]!.1 = a) (h2:d[i]!.2 = b) (h3:d[j]!.1 = x) (h4:d[j]!.2 = y) :
 SWm w0 ((((w.setCell ⟨g,i * 2,none⟩ (.int .i64 x)).setCell ⟨g,i * 2 + 1,none⟩ (.int .i64 y)).setCell ⟨g,j * 2,none⟩ (.int .i64 a)).setCell ⟨g,j * 2 + 1,none⟩ (.int .i64 b)) g N (swp d i j):=by
 have:=h.swap i j hi hj
 subst h1 h2 h3 h4
 rw [Nat.zero_add,Nat.zero_add] at this
 exact this
open Go.RowKit Go.Sort Gr Wd Ws
def SrRel (w:World) (g N sz a b n:Nat) (d:Array Ms) (gk:Nat) (vi:Value) (wr:World):Prop :=
 ∃ (i:Nat) (e:Array Ms),vi = .int .i64 (i:Int)/\i + gk = n/\e.size = sz/\SWm w wr g N e/\Swr a b i d e
set_option maxRecDepth 100000 in
set_option maxHeartbeats 1000000 in
theorem swapRange_any (w:World) (g N sz c a b n:Nat) (d:Array Ms) (cv:Value) (h:Hid (SWm w w g N d)) (hd:Hid (d.size = sz)) (h1:a + n <= b) (h2:b + n <= sz) (hn:sz < 1000000000) :
 Calls Tryz.prog 124 #[.slice (some ⟨g,0,none⟩) sz c,.int .i64 (a:Int),.int .i64 (b:Int),.int .i64 (n:Int),cv] w fun e w' => e = .returned (.tuple #[])/\∃ d',Hid (SWm w w' g N d'/\Swr a b n d d'):=by
 have mixed:=mixedO
 go_enter Tryz.func124,Tryz.ntmps124
 go_wp2
 go_loopg [10] n (fun gk vi wr => SrRel w g N sz a b n d gk vi wr)
 case atStart => exact ⟨0,d,rfl,by omega,hd.out,h.out,swr_zero _ _ _⟩
 case round =>
  obtain ⟨i,e,rfl,hig,hes,hsw,hr⟩:=hrel
  have HS:=jH hsw; have HR:=jH hr; have HE:=jH hes; clear hsw hr hes
  by_cases hin:i < n
  ·have HS:=HS
   obtain ⟨p,hp⟩:∃ p,p = a + i:=⟨_,rfl⟩
   obtain ⟨q,hq⟩:∃ q,q = b + i:=⟨_,rfl⟩
   have hpq:¬ p = q:=by omega
   obtain ⟨y0,y1⟩:=HS.out.cells p (by rw [HE.out]; omega)
   obtain ⟨z0,z1⟩:=HS.out.cells q (by rw [HE.out]; omega)
   obtain ⟨ya,hya⟩:∃ x,e[p]!.1 = x:=⟨_,rfl⟩
   obtain ⟨yb,hyb⟩:∃ x,e[p]!.2 = x:=⟨_,rfl⟩
   obtain ⟨za,hza⟩:∃ x,e[q]!.1 = x:=⟨_,rfl⟩
   obtain ⟨zb,hzb⟩:∃ x,e[q]!.2 = x:=⟨_,rfl⟩
   have HX:=jH (HS.out.xch p q (by rw [HE.out]; omega) (by rw [HE.out]; omega) ya yb za zb hya hyb hza hzb)
   rw [hya] at y0; rw [hyb] at y1; rw [hza] at z0; rw [hzb] at z1
   have rf:=HS.out.free
   clear hya hyb hza hzb
   have t1:((a:Int) + (i:Int)).toNat = p:=by omega
   have t2:((b:Int) + (i:Int)).toNat = q:=by omega
   have i1:IntKind.i64.wrap ((a:Int) + (i:Int)) = (a:Int) + (i:Int):=by rw [IntKind.wrap_i64]; omega
   have i2:IntKind.i64.wrap ((b:Int) + (i:Int)) = (b:Int) + (i:Int):=by rw [IntKind.wrap_i64]; omega
   have q1:(a:Int) + (i:Int) < (sz:Int):=by omega
   have q2:(b:Int) + (i:Int) < (sz:Int):=by omega
   have HP:=jH hp; have HQ:=jH hq
   clear hp hq
   go_wp2_with fail
   go_big_region
   go_wp2
   go_roundg (gk - 1)
   case measure => omega
   case rel =>
    refine ⟨i + 1,swp e p q,by go_num,by omega,by rw [size_swp]; exact HE.out,HX.out.drew,?_⟩
    have:=swr_step HR.out (by omega) (by rw [<- HR.out.1,HE.out]; omega)
    rw [HP.out,HQ.out]; exact this
  ·go_wp2
   go_end0
   have:i = n:=by omega
   subst this
   exact ⟨rfl,e,jH ⟨HS.out,HR.out⟩⟩
theorem swapRange_at (w:World) (g N sz c a b n:Nat) (d:Array Ms) (cv:Value) (A B M:Int) (hA:A = (a:Int)) (hB:B = (b:Int)) (hM:M = (n:Int)) (h:Hid (SWm w w g N d)) (hd:Hid (d.size = sz)) (h1:a + n <= b) (h2:b + n <= sz) (hn:sz < 1000000000) :
 Calls Tryz.prog 124 #[.slice (some ⟨g,0,none⟩) sz c,.int .i64 A,.int .i64 B,.int .i64 M,cv] w fun e w' => e = .returned (.tuple #[])/\∃ d',Hid (SWm w w' g N d'/\Swr a b n d d'):=by
 subst hA hB hM; exact swapRange_any w g N sz c a b n d cv h hd h1 h2 hn
open Go.RowKit Go.Sort Gr Wd Ws
def RoRel (w:World) (g N sz a m b:Nat) (d:Array Ms) (gk:Nat) (vi vj:Value) (wr:World):Prop :=
 ∃ (i j:Nat) (e:Array Ms),vi = .int .i64 (i:Int)/\vj = .int .i64 (j:Int)/\0 < i/\0 < j/\i <= m/\m + j <= sz/\i + j = gk/\e.size = sz/\SWm w wr g N e/\∀ f,Rot (m - i) m (m + j) e f->Rot a m b d f
set_option maxRecDepth 100000 in
set_option maxHeartbeats 1000000 in
theorem rotate_any (w:World) (g N sz c a m b:Nat) (d:Array Ms) (cv:Value) (h:Hid (SWm w w g N d)) (hd:Hid (d.size = sz)) (h1:a < m) (h2:m < b) (h3:b <= sz) (hn:sz < 1000000000) :
 Calls Tryz.prog 123 #[.slice (some ⟨g,0,none⟩) sz c,.int .i64 (a:Int),.int .i64 (m:Int),.int .i64 (b:Int),cv] w fun e w' => e = .returned (.tuple #[])/\∃ d',Hid (SWm w w' g N d'/\Rot a m b d d'):=by
 go_enter Tryz.func123,Tryz.ntmps123
 go_wp2
 go_loopg [10,11] (b - a) (fun gk vi vj wr => RoRel w g N sz a m b d gk vi vj wr)
 case atStart => exact ⟨m - a,b - m,d,by congr 1; omega,by congr 1; omega,by omega,by omega,by omega,by omega,by omega,hd.out,h.out,fun f hf => by
  rw [show m - (m - a) = a by omega,show m + (b - m) = b by omega] at hf; exact hf⟩
 case round =>
  obtain ⟨i,j,e,rfl,rfl,hi0,hj0,him,hjs,hg,hes,hsw,hr⟩:=hrel
  have HS:=jH hsw; have HR:=jH hr; have HE:=jH hes; have HS0:=jH hsw.start; clear hsw hr hes
  by_cases hij:i = j
  ·subst hij
   go_wp2_with fail
   refine (swapRange_at wr g N sz c (m - i) m i e cv _ _ _ (by omega) rfl rfl HS0 HE (by omega) (by omega) hn).mono ?_
   rintro x w2 ⟨rfl,f,hf⟩
   have HF:=jH (HR.out f (rot_same him hf.out.2)); have HG:=jH (HS.out.on hf.out.1)
   clear hf
   go_wp2
   go_end0
   exact ⟨rfl,f,jH ⟨HG.out,HF.out⟩⟩
  ·by_cases hlt:j < i
   ·go_wp2_with fail
    refine (swapRange_at wr g N sz c (m - i) m j e cv _ _ _ (by omega) rfl rfl HS0 HE (by omega) (by omega) hn).mono ?_
    rintro x w2 ⟨rfl,f,hf⟩
    have HF:=jH (fun u (hu:Rot (m - (i - j)) m (m + j) f u) => HR.out u (rot_left him hlt hf.out.2 hu)); have HG:=jH (HS.out.on hf.out.1)
    have HZ:=jH (hf.out.2.1.trans HE.out)
    clear hf
    go_wp2
    go_roundg (gk - j)
    case measure => omega
    case rel => exact ⟨i - j,j,f,by congr 1; omega,rfl,by omega,hj0,by omega,hjs,by omega,HZ.out,HG.out,HF.out⟩
   ·go_wp2_with fail
    refine (swapRange_at wr g N sz c (m - i) (m + j - i) i e cv _ _ _ (by omega) (by omega) rfl HS0 HE (by omega) (by omega) hn).mono ?_
    rintro x w2 ⟨rfl,f,hf⟩
    have HF:=jH (fun u (hu:Rot (m - i) m (m + (j - i)) f u) => HR.out u (rot_right him (by omega) hf.out.2 hu)); have HG:=jH (HS.out.on hf.out.1)
    have HZ:=jH (hf.out.2.1.trans HE.out)
    clear hf
    go_wp2
    go_roundg (gk - i)
    case measure => omega
    case rel => exact ⟨i,j - i,f,rfl,by congr 1; omega,hi0,by omega,him,by omega,by omega,HZ.out,HG.out,HF.out⟩
theorem rotate_at (w:World) (g N sz c a m b:Nat) (d:Array Ms) (cv:Value) (A M B:Int) (hA:A = (a:Int)) (hM:M = (m:Int)) (hB:B = (b:Int)) (h:Hid (SWm w w g N d)) (hd:Hid (d.size = sz)) (h1:a < m) (h2:m < b) (h3:b <= sz) (hn:sz < 1000000000) :
 Calls Tryz.prog 123 #[.slice (some ⟨g,0,none⟩) sz c,.int .i64 A,.int .i64 M,.int .i64 B,cv] w fun e w' => e = .returned (.tuple #[])/\∃ d',Hid (SWm w w' g N d'/\Rot a m b d d'):=by
 subst hA hM hB; exact rotate_any w g N sz c a m b d cv h hd h1 h2 h3 hn
open Go.RowKit Go.Sort Gr Wd Ws
def cmpI (x y:Int):Int:=if x < y then -1 else if y < x then 1 else 0
theorem cmpI_neg (x y:Int):cmpI x y < 0 ↔ x < y:=by unfold cmpI; split <;> (try split) <;> omega
theorem nan_any (x:Int) (w:World):Calls Tryz.prog 110 #[.int .i64 x] w fun e w' => e = .returned (.bool false)/\w = w':=by
 go_enter Tryz.func110,Tryz.ntmps110
 go_wp2
 go_ret
 exact ⟨rfl,rfl⟩
theorem compare_any (x y:Int) (w:World):Calls Tryz.prog 97 #[.int .i64 x,.int .i64 y] w fun e w' => e = .returned (.int .i64 (cmpI x y))/\w = w':=by
 obtain ⟨V,hV⟩:∃ V,cmpI x y = V:=⟨_,rfl⟩
 rw [hV]
 have HV:=jH hV; clear hV
 rcases Int.lt_trichotomy x y with h | h | h
 ·have e1:V = -1:=by rw [<- HV.out]; unfold cmpI; rw [if_pos h]
  subst e1
  go_enter Tryz.func97,Tryz.ntmps97
  go_wp2_with fail
  refine (nan_any x _).mono ?_
  rintro e w' ⟨rfl,rfl⟩
  go_wp2_with fail
  refine (nan_any y _).mono ?_
  rintro e w' ⟨rfl,rfl⟩
  go_wp2
  go_ret
  exact ⟨rfl,rfl⟩
 ·have e1:V = 0:=by rw [<- HV.out]; unfold cmpI; rw [if_neg (by omega),if_neg (by omega)]
  subst e1 h
  clear HV
  go_enter Tryz.func97,Tryz.ntmps97
  go_wp2_with fail
  refine (nan_any x _).mono ?_
  rintro e w' ⟨rfl,rfl⟩
  go_wp2_with fail
  refine (nan_any x _).mono ?_
  rintro e w' ⟨rfl,rfl⟩
  go_wp2
  go_ret
  exact ⟨rfl,rfl⟩
 ·have e1:V = 1:=by rw [<- HV.out]; unfold cmpI; rw [if_neg (by omega),if_pos h]
  subst e1
  go_enter Tryz.func97,Tryz.ntmps97
  go_wp2_with fail
  refine (nan_any x _).mono ?_
  rintro e w' ⟨rfl,rfl⟩
  go_wp2_with fail
  refine (nan_any y _).mono ?_
  rintro e w' ⟨rfl,rfl⟩
  go_wp2
  go_ret
  exact ⟨rfl,rfl⟩
theorem close_any (x0 x1 y0 y1:Int) (w:World):Calls Tryz.prog 96 #[.agg #[.int .i64 x0,.int .i64 x1],.agg #[.int .i64 y0,.int .i64 y1]] w fun e w' => e = .returned (.int .i64 (cmpI x0 y0))/\Grw w w':=by
 have HZ:Hid (Grw w ((w.alloc (.cells #[.int .i64 x0,.int .i64 x1] 155)).alloc (.cells #[.int .i64 y0,.int .i64 y1] 155))):=jH (((Grw.refl w).alloc _).alloc _)
 go_enter Tryz.func96,Tryz.ntmps96
 go_wp2_with fail
 refine (compare_any x0 y0 _).mono ?_
 rintro e w' ⟨rfl,rfl⟩
 go_wp2
 go_ret
 exact ⟨rfl,HZ.out⟩
theorem close_at (x0 x1 y0 y1 V:Int) (hV:Hid (cmpI x0 y0 = V)) (w:World):Calls Tryz.prog 96 #[.agg #[.int .i64 x0,.int .i64 x1],.agg #[.int .i64 y0,.int .i64 y1]] w fun e w' => e = .returned (.int .i64 V)/\Grw w w':=by
 rw [<- hV.out]; exact close_any x0 x1 y0 y1 w
def IoRel (w:World) (g N n a b:Nat) (d:Array Ms) (gk:Nat) (vi:Value) (wr:World):Prop :=
 ∃ (i:Nat) (dk:Array Ms),vi = .int .i64 (i:Int)/\a < i/\i + gk = b + 1/\dk.size = n/\SWm w wr g N dk/\insOuter ltm a b i dk = insOuter ltm a b (a + 1) d
def IiRel (w:World) (g N n a i:Nat) (dk:Array Ms) (gk:Nat) (vj:Value) (wr:World):Prop :=
 ∃ (j:Nat) (dj:Array Ms),vj = .int .i64 (j:Int)/\a <= j/\j <= i/\j = gk/\dj.size = n/\SWm w wr g N dj/\insInner ltm a j dj = insInner ltm a i dk
set_option maxRecDepth 100000 in
set_option maxHeartbeats 2000000 in
theorem insertion_any (w:World) (g N n c a b:Nat) (d:Array Ms) (h:Hid (SWm w w g N d)) (hd:Hid (d.size = n)) (hab:a <= b) (hbn:b <= n) (hn:n < 1000000000) :
 Calls Tryz.prog 119 #[.slice (some ⟨g,0,none⟩) n c,.int .i64 (a:Int),.int .i64 (b:Int),.func (.func 96) #[] #[]] w fun e w' => e = .returned (.tuple #[])/\Hid (SWm w w' g N (insertionSort ltm d a b)):=by
 have mixed:=mixedO
 go_enter Tryz.func119,Tryz.ntmps119
 go_wp2
 go_loopg [8] (b - a) (fun gk vi wr => IoRel w g N n a b d gk vi wr)
 case atStart => exact ⟨a + 1,d,by go_num,by omega,by omega,hd.out,h.out,rfl⟩
 case round =>
  obtain ⟨i,dk,rfl,hai,hig,hdk,hsw,ho⟩:=hrel
  have HO:=jH ho; have HSW:=jH hsw; have HDK:=jH hdk; clear ho hsw hdk
  by_cases hib:i < b
  ·go_wp2
   obtain ⟨G,rfl⟩:∃ G:Nat,G = gk:=⟨_,rfl⟩
   obtain ⟨wo,rfl⟩:∃ wo:World,wo = wr:=⟨_,rfl⟩
   go_loopg [9] i (fun gk vj wr => IiRel w g N n a i dk gk vj wr)
   case atStart => exact ⟨i,dk,rfl,by omega,Nat.le_refl _,rfl,HDK.out,HSW.out,rfl⟩
   case round =>
    obtain ⟨j,dj,rfl,haj,hji,hjg,hdj,hsj,hi⟩:=hrel
    have HI:=jH hi; have HSJ:=jH hsj; have HDJ:=jH hdj; have HG:=jH hjg; clear hi hsj hdj hjg
    by_cases hja:a < j
    ·obtain ⟨p,hp⟩:∃ p,j = p + 1:=⟨j - 1,by omega⟩
     subst hp
     obtain ⟨ya,hya⟩:∃ x,dj[p + 1]!.1 = x:=⟨_,rfl⟩
     obtain ⟨yb,hyb⟩:∃ x,dj[p + 1]!.2 = x:=⟨_,rfl⟩
     obtain ⟨za,hza⟩:∃ x,dj[p]!.1 = x:=⟨_,rfl⟩
     obtain ⟨zb,hzb⟩:∃ x,dj[p]!.2 = x:=⟨_,rfl⟩
     obtain ⟨V,hV⟩:∃ V,cmpI ya za = V:=⟨_,rfl⟩
     have hlt:ltm dj[p + 1]! dj[p]! = decide (V < 0):=by
      unfold ltm; rw [hya,hza,<- hV]; exact decide_eq_decide.2 (cmpI_neg _ _).symm
     obtain ⟨y0,y1⟩:=HSJ.out.cells (p + 1) (by rw [HDJ.out]; omega)
     obtain ⟨z0,z1⟩:=HSJ.out.cells p (by rw [HDJ.out]; omega)
     rw [hya] at y0; rw [hyb] at y1; rw [hza] at z0; rw [hzb] at z1
     have fy0:=cell_grown (block_lt_of_cell y0) y0; have fy1:=cell_grown (block_lt_of_cell y1) y1
     have fz0:=cell_grown (block_lt_of_cell z0) z0; have fz1:=cell_grown (block_lt_of_cell z1) z1
     have HV:=jH hV; have HLT:=jH hlt
     have HYZ:Hid (dj[p + 1]!.1 = ya/\dj[p + 1]!.2 = yb/\dj[p]!.1 = za/\dj[p]!.2 = zb):=jH ⟨hya,hyb,hza,hzb⟩
     clear y0 y1 z0 z1 hya hyb hza hzb hV hlt
     have HC:=jH (fun nn os => Grw.quiet (close_at ya yb za zb V HV (Sort.grow (wr.drewN nn) os)))
     have t1:((p:Int) + 1).toNat = p + 1:=by omega
     have i1:IntKind.i64.wrap (p:Int) = (p:Int):=by rw [IntKind.wrap_i64]; omega
     have j1:(a:Int) < (p:Int) + 1:=by omega
     have j2:(p:Int) + 1 < (n:Int):=by omega
     have j3:(p:Int) < (n:Int):=by omega
     have j4:(0:Int) <= (p:Int) + 1:=by omega
     by_cases hneg:V < 0
     ·go_wp2_with fail
      refine wp_region_quiet_grown mixed (by kernel_rfl) ?_
      repeat (go_big_quiet_step ((with_reducible exact HC.out _ _)))
      refine wpQuiet_nil ?_
      intro _ hw'
      obtain ⟨⟨nq,osq⟩,hw''⟩:=hw'
      subst hw''
      obtain ⟨w2,hw2⟩:∃ w2,w2 = Sort.grow (wr.drewN nq) osq:=⟨_,rfl⟩
      rw [<- hw2]
      have HS2:Hid (SWm w w2 g N dj):=jH (by rw [hw2]; exact HSJ.out.below (below_grow _ _ _))
      clear hw2 fy0 fy1 fz0 fz1 HC
      obtain ⟨y0,y1⟩:=HS2.out.cells (p + 1) (by rw [HDJ.out]; omega)
      obtain ⟨z0,z1⟩:=HS2.out.cells p (by rw [HDJ.out]; omega)
      rw [HYZ.out.1] at y0; rw [HYZ.out.2.1] at y1; rw [HYZ.out.2.2.1] at z0; rw [HYZ.out.2.2.2] at z1
      have rf:=HS2.out.free
      have HX:=jH (HS2.out.xch (p + 1) p (by rw [HDJ.out]; omega) (by rw [HDJ.out]; omega) ya yb za zb HYZ.out.1 HYZ.out.2.1 HYZ.out.2.2.1 HYZ.out.2.2.2)
      go_wp2_with fail
      go_big_region
      go_wp2
      go_roundg (gk - 1)
      case measure => have:=HG.out; omega
      case rel =>
       refine ⟨p,swp dj (p + 1) p,by first | rfl | (congr 1; omega),by omega,by omega,by have:=HG.out; omega,by rw [size_swp]; exact HDJ.out,HX.out.drew,?_⟩
       have:=insInner_go ltm a (p + 1) dj hja (by simp only [Nat.add_sub_cancel]; rw [HLT.out]; exact decide_eq_true (by omega))
       simp only [Nat.add_sub_cancel] at this
       rw [<- HI.out,this]
     ·go_wp2_with fail
      refine wp_region_quiet_grown mixed (by kernel_rfl) ?_
      repeat (go_big_quiet_step ((with_reducible exact HC.out _ _)))
      refine wpQuiet_nil ?_
      intro _ hw'
      obtain ⟨⟨nq,osq⟩,hw''⟩:=hw'
      subst hw''
      obtain ⟨w2,hw2⟩:∃ w2,w2 = Sort.grow (wr.drewN nq) osq:=⟨_,rfl⟩
      rw [<- hw2]
      have HS2:Hid (SWm w w2 g N dj):=jH (by rw [hw2]; exact HSJ.out.below (below_grow _ _ _))
      clear hw2 fy0 fy1 fz0 fz1 HC
      go_wp2
      go_roundg (G - 1)
      case measure => omega
      case rel =>
       exact ⟨i + 1,dj,by go_num,by omega,by omega,HDJ.out,HS2.out,by rw [<- HO.out,insOuter_go _ _ _ _ _ hib,<- HI.out,insInner_stop _ _ _ _ (Or.inr (by simp only [Nat.add_sub_cancel]; rw [HLT.out]; exact decide_eq_false (by omega)))]⟩
    ·have hjaz:decide ((j:Int) > (a:Int)) = false:=decide_eq_false (by omega)
     go_wp2_with fail
     go_big_region
     go_wp2
     go_roundg (G - 1)
     case measure => omega
     case rel =>
      exact ⟨i + 1,dj,by go_num,by omega,by omega,HDJ.out,HSJ.out.drew,by rw [<- HO.out,insOuter_go _ _ _ _ _ hib,<- HI.out,insInner_stop _ _ _ _ (Or.inl (by omega))]⟩
  ·go_wp2
   go_end0
   refine ⟨rfl,jH ?_⟩
   have:insertionSort ltm d a b = dk:=by unfold Sort.insertionSort; rw [<- HO.out,insOuter_stop _ _ _ _ _ hib]
   rw [this]; exact HSW.out
end Go.Proofs.YtdcaekmgfcpbmaaGreat.Al
