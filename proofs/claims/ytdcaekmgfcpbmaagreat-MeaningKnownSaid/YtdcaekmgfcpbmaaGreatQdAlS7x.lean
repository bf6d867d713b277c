/-
  What is proved here: the library's symMergeCmpFunc where one side is one message: it goes to its place. Conditions: the row is one that the call has made; both sides are in order. What is proved here: the library's symMergeCmpFunc where one side is one message: it goes to its place. Conditions: the row is one that the call has made; both sides are in order. What is proved here: the library's symMergeCmpFunc over a row of messages: two rising runs side by side become one, with the same messages. Conditions: the row is one that the call has made; both sides are in order. What is proved here: the library's slices.SortStableFunc over a row of messages: behind it the row holds the same messages, in the order of vertices. Conditions: the row is one that the call has made, or there is none.
-/
import Derived.Test.YtdcaekmgfcpbmaaGreatQdAlS3x
import Derived.Deep.CutRange
namespace Go.Proofs.YtdcaekmgfcpbmaaGreat.Al
open Go.RowKit Go.Sort Gr Wd Ws
theorem half_of (i j:Nat) (h:i + j < 2000000000):IntKind.u64.wrap ((i:Int) + (j:Int)) = (i:Int) + (j:Int)/\IntKind.i64.wrap ((i:Int) + (j:Int)) = (i:Int) + (j:Int)/\((i:Int) + (j:Int)) / 2 = (((i + j) / 2:Nat):Int):=by
 refine ⟨?_,?_,by omega⟩
 ·rw [IntKind.wrap_u64]; omega
 ·rw [IntKind.wrap_i64]; omega
theorem nlt_of {V x y:Int} (h:V < 0 ↔ x < y) (k:¬ V < 0):y <= x:=Int.not_lt.1 fun g => k (h.2 g)
def FsRel (w:World) (g N a m b:Nat) (d:Array Ms) (gk:Nat) (vi vj:Value) (wr:World):Prop :=
 ∃ i j:Nat,vi = .int .i64 (i:Int)/\vj = .int .i64 (j:Int)/\m <= i/\i <= j/\j <= b/\j - i = gk/\SWm w wr g N d/\(i = m\/d[i - 1]!.1 < d[a]!.1)/\(j = b\/d[a]!.1 <= d[j]!.1)
def FmRel (w:World) (g N sz a i b:Nat) (d:Array Ms) (gk:Nat) (vk:Value) (wr:World):Prop :=
 ∃ (k:Nat) (e:Array Ms),vk = .int .i64 (k:Int)/\a <= k/\k + gk + 1 = i/\e.size = sz/\SWm w wr g N e/\PermIn a b d e/\(∀ t,a <= t->t < k->e[t]! = d[t + 1]!)/\e[k]! = d[a]!/\∀ t,k < t->e[t]! = d[t]!
set_option maxRecDepth 100000 in
set_option maxHeartbeats 4000000 in
theorem sym_first (w:World) (g N sz c a b:Nat) (d:Array Ms) (h:Hid (SWm w w g N d)) (hd:Hid (d.size = sz)) (h2:a + 1 < b) (h3:b <= sz) (hn:sz < 1000000000) (hR:Hid (Srt (a + 1) b d)) :
 Calls Tryz.prog 120 #[.slice (some ⟨g,0,none⟩) sz c,.int .i64 (a:Int),.int .i64 ((a:Int) + 1),.int .i64 (b:Int),.func (.func 96) #[] #[]] w fun e w' => e = .returned (.tuple #[])/\∃ d',Hid (SWm w w' g N d'/\Mrg a b d d'):=by
 have mixed:=mixedO
 obtain ⟨m,hm⟩:∃ m,m = a + 1:=⟨_,rfl⟩
 have hm':(a:Int) + 1 = (m:Int):=by omega
 rw [hm']
 rw [<- hm] at hR
 have m1:a < m:=by omega
 have m2:m <= a + 1:=by omega
 have m3:m < b:=by omega
 have HM:=jH hm
 have tb:(((m:Int) - (a:Int)) == 1) = true:=by simp; omega
 clear hm hm' h2
 go_enter Tryz.func120,Tryz.ntmps120
 go_wp2
 go_loopg [10,11] (b - m) (fun gk vi vj wr => FsRel w g N a m b d gk vi vj wr)
 case atStart => exact ⟨m,b,rfl,rfl,Nat.le_refl _,by omega,Nat.le_refl _,rfl,h.out,Or.inl rfl,Or.inl rfl⟩
 case round =>
  obtain ⟨i,j,rfl,rfl,hmi,hij,hjb,hgk,hsw,hlo,hup⟩:=hrel
  have HS:=jH hsw; have HLO:=jH hlo; have HUP:=jH hup; clear hsw hlo hup
  by_cases hlt:i < j
  ·obtain ⟨hw1,hw2,hw3⟩:=half_of i j (by omega)
   obtain ⟨q,hq⟩:∃ q,q = (i + j) / 2:=⟨_,rfl⟩
   rw [<- hq] at hw3
   have q1:i <= q:=by omega
   have q2:q < j:=by omega
   have q3:(q:Int) < (sz:Int):=by omega
   have q4:(a:Int) < (sz:Int):=by omega
   clear hq
   obtain ⟨ya,hya⟩:∃ x,d[q]!.1 = x:=⟨_,rfl⟩
   obtain ⟨yb,hyb⟩:∃ x,d[q]!.2 = x:=⟨_,rfl⟩
   obtain ⟨za,hza⟩:∃ x,d[a]!.1 = x:=⟨_,rfl⟩
   obtain ⟨zb,hzb⟩:∃ x,d[a]!.2 = x:=⟨_,rfl⟩
   obtain ⟨V,hV⟩:∃ V,cmpI ya za = V:=⟨_,rfl⟩
   have hneg:V < 0 ↔ ya < za:=by rw [<- hV]; exact cmpI_neg _ _
   obtain ⟨y0,y1⟩:=HS.out.cells q (by rw [hd.out]; omega)
   obtain ⟨z0,z1⟩:=HS.out.cells a (by rw [hd.out]; omega)
   rw [hya] at y0; rw [hyb] at y1; rw [hza] at z0; rw [hzb] at z1
   have fy0:=cell_grown (block_lt_of_cell y0) y0; have fy1:=cell_grown (block_lt_of_cell y1) y1
   have fz0:=cell_grown (block_lt_of_cell z0) z0; have fz1:=cell_grown (block_lt_of_cell z1) z1
   have HV:=jH hV
   have HC:=jH (fun nn os => Grw.quiet (close_at ya yb za zb V HV (Sort.grow (wr.drewN nn) os)))
   have HYZ:Hid (d[q]!.1 = ya/\d[a]!.1 = za):=jH ⟨hya,hza⟩
   clear y0 y1 z0 z1 hya hyb hza hzb hV
   have HN:=jH hneg; clear hneg
   by_cases hv:V < 0
   ·go_wp2_with fail
    refine wp_region_quiet_grown mixed (by kernel_rfl) ?_
    repeat (go_big_quiet_step ((with_reducible exact HC.out _ _)))
    refine wpQuiet_nil ?_
    intro _ hw'
    obtain ⟨⟨nq,osq⟩,hw''⟩:=hw'
    subst hw''
    obtain ⟨w2,hw2⟩:∃ w2,w2 = Sort.grow (wr.drewN nq) osq:=⟨_,rfl⟩
    rw [<- hw2]
    have HS2:Hid (SWm w w2 g N d):=jH (by rw [hw2]; exact HS.out.below (below_grow _ _ _))
    clear hw2 fy0 fy1 fz0 fz1 HC
    go_wp2
    go_roundg (j - (q + 1))
    case measure => omega
    case rel => exact ⟨q + 1,j,by go_num,rfl,by omega,by omega,hjb,rfl,HS2.out,Or.inr (by rw [Nat.add_sub_cancel,HYZ.out.1,HYZ.out.2]; exact HN.out.1 (by omega)),HUP.out⟩
   ·go_wp2_with fail
    refine wp_region_quiet_grown mixed (by kernel_rfl) ?_
    repeat (go_big_quiet_step ((with_reducible exact HC.out _ _)))
    refine wpQuiet_nil ?_
    intro _ hw'
    obtain ⟨⟨nq,osq⟩,hw''⟩:=hw'
    subst hw''
    obtain ⟨w2,hw2⟩:∃ w2,w2 = Sort.grow (wr.drewN nq) osq:=⟨_,rfl⟩
    rw [<- hw2]
    have HS2:Hid (SWm w w2 g N d):=jH (by rw [hw2]; exact HS.out.below (below_grow _ _ _))
    clear hw2 fy0 fy1 fz0 fz1 HC
    go_wp2
    go_roundg (q - i)
    case measure => omega
    case rel => exact ⟨i,q,rfl,rfl,hmi,q1,by omega,rfl,HS2.out,HLO.out,Or.inr (by rw [HYZ.out.1,HYZ.out.2]; exact nlt_of HN.out (by omega))⟩
  ·have HIJ:Hid (i = j):=jH (by omega)
   obtain ⟨G,rfl⟩:∃ G:Nat,G = gk:=⟨_,rfl⟩
   obtain ⟨wo,rfl⟩:∃ wo:World,wo = wr:=⟨_,rfl⟩
   go_wp2
   go_loopg [13] (i - 1 - a) (fun gk vk wr => FmRel w g N sz a i b d gk vk wr)
   case atStart => exact ⟨a,d,rfl,Nat.le_refl _,by omega,hd.out,HS.out,pin_refl _ _ _,fun t h1 h2 => by omega,rfl,fun t _ => rfl⟩
   case round =>
    obtain ⟨k,e,rfl,hak,hki,hes,hse,hpe,he1,he2,he3⟩:=hrel
    have HE:=jH hse; have HP:=jH hpe; have HZ:=jH hes; have E1:=jH he1; have E2:=jH he2; have E3:=jH he3
    clear hse hpe hes he1 he2 he3
    by_cases hk:k + 1 < i
    ·obtain ⟨p,hp⟩:∃ p,p = k + 1:=⟨_,rfl⟩
     have p1:((k:Int) + 1).toNat = p:=by omega
     have p2:IntKind.i64.wrap ((k:Int) + 1) = (k:Int) + 1:=by rw [IntKind.wrap_i64]; omega
     have p3:(k:Int) + 1 < (sz:Int):=by omega
     have p4:¬ k = p:=by omega
     have p5:p < i:=by omega
     have p6:(k:Int) < (sz:Int):=by omega
     have HPK:=jH hp
     clear hp
     obtain ⟨ya,hya⟩:∃ v,e[k]!.1 = v:=⟨_,rfl⟩
     obtain ⟨yb,hyb⟩:∃ v,e[k]!.2 = v:=⟨_,rfl⟩
     obtain ⟨za,hza⟩:∃ v,e[p]!.1 = v:=⟨_,rfl⟩
     obtain ⟨zb,hzb⟩:∃ v,e[p]!.2 = v:=⟨_,rfl⟩
     obtain ⟨y0,y1⟩:=HE.out.cells k (by rw [HZ.out]; omega)
     obtain ⟨z0,z1⟩:=HE.out.cells p (by rw [HZ.out]; omega)
     have rf:=HE.out.free
     have HX:=jH (HE.out.xch (k) (p) (by rw [HZ.out]; omega) (by rw [HZ.out]; omega) ya yb za zb hya hyb hza hzb)
     rw [hya] at y0; rw [hyb] at y1; rw [hza] at z0; rw [hzb] at z1
     clear hya hyb hza hzb
     go_wp2_with fail
     go_big_region
     go_wp2
     go_roundg (gk - 1)
     case measure => omega
     case rel =>
      have hp:=HPK.out
      have hpz:p < e.size:=by rw [HZ.out]; omega
      have hkz:k < e.size:=by rw [HZ.out]; omega
      refine ⟨p,swp e k p,by first | (congr 1; omega) | (simp only [Value.int.injEq,true_and]; omega),by omega,by omega,by rw [size_swp]; exact HZ.out,HX.out.drew,pin_trans HP.out (pin_swp hak (by omega) (by omega) (by omega) (by rw [HZ.out]; omega)),fun t t1 t2 => ?_,?_,fun t t1 => ?_⟩
      ·rw [swp_get e hkz hpz,if_neg (by omega)]
       by_cases tk:t = k
       ·rw [if_pos tk,E3.out p (by omega),tk,hp]
       ·rw [if_neg tk]; exact E1.out t t1 (by omega)
      ·rw [swp_get e hkz hpz,if_pos rfl]; exact E2.out
      ·rw [swp_get e hkz hpz,if_neg (by omega),if_neg (by omega)]; exact E3.out t (by omega)
    ·have HK:Hid (k = i - 1):=jH (by omega)
     go_wp2
     refine bodyPost_ret (results_none rfl _ _ _) rfl ?_
     refine ⟨rfl,e,jH ⟨HE.out,?_⟩⟩
     have hk':=HK.out
     rw [<- HIJ.out] at HUP
     exact mrg_first (by have:=HM.out; omega) (by have:=HIJ.out; omega) (by rw [<- HM.out]; exact hR.out) HP.out (by have:=HM.out; rw [<- this]; exact HLO.out) HUP.out (fun t t1 t2 => E1.out t t1 (by omega)) (by rw [<- hk']; exact E2.out) (fun t t1 => E3.out t (by omega))
open Go.RowKit Go.Sort Gr Wd Ws
def LsRel (w:World) (g N a m:Nat) (d:Array Ms) (gk:Nat) (vi vj:Value) (wr:World):Prop :=
 ∃ i j:Nat,vi = .int .i64 (i:Int)/\vj = .int .i64 (j:Int)/\a <= i/\i <= j/\j <= m/\j - i = gk/\SWm w wr g N d/\(i = a\/d[i - 1]!.1 <= d[m]!.1)/\(j = m\/d[m]!.1 < d[j]!.1)
def LmRel (w:World) (g N sz a i m:Nat) (d:Array Ms) (gk:Nat) (vk:Value) (wr:World):Prop :=
 ∃ (k:Nat) (e:Array Ms),vk = .int .i64 (k:Int)/\k = gk + i/\k <= m/\e.size = sz/\SWm w wr g N e/\PermIn a (m + 1) d e/\(∀ t,k < t->t <= m->e[t]! = d[t - 1]!)/\e[k]! = d[m]!/\∀ t,t < k->e[t]! = d[t]!
set_option maxRecDepth 100000 in
set_option maxHeartbeats 4000000 in
theorem sym_last (w:World) (g N sz c a m b:Nat) (d:Array Ms) (h:Hid (SWm w w g N d)) (hd:Hid (d.size = sz)) (h2:a + 1 < m) (h4:Hid (b = m + 1)) (h3:m < sz) (hn:sz < 1000000000) (hR:Hid (Srt a m d)) :
 Calls Tryz.prog 120 #[.slice (some ⟨g,0,none⟩) sz c,.int .i64 (a:Int),.int .i64 (m:Int),.int .i64 (b:Int),.func (.func 96) #[] #[]] w fun e w' => e = .returned (.tuple #[])/\∃ d',Hid (SWm w w' g N d'/\Mrg a b d d'):=by
 have mixed:=mixedO
 have b1:b <= m + 1:=by rw [h4.out]; exact Nat.le_refl _
 have b2:m < b:=by rw [h4.out]; exact Nat.lt_succ_self _
 have ta:(((m:Int) - (a:Int)) == 1) = false:=by simp; omega
 have tb:(((b:Int) - (m:Int)) == 1) = true:=by simp; omega
 go_enter Tryz.func120,Tryz.ntmps120
 go_wp2
 go_loopg [14,15] (m - a) (fun gk vi vj wr => LsRel w g N a m d gk vi vj wr)
 case atStart => exact ⟨a,m,rfl,rfl,Nat.le_refl _,by omega,Nat.le_refl _,rfl,h.out,Or.inl rfl,Or.inl rfl⟩
 case round =>
  obtain ⟨i,j,rfl,rfl,hmi,hij,hjb,hgk,hsw,hlo,hup⟩:=hrel
  have HS:=jH hsw; have HLO:=jH hlo; have HUP:=jH hup; clear hsw hlo hup
  by_cases hlt:i < j
  ·obtain ⟨hw1,hw2,hw3⟩:=half_of i j (by omega)
   obtain ⟨q,hq⟩:∃ q,q = (i + j) / 2:=⟨_,rfl⟩
   rw [<- hq] at hw3
   have q1:i <= q:=by omega
   have q2:q < j:=by omega
   have q3:(q:Int) < (sz:Int):=by omega
   have q4:(m:Int) < (sz:Int):=by omega
   clear hq
   obtain ⟨ya,hya⟩:∃ x,d[m]!.1 = x:=⟨_,rfl⟩
   obtain ⟨yb,hyb⟩:∃ x,d[m]!.2 = x:=⟨_,rfl⟩
   obtain ⟨za,hza⟩:∃ x,d[q]!.1 = x:=⟨_,rfl⟩
   obtain ⟨zb,hzb⟩:∃ x,d[q]!.2 = x:=⟨_,rfl⟩
   obtain ⟨V,hV⟩:∃ V,cmpI ya za = V:=⟨_,rfl⟩
   have hneg:V < 0 ↔ ya < za:=by rw [<- hV]; exact cmpI_neg _ _
   obtain ⟨y0,y1⟩:=HS.out.cells m (by rw [hd.out]; omega)
   obtain ⟨z0,z1⟩:=HS.out.cells q (by rw [hd.out]; omega)
   rw [hya] at y0; rw [hyb] at y1; rw [hza] at z0; rw [hzb] at z1
   have fy0:=cell_grown (block_lt_of_cell y0) y0; have fy1:=cell_grown (block_lt_of_cell y1) y1
   have fz0:=cell_grown (block_lt_of_cell z0) z0; have fz1:=cell_grown (block_lt_of_cell z1) z1
   have HV:=jH hV
   have HC:=jH (fun nn os => Grw.quiet (close_at ya yb za zb V HV (Sort.grow (wr.drewN nn) os)))
   have HYZ:Hid (d[m]!.1 = ya/\d[q]!.1 = za):=jH ⟨hya,hza⟩
   clear y0 y1 z0 z1 hya hyb hza hzb hV
   have HN:=jH hneg; clear hneg
   by_cases hv:V < 0
   ·have hvb:decide (V < 0) = true:=decide_eq_true hv
    go_wp2_with fail
    refine wp_region_quiet_grown mixed (by kernel_rfl) ?_
    repeat (go_big_quiet_step ((with_reducible exact HC.out _ _)))
    refine wpQuiet_nil ?_
    intro _ hw'
    obtain ⟨⟨nq,osq⟩,hw''⟩:=hw'
    subst hw''
    obtain ⟨w2,hw2⟩:∃ w2,w2 = Sort.grow (wr.drewN nq) osq:=⟨_,rfl⟩
    rw [<- hw2]
    have HS2:Hid (SWm w w2 g N d):=jH (by rw [hw2]; exact HS.out.below (below_grow _ _ _))
    clear hw2 fy0 fy1 fz0 fz1 HC
    go_wp2
    go_roundg (q - i)
    case measure => omega
    case rel => exact ⟨i,q,rfl,rfl,hmi,q1,by omega,rfl,HS2.out,HLO.out,Or.inr (by rw [HYZ.out.1,HYZ.out.2]; exact HN.out.1 (by omega))⟩
   ·have hvb:decide (V < 0) = false:=decide_eq_false hv
    go_wp2_with fail
    refine wp_region_quiet_grown mixed (by kernel_rfl) ?_
    repeat (go_big_quiet_step ((with_reducible exact HC.out _ _)))
    refine wpQuiet_nil ?_
    intro _ hw'
    obtain ⟨⟨nq,osq⟩,hw''⟩:=hw'
    subst hw''
    obtain ⟨w2,hw2⟩:∃ w2,w2 = Sort.grow (wr.drewN nq) osq:=⟨_,rfl⟩
    rw [<- hw2]
    have HS2:Hid (SWm w w2 g N d):=jH (by rw [hw2]; exact HS.out.below (below_grow _ _ _))
    clear hw2 fy0 fy1 fz0 fz1 HC
    go_wp2
    go_roundg (j - (q + 1))
    case measure => omega
    case rel => exact ⟨q + 1,j,by go_num,rfl,by omega,by omega,hjb,rfl,HS2.out,Or.inr (by rw [Nat.add_sub_cancel,HYZ.out.1,HYZ.out.2]; exact nlt_of HN.out (by omega)),HUP.out⟩
  ·have HIJ:Hid (i = j):=jH (by omega)
   obtain ⟨G,rfl⟩:∃ G:Nat,G = gk:=⟨_,rfl⟩
   obtain ⟨wo,rfl⟩:∃ wo:World,wo = wr:=⟨_,rfl⟩
   go_wp2
   go_loopg [17] (m - i) (fun gk vk wr => LmRel w g N sz a i m d gk vk wr)
   case atStart => exact ⟨m,d,rfl,by omega,Nat.le_refl _,hd.out,HS.out,pin_refl _ _ _,fun t h1 h2 => by omega,rfl,fun t _ => rfl⟩
   case round =>
    obtain ⟨k,e,rfl,hki,hkm,hes,hse,hpe,he1,he2,he3⟩:=hrel
    have HE:=jH hse; have HP:=jH hpe; have HZ:=jH hes; have E1:=jH he1; have E2:=jH he2; have E3:=jH he3
    have k1:i <= k:=by omega
    have HKI:=jH hki
    clear hse hpe hes he1 he2 he3 hki
    by_cases hk:i < k
    ·obtain ⟨p,hp⟩:∃ p,p = k - 1:=⟨_,rfl⟩
     have p1:((k:Int) - 1).toNat = p:=by omega
     have p2:IntKind.i64.wrap ((k:Int) - 1) = (k:Int) - 1:=by rw [IntKind.wrap_i64]; omega
     have p3:(k:Int) - 1 < (sz:Int):=by omega
     have p4:¬ k = p:=by omega
     have p5:p < k:=by omega
     have p6:(k:Int) < (sz:Int):=by omega
     have p7:(0:Int) <= (k:Int) - 1:=by omega
     have HPK:=jH hp
     clear hp
     obtain ⟨ya,hya⟩:∃ v,e[k]!.1 = v:=⟨_,rfl⟩
     obtain ⟨yb,hyb⟩:∃ v,e[k]!.2 = v:=⟨_,rfl⟩
     obtain ⟨za,hza⟩:∃ v,e[p]!.1 = v:=⟨_,rfl⟩
     obtain ⟨zb,hzb⟩:∃ v,e[p]!.2 = v:=⟨_,rfl⟩
     obtain ⟨y0,y1⟩:=HE.out.cells k (by rw [HZ.out]; omega)
     obtain ⟨z0,z1⟩:=HE.out.cells p (by rw [HZ.out]; omega)
     have rf:=HE.out.free
     have HX:=jH (HE.out.xch (k) (p) (by rw [HZ.out]; omega) (by rw [HZ.out]; omega) ya yb za zb hya hyb hza hzb)
     rw [hya] at y0; rw [hyb] at y1; rw [hza] at z0; rw [hzb] at z1
     clear hya hyb hza hzb
     go_wp2_with fail
     go_big_region
     go_wp2
     go_roundg (gk - 1)
     case measure => have:=HKI.out; omega
     case rel =>
      have hp:=HPK.out
      have hki:=HKI.out
      have hpz:p < e.size:=by rw [HZ.out]; omega
      have hkz:k < e.size:=by rw [HZ.out]; omega
      refine ⟨p,swp e k p,by first | (congr 1; omega) | (simp only [Value.int.injEq,true_and]; omega),by omega,by omega,by rw [size_swp]; exact HZ.out,HX.out.drew,pin_trans HP.out (pin_swp (by omega) (by omega) (by omega) (by omega) (by rw [HZ.out]; omega)),fun t t1 t2 => ?_,?_,fun t t1 => ?_⟩
      ·rw [swp_get e hkz hpz,if_neg (by omega)]
       by_cases tk:t = k
       ·rw [if_pos tk,E3.out p (by omega),tk,hp]
       ·rw [if_neg tk]; exact E1.out t (by omega) t2
      ·rw [swp_get e hkz hpz,if_pos rfl]; exact E2.out
      ·rw [swp_get e hkz hpz,if_neg (by omega),if_neg (by omega)]; exact E3.out t (by omega)
    ·have HK:Hid (k = i):=jH (by omega)
     go_wp2
     refine bodyPost_ret (results_none rfl _ _ _) rfl ?_
     refine ⟨rfl,e,jH ⟨HE.out,?_⟩⟩
     have hk':=HK.out
     subst hk'
     rw [<- HIJ.out] at HUP
     rw [h4.out]
     exact mrg_last hmi (by omega) hR.out (by exact HP.out) HLO.out HUP.out (fun t t1 t2 => E1.out t t1 t2) E2.out (fun t t1 => E3.out t t1)
open Go.RowKit Go.Sort Gr Wd Ws
def SymOK (n:Nat):Prop:=∀ (w:World) (g N sz c a m b:Nat) (d:Array Ms) (M B A:Int),A = (a:Int)->M = (m:Int)->B = (b:Int)->Hid (SWm w w g N d)->Hid (d.size = sz)->a < m->m < b->b <= sz->sz < 1000000000->b <= n + a->Hid (Srt a m d/\Srt m b d) ->
 Calls Tryz.prog 120 #[.slice (some ⟨g,0,none⟩) sz c,.int .i64 A,.int .i64 M,.int .i64 B,.func (.func 96) #[] #[]] w fun e w' => e = .returned (.tuple #[])/\∃ d',Hid (SWm w w' g N d'/\Mrg a b d d')
structure Rng (a m b mid s0 r0:Nat):Prop where
 lo:a <= s0
 le:s0 <= r0
 rm:r0 <= m
 rd:r0 <= mid
 top:mid + m <= b + s0
 s:s0 = a\/s0 + b = mid + m
 r:r0 = m\/r0 = mid
def MdRel (w:World) (g N s0 r0 n:Nat) (d:Array Ms) (gk:Nat) (vi vj:Value) (wr:World):Prop :=
 ∃ s r:Nat,vi = .int .i64 (s:Int)/\vj = .int .i64 (r:Int)/\s0 <= s/\s <= r/\r <= r0/\r - s = gk/\SWm w wr g N d/\(s = s0\/d[s - 1]!.1 <= d[n - s]!.1)/\(r = r0\/d[n - 1 - r]!.1 < d[r]!.1)
def CutA (w:World) (a m b mid:Nat) (x y:Value) (W:World):Prop:=∃ s0 r0:Nat,x = .int .i64 (s0:Int)/\y = .int .i64 (r0:Int)/\Rng a m b mid s0 r0/\W = w
def CutB (w:World) (g N s m n:Nat) (d:Array Ms) (W:World):Prop:=∃ e,Hid (SWm w W g N e/\Rot s m n d e)
def CutC (w:World) (g N a mid:Nat) (e:Array Ms) (W:World):Prop:=∃ f,Hid (SWm w W g N f/\Mrg a mid e f)
set_option maxRecDepth 100000 in
set_option maxHeartbeats 8000000 in
theorem sym_mid (n0:Nat) (IH:Hid (SymOK n0)) (w:World) (g N sz c a m b:Nat) (d:Array Ms) (h:Hid (SWm w w g N d)) (hd:Hid (d.size = sz)) (h1:a + 1 < m) (h2:m + 1 < b) (h3:b <= sz) (hn:sz < 1000000000) (hn0:b <= n0 + 1 + a) (hR:Hid (Srt a m d/\Srt m b d)) :
 Calls Tryz.prog 120 #[.slice (some ⟨g,0,none⟩) sz c,.int .i64 (a:Int),.int .i64 (m:Int),.int .i64 (b:Int),.func (.func 96) #[] #[]] w fun e w' => e = .returned (.tuple #[])/\∃ d',Hid (SWm w w' g N d'/\Mrg a b d d'):=by
 have mixed:=mixedO
 have ta:(((m:Int) - (a:Int)) == 1) = false:=by simp; omega
 have tb:(((b:Int) - (m:Int)) == 1) = false:=by simp; omega
 obtain ⟨hw1,hw2,hw3⟩:=half_of a b (by omega)
 obtain ⟨mid,hmid⟩:∃ q,q = (a + b) / 2:=⟨_,rfl⟩
 rw [<- hmid] at hw3
 have d1:a + b <= 2 * mid + 1:=by omega
 have d2:2 * mid <= a + b:=by omega
 clear hmid
 go_enter Tryz.func120,Tryz.ntmps120
 go_upto_if 140 with fail
 go_cut [20,21] from 138 (fun x y W => CutA w a m b mid x y W)
 case first =>
  by_cases hmm:mid < m
  ·go_wp2_with fail
   go_meet
   case rel => exact ⟨mid + m - b,mid,by congr 1; omega,rfl,⟨by omega,by omega,by omega,by omega,by omega,by omega,by omega⟩,rfl⟩
  ·go_wp2_with fail
   go_meet
   case rel => exact ⟨a,m,rfl,rfl,⟨by omega,by omega,by omega,by omega,by omega,by omega,by omega⟩,rfl⟩
 case rest =>
  obtain ⟨s0,r0,rfl,rfl,hrng,rfl⟩:=hcut
  obtain ⟨g1,g2,g3,g4,g5,g6,g7⟩:=hrng
  go_wp2
  go_loopg [20,21] (r0 - s0) (fun gk vi vj wr => MdRel wc g N s0 r0 (mid + m) d gk vi vj wr)
  case atStart => exact ⟨s0,r0,rfl,rfl,Nat.le_refl _,g2,Nat.le_refl _,rfl,h.out,Or.inl rfl,Or.inl rfl⟩
  case round =>
   obtain ⟨s,r,rfl,rfl,hs0,hsr,hr0,hgk,hsw,hlo,hup⟩:=hrel
   have HS:=jH hsw; have HLO:=jH hlo; have HUP:=jH hup; clear hsw hlo hup
   by_cases hlt:s < r
   ·obtain ⟨hv1,hv2,hv3⟩:=half_of s r (by omega)
    obtain ⟨q,hq⟩:∃ q,q = (s + r) / 2:=⟨_,rfl⟩
    rw [<- hq] at hv3
    have q1:s <= q:=by omega
    have q2:q < r:=by omega
    obtain ⟨x,hx⟩:∃ x,x + q + 1 = mid + m:=⟨mid + m - 1 - q,by omega⟩
    have x1:m <= x:=by omega
    have x2:x < b:=by omega
    have x3:((mid:Int) + (m:Int) - 1 - (q:Int)).toNat = x:=by omega
    have x4:(mid:Int) + (m:Int) - 1 - (q:Int) < (sz:Int):=by omega
    have x5:(0:Int) <= (mid:Int) + (m:Int) - 1 - (q:Int):=by omega
    have x6:IntKind.i64.wrap ((mid:Int) + (m:Int) - 1 - (q:Int)) = (mid:Int) + (m:Int) - 1 - (q:Int):=by rw [IntKind.wrap_i64]; omega
    have q3:(q:Int) < (sz:Int):=by omega
    have HX:=jH hx
    clear hq hx
    obtain ⟨ya,hya⟩:∃ v,d[x]!.1 = v:=⟨_,rfl⟩
    obtain ⟨yb,hyb⟩:∃ v,d[x]!.2 = v:=⟨_,rfl⟩
    obtain ⟨za,hza⟩:∃ v,d[q]!.1 = v:=⟨_,rfl⟩
    obtain ⟨zb,hzb⟩:∃ v,d[q]!.2 = v:=⟨_,rfl⟩
    obtain ⟨V,hV⟩:∃ V,cmpI ya za = V:=⟨_,rfl⟩
    have hneg:V < 0 ↔ ya < za:=by rw [<- hV]; exact cmpI_neg _ _
    obtain ⟨y0,y1⟩:=HS.out.cells x (by rw [hd.out]; omega)
    obtain ⟨z0,z1⟩:=HS.out.cells q (by rw [hd.out]; omega)
    rw [hya] at y0; rw [hyb] at y1; rw [hza] at z0; rw [hzb] at z1
    have fy0:=cell_grown (block_lt_of_cell y0) y0; have fy1:=cell_grown (block_lt_of_cell y1) y1
    have fz0:=cell_grown (block_lt_of_cell z0) z0; have fz1:=cell_grown (block_lt_of_cell z1) z1
    have HV:=jH hV
    have HC:=jH (fun nn os => Grw.quiet (close_at ya yb za zb V HV (Sort.grow (wr.drewN nn) os)))
    have HYZ:Hid (d[x]!.1 = ya/\d[q]!.1 = za):=jH ⟨hya,hza⟩
    clear y0 y1 z0 z1 hya hyb hza hzb hV
    have HN:=jH hneg; clear hneg
    by_cases hv:V < 0
    ·have hvb:decide (V < 0) = true:=decide_eq_true hv
     go_wp2_with fail
     refine wp_region_quiet_grown mixed (by kernel_rfl) ?_
     repeat (go_big_quiet_step ((with_reducible exact HC.out _ _)))
     refine wpQuiet_nil ?_
     intro _ hw'
     obtain ⟨⟨nq,osq⟩,hw''⟩:=hw'
     subst hw''
     obtain ⟨w2,hw2⟩:∃ w2,w2 = Sort.grow (wr.drewN nq) osq:=⟨_,rfl⟩
     rw [<- hw2]
     have HS2:Hid (SWm wc w2 g N d):=jH (by rw [hw2]; exact HS.out.below (below_grow _ _ _))
     clear hw2 fy0 fy1 fz0 fz1 HC
     go_wp2
     go_roundg (q - s)
     case measure => omega
     case rel => exact ⟨s,q,rfl,rfl,hs0,q1,by omega,rfl,HS2.out,HLO.out,Or.inr (by have:=HX.out; rw [show mid + m - 1 - q = x by omega,HYZ.out.1,HYZ.out.2]; exact HN.out.1 (by omega))⟩
    ·have hvb:decide (V < 0) = false:=decide_eq_false hv
     go_wp2_with fail
     refine wp_region_quiet_grown mixed (by kernel_rfl) ?_
     repeat (go_big_quiet_step ((with_reducible exact HC.out _ _)))
     refine wpQuiet_nil ?_
     intro _ hw'
     obtain ⟨⟨nq,osq⟩,hw''⟩:=hw'
     subst hw''
     obtain ⟨w2,hw2⟩:∃ w2,w2 = Sort.grow (wr.drewN nq) osq:=⟨_,rfl⟩
     rw [<- hw2]
     have HS2:Hid (SWm wc w2 g N d):=jH (by rw [hw2]; exact HS.out.below (below_grow _ _ _))
     clear hw2 fy0 fy1 fz0 fz1 HC
     go_wp2
     go_roundg (r - (q + 1))
     case measure => omega
     case rel => exact ⟨q + 1,r,by go_num,rfl,by omega,by omega,hr0,rfl,HS2.out,Or.inr (by have:=HX.out; rw [Nat.add_sub_cancel,show mid + m - (q + 1) = x by omega,HYZ.out.1,HYZ.out.2]; exact nlt_of HN.out (by omega)),HUP.out⟩
   ·have HSR:Hid (s = r):=jH (by omega)
    rw [<- HSR.out] at HUP
    have HS1:=jH HS.out.start
    obtain ⟨n,hnn⟩:∃ n,n = mid + m - s:=⟨_,rfl⟩
    have n1:(mid:Int) + (m:Int) - (s:Int) = (n:Int):=by omega
    have n2:m <= n:=by omega
    have n3:n <= b:=by omega
    have n4:mid <= n:=by omega
    have s1:s <= m:=by omega
    have s2:s <= mid:=by omega
    have s3:a <= s:=by omega
    have HNN:=jH hnn
    have HLO2:Hid (s = a\/n = b\/d[s - 1]!.1 <= d[n]!.1):=jH (by
     rcases HLO.out with h | h
     ·rcases g6 with g | g
      ·left; omega
      ·right; left; omega
     ·right; right; rw [<- hnn] at h; exact h)
    have HUP2:Hid (s = m\/n = m\/d[n - 1]!.1 < d[s]!.1):=jH (by
     rcases HUP.out with h | h
     ·rcases g7 with g | g
      ·left; omega
      ·right; left; omega
     ·right; right; rw [show mid + m - 1 - s = n - 1 by omega] at h; exact h)
    clear hnn HLO HUP
    go_upto_region 39 with fail
    go_cut [185] from 178 (fun v W => ∃ B:Bool,v = .bool B/\Hid (B = true ↔ (s < m/\m < n))/\W = wr)
    case first =>
     by_cases c1:s < m
     ·by_cases c2:m < n
      ·go_wp2_with fail
       go_meet
       case rel => exact ⟨true,rfl,jH (by simp [c1,c2]),rfl⟩
      ·go_wp2_with fail
       go_meet
       case rel => exact ⟨false,rfl,jH (by simp; omega),rfl⟩
     ·go_wp2_with fail
      go_meet
      case rel => exact ⟨false,rfl,jH (by simp; omega),rfl⟩
    case rest =>
     obtain ⟨B,rfl,hB,hwc⟩:=hcut
     subst hwc
     go_upto_if 185 with fail
     go_cut [] from 178 (fun W => CutB wc g N s m n d W)
     case first =>
      cases B with
      | true =>
       obtain ⟨c1,c2⟩:=hB.out.1 rfl
       go_wp2_with fail
       refine (rotate_at _ g N sz c s m n d _ _ _ _ rfl rfl rfl HS1 hd c1 c2 (by omega) hn).mono ?_
       rintro x w2 ⟨rfl,e,he⟩
       go_wp2_with fail
       go_meet
       case rel => exact ⟨e,he⟩
      | false =>
       have c1:s = m\/m = n:=by
        have:=hB.out
        simp only [Bool.false_eq_true,false_iff] at this
        omega
       go_wp2_with fail
       go_meet
       case rel => exact ⟨d,jH ⟨HS1.out,rot_none d s1 n2 c1⟩⟩
     case rest =>
      obtain ⟨e,he⟩:=hcut
      obtain ⟨r1,r2,r3,r4,r5⟩:=mrg_split (e:=e) (by omega) s3 s1 n2 n3 s2 n4 hR.out.1 hR.out.2 he.out.2 HLO2.out HUP2.out
      have R1:=jH r1; have R2:=jH r2; have R3:=jH r3; have R4:=jH r4; have R5:=jH r5
      have HE0:=jH (HS.out.on he.out.1)
      have HE1:=jH he.out.1.start
      have HEZ:Hid (e.size = sz):=jH (he.out.2.1.trans hd.out)
      have HEP:Hid (PermIn a b d e):=jH (he.out.2.2.2 a b s3 n3 (by rw [hd.out]; exact h3))
      clear r1 r2 r3 r4 r5 he HLO2 HUP2 HS1 HS hB
      go_upto_region 41 with fail
      go_cut [199] from 192 (fun v W => ∃ B:Bool,v = .bool B/\Hid (B = true ↔ (a < s/\s < mid))/\W = wc)
      case first =>
       by_cases c1:a < s
       ·by_cases c2:s < mid
        ·go_wp2_with fail
         go_meet
         case rel => exact ⟨true,rfl,jH (by simp [c1,c2]),rfl⟩
        ·go_wp2_with fail
         go_meet
         case rel => exact ⟨false,rfl,jH (by simp; omega),rfl⟩
       ·go_wp2_with fail
        go_meet
        case rel => exact ⟨false,rfl,jH (by simp; omega),rfl⟩
      case rest =>
       obtain ⟨B,rfl,hB,hwc⟩:=hcut
       subst hwc
       go_upto_if 199 with fail
       go_cut [] from 192 (fun W => CutC wc g N a mid e W)
       case first =>
        cases B with
        | true =>
         obtain ⟨c1,c2⟩:=hB.out.1 rfl
         go_wp2_with fail
         refine (IH.out _ g N sz c a s mid e _ _ _ rfl rfl rfl HE1 HEZ c1 c2 (by omega) hn (by omega) (jH ⟨R1.out,R2.out⟩)).mono ?_
         rintro x w2 ⟨rfl,f,hf⟩
         go_wp2_with fail
         go_meet
         case rel => exact ⟨f,hf⟩
        | false =>
         have c1:s = a\/s = mid:=by
          have:=hB.out
          simp only [Bool.false_eq_true,false_iff] at this
          omega
         have c2:Srt a mid e:=by
          rcases c1 with c1 | c1
          ·rw [<- c1]; exact R2.out
          ·rw [<- c1]; exact R1.out
         go_wp2_with fail
         go_meet
         case rel => exact ⟨e,jH ⟨HE1.out,pin_refl _ _ _,c2⟩⟩
       case rest =>
        obtain ⟨f,hf⟩:=hcut
        have HF0:=jH (HE0.out.on hf.out.1)
        have HF1:=jH hf.out.1.start
        have HFZ:Hid (f.size = sz):=jH (hf.out.2.1.1.trans HEZ.out)
        have HFM:=jH hf.out.2
        have R6:=jH (R3.out.kept hf.out.2.1 (Or.inr (Nat.le_refl _)))
        have R7:=jH (R4.out.kept hf.out.2.1 (Or.inr n4))
        clear hf HE1 HE0 hB
        go_upto_region 43 with fail
        go_cut [213] from 206 (fun v W => ∃ B:Bool,v = .bool B/\Hid (B = true ↔ (mid < n/\n < b))/\W = wc)
        case first =>
         by_cases c1:mid < n
         ·by_cases c2:n < b
          ·go_wp2_with fail
           go_meet
           case rel => exact ⟨true,rfl,jH (by simp [c1,c2]),rfl⟩
          ·go_wp2_with fail
           go_meet
           case rel => exact ⟨false,rfl,jH (by simp; omega),rfl⟩
         ·go_wp2_with fail
          go_meet
          case rel => exact ⟨false,rfl,jH (by simp; omega),rfl⟩
        case rest =>
         obtain ⟨B,rfl,hB,hwc⟩:=hcut
         subst hwc
         cases B with
         | true =>
          obtain ⟨c1,c2⟩:=hB.out.1 rfl
          go_wp2_with fail
          refine (IH.out _ g N sz c mid n b f _ _ _ rfl rfl rfl HF1 HFZ c1 c2 (by omega) hn (by omega) (jH ⟨R6.out,R7.out⟩)).mono ?_
          rintro x w2 ⟨rfl,u,hu⟩
          have HU:=jH (HF0.out.on hu.out.1)
          have HM:Hid (Mrg a b d u):=jH (mrg_glue (by omega) (by omega) (by rw [hd.out]; exact h3) HEP.out R5.out HFM.out hu.out.2)
          clear hu
          go_wp2
          go_end0
          exact ⟨rfl,u,jH ⟨HU.out,HM.out⟩⟩
         | false =>
          have c1:mid = n\/n = b:=by
           have:=hB.out
           simp only [Bool.false_eq_true,false_iff] at this
           omega
          have c2:Srt mid b f:=by
           rcases c1 with c1 | c1
           ·have:=R7.out; rw [<- c1] at this; exact this
           ·rw [<- c1]; exact R6.out
          have HM:Hid (Mrg a b d f):=jH (mrg_glue (by omega) (by omega) (by rw [hd.out]; exact h3) HEP.out R5.out HFM.out ⟨pin_refl _ _ _,c2⟩)
          go_wp2
          go_end0
          exact ⟨rfl,f,jH ⟨HF0.out,HM.out⟩⟩
theorem sym_any:∀ n,SymOK n
 | 0 => by
  intro w g N sz c a m b d M B A hA hM hB h hd h1 h2 h3 hn hn0 hR
  omega
 | n + 1 => by
  intro w g N sz c a m b d M B A hA hM hB h hd h1 h2 h3 hn hn0 hR
  subst hA hM hB
  by_cases c1:m = a + 1
  ·subst c1
   exact sym_first w g N sz c a b d h hd h2 h3 hn (jH hR.out.2)
  ·by_cases c2:b = m + 1
   ·exact sym_last w g N sz c a m b d h hd (by omega) (jH c2) (by omega) hn (jH hR.out.1)
   ·exact sym_mid n (jH (sym_any n)) w g N sz c a m b d h hd (by omega) (by omega) h3 hn (by omega) hR
open Go.RowKit Go.Sort Gr Wd Ws
theorem runs_last {s n q:Nat} {d e:Array Ms} (h:Runs s n q d) (h1:n < q * (2 * s) + 2 * s) (hm:Mrg (q * (2 * s)) n d e):Run1 (2 * s) n e:=by
 intro r
 by_cases hr:r < q
 ·have:=mul_lt_steps (w:=2 * s) hr
  exact ((h.1 r hr).kept hm.1 (Or.inl this)).part (by omega) (by omega)
 ·by_cases e':r = q
  ·subst e'; exact hm.2.part (by omega) (by omega)
  ·have:=mul_lt_steps (w:=2 * s) (show q < r by omega)
   exact srt_one _ _ _ (by omega)
theorem runs_short {s n q:Nat} {d:Array Ms} (hs:0 < s) (h:Runs s n q d) (h1:n <= q * (2 * s) + s):Run1 (2 * s) n d :=
 runs_end h (by omega) ((runs_halves h).1.part (by omega) (by omega))
def B1Rel (w:World) (g N n:Nat) (d:Array Ms) (gk:Nat) (va vb:Value) (wr:World):Prop :=
 ∃ (q A B:Nat) (e:Array Ms),va = .int .i64 (A:Int)/\vb = .int .i64 (B:Int)/\Hid (A = q * 20)/\Hid (B = A + 20)/\A <= n/\A + gk = n/\e.size = n/\SWm w wr g N e/\PermIn 0 n d e/\Blks 20 q e
def B2Rel (w:World) (g N n:Nat) (d:Array Ms) (gk:Nat) (vs:Value) (wr:World):Prop :=
 ∃ (s:Nat) (e:Array Ms),vs = .int .i64 (s:Int)/\0 < s/\s <= 20 + 2 * n/\n - s = gk/\e.size = n/\SWm w wr g N e/\PermIn 0 n d e/\Run1 s n e
def B3Rel (w:World) (g N n s:Nat) (d:Array Ms) (gk:Nat) (va vb:Value) (wr:World):Prop :=
 ∃ (q A B:Nat) (e:Array Ms),va = .int .i64 (A:Int)/\vb = .int .i64 (B:Int)/\Hid (A = q * (2 * s))/\Hid (B = A + 2 * s)/\A <= n/\A + gk = n/\e.size = n/\SWm w wr g N e/\PermIn 0 n d e/\Runs s n q e
set_option maxRecDepth 100000 in
set_option maxHeartbeats 4000000 in
theorem stable_any (w:World) (g N n c:Nat) (d:Array Ms) (h:Hid (SWm w w g N d)) (hd:Hid (d.size = n)) (hn:n < 100000000) :
 Calls Tryz.prog 109 #[.slice (some ⟨g,0,none⟩) n c,.int .i64 (n:Int),.func (.func 96) #[] #[]] w fun e w' => e = .returned (.tuple #[])/\∃ d',Hid (SWm w w' g N d'/\PermIn 0 n d d'/\Srt 0 n d'):=by
 go_enter Tryz.func109,Tryz.ntmps109
 go_wp2
 go_loopg [7,8] n (fun gk va vb wr => B1Rel w g N n d gk va vb wr)
 case atStart => exact ⟨0,0,20,d,rfl,rfl,jH rfl,jH rfl,Nat.zero_le _,by omega,hd.out,h.out,pin_refl _ _ _,blks_start _ _⟩
 case round =>
  obtain ⟨q,A,B,e,rfl,rfl,HA,HAB,hAn,hgk,hes,hsw,hp,hb⟩:=hrel
  have hB1:B <= A + 20:=Nat.le_of_eq HAB.out
  have hB2:A + 20 <= B:=Nat.le_of_eq HAB.out.symm
  have HS:=jH hsw; have HP:=jH hp; have HB:=jH hb; have HE:=jH hes; have HS1:=jH hsw.start
  clear hsw hp hb hes
  by_cases hlt:B <= n
  ·obtain ⟨hi1,hi2⟩:=ins_srt e A B (by omega) (by rw [HE.out]; exact hlt)
   have HM:Hid (Mrg A B e (insertionSort ltm e A B)):=jH ⟨hi1,hi2⟩
   clear hi1 hi2
   go_wp2_with fail
   refine (insertion_any wr g N n c A B e HS1 HE (by omega) hlt (by omega)).mono ?_
   rintro x w2 ⟨rfl,HW⟩
   obtain ⟨f,hf⟩:∃ f,f = insertionSort ltm e A B:=⟨_,rfl⟩
   rw [<- hf] at HW HM
   clear hf
   go_wp2
   go_roundg (gk - 20)
   case measure => omega
   case rel =>
    exact ⟨q + 1,B,B + 20,f,rfl,by go_num,jH (by have:=HA.out; omega),jH rfl,hlt,by omega,HM.out.1.1.trans HE.out,HS.out.on HW.out,pin_trans HP.out (pin_wide HM.out.1 (Nat.zero_le _) hlt (by rw [HE.out]; exact Nat.le_refl _)),
     blks_step HB.out (by have:=HM.out; rw [HAB.out,HA.out] at this; exact this)⟩
  ·obtain ⟨hi1,hi2⟩:=ins_srt e A n hAn (by rw [HE.out]; exact Nat.le_refl _)
   have HM:Hid (Mrg A n e (insertionSort ltm e A n)):=jH ⟨hi1,hi2⟩
   clear hi1 hi2
   obtain ⟨G,rfl⟩:∃ G:Nat,G = gk:=⟨_,rfl⟩
   obtain ⟨wo,rfl⟩:∃ wo:World,wo = wr:=⟨_,rfl⟩
   go_wp2_with fail
   refine (insertion_any wo g N n c A n e HS1 HE hAn (Nat.le_refl _) (by omega)).mono ?_
   rintro x w2 ⟨rfl,HW⟩
   obtain ⟨f,hf⟩:∃ f,f = insertionSort ltm e A n:=⟨_,rfl⟩
   rw [<- hf] at HW HM
   clear hf
   have HR:Hid (Run1 20 n f):=jH (blks_end HB.out (by have:=HA.out; omega) (by have:=HM.out; rw [HA.out] at this; exact this))
   have HS2:=jH (HS.out.on HW.out)
   have HP2:Hid (PermIn 0 n d f):=jH (pin_trans HP.out (pin_wide HM.out.1 (Nat.zero_le _) (Nat.le_refl _) (by rw [HE.out]; exact Nat.le_refl _)))
   have HF:Hid (f.size = n):=jH (HM.out.1.1.trans HE.out)
   clear HM HW HB HS HP HE HS1 HA HAB hB1 hB2 hlt
   go_wp2
   go_loopg [6] (n - 20) (fun gk vs wr => B2Rel w g N n d gk vs wr)
   case atStart => exact ⟨20,f,rfl,by omega,by omega,rfl,HF.out,HS2.out,HP2.out,HR.out⟩
   case round =>
    obtain ⟨s,e2,rfl,hs0,hs1,hgk2,hes,hsw,hp,hr⟩:=hrel
    have HS:=jH hsw; have HP:=jH hp; have HRn:=jH hr; have HE:=jH hes
    clear hsw hp hr hes
    by_cases hsn:s < n
    ·go_wp2
     obtain ⟨G2,rfl⟩:∃ G2:Nat,G2 = gk:=⟨_,rfl⟩
     obtain ⟨wo2,rfl⟩:∃ wo2:World,wo2 = wr:=⟨_,rfl⟩
     go_loopg [7,8] n (fun gk va vb wr => B3Rel w g N n s d gk va vb wr)
     case atStart => exact ⟨0,0,2 * s,e2,rfl,by go_num,jH (by omega),jH (by omega),Nat.zero_le _,by omega,HE.out,HS.out,HP.out,runs_start HRn.out⟩
     case round =>
      obtain ⟨q,A,B,e,rfl,rfl,HA,HAB,hAn,hgk,hes,hsw,hp,hb⟩:=hrel
      have hB1:B <= A + 2 * s:=Nat.le_of_eq HAB.out
      have hB2:A + 2 * s <= B:=Nat.le_of_eq HAB.out.symm
      obtain ⟨hl1,hl2⟩:=runs_halves hb
      rw [<- HA.out] at hl1 hl2
      have HL1:=jH hl1; have HL2:=jH hl2
      have KS:=jH hsw; have KP:=jH hp; have KB:=jH hb; have KE:=jH hes; have KS1:=jH hsw.start
      clear hsw hp hb hes hl1 hl2
      by_cases hbn:B <= n
      ·have hm1:A < A + s:=by omega
       have hm2:A + s < B:=by omega
       go_wp2_with fail
       refine (sym_any (B - A) wr g N n c A (A + s) B e _ _ _ rfl (by omega) rfl KS1 KE hm1 hm2 hbn (by omega) (by omega) (jH ⟨HL1.out.part (by omega) (by omega),HL2.out.part (by omega) (by omega)⟩)).mono ?_
       rintro x w3 ⟨rfl,u,hu⟩
       have HU:=jH (KS.out.on hu.out.1)
       have HUM:=jH hu.out.2
       clear hu
       go_wp2
       go_roundg (gk - 2 * s)
       case measure => omega
       case rel =>
        exact ⟨q + 1,B,B + 2 * s,u,rfl,by go_num,jH (by have:=HA.out; rw [Nat.add_mul,Nat.one_mul]; omega),jH rfl,hbn,by omega,HUM.out.1.1.trans KE.out,HU.out,pin_trans KP.out (pin_wide HUM.out.1 (Nat.zero_le _) hbn (by rw [KE.out]; exact Nat.le_refl _)),
         runs_step KB.out (by rw [HAB.out,HA.out]) hbn (by have:=HUM.out; rw [HA.out] at this; exact this)⟩
      ·by_cases hmn:A + s < n
       ·go_wp2_with fail
        refine (sym_any n wr g N n c A (A + s) n e _ _ _ rfl (by omega) rfl KS1 KE (by omega) hmn (Nat.le_refl _) (by omega) (by omega) (jH ⟨HL1.out.part (by omega) (by omega),HL2.out.part (by omega) (by omega)⟩)).mono ?_
        rintro x w3 ⟨rfl,u,hu⟩
        have HU:=jH (KS.out.on hu.out.1)
        have HUM:=jH hu.out.2
        clear hu
        go_wp2
        go_roundg (n - 2 * s)
        case measure => omega
        case rel =>
         exact ⟨2 * s,u,by go_num,by omega,by omega,rfl,HUM.out.1.1.trans KE.out,HU.out,pin_trans KP.out (pin_wide HUM.out.1 (Nat.zero_le _) (Nat.le_refl _) (by rw [KE.out]; exact Nat.le_refl _)),
          runs_last KB.out (by have:=HA.out; omega) (by have:=HUM.out; rw [HA.out] at this; exact this)⟩
       ·go_wp2
        go_roundg (n - 2 * s)
        case measure => omega
        case rel =>
         exact ⟨2 * s,e,by go_num,by omega,by omega,rfl,KE.out,KS.out,KP.out,runs_short hs0 KB.out (by have:=HA.out; omega)⟩
    ·go_wp2
     go_end0
     exact ⟨rfl,e2,jH ⟨HS.out,HP.out,runs_all HRn.out (by omega)⟩⟩
theorem sortStable_any (w:World) (g N n c:Nat) (d:Array Ms) (h:Hid (SWm w w g N d)) (hd:Hid (d.size = n)) (hn:n < 100000000) :
 Calls Tryz.prog 95 #[.slice (some ⟨g,0,none⟩) n c,.func (.func 96) #[] #[]] w fun e w' => e = .returned (.tuple #[])/\∃ d',Hid (SWm w w' g N d'/\PermIn 0 n d d'/\Srt 0 n d'):=by
 go_enter Tryz.func95,Tryz.ntmps95
 go_wp2_with fail
 refine (stable_any w g N n c d h hd hn).mono ?_
 rintro x w2 ⟨rfl,u,hu⟩
 go_wp2
 go_end0
 exact ⟨rfl,u,hu⟩
theorem insertion_none (w:World):Calls Tryz.prog 119 #[.slice none 0 0,.int .i64 0,.int .i64 0,.func (.func 96) #[] #[]] w fun e w' => e = .returned (.tuple #[])/\w = w':=by
 go_enter Tryz.func119,Tryz.ntmps119
 go_wp2
 go_loopg [8] 0 (fun gk vi wr => vi = .int .i64 1/\gk = 0/\wr = w)
 case atStart => exact ⟨rfl,rfl,rfl⟩
 case round =>
  obtain ⟨rfl,rfl,rfl⟩:=hrel
  go_wp2
  go_end0
  exact ⟨rfl,rfl⟩
theorem stable_none (w:World):Calls Tryz.prog 109 #[.slice none 0 0,.int .i64 0,.func (.func 96) #[] #[]] w fun e w' => e = .returned (.tuple #[])/\w = w':=by
 go_enter Tryz.func109,Tryz.ntmps109
 go_wp2
 go_loopg [7,8] 0 (fun gk va vb wr => va = .int .i64 0/\vb = .int .i64 20/\gk = 0/\wr = w)
 case atStart => exact ⟨rfl,rfl,rfl,rfl⟩
 case round =>
  obtain ⟨rfl,rfl,rfl,rfl⟩:=hrel
  go_wp2_with fail
  refine (insertion_none _).mono ?_
  rintro x w2 ⟨rfl,rfl⟩
  go_wp2
  go_loopg [6] 0 (fun gk vs wr' => vs = .int .i64 20/\gk = 0/\wr' = wr)
  case atStart => exact ⟨rfl,rfl,rfl⟩
  case round =>
   obtain ⟨rfl,rfl,rfl⟩:=hrel
   go_wp2
   go_end0
   exact ⟨rfl,rfl⟩
theorem sortStable_none (w:World):Calls Tryz.prog 95 #[.slice none 0 0,.func (.func 96) #[] #[]] w fun e w' => e = .returned (.tuple #[])/\w = w':=by
 go_enter Tryz.func95,Tryz.ntmps95
 go_wp2_with fail
 refine (stable_none w).mono ?_
 rintro x w2 ⟨rfl,rfl⟩
 go_wp2
 go_end0
 exact ⟨rfl,rfl⟩
end Go.Proofs.YtdcaekmgfcpbmaaGreat.Al
