/-
  What is proved here: what the four functions answer, as plain words; a state in its box; which numbers fit. No program but the model's words. What is proved here: contracts of seq.Step. Conditions: at most 1000 edges; numbers that fit an int. What is proved here: a contract of seq.At. Conditions: at most 1000 edges; numbers that fit an int. What is proved here: a contract of seq.Run. Conditions: at most 1000 edges; numbers that fit an int.
-/
import Derived.Test.YtdcaekmgfcpbmaaGreatQdSqS0x
import Derived.Test.YtdcaekmgfcpbmaaGreatQdSqErx
namespace Go.Proofs.YtdcaekmgfcpbmaaGreat.Sq
open Go.RowKit Go.Shelf Gr Wd Ws Fx Rk Lb Al In
open Pa (vl bt vl_of vl_at bt_of bt_at itr itr_next)
def zS:Sq:=⟨[],[],[],0,0⟩
def startR (k st so dm ep V:Int) (L:List Ed):Int × Sq × Int:=if chkJ k st so dm ep V L = 0 then (0,strS k so V.toNat L,0) else (0,zS,chkJ k st so dm ep V L)
def atR (k st so dm ep V:Int) (L:List Ed) (n:Int):Int × Sq × Int:=if chkJ k st so dm ep V L = 0 then (if 0 <= n/\n <= 2000 then (n,stS k so dm V.toNat L n.toNat,0) else (0,zS,4)) else (0,zS,chkJ k st so dm ep V L)
def Res (w w':World) (e:Ending) (r:Int × Sq × Int):Prop:=∃ x,e = .returned (.tuple #[x,.int .i64 r.2.2])/\Hid (SOwn w' w.heap.size x r.1 r.2.1)/\Hid (Below w.heap.size w w')
theorem chkJ_zero {k st so dm ep V:Int} {L:List Ed} (h:chkJ k st so dm ep V L = 0):chk V L = 0/\0 <= st/\st <= 2000/\(k = 1\/k = 2\/k = 3)/\0 <= dm/\dm <= 4294967296:=by
 unfold chkJ at h
 split at h
 ·rename_i hc
  split at h
  ·rename_i hj
   unfold jobOk at hj
   simp only [Bool.and_eq_true,decide_eq_true_eq] at hj
   obtain ⟨⟨h0,h1⟩,h2⟩:=hj
   refine ⟨hc,h0,h1,?_⟩
   split at h2
   ·rename_i hk
    simp only [Bool.and_eq_true,decide_eq_true_eq] at h2
    exact ⟨Or.inl hk,by omega,by omega⟩
   ·split at h2
    ·rename_i hk
     simp only [Bool.and_eq_true,decide_eq_true_eq] at h2
     exact ⟨Or.inr (Or.inl hk),by omega,by omega⟩
    ·split at h2
     ·rename_i hk
      simp only [Bool.and_eq_true,decide_eq_true_eq] at h2
      exact ⟨Or.inr (Or.inr hk),by omega,by omega⟩
     ·cases h2
  ·cases h
 ·rename_i hc; exact absurd h hc
theorem chk_facts {V:Int} {L:List Ed} (h:chk V L = 0):∃ Vn:Nat,V = (Vn:Int)/\1 <= Vn/\Vn <= 512/\∀ e ∈ L,fitE (Vn:Int) e = true:=by
 obtain ⟨h1,h2,_,h4,_⟩:=(chk_zero _ _).1 h
 refine ⟨V.toNat,by omega,by omega,by omega,?_⟩
 rw [show ((V.toNat:Nat):Int) = V by omega]; exact h4
theorem take_i63 (n d m s:Int):I63 (takeI n d m s):=by
 have h0:=take_nonneg n d m s
 unfold I63
 refine ⟨by omega,?_⟩
 unfold takeI
 split
 ·omega
 ·rename_i h
  have h1:(4294967296 - d) / n <= 4294967296:=by
   have:(4294967296 - d) / n <= 4294967296 - d:=Int.ediv_le_self _ (by omega)
   omega
  have h2:=addI_in m (s / n)
  have h3:d * addI m (s / n) <= 4294967296 * 4611686018427387904:=Int.mul_le_mul (by omega) h2.2 h2.1 (by omega)
  have h4:d * addI m (s / n) / 4294967296 <= 4611686018427387904:=by omega
  omega
theorem cmp_i63 {k V dm x m s:Int} {h:Bool} (hx:I63 x) (hm:I63 m):I63 (cmpM k V dm x h m s):=by
 unfold cmpM
 split
 ·exact take_i63 _ _ _ _
 ·split
  ·unfold takM; split <;> assumption
  ·split
   ·unfold Pa.tkm I63 at *; split <;> omega
   ·unfold I63; omega
theorem vl_i63 {l:List Int} (h:∀ x ∈ l,I63 x) (v:Nat):I63 (vl l v):=by
 rcases Nat.lt_or_ge v l.length with hv | hv
 ·exact h _ (List.mem_of_getElem? (vl_at hv))
 ·unfold vl; rw [List.getD_eq_getElem?_getD,List.getElem?_eq_none hv]; unfold I63; simp
theorem ml_i63 {l:List Ml} (h:∀ m ∈ l,I63 m.2) (v:Nat):I63 (ml l v).2:=by
 rcases Nat.lt_or_ge v l.length with hv | hv
 ·rw [ml_of (List.getElem?_eq_getElem hv)]; exact h _ (List.getElem_mem hv)
 ·unfold ml; rw [List.getD_eq_getElem?_getD,List.getElem?_eq_none hv]; unfold I63; simp
theorem nxt_i63 {k dm:Int} {V:Nat} {s:Sq} (h1:∀ x ∈ s.vals,I63 x) (h2:∀ m ∈ s.inb,I63 m.2):∀ x ∈ nxtV k dm V s,I63 x:=by
 intro x hx
 obtain ⟨v,_,rfl⟩:=List.mem_map.1 hx
 exact cmp_i63 (vl_i63 h1 v) (ml_i63 h2 v)
theorem inb_i63 {k:Int} {V:Nat} {L:List Ed} {vals:List Int} {chg:List Bool} (h:∀ x ∈ vals,InR x):∀ m ∈ inbS k V L vals chg,I63 m.2:=by
 intro m hm
 cases ht:m.1 with
 | true => exact (inb_in h m hm ht).i63
 | false =>
  obtain ⟨v,hv⟩:=List.getElem?_of_mem hm
  have hl:v < V:=by have:=(List.getElem?_eq_some_iff.1 hv).1; rwa [inb_len] at this
  rw [inb_at k V L vals chg v hl] at hv
  cases hc:mailM k (v:Int) (rawS k V L vals chg).flatten with
  | none => rw [hc] at hv; simp [mlOf] at hv; subst hv; unfold I63; simp
  | some x => rw [hc] at hv; simp [mlOf] at hv; subst hv; cases ht
structure Fit (V:Nat) (s:Sq):Prop where
 v:∀ x ∈ s.vals,I63 x
 i:∀ m ∈ s.inb,I63 m.2
 sm:I63 s.sum
 nv:s.vals.length = V
 nc:s.chg.length = V
 ni:s.inb.length = V
theorem fit_go {k:Int} {V:Nat} {L:List Ed} {s:Sq} (h:GoS k V L s):Fit V s :=
 ⟨fun x hx => (h.may.2.2.2.1 x hx).i63,fun m hm => inb_i63 (k:=k) (V:=V) (L:=L) (chg:=s.chg) h.may.2.2.2.1 m (by rw [<- h.form.1]; exact hm),h.may.2.2.2.2.2.1.i63,h.may.1,h.may.2.1,h.may.2.2.1⟩
structure LpH (w W:World) (bs B be:Nat) (fx:Fxd) (i:Int) (s:Sq) (ve:Value) (Ls:List Eg):Prop where
 below:Below w.heap.size w W
 fixed:∀ p ∈ fx,W.heap[p.1]? = some (.cells p.2.1 p.2.2 (0,0))
 rows:∃ va vc vi,W.heap[bs]? = some (.cells #[.int .i64 i,va,vc,vi,.int .i64 s.sum,.int .i64 s.most] 45 (0,0))/\QOwn W B va s.vals/\BOwn W B vc s.chg/\KOwn W B vi s.inb
 edges:WOwn W be ve Ls
 apart:∀ p ∈ fx,p.1 ≠ bs
 lo:w.heap.size <= bs
section
variable {w W W':World} {bs B be:Nat} {fx:Fxd} {i:Int} {s:Sq} {ve:Value} {Ls:List Eg}
theorem LpH.step (h:LpH w W bs B be fx i s ve Ls) (hb:Below W.heap.size W W'):LpH w W' bs B be fx i s ve Ls:=by
 obtain ⟨va,vc,vi,h1,h2,h3,h4⟩:=h.rows
 exact ⟨step_below h.below h.below.size hb,fun p hp => keep (h.fixed p hp) hb,⟨va,vc,vi,keep h1 hb,h2.below hb,h3.below hb,h4.below hb⟩,h.edges.below hb,h.apart,h.lo⟩
theorem LpH.put (h:LpH w W bs B be fx i s ve Ls) {j:Int} {t:Sq} {va vc vi:Value} (h2:QOwn W B va t.vals) (h3:BOwn W B vc t.chg) (h4:KOwn W B vi t.inb) :
 LpH w (put6 W bs (.int .i64 j) va vc vi (.int .i64 t.sum) (.int .i64 t.most)) bs B be fx j t ve Ls:=by
 obtain ⟨va',vc',vi',h1,_,_,_⟩:=h.rows
 have ho:∀ k,k ≠ bs->(put6 W bs (.int .i64 j) va vc vi (.int .i64 t.sum) (.int .i64 t.most)).heap[k]? = W.heap[k]?:=fun k hk => put6_other _ _ _ _ _ _ _ _ _ hk
 exact ⟨put6_below h.below h.lo ..,fun p hp => (ho _ (h.apart p hp)).trans (h.fixed p hp),⟨va,vc,vi,put6_heap h1 ..,own_moved h2 h1 (by decide) ho,own_moved h3 h1 (by decide) ho,own_moved h4 h1 (by decide) ho⟩,h.edges.moved h1 (by decide) (by decide) ho,h.apart,h.lo⟩
end
theorem SOwn.moved {w w':World} {b B:Nat} {x:Value} {st:Int} {s:Sq} {c:Array Value} (h:SOwn w B x st s) (hb:w.heap[b]? = some (.cells c 45 (0,0))) (ho:∀ k,k ≠ b->w'.heap[k]? = w.heap[k]?):SOwn w' B x st s:=by
 obtain ⟨va,vc,vi,e,h1,h2,h3⟩:=h
 exact ⟨va,vc,vi,e,own_moved h1 hb (by decide) ho,own_moved h2 hb (by decide) ho,own_moved h3 hb (by decide) ho⟩
theorem SOwn.zero (w:World) (B:Nat):SOwn w B (.agg #[.int .i64 0,.slice none 0 0,.slice none 0 0,.slice none 0 0,.int .i64 0,.int .i64 0]) 0 zS:=⟨_,_,_,rfl,QOwn.none_ _ _,BOwn.none_ _ _,KOwn.none_ _ _⟩
theorem SOwn.at {w:World} {B:Nat} {x:Value} {st:Int} {s:Sq} (h:SOwn w B x st s):∃ Av cv Ac cc Ai ci,x = .agg #[.int .i64 st,.slice Av s.vals.length cv,.slice Ac s.chg.length cc,.slice Ai s.inb.length ci,.int .i64 s.sum,.int .i64 s.most]/\SAt w Av Ac Ai s.vals.length s.chg.length s.inb.length s/\QOwn w B (.slice Av s.vals.length cv) s.vals/\BOwn w B (.slice Ac s.chg.length cc) s.chg/\KOwn w B (.slice Ai s.inb.length ci) s.inb:=by
 obtain ⟨va,vc,vi,e,h1,h2,h3⟩:=h
 obtain ⟨Av,cv,rfl,g1⟩:=h1.form
 obtain ⟨Ac,cc,rfl,g2⟩:=h2.form
 obtain ⟨Ai,ci,rfl,g3,_⟩:=h3.room
 exact ⟨Av,cv,Ac,cc,Ai,ci,e,⟨g1,g2,g3,rfl,rfl,rfl⟩,h1,h2,h3⟩
open Go.RowKit Go.Shelf Gr Wd Ws Fx Rk Lb Al In
open Pa (vl bt vl_of vl_at bt_of bt_at)
theorem bad_res {w W:World} {b:Nat} {r:Int × Sq × Int} {E:Int} (h:r = (0,zS,E)) (hb:Below w.heap.size w W) (hn:w.heap.size <= b) (hr:W.heap[b]? = some (.cells #[.int .i64 0,.slice none 0 0,.slice none 0 0,.slice none 0 0,.int .i64 0,.int .i64 0] 45 (0,0))) :
 (put6 W b (.int .i64 0) (.slice none 0 0) (.slice none 0 0) (.slice none 0 0) (.int .i64 0) (.int .i64 0)).heap[b]? = some (.cells #[.int .i64 0,.slice none 0 0,.slice none 0 0,.slice none 0 0,.int .i64 0,.int .i64 0] 45 (0,0))/\Res w (put6 W b (.int .i64 0) (.slice none 0 0) (.slice none 0 0) (.slice none 0 0) (.int .i64 0) (.int .i64 0)) (.returned (.tuple #[.agg #[.int .i64 0,.slice none 0 0,.slice none 0 0,.slice none 0 0,.int .i64 0,.int .i64 0],.int .i64 E])) r :=
 ⟨put6_heap hr ..,_,by rw [h],jH (by rw [h]; exact SOwn.zero _ _),jH (put6_below hb hn ..)⟩
open Go.RowKit Go.Shelf Gr Wd Ws Fx Rk Lb Al In
open Pa (vl bt vl_of vl_at bt_of bt_at)
theorem SOwn.at' {w:World} {B:Nat} {x:Value} {st:Int} {s:Sq} (h:SOwn w B x st s):∃ Av cv Ac cc Ai ci,x = .agg #[.int .i64 st,.slice Av s.vals.length cv,.slice Ac s.chg.length cc,.slice Ai s.inb.length ci,.int .i64 s.sum,.int .i64 s.most]/\QOwn w B (.slice Av s.vals.length cv) s.vals/\BOwn w B (.slice Ac s.chg.length cc) s.chg/\KOwn w B (.slice Ai s.inb.length ci) s.inb:=by
 obtain ⟨Av,cv,Ac,cc,Ai,ci,e,_,h1,h2,h3⟩:=h.at
 exact ⟨Av,cv,Ac,cc,Ai,ci,e,h1,h2,h3⟩
set_option maxRecDepth 100000 in
set_option maxHeartbeats 600000 in
theorem seqAt_any (k st so dm ep V:Int) (A:Option Addr) (n c:Nat) (L:List Ed) (kk:Int) (w:World) (hL:EAt w A L) (hn:L.length = n) (hm:n <= 1000) :
 Calls Tryz.prog 64 #[.agg #[.int .i64 V,.slice A n c],.agg #[.int .u8 k,.int .i64 st,.int .i64 so,.int .i64 dm,.int .i64 ep],.int .i64 kk] w fun e w' => Res w w' e (atR k st so dm ep V L kk):=by
 have mixed:=mixedI
 have HL:=jH hL; have HN:=jH hn
 clear hL hn
 obtain ⟨W3,hW3⟩:∃ W3,W3 = ((w.alloc (.cells #[.int .i64 V,.slice A n c] 24)).alloc (.cells #[.int .u8 k,.int .i64 st,.int .i64 so,.int .i64 dm,.int .i64 ep] 40)).alloc (.cells #[.int .i64 0,.slice none 0 0,.slice none 0 0,.slice none 0 0,.int .i64 0,.int .i64 0] 45):=⟨_,rfl⟩
 have hal:=al3 w (.cells #[.int .i64 V,.slice A n c] 24) (.cells #[.int .u8 k,.int .i64 st,.int .i64 so,.int .i64 dm,.int .i64 ep] 40) (.cells #[.int .i64 0,.slice none 0 0,.slice none 0 0,.slice none 0 0,.int .i64 0,.int .i64 0] 45)
 rw [<- hW3] at hal
 obtain ⟨n0,e0⟩:∃ n0,n0 = w.heap.size:=⟨_,rfl⟩
 have HG:Hid (W3.heap[n0]? = some (.cells #[.int .i64 V,.slice A n c] 24 (0,0))):=jH (by rw [e0]; exact hal.1)
 have HJ:Hid (W3.heap[n0 + 1]? = some (.cells #[.int .u8 k,.int .i64 st,.int .i64 so,.int .i64 dm,.int .i64 ep] 40 (0,0))):=jH (by rw [e0]; exact hal.2.1)
 have HR:Hid (W3.heap[n0 + 1 + 1]? = some (.cells #[.int .i64 0,.slice none 0 0,.slice none 0 0,.slice none 0 0,.int .i64 0,.int .i64 0] 45 (0,0))):=jH (by rw [e0]; exact hal.2.2.1)
 have HB:=jH hal.2.2.2
 have HN0:Hid (w.heap.size <= n0):=jH (by omega)
 clear hal
 obtain ⟨g0,g1,_⟩:=two HG.out
 obtain ⟨j0,j1,j2,j3,j4,_⟩:=jb_cells HJ.out
 obtain ⟨E,hE⟩:∃ E,E = chkJ k st so dm ep V L:=⟨_,rfl⟩
 have HC:Hid (∀ W,Below w.heap.size w W->Calls Tryz.prog 16 #[.agg #[.int .i64 V,.slice A n c],.agg #[.int .u8 k,.int .i64 st,.int .i64 so,.int .i64 dm,.int .i64 ep]] W fun e w' => e = .returned (.int .i64 E)/\Below W.heap.size W w'):=jH (fun W h => by
  rw [hE,<- HN.out]
  exact checkj_any k st so dm ep V A c L W (HL.out.below h) (by rw [HN.out]; omega))
 have HE:=jH hE
 clear hE
 go_enter Tryz.func64,Tryz.ntmps64
 go_upto_region 1 with fail
 rw [<- hW3,show w.heap.size = n0 from e0.symm]
 clear hW3 e0
 go_wp2_with fail
 refine (HC.out _ HB.out).mono ?_
 rintro e w4 ⟨rfl,hb4⟩
 have HG4:=jK HG hb4; have HJ4:=jK HJ hb4; have HR4:=jK HR hb4
 have HB4:=jS HB hb4
 clear hb4 g0 g1 j0 j1 j2 j3 j4 HG HJ HR HB HC
 by_cases hE0:E = 0
 ·subst hE0
  obtain ⟨hz,hst0,hst1,hk,hd0,hd1⟩:=chkJ_zero HE.out.symm
  obtain ⟨Vn,rfl,hV1,hV2,hfit⟩:=chk_facts hz
  have HGO:Hid (∀ q,GoS k Vn L (stS k so dm Vn L q)):=jH (fun q => go_all hz (fun _ => ⟨hd0,hd1⟩) q)
  have HFI:=jH hfit
  have HDM:Hid (I63 dm):=jH (by unfold I63; omega)
  have HKK:=jH hk; have HST:=jH hst0
  clear hfit hz hst0 hst1 hk hd0 hd1
  obtain ⟨g0,g1,_⟩:=two HG4.out
  obtain ⟨j0,j1,j2,j3,j4,_⟩:=jb_cells HJ4.out
  by_cases hr:0 <= kk/\kk <= 2000
  case neg =>
   have hq:atR k st so dm ep (Vn:Int) L kk = (0,zS,4):=by unfold atR; rw [if_pos HE.out.symm,if_neg hr]
   obtain ⟨r0,r1,r2,r3,r4,r5,rl⟩:=six HR4.out
   have f0:=warm HR4.out 0; have f1:=warm HR4.out 1; have f2:=warm HR4.out 2; have f3:=warm HR4.out 3; have f4:=warm HR4.out 4; have f5:=warm HR4.out 5
   have HQ:=jH hq
   clear hq
   by_cases h0:kk < 0
   ·clear hr
    go_wp2
    obtain ⟨hX,hRes⟩:=bad_res HQ.out HB4.out (b:=n0 + 1 + 1) (by have:=HN0.out; omega) HR4.out
    unfold put6 at hX hRes
    exact bodyPost_ret (v:=.tuple #[.agg #[.int .i64 0,.slice none 0 0,.slice none 0 0,.slice none 0 0,.int .i64 0,.int .i64 0],.int .i64 4]) (res2_s _ _ _ _ _ _ _ _ _ _ _ _ _ Tryz.results64 rfl rfl hX) rfl hRes
   ·have h2:2000 < kk:=by omega
    clear hr
    go_wp2
    obtain ⟨hX,hRes⟩:=bad_res HQ.out HB4.out (b:=n0 + 1 + 1) (by have:=HN0.out; omega) HR4.out
    unfold put6 at hX hRes
    exact bodyPost_ret (v:=.tuple #[.agg #[.int .i64 0,.slice none 0 0,.slice none 0 0,.slice none 0 0,.int .i64 0,.int .i64 0],.int .i64 4]) (res2_s _ _ _ _ _ _ _ _ _ _ _ _ _ Tryz.results64 rfl rfl hX) rfl hRes
  obtain ⟨m,rfl⟩:∃ m:Nat,kk = (m:Int):=⟨kk.toNat,by omega⟩
  have hm2:m <= 2000:=by omega
  have HZ0:Hid (∀ q,q = m->atR k st so dm ep (Vn:Int) L (m:Int) = ((q:Int),stS k so dm Vn L q,0)):=jH (fun q e => by subst e; unfold atR; rw [if_pos HE.out.symm,if_pos hr]; rfl)
  clear hr
  go_wp2_with fail
  refine (course_any k st so dm ep Vn A c n L w4 (HL.out.below HB4.out) HN.out.symm (by rw [HN.out]; omega) hV2).mono ?_
  rintro e w5 ⟨v,rfl,hv,hb5⟩
  obtain ⟨Ae,ce,rfl,_⟩:=hv.out.form
  rw [egs_len] at hv ⊢
  have HV5:=hv
  have HB5:=jS HB4 hb5.out
  have HR5:=jK HR4 hb5.out; have HJ5:=jK HJ4 hb5.out
  clear hb5 g0 g1 j0 j1 j2 j3 j4 hv
  obtain ⟨W6,hW6⟩:∃ W6,W6 = w5.alloc (.cells #[.int .u8 k,.int .i64 st,.int .i64 so,.int .i64 dm,.int .i64 ep,.slice Ae Vn ce] 71):=⟨_,rfl⟩
  have hb6:Below w5.heap.size w5 W6:=by rw [hW6]; exact (Below.refl _ w5).alloc (Nat.le_refl _) _
  obtain ⟨b9,eb9⟩:∃ b9,b9 = w5.heap.size:=⟨_,rfl⟩
  have HC6:Hid (W6.heap[b9]? = some (.cells #[.int .u8 k,.int .i64 st,.int .i64 so,.int .i64 dm,.int .i64 ep,.slice Ae Vn ce] 71 (0,0))):=jH (by rw [hW6,eb9]; exact heap_alloc_new w5 _)
  have HB6:=jS HB5 hb6
  have HR6:=jK HR5 hb6; have HJ6:=jK HJ5 hb6
  have HV6:=jH (HV5.out.below hb6)
  have HB9:Hid (n0 + 1 + 1 < b9):=jH (by rw [eb9]; exact lt_of_block HR5.out)
  go_upto_region 7 with fail
  rw [<- hW6,show w5.heap.size = b9 from eb9.symm]
  clear hW6 hb6 eb9 HR5 HJ5 HV5
  obtain ⟨c0,c1,c2,c3,c4,c5,_⟩:=six HC6.out
  go_wp2_with fail
  refine (sstart_any k st so dm ep Vn L Ae ce w4.heap.size W6 HV6.out hV2 (by rw [HN.out]; omega) HFI.out).mono ?_
  rintro e w7 ⟨x,rfl,hx,hb7⟩
  have HX7:=hx
  have HB7:=jS HB6 hb7.out
  have HR7:=jK HR6 hb7.out; have HC7:=jK HC6 hb7.out; have HJ7:=jK HJ6 hb7.out; have HV7:=jH (HV6.out.below hb7.out)
  have HZ7:Hid (b9 < w7.heap.size):=jH (lt_of_block HC7.out)
  have HM7:Hid (w.heap.size <= W6.heap.size):=jH HB6.out.size
  clear hb7 hx c0 c1 c2 c3 c4 c5 HR6 HC6 HJ6 HV6
  obtain ⟨Av,cv,Ac,cc,Ai,ci,rfl,⟨hq0,hm0,hk0⟩⟩:=HX7.out.at'
  rw [show strS k so Vn L = stS k so dm Vn L 0 from rfl] at HX7 hq0 hm0 hk0 ⊢
  obtain ⟨s0,hs0⟩:∃ s0,s0 = stS k so dm Vn L 0:=⟨_,rfl⟩
  rw [<- hs0] at HX7 hq0 hm0 hk0 ⊢
  obtain ⟨a1,ha1⟩:∃ a,a = s0.vals.length:=⟨_,rfl⟩
  obtain ⟨a2,ha2⟩:∃ a,a = s0.chg.length:=⟨_,rfl⟩
  obtain ⟨a3,ha3⟩:∃ a,a = s0.inb.length:=⟨_,rfl⟩
  rw [<- ha1,<- ha2,<- ha3] at HX7 ⊢
  rw [<- ha1] at hq0; rw [<- ha2] at hm0; rw [<- ha3] at hk0
  clear ha1 ha2 ha3
  obtain ⟨W8,hW8⟩:∃ W8,W8 = w7.alloc (.cells #[.int .i64 0,.slice Av a1 cv,.slice Ac a2 cc,.slice Ai a3 ci,.int .i64 s0.sum,.int .i64 s0.most] 45):=⟨_,rfl⟩
  have hb8:Below w7.heap.size w7 W8:=by rw [hW8]; exact (Below.refl _ w7).alloc (Nat.le_refl _) _
  obtain ⟨b10,eb10⟩:∃ b10,b10 = w7.heap.size:=⟨_,rfl⟩
  obtain ⟨fx,hfx⟩:∃ fx:Fxd,fx = [(n0 + 1,#[.int .u8 k,.int .i64 st,.int .i64 so,.int .i64 dm,.int .i64 ep],40),(n0 + 1 + 1,#[.int .i64 0,.slice none 0 0,.slice none 0 0,.slice none 0 0,.int .i64 0,.int .i64 0],45),(b9,#[.int .u8 k,.int .i64 st,.int .i64 so,.int .i64 dm,.int .i64 ep,.slice Ae Vn ce],71)]:=⟨_,rfl⟩
  have HH8:Hid (LpH w W8 b10 w.heap.size w4.heap.size fx ((0:Nat):Int) (stS k so dm Vn L 0) (.slice Ae Vn ce) (egs Vn L)):=jH (by
   refine ⟨step_below HB7.out HB7.out.size hb8,?_,⟨.slice Av a1 cv,.slice Ac a2 cc,.slice Ai a3 ci,?_,(own_mono (own_below (hs0 ▸ hq0) hb8) HM7.out),(own_mono (own_below (hs0 ▸ hm0) hb8) HM7.out),(own_mono (own_below (hs0 ▸ hk0) hb8) HM7.out)⟩,HV7.out.below hb8,?_,by rw [eb10]; exact HB7.out.size⟩
   ·rw [hfx]; intro p hp
    simp only [List.mem_cons,List.not_mem_nil,or_false] at hp
    rcases hp with rfl | rfl | rfl
    ·exact keep HJ7.out hb8
    ·exact keep HR7.out hb8
    ·exact keep HC7.out hb8
   ·rw [hW8,eb10,<- hs0]; exact heap_alloc_new w7 _
   ·rw [hfx]; intro p hp
    have h9:=HB9.out
    have h7:=HZ7.out
    simp only [List.mem_cons,List.not_mem_nil,or_false] at hp
    rcases hp with rfl | rfl | rfl <;> (simp only []; omega))
  have HF1:Hid (∀ W i s,LpH w W b10 w.heap.size w4.heap.size fx i s (.slice Ae Vn ce) (egs Vn L)->W.heap[n0 + 1]? = some (.cells #[.int .u8 k,.int .i64 st,.int .i64 so,.int .i64 dm,.int .i64 ep] 40 (0,0))):=jH (fun W i s h => h.fixed (n0 + 1,#[.int .u8 k,.int .i64 st,.int .i64 so,.int .i64 dm,.int .i64 ep],40) (by rw [hfx]; exact List.mem_cons_self))
  have HF2:Hid (∀ W i s,LpH w W b10 w.heap.size w4.heap.size fx i s (.slice Ae Vn ce) (egs Vn L)->W.heap[n0 + 1 + 1]? = some (.cells #[.int .i64 0,.slice none 0 0,.slice none 0 0,.slice none 0 0,.int .i64 0,.int .i64 0] 45 (0,0))):=jH (fun W i s h => h.fixed (n0 + 1 + 1,#[.int .i64 0,.slice none 0 0,.slice none 0 0,.slice none 0 0,.int .i64 0,.int .i64 0],45) (by rw [hfx]; exact List.mem_cons_of_mem _ List.mem_cons_self))
  have HF3:Hid (∀ W i s,LpH w W b10 w.heap.size w4.heap.size fx i s (.slice Ae Vn ce) (egs Vn L)->W.heap[b9]? = some (.cells #[.int .u8 k,.int .i64 st,.int .i64 so,.int .i64 dm,.int .i64 ep,.slice Ae Vn ce] 71 (0,0))):=jH (fun W i s h => h.fixed (b9,#[.int .u8 k,.int .i64 st,.int .i64 so,.int .i64 dm,.int .i64 ep,.slice Ae Vn ce],71) (by rw [hfx]; exact List.mem_cons_of_mem _ (List.mem_cons_of_mem _ List.mem_cons_self)))
  clear hs0 hfx hq0 hm0 hk0
  go_upto_region 8 with fail
  rw [<- hW8,show w7.heap.size = b10 from eb10.symm]
  clear hW8 hb8 eb10 HX7 HR7 HC7 HJ7 HV7 HB7 HZ7 HM7
  go_wp2_with fail
  go_loopg [31] m (fun gk i wr => ∃ q:Nat,q + gk = m/\i = .int .i64 (q:Int)/\Hid (LpH w wr b10 w.heap.size w4.heap.size fx (q:Int) (stS k so dm Vn L q) (.slice Ae Vn ce) (egs Vn L)))
  case atStart => exact ⟨0,by omega,rfl,HH8⟩
  case round =>
   clear HH8
   obtain ⟨q,hq,rfl,HH⟩:=hrel
   by_cases hlt:q < m
   ·have HXX:True:=trivial
    obtain ⟨va,vc,vi,hbs,hq0,hm0,hk0⟩:=HH.out.rows
    have FIT:=jH (fit_go (HGO.out q))
    obtain ⟨S,hS⟩:∃ S,S = stS k so dm Vn L q:=⟨_,rfl⟩
    rw [<- hS] at hbs hq0 hm0 hk0 FIT HH
    have HS:=jH hS
    clear hS
    obtain ⟨Av,cv,rfl,hv0⟩:=hq0.form
    obtain ⟨Ac,cc,rfl,hc0⟩:=hm0.form
    obtain ⟨Ai,ci,rfl,hi0,_⟩:=hk0.room
    have hsv:SAt wr Av Ac Ai S.vals.length S.chg.length S.inb.length S:=⟨hv0,hc0,hi0,rfl,rfl,rfl⟩
    rw [FIT.out.nv,FIT.out.ni] at hbs
    obtain ⟨a2,ha2⟩:∃ a,a = S.chg.length:=⟨_,rfl⟩
    rw [<- ha2] at hbs
    clear ha2 hq0 hm0 hk0 hv0 hc0 hi0
    have HSB:=jH hbs
    clear hbs
    obtain ⟨x0,x1,x2,x3,x4,x5,_⟩:=six HSB.out
    obtain ⟨c0,c1,c2,c3,c4,c5,_⟩:=six (HF3.out _ _ _ HH.out)
    clear HXX
    go_wp2_with fail
    refine (next_any k st so dm ep (q:Int) Vn L Ae Av Ac Ai ce cv cc ci a2 w4.heap.size S wr HH.out.edges hsv.v hsv.i FIT.out.nv FIT.out.ni FIT.out.v FIT.out.i FIT.out.sm (nxt_i63 FIT.out.v FIT.out.i) HDM.out ⟨by omega,by omega⟩ hV2 (by rw [HN.out]; omega) HFI.out).mono ?_
    rintro e w9 ⟨x,rfl,hx,hb9⟩
    have HH9:=jH (HH.out.step hb9.out)
    have HX9:=jH (hx.out.mono HH.out.below.size)
    clear hx hb9 hsv HSB c0 c1 c2 c3 c4 c5 x0 x1 x2 x3 x4 x5 FIT
    obtain ⟨Bv,dv,Bc,dc,Bi,di,rfl,⟨hq1,hm1,hk1⟩⟩:=HX9.out.at'
    obtain ⟨T,hT⟩:∃ T,nxtS k dm Vn L S = T:=⟨_,rfl⟩
    rw [hT] at HX9 hq1 hm1 hk1 ⊢
    have HT:Hid (T = stS k so dm Vn L (q + 1)):=jH (by rw [<- hT,HS.out]; exact (stS_next k so dm Vn L q).symm)
    clear hT
    obtain ⟨m1,hm1'⟩:∃ a,a = T.vals.length:=⟨_,rfl⟩
    obtain ⟨m2,hm2'⟩:∃ a,a = T.chg.length:=⟨_,rfl⟩
    obtain ⟨m3,hm3'⟩:∃ a,a = T.inb.length:=⟨_,rfl⟩
    rw [<- hm1',<- hm2',<- hm3'] at HX9 ⊢
    rw [<- hm1'] at hq1; rw [<- hm2'] at hm1; rw [<- hm3'] at hk1
    clear hm1' hm2' hm3'
    have HP:=jH (HH9.out.put (j:=(q:Int) + 1) hq1 hm1 hk1)
    obtain ⟨z1,z2,z3,hzb,_,_,_⟩:=HH9.out.rows
    obtain ⟨y0,y1,y2,y3,y4,y5,yl⟩:=six hzb
    have f0:=warm hzb 0; have f1:=warm hzb 1; have f2:=warm hzb 2; have f3:=warm hzb 3; have f4:=warm hzb 4; have f5:=warm hzb 5
    clear hzb hq1 hm1 hk1 HX9 HH HH9
    go_wp2
    go_roundg (gk - 1)
    case measure => omega
    case rel =>
     refine ⟨q + 1,by omega,by go_num,?_⟩
     have h:=HP.out
     unfold put6 at h
     rw [<- HT.out,show ((q + 1:Nat):Int) = (q:Int) + 1 from rfl]
     exact jH h
   ·obtain rfl:q = m:=by omega
    have HZ:=jH (HZ0.out q rfl)
    clear HZ0
    obtain ⟨va,vc,vi,hbs,hq0,hm0,hk0⟩:=HH.out.rows
    obtain ⟨Av,cv,rfl,_⟩:=hq0.form
    obtain ⟨Ac,cc,rfl,_⟩:=hm0.form
    obtain ⟨Ai,ci,rfl,_⟩:=hk0.room
    obtain ⟨S,hS⟩:∃ S,stS k so dm Vn L q = S:=⟨_,rfl⟩
    rw [hS] at hbs hq0 hm0 hk0 HZ
    clear hS
    obtain ⟨a1,ha1⟩:∃ a,a = S.vals.length:=⟨_,rfl⟩
    obtain ⟨a2,ha2⟩:∃ a,a = S.chg.length:=⟨_,rfl⟩
    obtain ⟨a3,ha3⟩:∃ a,a = S.inb.length:=⟨_,rfl⟩
    rw [<- ha1,<- ha2,<- ha3] at hbs
    rw [<- ha1] at hq0; rw [<- ha2] at hm0; rw [<- ha3] at hk0
    clear ha1 ha2 ha3
    have HBS:=jH hbs; have HQ0:=jH hq0; have HM0:=jH hm0; have HK0:=jH hk0
    have HRB:=jH (HF2.out _ _ _ HH.out)
    clear hbs hq0 hm0 hk0
    obtain ⟨x0,x1,x2,x3,x4,x5,_⟩:=six HBS.out
    obtain ⟨r0,r1,r2,r3,r4,r5,rl⟩:=six HRB.out
    have f0:=warm HRB.out 0; have f1:=warm HRB.out 1; have f2:=warm HRB.out 2; have f3:=warm HRB.out 3; have f4:=warm HRB.out 4; have f5:=warm HRB.out 5
    go_wp2
    have hX:=put6_heap HRB.out (.int .i64 (q:Int)) (.slice Av a1 cv) (.slice Ac a2 cc) (.slice Ai a3 ci) (.int .i64 S.sum) (.int .i64 S.most)
    have hBX:=put6_below HH.out.below (b:=n0 + 1 + 1) (by have:=HN0.out; omega) (.int .i64 (q:Int)) (.slice Av a1 cv) (.slice Ac a2 cc) (.slice Ai a3 ci) (.int .i64 S.sum) (.int .i64 S.most)
    have h1:=put6_moved HQ0.out HRB.out (by decide) (.int .i64 (q:Int)) (.slice Av a1 cv) (.slice Ac a2 cc) (.slice Ai a3 ci) (.int .i64 S.sum) (.int .i64 S.most)
    have h2:=put6_moved HM0.out HRB.out (by decide) (.int .i64 (q:Int)) (.slice Av a1 cv) (.slice Ac a2 cc) (.slice Ai a3 ci) (.int .i64 S.sum) (.int .i64 S.most)
    have h3:=put6_moved HK0.out HRB.out (by decide) (.int .i64 (q:Int)) (.slice Av a1 cv) (.slice Ac a2 cc) (.slice Ai a3 ci) (.int .i64 S.sum) (.int .i64 S.most)
    unfold put6 at hX hBX h1 h2 h3
    exact bodyPost_ret (v:=.tuple #[.agg #[.int .i64 (q:Int),.slice Av a1 cv,.slice Ac a2 cc,.slice Ai a3 ci,.int .i64 S.sum,.int .i64 S.most],.int .i64 0]) (res2_s _ _ _ _ _ _ _ _ _ _ _ _ _ Tryz.results64 rfl rfl hX) rfl ⟨_,by rw [HZ.out],jH (by rw [HZ.out]; exact ⟨_,_,_,rfl,h1,h2,h3⟩),jH hBX⟩
 ·have hq:atR k st so dm ep V L kk = (0,zS,E):=by unfold atR; rw [if_neg (by rw [<- HE.out]; exact hE0),<- HE.out]
  obtain ⟨r0,r1,r2,r3,r4,r5,rl⟩:=six HR4.out
  have f0:=warm HR4.out 0; have f1:=warm HR4.out 1; have f2:=warm HR4.out 2; have f3:=warm HR4.out 3; have f4:=warm HR4.out 4; have f5:=warm HR4.out 5
  have HQ:=jH hq
  clear hq
  go_wp2
  obtain ⟨hX,hRes⟩:=bad_res HQ.out HB4.out (b:=n0 + 1 + 1) (by have:=HN0.out; omega) HR4.out
  unfold put6 at hX hRes
  exact bodyPost_ret (v:=.tuple #[.agg #[.int .i64 0,.slice none 0 0,.slice none 0 0,.slice none 0 0,.int .i64 0,.int .i64 0],.int .i64 E]) (res2_s _ _ _ _ _ _ _ _ _ _ _ _ _ Tryz.results64 rfl rfl hX) rfl hRes
open Go.RowKit Go.Shelf Gr Wd Ws Fx Rk Lb Al In
open Pa (vl bt vl_of vl_at bt_of bt_at)
def runR (k st so dm ep V:Int) (L:List Ed) (N:Nat):Int × Sq × Int:=if chkJ k st so dm ep V L = 0 then ((N:Int),stS k so dm V.toNat L N,0) else (0,zS,chkJ k st so dm ep V L)
set_option maxRecDepth 100000 in
set_option maxHeartbeats 600000 in
theorem seqRun_any (k st so dm ep V:Int) (A:Option Addr) (n c:Nat) (L:List Ed) (N:Nat) (w:World) (hL:EAt w A L) (hn:L.length = n) (hm:n <= 1000) (hN:chkJ k st so dm ep V L = 0->donB k st ep (N:Int) (stS k so dm V.toNat L N).most = true/\N <= 2000/\∀ i:Nat,i < N->donB k st ep (i:Int) (stS k so dm V.toNat L i).most = false) :
 Calls Tryz.prog 17 #[.agg #[.int .i64 V,.slice A n c],.agg #[.int .u8 k,.int .i64 st,.int .i64 so,.int .i64 dm,.int .i64 ep]] w fun e w' => Res w w' e (runR k st so dm ep V L N):=by
 have mixed:=mixedI
 have HL:=jH hL; have HN:=jH hn
 clear hL hn
 obtain ⟨W3,hW3⟩:∃ W3,W3 = ((w.alloc (.cells #[.int .i64 V,.slice A n c] 24)).alloc (.cells #[.int .u8 k,.int .i64 st,.int .i64 so,.int .i64 dm,.int .i64 ep] 40)).alloc (.cells #[.int .i64 0,.slice none 0 0,.slice none 0 0,.slice none 0 0,.int .i64 0,.int .i64 0] 45):=⟨_,rfl⟩
 have hal:=al3 w (.cells #[.int .i64 V,.slice A n c] 24) (.cells #[.int .u8 k,.int .i64 st,.int .i64 so,.int .i64 dm,.int .i64 ep] 40) (.cells #[.int .i64 0,.slice none 0 0,.slice none 0 0,.slice none 0 0,.int .i64 0,.int .i64 0] 45)
 rw [<- hW3] at hal
 obtain ⟨n0,e0⟩:∃ n0,n0 = w.heap.size:=⟨_,rfl⟩
 have HG:Hid (W3.heap[n0]? = some (.cells #[.int .i64 V,.slice A n c] 24 (0,0))):=jH (by rw [e0]; exact hal.1)
 have HJ:Hid (W3.heap[n0 + 1]? = some (.cells #[.int .u8 k,.int .i64 st,.int .i64 so,.int .i64 dm,.int .i64 ep] 40 (0,0))):=jH (by rw [e0]; exact hal.2.1)
 have HR:Hid (W3.heap[n0 + 1 + 1]? = some (.cells #[.int .i64 0,.slice none 0 0,.slice none 0 0,.slice none 0 0,.int .i64 0,.int .i64 0] 45 (0,0))):=jH (by rw [e0]; exact hal.2.2.1)
 have HB:=jH hal.2.2.2
 have HN0:Hid (w.heap.size <= n0):=jH (by omega)
 clear hal
 obtain ⟨g0,g1,_⟩:=two HG.out
 obtain ⟨j0,j1,j2,j3,j4,_⟩:=jb_cells HJ.out
 obtain ⟨E,hE⟩:∃ E,E = chkJ k st so dm ep V L:=⟨_,rfl⟩
 have HC:Hid (∀ W,Below w.heap.size w W->Calls Tryz.prog 16 #[.agg #[.int .i64 V,.slice A n c],.agg #[.int .u8 k,.int .i64 st,.int .i64 so,.int .i64 dm,.int .i64 ep]] W fun e w' => e = .returned (.int .i64 E)/\Below W.heap.size W w'):=jH (fun W h => by
  rw [hE,<- HN.out]
  exact checkj_any k st so dm ep V A c L W (HL.out.below h) (by rw [HN.out]; omega))
 have HE:=jH hE
 clear hE
 go_enter Tryz.func17,Tryz.ntmps17
 go_upto_region 1 with fail
 rw [<- hW3,show w.heap.size = n0 from e0.symm]
 clear hW3 e0
 go_wp2_with fail
 refine (HC.out _ HB.out).mono ?_
 rintro e w4 ⟨rfl,hb4⟩
 have HG4:=jK HG hb4; have HJ4:=jK HJ hb4; have HR4:=jK HR hb4
 have HB4:=jS HB hb4
 clear hb4 g0 g1 j0 j1 j2 j3 j4 HG HJ HR HB HC
 by_cases hE0:E = 0
 ·subst hE0
  obtain ⟨hz,hst0,hst1,hk,hd0,hd1⟩:=chkJ_zero HE.out.symm
  obtain ⟨Vn,rfl,hV1,hV2,hfit⟩:=chk_facts hz
  have HGO:Hid (∀ q,GoS k Vn L (stS k so dm Vn L q)):=jH (fun q => go_all hz (fun _ => ⟨hd0,hd1⟩) q)
  have HFI:=jH hfit
  have HDM:Hid (I63 dm):=jH (by unfold I63; omega)
  have HKK:=jH hk; have HST:=jH hst0
  clear hfit hz hst0 hst1 hk hd0 hd1
  obtain ⟨g0,g1,_⟩:=two HG4.out
  obtain ⟨j0,j1,j2,j3,j4,_⟩:=jb_cells HJ4.out
  obtain ⟨hN1,hN2,hN3⟩:donB k st ep (N:Int) (stS k so dm Vn L N).most = true/\N <= 2000/\∀ i:Nat,i < N->donB k st ep (i:Int) (stS k so dm Vn L i).most = false:=hN HE.out.symm
  have HDN:=jH hN1; have HDF:=jH hN3
  have HZ0:Hid (∀ q,q = N->runR k st so dm ep (Vn:Int) L N = ((q:Int),stS k so dm Vn L q,0)):=jH (fun q e => by subst e; unfold runR; rw [if_pos HE.out.symm]; rfl)
  clear hN hN1 hN3
  go_wp2_with fail
  refine (course_any k st so dm ep Vn A c n L w4 (HL.out.below HB4.out) HN.out.symm (by rw [HN.out]; omega) hV2).mono ?_
  rintro e w5 ⟨v,rfl,hv,hb5⟩
  obtain ⟨Ae,ce,rfl,_⟩:=hv.out.form
  rw [egs_len] at hv ⊢
  have HV5:=hv
  have HB5:=jS HB4 hb5.out
  have HR5:=jK HR4 hb5.out; have HJ5:=jK HJ4 hb5.out
  clear hb5 g0 g1 j0 j1 j2 j3 j4 hv
  obtain ⟨W6,hW6⟩:∃ W6,W6 = w5.alloc (.cells #[.int .u8 k,.int .i64 st,.int .i64 so,.int .i64 dm,.int .i64 ep,.slice Ae Vn ce] 71):=⟨_,rfl⟩
  have hb6:Below w5.heap.size w5 W6:=by rw [hW6]; exact (Below.refl _ w5).alloc (Nat.le_refl _) _
  obtain ⟨b9,eb9⟩:∃ b9,b9 = w5.heap.size:=⟨_,rfl⟩
  have HC6:Hid (W6.heap[b9]? = some (.cells #[.int .u8 k,.int .i64 st,.int .i64 so,.int .i64 dm,.int .i64 ep,.slice Ae Vn ce] 71 (0,0))):=jH (by rw [hW6,eb9]; exact heap_alloc_new w5 _)
  have HB6:=jS HB5 hb6
  have HR6:=jK HR5 hb6; have HJ6:=jK HJ5 hb6
  have HV6:=jH (HV5.out.below hb6)
  have HB9:Hid (n0 + 1 + 1 < b9):=jH (by rw [eb9]; exact lt_of_block HR5.out)
  go_upto_region 5 with fail
  rw [<- hW6,show w5.heap.size = b9 from eb9.symm]
  clear hW6 hb6 eb9 HR5 HJ5 HV5
  obtain ⟨c0,c1,c2,c3,c4,c5,_⟩:=six HC6.out
  go_wp2_with fail
  refine (sstart_any k st so dm ep Vn L Ae ce w4.heap.size W6 HV6.out hV2 (by rw [HN.out]; omega) HFI.out).mono ?_
  rintro e w7 ⟨x,rfl,hx,hb7⟩
  have HX7:=hx
  have HB7:=jS HB6 hb7.out
  have HR7:=jK HR6 hb7.out; have HC7:=jK HC6 hb7.out; have HJ7:=jK HJ6 hb7.out; have HV7:=jH (HV6.out.below hb7.out)
  have HZ7:Hid (b9 < w7.heap.size):=jH (lt_of_block HC7.out)
  have HM7:Hid (w.heap.size <= W6.heap.size):=jH HB6.out.size
  clear hb7 hx c0 c1 c2 c3 c4 c5 HR6 HC6 HJ6 HV6
  obtain ⟨Av,cv,Ac,cc,Ai,ci,rfl,⟨hq0,hm0,hk0⟩⟩:=HX7.out.at'
  rw [show strS k so Vn L = stS k so dm Vn L 0 from rfl] at HX7 hq0 hm0 hk0 ⊢
  obtain ⟨s0,hs0⟩:∃ s0,s0 = stS k so dm Vn L 0:=⟨_,rfl⟩
  rw [<- hs0] at HX7 hq0 hm0 hk0 ⊢
  obtain ⟨a1,ha1⟩:∃ a,a = s0.vals.length:=⟨_,rfl⟩
  obtain ⟨a2,ha2⟩:∃ a,a = s0.chg.length:=⟨_,rfl⟩
  obtain ⟨a3,ha3⟩:∃ a,a = s0.inb.length:=⟨_,rfl⟩
  rw [<- ha1,<- ha2,<- ha3] at HX7 ⊢
  rw [<- ha1] at hq0; rw [<- ha2] at hm0; rw [<- ha3] at hk0
  clear ha1 ha2 ha3
  obtain ⟨W8,hW8⟩:∃ W8,W8 = w7.alloc (.cells #[.int .i64 0,.slice Av a1 cv,.slice Ac a2 cc,.slice Ai a3 ci,.int .i64 s0.sum,.int .i64 s0.most] 45):=⟨_,rfl⟩
  have hb8:Below w7.heap.size w7 W8:=by rw [hW8]; exact (Below.refl _ w7).alloc (Nat.le_refl _) _
  obtain ⟨b10,eb10⟩:∃ b10,b10 = w7.heap.size:=⟨_,rfl⟩
  obtain ⟨fx,hfx⟩:∃ fx:Fxd,fx = [(n0 + 1,#[.int .u8 k,.int .i64 st,.int .i64 so,.int .i64 dm,.int .i64 ep],40),(n0 + 1 + 1,#[.int .i64 0,.slice none 0 0,.slice none 0 0,.slice none 0 0,.int .i64 0,.int .i64 0],45),(b9,#[.int .u8 k,.int .i64 st,.int .i64 so,.int .i64 dm,.int .i64 ep,.slice Ae Vn ce],71)]:=⟨_,rfl⟩
  have HH8:Hid (LpH w W8 b10 w.heap.size w4.heap.size fx ((0:Nat):Int) (stS k so dm Vn L 0) (.slice Ae Vn ce) (egs Vn L)):=jH (by
   refine ⟨step_below HB7.out HB7.out.size hb8,?_,⟨.slice Av a1 cv,.slice Ac a2 cc,.slice Ai a3 ci,?_,(own_mono (own_below (hs0 ▸ hq0) hb8) HM7.out),(own_mono (own_below (hs0 ▸ hm0) hb8) HM7.out),(own_mono (own_below (hs0 ▸ hk0) hb8) HM7.out)⟩,HV7.out.below hb8,?_,by rw [eb10]; exact HB7.out.size⟩
   ·rw [hfx]; intro p hp
    simp only [List.mem_cons,List.not_mem_nil,or_false] at hp
    rcases hp with rfl | rfl | rfl
    ·exact keep HJ7.out hb8
    ·exact keep HR7.out hb8
    ·exact keep HC7.out hb8
   ·rw [hW8,eb10,<- hs0]; exact heap_alloc_new w7 _
   ·rw [hfx]; intro p hp
    have h9:=HB9.out
    have h7:=HZ7.out
    simp only [List.mem_cons,List.not_mem_nil,or_false] at hp
    rcases hp with rfl | rfl | rfl <;> (simp only []; omega))
  have HF1:Hid (∀ W i s,LpH w W b10 w.heap.size w4.heap.size fx i s (.slice Ae Vn ce) (egs Vn L)->W.heap[n0 + 1]? = some (.cells #[.int .u8 k,.int .i64 st,.int .i64 so,.int .i64 dm,.int .i64 ep] 40 (0,0))):=jH (fun W i s h => h.fixed (n0 + 1,#[.int .u8 k,.int .i64 st,.int .i64 so,.int .i64 dm,.int .i64 ep],40) (by rw [hfx]; exact List.mem_cons_self))
  have HF2:Hid (∀ W i s,LpH w W b10 w.heap.size w4.heap.size fx i s (.slice Ae Vn ce) (egs Vn L)->W.heap[n0 + 1 + 1]? = some (.cells #[.int .i64 0,.slice none 0 0,.slice none 0 0,.slice none 0 0,.int .i64 0,.int .i64 0] 45 (0,0))):=jH (fun W i s h => h.fixed (n0 + 1 + 1,#[.int .i64 0,.slice none 0 0,.slice none 0 0,.slice none 0 0,.int .i64 0,.int .i64 0],45) (by rw [hfx]; exact List.mem_cons_of_mem _ List.mem_cons_self))
  have HF3:Hid (∀ W i s,LpH w W b10 w.heap.size w4.heap.size fx i s (.slice Ae Vn ce) (egs Vn L)->W.heap[b9]? = some (.cells #[.int .u8 k,.int .i64 st,.int .i64 so,.int .i64 dm,.int .i64 ep,.slice Ae Vn ce] 71 (0,0))):=jH (fun W i s h => h.fixed (b9,#[.int .u8 k,.int .i64 st,.int .i64 so,.int .i64 dm,.int .i64 ep,.slice Ae Vn ce],71) (by rw [hfx]; exact List.mem_cons_of_mem _ (List.mem_cons_of_mem _ List.mem_cons_self)))
  clear hs0 hfx hq0 hm0 hk0
  go_wp2_with fail
  rw [<- hW8,show w7.heap.size = b10 from eb10.symm]
  clear hW8 hb8 eb10 HX7 HR7 HC7 HJ7 HV7 HB7 HZ7 HM7
  go_loopg [] N (fun gk wr => ∃ q:Nat,q + gk = N/\Hid (LpH w wr b10 w.heap.size w4.heap.size fx (q:Int) (stS k so dm Vn L q) (.slice Ae Vn ce) (egs Vn L)))
  case atStart => exact ⟨0,by omega,HH8⟩
  case round =>
   clear HH8
   obtain ⟨q,hq,HH⟩:=hrel
   by_cases hlt:q < N
   ·have HDQ:=jH (HDF.out q hlt)
    obtain ⟨va,vc,vi,hbs,hq0,hm0,hk0⟩:=HH.out.rows
    have FIT:=jH (fit_go (HGO.out q))
    obtain ⟨S,hS⟩:∃ S,S = stS k so dm Vn L q:=⟨_,rfl⟩
    rw [<- hS] at hbs hq0 hm0 hk0 FIT HH HDQ
    have HS:=jH hS
    clear hS
    obtain ⟨Av,cv,rfl,hv0⟩:=hq0.form
    obtain ⟨Ac,cc,rfl,hc0⟩:=hm0.form
    obtain ⟨Ai,ci,rfl,hi0,_⟩:=hk0.room
    have hsv:SAt wr Av Ac Ai S.vals.length S.chg.length S.inb.length S:=⟨hv0,hc0,hi0,rfl,rfl,rfl⟩
    rw [FIT.out.nv,FIT.out.ni] at hbs
    obtain ⟨a2,ha2⟩:∃ a,a = S.chg.length:=⟨_,rfl⟩
    rw [<- ha2] at hbs
    clear ha2 hq0 hm0 hk0 hv0 hc0 hi0
    have HSB:=jH hbs
    clear hbs
    obtain ⟨x0,x1,x2,x3,x4,x5,_⟩:=six HSB.out
    obtain ⟨c0,c1,c2,c3,c4,c5,_⟩:=six (HF3.out _ _ _ HH.out)
    obtain ⟨j0,j1,j2,j3,j4,_⟩:=jb_cells (HF1.out _ _ _ HH.out)
    have HDC:Hid (Calls Tryz.prog 37 #[.agg #[.int .u8 k,.int .i64 st,.int .i64 so,.int .i64 dm,.int .i64 ep],.int .i64 (q:Int),.int .i64 S.most] wr fun e w' => e = .returned (.bool false)/\Below wr.heap.size wr w'):=jH (by
     have h:=done_any k st so dm ep (q:Int) S.most wr
     rw [show donB k st ep (q:Int) S.most = false from HDQ.out] at h; exact h)
    go_wp2_with fail
    refine HDC.out.mono ?_
    rintro e wq ⟨rfl,hbq⟩
    have HHq:=jH (HH.out.step hbq)
    have HSBq:=jK HSB hbq
    have hsvq:=hsv.below hbq
    clear hbq x0 x1 x2 x3 x4 x5 c0 c1 c2 c3 c4 c5 j0 j1 j2 j3 j4 HDC HH HSB hsv HDQ
    obtain ⟨x0,x1,x2,x3,x4,x5,_⟩:=six HSBq.out
    obtain ⟨c0,c1,c2,c3,c4,c5,_⟩:=six (HF3.out _ _ _ HHq.out)
    go_wp2_with fail
    refine (next_any k st so dm ep (q:Int) Vn L Ae Av Ac Ai ce cv cc ci a2 w4.heap.size S wq HHq.out.edges hsvq.v hsvq.i FIT.out.nv FIT.out.ni FIT.out.v FIT.out.i FIT.out.sm (nxt_i63 FIT.out.v FIT.out.i) HDM.out ⟨by omega,by omega⟩ hV2 (by rw [HN.out]; omega) HFI.out).mono ?_
    rintro e w9 ⟨x,rfl,hx,hb9⟩
    have HH9:=jH (HHq.out.step hb9.out)
    have HX9:=jH (hx.out.mono HHq.out.below.size)
    clear hx hb9 hsvq HSBq c0 c1 c2 c3 c4 c5 x0 x1 x2 x3 x4 x5 FIT
    obtain ⟨Bv,dv,Bc,dc,Bi,di,rfl,⟨hq1,hm1,hk1⟩⟩:=HX9.out.at'
    obtain ⟨T,hT⟩:∃ T,nxtS k dm Vn L S = T:=⟨_,rfl⟩
    rw [hT] at HX9 hq1 hm1 hk1 ⊢
    have HT:Hid (T = stS k so dm Vn L (q + 1)):=jH (by rw [<- hT,HS.out]; exact (stS_next k so dm Vn L q).symm)
    clear hT
    obtain ⟨m1,hm1'⟩:∃ a,a = T.vals.length:=⟨_,rfl⟩
    obtain ⟨m2,hm2'⟩:∃ a,a = T.chg.length:=⟨_,rfl⟩
    obtain ⟨m3,hm3'⟩:∃ a,a = T.inb.length:=⟨_,rfl⟩
    rw [<- hm1',<- hm2',<- hm3'] at HX9 ⊢
    rw [<- hm1'] at hq1; rw [<- hm2'] at hm1; rw [<- hm3'] at hk1
    clear hm1' hm2' hm3'
    have HP:=jH (HH9.out.put (j:=(q:Int) + 1) hq1 hm1 hk1)
    obtain ⟨z1,z2,z3,hzb,_,_,_⟩:=HH9.out.rows
    obtain ⟨y0,y1,y2,y3,y4,y5,yl⟩:=six hzb
    have f0:=warm hzb 0; have f1:=warm hzb 1; have f2:=warm hzb 2; have f3:=warm hzb 3; have f4:=warm hzb 4; have f5:=warm hzb 5
    clear hzb hq1 hm1 hk1 HX9 HHq HH9
    go_wp2
    go_roundg (gk - 1)
    case measure => omega
    case rel =>
     refine ⟨q + 1,by omega,?_⟩
     have h:=HP.out
     unfold put6 at h
     rw [<- HT.out,show ((q + 1:Nat):Int) = (q:Int) + 1 from rfl]
     exact jH h
   ·obtain rfl:q = N:=by omega
    have HZ:=jH (HZ0.out q rfl)
    clear HZ0
    obtain ⟨va,vc,vi,hbs,hq0,hm0,hk0⟩:=HH.out.rows
    obtain ⟨Av,cv,rfl,_⟩:=hq0.form
    obtain ⟨Ac,cc,rfl,_⟩:=hm0.form
    obtain ⟨Ai,ci,rfl,_⟩:=hk0.room
    have HDQ:=HDN
    obtain ⟨S,hS⟩:∃ S,stS k so dm Vn L q = S:=⟨_,rfl⟩
    rw [hS] at HDQ
    rw [hS] at hbs hq0 hm0 hk0 HZ
    clear hS
    obtain ⟨a1,ha1⟩:∃ a,a = S.vals.length:=⟨_,rfl⟩
    obtain ⟨a2,ha2⟩:∃ a,a = S.chg.length:=⟨_,rfl⟩
    obtain ⟨a3,ha3⟩:∃ a,a = S.inb.length:=⟨_,rfl⟩
    rw [<- ha1,<- ha2,<- ha3] at hbs
    rw [<- ha1] at hq0; rw [<- ha2] at hm0; rw [<- ha3] at hk0
    clear ha1 ha2 ha3
    have HBS:=jH hbs; have HQ0:=jH hq0; have HM0:=jH hm0; have HK0:=jH hk0
    have HRB:=jH (HF2.out _ _ _ HH.out)
    clear hbs hq0 hm0 hk0
    obtain ⟨x0,x1,x2,x3,x4,x5,_⟩:=six HBS.out
    obtain ⟨r0,r1,r2,r3,r4,r5,rl⟩:=six HRB.out
    have f0:=warm HRB.out 0; have f1:=warm HRB.out 1; have f2:=warm HRB.out 2; have f3:=warm HRB.out 3; have f4:=warm HRB.out 4; have f5:=warm HRB.out 5
    obtain ⟨j0,j1,j2,j3,j4,_⟩:=jb_cells (HF1.out _ _ _ HH.out)
    have HDC:Hid (Calls Tryz.prog 37 #[.agg #[.int .u8 k,.int .i64 st,.int .i64 so,.int .i64 dm,.int .i64 ep],.int .i64 (q:Int),.int .i64 S.most] wr fun e w' => e = .returned (.bool true)/\Below wr.heap.size wr w'):=jH (by
     have h:=done_any k st so dm ep (q:Int) S.most wr
     rw [show donB k st ep (q:Int) S.most = true from HDQ.out] at h; exact h)
    clear r0 r1 r2 r3 r4 r5 rl f0 f1 f2 f3 f4 f5
    go_wp2_with fail
    refine HDC.out.mono ?_
    rintro e wq ⟨rfl,hbq⟩
    have HBSq:=jK HBS hbq; have HRBq:=jK HRB hbq; have HQq:=jH (HQ0.out.below hbq); have HMq:=jH (HM0.out.below hbq); have HKq:=jH (HK0.out.below hbq)
    have HBq:=jH (step_below HH.out.below HH.out.below.size hbq)
    clear hbq x0 x1 x2 x3 x4 x5 j0 j1 j2 j3 j4 HDC
    obtain ⟨x0,x1,x2,x3,x4,x5,_⟩:=six HBSq.out
    obtain ⟨r0,r1,r2,r3,r4,r5,rl⟩:=six HRBq.out
    have f0:=warm HRBq.out 0; have f1:=warm HRBq.out 1; have f2:=warm HRBq.out 2; have f3:=warm HRBq.out 3; have f4:=warm HRBq.out 4; have f5:=warm HRBq.out 5
    go_wp2
    have hX:=put6_heap HRBq.out (.int .i64 (q:Int)) (.slice Av a1 cv) (.slice Ac a2 cc) (.slice Ai a3 ci) (.int .i64 S.sum) (.int .i64 S.most)
    have hBX:=put6_below HBq.out (b:=n0 + 1 + 1) (by have:=HN0.out; omega) (.int .i64 (q:Int)) (.slice Av a1 cv) (.slice Ac a2 cc) (.slice Ai a3 ci) (.int .i64 S.sum) (.int .i64 S.most)
    have h1:=put6_moved HQq.out HRBq.out (by decide) (.int .i64 (q:Int)) (.slice Av a1 cv) (.slice Ac a2 cc) (.slice Ai a3 ci) (.int .i64 S.sum) (.int .i64 S.most)
    have h2:=put6_moved HMq.out HRBq.out (by decide) (.int .i64 (q:Int)) (.slice Av a1 cv) (.slice Ac a2 cc) (.slice Ai a3 ci) (.int .i64 S.sum) (.int .i64 S.most)
    have h3:=put6_moved HKq.out HRBq.out (by decide) (.int .i64 (q:Int)) (.slice Av a1 cv) (.slice Ac a2 cc) (.slice Ai a3 ci) (.int .i64 S.sum) (.int .i64 S.most)
    unfold put6 at hX hBX h1 h2 h3
    exact bodyPost_ret (v:=.tuple #[.agg #[.int .i64 (q:Int),.slice Av a1 cv,.slice Ac a2 cc,.slice Ai a3 ci,.int .i64 S.sum,.int .i64 S.most],.int .i64 0]) (res2_s _ _ _ _ _ _ _ _ _ _ _ _ _ Tryz.results17 rfl rfl hX) rfl ⟨_,by rw [HZ.out],jH (by rw [HZ.out]; exact ⟨_,_,_,rfl,h1,h2,h3⟩),jH hBX⟩
 ·have hq:runR k st so dm ep V L N = (0,zS,E):=by unfold runR; rw [if_neg (by rw [<- HE.out]; exact hE0),<- HE.out]
  obtain ⟨r0,r1,r2,r3,r4,r5,rl⟩:=six HR4.out
  have f0:=warm HR4.out 0; have f1:=warm HR4.out 1; have f2:=warm HR4.out 2; have f3:=warm HR4.out 3; have f4:=warm HR4.out 4; have f5:=warm HR4.out 5
  have HQ:=jH hq
  clear hq
  go_wp2
  obtain ⟨hX,hRes⟩:=bad_res HQ.out HB4.out (b:=n0 + 1 + 1) (by have:=HN0.out; omega) HR4.out
  unfold put6 at hX hRes
  exact bodyPost_ret (v:=.tuple #[.agg #[.int .i64 0,.slice none 0 0,.slice none 0 0,.slice none 0 0,.int .i64 0,.int .i64 0],.int .i64 E]) (res2_s _ _ _ _ _ _ _ _ _ _ _ _ _ Tryz.results17 rfl rfl hX) rfl hRes
end Go.Proofs.YtdcaekmgfcpbmaaGreat.Sq
