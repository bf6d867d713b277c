/-
  What is proved here: a contract of the kit's Pick; what the state that a run comes to means, and that it means it no longer when one of its values is another; a run's state, its rows the call's own. Conditions: the job may be; Pick picks out of 1 to 1000000. What is proved here: a contract of the document's sameValues: are two rows the same? Conditions: lengths that fit an int. What is proved here: the law's function MeaningRun says true. Condition: the number of edges fits an int. What is proved here: the law's function MeaningDistances says true. Condition: the number of edges fits an int.
-/
import Derived.Test.YtdcaekmgfcpbmaaGreatQdMnMa
import Derived.Test.YtdcaekmgfcpbmaaGreatQdMnLwx
import Derived.Test.YtdcaekmgfcpbmaaGreatQdMnRd
import Derived.Test.YtdcaekmgfcpbmaaGreatQdMnT4x
namespace Go.Proofs.YtdcaekmgfcpbmaaGreat.Mn
open Go.RowKit Gr Wd Ws Fx Rk Lb Al In Sq
open Pa (vl bt vl_of vl_at bt_of bt_at Fits fits_of fr far)
theorem pick_any' (i:Int) (n:Nat) (h1:1 <= n) (h2:n <= 1000000):∃ v:Nat,v < n/\∀ w:World,Calls Tryz.prog 19 #[.int .i64 i,.int .i64 (n:Int)] w fun e w' => e = .returned (.int .i64 (v:Int))/\w = w':=by
 obtain ⟨r,hr⟩:∃ r,i.tmod (n:Int) = r:=⟨_,rfl⟩
 have hn0:(n:Int) ≠ 0:=by omega
 have r1:-(n:Int) < r/\r < n:=by
  subst hr
  rcases Int.le_total 0 i with h | h
  ·rw [Int.tmod_eq_emod_of_nonneg h]
   have:=Int.emod_nonneg i hn0; have:=Int.emod_lt_of_pos i (show 0 < (n:Int) by omega)
   omega
  ·have e:i.tmod n = -((-i).tmod n):=by rw [Int.neg_tmod]; omega
   rw [e,Int.tmod_eq_emod_of_nonneg (by omega)]
   have:=Int.emod_nonneg (-i) hn0; have:=Int.emod_lt_of_pos (-i) (show 0 < (n:Int) by omega)
   omega
 obtain ⟨v,hv⟩:∃ v:Nat,(r + n).tmod (n:Int) = v:=⟨((r + n).tmod (n:Int)).toNat,by
  rw [Int.tmod_eq_emod_of_nonneg (by omega)]
  have:=Int.emod_nonneg (r + n) hn0; omega⟩
 have v1:v < n:=by
  have:(r + n) % (n:Int) < n:=Int.emod_lt_of_pos _ (by omega)
  rw [Int.tmod_eq_emod_of_nonneg (by omega)] at hv
  omega
 refine ⟨v,v1,fun w => ?_⟩
 have t1:IntKind.i64.wrap r = r:=IntWalk.i64_in _ (by omega)
 have t2:IntKind.i64.wrap (r + n) = r + n:=IntWalk.i64_in _ (by omega)
 have t3:IntKind.i64.wrap (v:Int) = v:=IntWalk.i64_in _ (by omega)
 have t4:decide ((n:Int) <= 0) = false:=by simp; omega
 have t5:((n:Int) == 0) = false:=by simp; omega
 clear r1 v1
 go_enter Tryz.func19,Tryz.ntmps19
 go_wp2
 go_ret
 exact ⟨rfl,rfl⟩
theorem run_le {k st so dm ep V:Int} {L:List Ed} {N:Nat} (hc:chkJ k st so dm ep V L = 0) (hN:∀ i:Nat,i < N->donB k st ep (i:Int) (stS k so dm V.toNat L i).most = false):(N:Int) <= st:=by
 obtain ⟨_,h0,_,hk,_⟩:=chkJ_zero hc
 apply Classical.byContradiction; intro h
 have h1:=hN st.toNat (by omega)
 rw [show ((st.toNat:Nat):Int) = st by omega] at h1
 unfold donB at h1
 rcases hk with rfl | rfl | rfl <;> simp at h1
theorem run_full {k st so dm ep V:Int} {L:List Ed} {N:Nat} (hc:chkJ k st so dm ep V L = 0) (hk:k ≠ 1) (hd:donB k st ep (N:Int) (stS k so dm V.toNat L N).most = true) (h:(N:Int) < st\/V <= st) (hle:(N:Int) <= st):Mt k so V L (stS k so dm V.toNat L N).vals:=by
 obtain ⟨hz,h0,_,hk3,_⟩:=chkJ_zero hc
 have hso:k = 3->0 <= so/\so < V:=by
  intro h3
  have hc':=hc
  unfold chkJ at hc'
  rw [if_pos hz] at hc'
  split at hc'
  ·rename_i hj
   unfold jobOk at hj
   rw [if_neg (by omega),if_neg (by omega),if_pos h3] at hj
   simp only [Bool.and_eq_true,decide_eq_true_eq] at hj
   exact ⟨hj.2.1.1.1,hj.2.1.1.2⟩
  ·omega
 obtain ⟨Vn,rfl,hV0,hV⟩:=chk_v hz
 rw [show ((Vn:Int)).toNat = Vn by simp] at hd ⊢
 have hcase:(∃ m,N = m + 1/\(stS k so dm Vn L (m + 1)).most = 0)\/Vn <= N:=by
  by_cases hlt:(N:Int) < st
  ·left
   have h2:1 <= (N:Int)/\(stS k so dm Vn L N).most <= 0:=by
    unfold donB at hd
    rw [if_neg hk,if_pos (by omega)] at hd
    simp only [Bool.or_eq_true,Bool.and_eq_true,decide_eq_true_eq] at hd
    rcases hd with hd | hd
    ·omega
    ·exact hd
   obtain ⟨m,rfl⟩:∃ m,N = m + 1:=⟨N - 1,by omega⟩
   exact ⟨m,rfl,by have hg:GoS k Vn L (stS k so dm Vn L (m + 1)):=go_all hz (fun h => absurd h hk) (m + 1); have h5:=hg.may.2.2.2.2.2.2.1; omega⟩
  ·right; omega
 rcases hk3 with rfl | rfl | rfl
 ·omega
 ·left
  refine ⟨rfl,?_⟩
  rcases hcase with ⟨m,rfl,hm⟩ | hge
  ·simpa using lab_rest hz m hm
  ·simpa using lab_all hz N hge
 ·right
  obtain ⟨h3,h4⟩:=hso rfl
  obtain ⟨sn,rfl⟩:∃ sn:Nat,so = (sn:Int):=⟨so.toNat,by omega⟩
  refine ⟨rfl,?_⟩
  rcases hcase with ⟨m,rfl,hm⟩ | hge
  ·simpa using dis_rest hz (by omega) m hm
  ·simpa using dis_all hz (by omega) N hge
theorem run_means {k st so dm ep V:Int} {L:List Ed} {N:Nat} {b:Bool} (hc:chkJ k st so dm ep V L = 0) (hN:donB k st ep (N:Int) (stS k so dm V.toNat L N).most = true/\N <= 2000/\∀ i:Nat,i < N->donB k st ep (i:Int) (stS k so dm V.toNat L i).most = false)
 (h:MeB k st so dm V (N:Int) L N (stS k so dm V.toNat L N) b):b = true:=by
 have hle:=run_le hc hN.2.2
 by_cases hk:k = 1
 ·rw [h.1 hk,sameS_refl]
 ·rcases h.2 hk with ⟨h1,_⟩ | ⟨_,_,lm,hm,hb⟩
  ·omega
  ·by_cases he:(N:Int) = st
   ·rw [hb,show ((N:Nat):Int).toNat = N by simp]; simp [he]
   ·have hf:=run_full hc hk hN.1 (Or.inl (by omega)) hle
    rw [hb,hm.one hf]; simp
theorem run_other {k st so dm ep V:Int} {L:List Ed} {N:Nat} {S:Sq} {b:Bool} (hc:chkJ k st so dm ep V L = 0) (hN:donB k st ep (N:Int) (stS k so dm V.toNat L N).most = true/\N <= 2000/\∀ i:Nat,i < N->donB k st ep (i:Int) (stS k so dm V.toNat L i).most = false)
 (hn:¬ ((N:Int) = st/\st < V)) (hv:S.vals ≠ (stS k so dm V.toNat L N).vals) (h:MeB k st so dm V (N:Int) L N S b):b = false:=by
 have hle:=run_le hc hN.2.2
 by_cases hk:k = 1
 ·rw [h.1 hk]; unfold sameS; simp [hv]
 ·rcases h.2 hk with ⟨_,h1⟩ | ⟨_,_,lm,hm,hb⟩
  ·exact h1
  ·have hf:=run_full hc hk hN.1 (by omega) hle
   rw [hb,hm.one hf,show ((N:Nat):Int).toNat = N by simp]; simp [hv]
theorem dis_zero {k st so dm ep V:Int} {L:List Ed} (hc:chkJ k st so dm ep V L = 0):disE V L so = 0:=by
 obtain ⟨hz,h0,_,hk3,_⟩:=chkJ_zero hc
 obtain ⟨Vn,rfl,hV0,hV⟩:=chk_v hz
 have hso:0 <= so/\so < (Vn:Int):=by
  unfold chkJ at hc
  rw [if_pos hz] at hc
  split at hc
  ·rename_i hj
   unfold jobOk at hj
   rcases hk3 with rfl | rfl | rfl
   ·rw [if_pos rfl] at hj
    simp only [Bool.and_eq_true,decide_eq_true_eq] at hj
    have:=hj.2.2; omega
   ·rw [if_neg (by omega),if_pos rfl] at hj
    simp only [Bool.and_eq_true,decide_eq_true_eq] at hj
    have:=hj.2.1.1; omega
   ·rw [if_neg (by omega),if_neg (by omega),if_pos rfl] at hj
    simp only [Bool.and_eq_true,decide_eq_true_eq] at hj
    exact ⟨hj.2.1.1.1,hj.2.1.1.2⟩
  ·omega
 unfold disE
 rw [if_pos hz,if_pos hso]
structure RnH (w W:World) (n0 b1:Nat) (V:Int) (A:Option Addr) (n c:Nat) (k st so dm ep:Int) (N:Nat) (S:Sq) (g:Nat) (ac ai:Option Addr) (an1 an2 an3 a1 a2 a3:Nat):Prop where
 below:Below w.heap.size w W
 gb:W.heap[n0]? = some (.cells #[.int .i64 V,.slice A n c] 24 (0,0))
 jb:W.heap[n0 + 1]? = some (.cells #[.int .u8 k,.int .i64 st,.int .i64 so,.int .i64 dm,.int .i64 ep] 40 (0,0))
 sb:W.heap[b1]? = some (.cells #[.int .i64 (N:Int),.slice (some ⟨g,0,none⟩) an1 a1,.slice ac an2 a2,.slice ai an3 a3,.int .i64 S.sum,.int .i64 S.most] 45 (0,0))
 n1:S.vals.length = an1
 n2:S.chg.length = an2
 n3:S.inb.length = an3
 f:an1 <= 512/\an2 <= 512/\an3 <= 512
 q:NOwn W 2 w.heap.size (.slice (some ⟨g,0,none⟩) an1 a1) S.vals
 bo:BOwn W w.heap.size (.slice ac an2 a2) S.chg
 ko:KOwn W w.heap.size (.slice ai an3 a3) S.inb
theorem RnH.step {w W W':World} {n0 b1:Nat} {V:Int} {A:Option Addr} {n c:Nat} {k st so dm ep:Int} {N:Nat} {S:Sq} {g:Nat} {ac ai:Option Addr} {an1 an2 an3 a1 a2 a3:Nat}
 (h:RnH w W n0 b1 V A n c k st so dm ep N S g ac ai an1 an2 an3 a1 a2 a3) (hb:Below W.heap.size W W'):RnH w W' n0 b1 V A n c k st so dm ep N S g ac ai an1 an2 an3 a1 a2 a3 :=
 ⟨step_below h.below h.below.size hb,keepB h.gb hb,keepB h.jb hb,keepB h.sb hb,h.n1,h.n2,h.n3,h.f,h.q.below hb,h.bo.below hb,h.ko.below hb⟩
theorem RnH.sat {w W:World} {n0 b1:Nat} {V:Int} {A:Option Addr} {n c:Nat} {k st so dm ep:Int} {N:Nat} {S:Sq} {g:Nat} {ac ai:Option Addr} {an1 an2 an3 a1 a2 a3:Nat}
 (h:RnH w W n0 b1 V A n c k st so dm ep N S g ac ai an1 an2 an3 a1 a2 a3):SAt W (some ⟨g,0,none⟩) ac ai an1 an2 an3 S:=by
 obtain ⟨A1,c1,e1,h1⟩:=h.q.form
 obtain ⟨A2,c2,e2,h2⟩:=h.bo.form
 obtain ⟨A3,c3,e3,h3,_⟩:=h.ko.room
 cases e1; cases e2; cases e3
 exact ⟨h1,h2,h3,h.n1,h.n2,h.n3⟩
theorem RnH.put {w W:World} {n0 b1:Nat} {V:Int} {A:Option Addr} {n c:Nat} {k st so dm ep:Int} {N:Nat} {S:Sq} {g:Nat} {ac ai:Option Addr} {an1 an2 an3 a1 a2 a3:Nat}
 (h:RnH w W n0 b1 V A n c k st so dm ep N S g ac ai an1 an2 an3 a1 a2 a3) (v:Nat) (x:Int):RnH w (W.setCell ⟨g,v,none⟩ (.int .i64 x)) n0 b1 V A n c k st so dm ep N { S with vals:=S.vals.set v x } g ac ai an1 an2 an3 a1 a2 a3:=by
 obtain ⟨hg,cc,hc⟩:=h.q.blk
 have hT1:(24:TypeId) ≠ 2:=by decide
 have hT2:(40:TypeId) ≠ 2:=by decide
 have hT3:(45:TypeId) ≠ 2:=by decide
 have hT4:(4:TypeId) ≠ 2:=by decide
 have hT5:(114:TypeId) ≠ 2:=by decide
 exact ⟨h.below.setCell (p:=⟨g,v,none⟩) hg _,nbox_set h.gb hc hT1,nbox_set h.jb hc hT2,nbox_set h.sb hc hT3,by simpa using h.n1,h.n2,h.n3,h.f,NOwn.set h.n1 h.q v x,nown_set h.bo hc hT4,nown_set h.ko hc hT5⟩
theorem rnh_of {w W0 w':World} {e:Ending} {n0:Nat} {V:Int} {A:Option Addr} {n c:Nat} {k st so dm ep:Int} {N:Nat} {S:Sq} {E:Int}
 (h:Res W0 w' e ((N:Int),S,E)) (hf:Few S) (hl:0 < S.vals.length) (hW:Below w.heap.size w W0) (gb:W0.heap[n0]? = some (.cells #[.int .i64 V,.slice A n c] 24 (0,0))) (jb:W0.heap[n0 + 1]? = some (.cells #[.int .u8 k,.int .i64 st,.int .i64 so,.int .i64 dm,.int .i64 ep] 40 (0,0))) :
 ∃ (g:Nat) (ac ai:Option Addr) (an1 an2 an3 a1 a2 a3:Nat),e = .returned (.tuple #[.agg #[.int .i64 (N:Int),.slice (some ⟨g,0,none⟩) an1 a1,.slice ac an2 a2,.slice ai an3 a3,.int .i64 S.sum,.int .i64 S.most],.int .i64 E]) /\
  Hid (RnH w (w'.alloc (.cells #[.int .i64 (N:Int),.slice (some ⟨g,0,none⟩) an1 a1,.slice ac an2 a2,.slice ai an3 a3,.int .i64 S.sum,.int .i64 S.most] 45)) n0 w'.heap.size V A n c k st so dm ep N S g ac ai an1 an2 an3 a1 a2 a3):=by
 obtain ⟨x,rfl,hx,hb⟩:=h
 obtain ⟨Av,cv,Ac,cc,Ai,ci,rfl,_,h1,h2,h3⟩:=hx.out.at
 obtain ⟨g,_,eg,_⟩:=NOwn.some_ (show NOwn w' 2 W0.heap.size _ S.vals from h1) hl
 have hA:Av = some ⟨g,0,none⟩:=by injection eg
 subst hA
 have hal:Below w'.heap.size w' (w'.alloc (.cells #[.int .i64 (N:Int),.slice (some ⟨g,0,none⟩) S.vals.length cv,.slice Ac S.chg.length cc,.slice Ai S.inb.length ci,.int .i64 S.sum,.int .i64 S.most] 45)):=(Below.refl _ w').alloc (Nat.le_refl _) _
 have hb2:=step_below hb.out hb.out.size hal
 exact ⟨g,Ac,Ai,_,_,_,cv,cc,ci,rfl,jH ⟨step_below hW hW.size hb2,keepB gb hb2,keepB jb hb2,heap_alloc_new w' _,rfl,rfl,rfl,hf,((show NOwn w' 2 W0.heap.size _ S.vals from h1).below hal).mono hW.size,(h2.below hal).mono hW.size,(h3.below hal).mono hW.size⟩⟩
open Go.RowKit Gr Wd Ws Fx Rk Lb Al In Sq
open Pa (vl bt vl_of vl_at bt_of bt_at)
set_option maxRecDepth 100000 in
set_option maxHeartbeats 600000 in
theorem rval_any (A B:Option Addr) (n m c d:Nat) (L M:List Int) (w:World) (hL:IAt w A L) (hM:IAt w B M) (hn:L.length = n) (hm:M.length = m) (hl:n <= 9223372036854775807) (_hm2:m <= 9223372036854775807) :
 Calls Tryz.prog 69 #[.slice A n c,.slice B m d] w fun e w' => e = .returned (.bool (decide (L = M)))/\Below w.heap.size w w':=by
 have mixed:=mixedP
 have HL:=jH hL; have HM:=jH hM; have HLn:=jH hn; have HMm:=jH hm; clear hL hM hn hm
 obtain ⟨R,hR⟩:∃ R,decide (L = M) = R:=⟨_,rfl⟩
 rw [hR]
 have HR:=jH hR; clear hR
 by_cases hlm:n = m
 ·subst hlm
  go_enter Tryz.func69,Tryz.ntmps69
  go_wp2
  go_loopg [5] n (fun g i wr => SqRel w L M g i wr)
  case atStart => exact ⟨0,by have:=HLn.out; omega,rfl,Below.refl _ w,rfl⟩
  case round =>
   obtain ⟨k,hk,rfl,hb,hd⟩:=hrel
   rw [HLn.out] at hk
   by_cases hlt:k < n
   ·obtain ⟨e,he⟩:=at_lt L k (by rw [HLn.out]; exact hlt)
    obtain ⟨f,hf⟩:=at_lt M k (by rw [HMm.out]; exact hlt)
    obtain ⟨bk,o,rfl,c0⟩:=(HL.out.below hb) k e he
    obtain ⟨bk',o',rfl,d0⟩:=(HM.out.below hb) k f hf
    rw [drop_at he,drop_at hf] at hd
    have HB:=jH hb; have HD:=jH hd
    clear hb hd he hf
    by_cases hef:e = f
    ·subst hef
     go_wp2
     go_quiet (fail)
     go_wp2
     go_roundg (gk - 1)
     case measure => omega
     case rel =>
      refine ⟨k + 1,by have:=HLn.out; omega,by go_num,Ws.below_drewN HB.out _,?_⟩
      rw [HD.out]; simp
    ·go_wp2
     go_quiet (fail)
     go_wp2
     go_ret
     refine ⟨ret_b ?_,Ws.below_drewN HB.out _⟩
     rw [<- HR.out,HD.out]
     simp only [List.cons.injEq,hef,false_and,decide_false]
   ·have HB:=jH hb; have HD:=jH hd
    have HK:Hid (k = n):=jH (by omega)
    clear hb hd
    go_wp2
    go_ret
    refine ⟨ret_b ?_,HB.out⟩
    rw [<- HR.out,HD.out,HK.out]
    rw [List.drop_eq_nil_of_le (by rw [HLn.out]; exact Nat.le_refl _),List.drop_eq_nil_of_le (by rw [HMm.out]; exact Nat.le_refl _)]; simp
 ·have hne:R = false:=by
   rw [<- HR.out]
   exact decide_eq_false fun h => hlm (by rw [<- HLn.out,<- HMm.out,h])
  subst hne
  go_enter Tryz.func69,Tryz.ntmps69
  go_wp2
  go_ret
  exact ⟨rfl,Below.refl _ w⟩
theorem eqM_symm (a b:Ml):eqM a b = eqM b a:=by
 obtain ⟨p,x⟩:=a; obtain ⟨q,y⟩:=b
 unfold eqM
 cases p <;> cases q <;> simp [Bool.beq_eq_decide_eq,eq_comm]
theorem sameB_symm:∀ a b:List Ml,sameB a b = sameB b a
 | [],[] => rfl
 | [],y :: b => by rw [sameB_len (by simp),sameB_len (by simp)]
 | x :: a,[] => by rw [sameB_len (by simp),sameB_len (by simp)]
 | x :: a,y :: b => by rw [sameB_cons,sameB_cons,eqM_symm,sameB_symm a b]
theorem sameS_symm (p q:Int) (a b:Sq):sameS p q a b = sameS q p b a:=by
 unfold sameS
 rw [sameB_symm a.inb b.inb]
 simp only [eq_comm (a:=p),eq_comm (a:=a.sum),eq_comm (a:=a.most),eq_comm (a:=a.vals),eq_comm (a:=a.chg)]
theorem MeB.one {k st so dm V p:Int} {L:List Ed} {N:Nat} {Sx:Sq} {a b:Bool} (ha:MeB k st so dm V p L N Sx a) (hb:MeB k st so dm V p L N Sx b):a = b:=by
 by_cases hk:k = 1
 ·rw [ha.1 hk,hb.1 hk]
 ·rcases ha.2 hk with ⟨h1,h2⟩ | ⟨h1,h2,l,h3,h4⟩ <;> rcases hb.2 hk with ⟨g1,g2⟩ | ⟨g1,g2,m,g3,g4⟩
  ·rw [h2,g2]
  ·omega
  ·omega
  ·rw [h4,g4,h3.one g3]
open Go.RowKit Gr Wd Ws Fx Rk Lb Al In Sq
open Pa (vl bt vl_of vl_at bt_of bt_at Fits fits_of fr far)
set_option maxRecDepth 100000 in
set_option maxHeartbeats 16000000 in
theorem lw_run (k st so dm ep V a x:Int) (A:Option Addr) (n c:Nat) (L:List Ed) (w:World) (hL:EAt w A L) (hn:L.length = n) (hm:n <= 9223372036854775807) :
 Calls Tryz.prog 5 #[.agg #[.int .i64 V,.slice A n c],.agg #[.int .u8 k,.int .i64 st,.int .i64 so,.int .i64 dm,.int .i64 ep],.int .i64 a,.int .i64 x] w fun e w' => e = .returned (.bool true)/\Below w.heap.size w w':=by
 have mixed:=mixedP
 have HL:=jH hL; have HN:=jH hn
 clear hL hn
 obtain ⟨W2,hW2⟩:∃ W2,W2 = (w.alloc (.cells #[.int .i64 V,.slice A n c] 24)).alloc (.cells #[.int .u8 k,.int .i64 st,.int .i64 so,.int .i64 dm,.int .i64 ep] 40):=⟨_,rfl⟩
 have hal:=al2 w (.cells #[.int .i64 V,.slice A n c] 24) (.cells #[.int .u8 k,.int .i64 st,.int .i64 so,.int .i64 dm,.int .i64 ep] 40)
 rw [<- hW2] at hal
 obtain ⟨n0,e0⟩:∃ n0,n0 = w.heap.size:=⟨_,rfl⟩
 have HG:Hid (W2.heap[n0]? = some (.cells #[.int .i64 V,.slice A n c] 24 (0,0))):=jH (by rw [e0]; exact hal.1)
 have HJ:Hid (W2.heap[n0 + 1]? = some (.cells #[.int .u8 k,.int .i64 st,.int .i64 so,.int .i64 dm,.int .i64 ep] 40 (0,0))):=jH (by rw [e0]; exact hal.2.1)
 have HB:=jH hal.2.2
 clear hal
 obtain ⟨g0,g1,_⟩:=two_cells HG.out
 obtain ⟨r,hr,hrt⟩:=lgt_any V A n c L W2 (HL.out.below HB.out) HN.out hm
 have HLG:=jH hr
 have HRT:=jH hrt
 clear hr hrt
 go_enter Tryz.func5,Tryz.ntmps5
 go_upto_region 1 with fail
 rw [<- hW2,show w.heap.size = n0 from e0.symm]
 clear hW2 e0
 go_wp2_with fail
 refine HLG.out.mono ?_
 rintro e w3 ⟨rfl,hb3⟩
 have HG3:=jK HG hb3.out; have HJ3:=jK HJ hb3.out
 have HB3:=jS HB hb3.out
 clear hb3 g0 g1 HLG HG HJ HB
 cases r with
 | false =>
  go_wp2_with fail
  refine (wrk_any _).mono ?_
  rintro e w4 ⟨rfl,hb4⟩
  go_wp2
  go_ret
  exact ⟨rfl,step_below HB3.out HB3.out.size hb4.out⟩
 | true =>
  obtain ⟨hn1,hV16⟩:=HRT.out rfl
  have HN1:=jH hn1; have HV16:=jH hV16
  clear hn1 hV16 HRT
  obtain ⟨g0,g1,_⟩:=two_cells HG3.out
  obtain ⟨j0,j1,j2,j3,j4,_⟩:=jb_cells HJ3.out
  by_cases hst:40 < st
  ·go_wp2_with fail
   refine (wrk_any _).mono ?_
   rintro e w4 ⟨rfl,hb4⟩
   go_wp2
   go_ret
   exact ⟨rfl,step_below HB3.out HB3.out.size hb4.out⟩
  obtain ⟨E,hE⟩:∃ E,chkJ k st so dm ep V L = E:=⟨_,rfl⟩
  have HC:Hid (Calls Tryz.prog 16 #[.agg #[.int .i64 V,.slice A n c],.agg #[.int .u8 k,.int .i64 st,.int .i64 so,.int .i64 dm,.int .i64 ep]] w3 fun e w' => e = .returned (.int .i64 E)/\Below w3.heap.size w3 w'):=jH (by
   have h:=checkj_any k st so dm ep V A c L w3 (HL.out.below HB3.out) (by rw [HN.out]; have:=HN1.out; omega)
   rw [HN.out,hE] at h; exact h)
  have HE:=jH hE
  clear hE
  go_wp2_with fail
  refine HC.out.mono ?_
  rintro e w4 ⟨rfl,hb4⟩
  have HG4:=jK HG3 hb4; have HJ4:=jK HJ3 hb4
  have HB4:=jS HB3 hb4
  clear hb4 g0 g1 j0 j1 j2 j3 j4 HG3 HJ3 HB3 HC
  by_cases hE0:E = 0
  case neg =>
   have hE1:(E != 0) = true:=by simpa using hE0
   go_wp2_with fail
   refine (wrk_any _).mono ?_
   rintro e w5 ⟨rfl,hb5⟩
   go_wp2
   go_ret
   exact ⟨rfl,step_below HB4.out HB4.out.size hb5.out⟩
  subst hE0
  obtain ⟨Vn,rfl,hV0,hV⟩:=chk_v (chkJ_zero HE.out).1
  have hv16:=HV16.out (chkJ_zero HE.out).1
  obtain ⟨N,hN⟩:=run_at k st so dm ep (Vn:Int) L
  have HNN:=jH (hN HE.out)
  clear hN
  obtain ⟨S,hS⟩:∃ S,S = stS k so dm (Vn:Int).toNat L N:=⟨_,rfl⟩
  have hSl:S.vals.length = Vn:=by
   rw [hS]
   obtain ⟨hz,_,_,_,hd0,hd1⟩:=chkJ_zero HE.out
   simpa using (go_all (so:=so) hz (fun _ => ⟨hd0,hd1⟩) N).may.1
  have HC:Hid (Calls Tryz.prog 17 #[.agg #[.int .i64 (Vn:Int),.slice A n c],.agg #[.int .u8 k,.int .i64 st,.int .i64 so,.int .i64 dm,.int .i64 ep]] w4 fun e w' => Res w4 w' e ((N:Int),S,0)):=jH (by
   refine (seqRun_any k st so dm ep (Vn:Int) A n c L N w4 (HL.out.below HB4.out) HN.out (by have:=HN1.out; omega) (fun _ => HNN.out)).mono fun _ _ h => ?_
   unfold runR at h; rw [if_pos HE.out,<- hS] at h; exact h)
  have hfew:Few S:=by rw [hS]; exact few_st HE.out _
  have HSE:=jH hS; have HSL:=jH hSl; have HFW:=jH hfew
  clear hS hSl hfew
  obtain ⟨g0,g1,_⟩:=two_cells HG4.out
  obtain ⟨j0,j1,j2,j3,j4,_⟩:=jb_cells HJ4.out
  go_upto_region 3 with fail
  go_wp2_with fail
  refine HC.out.mono ?_
  rintro e v1 hv1
  obtain ⟨g,ac,ai,an1,an2,an3,a1,a2,a3,rfl,hh⟩:=rnh_of (w:=w) hv1 HFW.out (by rw [HSL.out]; omega) HB4.out HG4.out HJ4.out
  obtain ⟨X1,hX1⟩:∃ X,X = v1.alloc (.cells #[.int .i64 (N:Int),.slice (some ⟨g,0,none⟩) an1 a1,.slice ac an2 a2,.slice ai an3 a3,.int .i64 S.sum,.int .i64 S.most] 45):=⟨_,rfl⟩
  obtain ⟨bl1,eb1⟩:∃ b,b = v1.heap.size:=⟨_,rfl⟩
  rw [<- hX1,<- eb1] at hh
  have HH:=hh
  clear hh hv1 g0 g1 j0 j1 j2 j3 j4 HC HG4 HJ4
  go_upto_region 4 with fail
  rw [<- hX1,show v1.heap.size = bl1 from eb1.symm]
  clear hX1 eb1
  obtain ⟨g0,g1,_⟩:=two_cells HH.out.gb
  obtain ⟨j0,j1,j2,j3,j4,_⟩:=jb_cells HH.out.jb
  obtain ⟨s0,s1,s2,s3,s4,s5,_⟩:=Sq.six HH.out.sb
  have HM:Hid (Calls Tryz.prog 18 #[.agg #[.int .i64 (Vn:Int),.slice A n c],.agg #[.int .u8 k,.int .i64 st,.int .i64 so,.int .i64 dm,.int .i64 ep],.agg #[.int .i64 (N:Int),.slice (some ⟨g,0,none⟩) an1 a1,.slice ac an2 a2,.slice ai an3 a3,.int .i64 S.sum,.int .i64 S.most]] X1 fun e w' => e = .returned (.bool true)/\Hid (Below X1.heap.size X1 w')):=jH (by
   refine (Means_any k st so dm ep (Vn:Int) (N:Int) N S A (some ⟨g,0,none⟩) ac ai n c an1 a1 an2 a2 an3 a3 L X1 (HL.out.below HH.out.below) HN.out (by have:=HN1.out; omega) (by omega) HE.out HNN.out HH.out.sat HH.out.f).mono ?_
   rintro e w' ⟨b,rfl,hb,hw⟩
   have h:=hb.out
   rw [HSE.out] at h
   rw [run_means HE.out HNN.out h]
   exact ⟨rfl,jH hw⟩)
  go_wp2_with fail
  refine HM.out.mono ?_
  rintro e w5 ⟨rfl,hb5⟩
  replace HH:=jH (HH.out.step hb5.out)
  clear hb5 HM g0 g1 j0 j1 j2 j3 j4 s0 s1 s2 s3 s4 s5
  obtain ⟨u,huv,hpi⟩:=pick_any' a Vn (by omega) (by omega)
  have HPI:=jH hpi
  have HUV:Hid (u < an1):=jH (by rw [<- HH.out.n1,HSL.out]; exact huv)
  clear huv hpi
  obtain ⟨g0,g1,_⟩:=two_cells HH.out.gb
  obtain ⟨j0,j1,j2,j3,j4,_⟩:=jb_cells HH.out.jb
  by_cases hVs:(Vn:Int) <= st
  ·-- both of them are held against it
   have HLB:=jH (Labels_any (Vn:Int) A n c L w5 (HL.out.below HH.out.below) HN.out (by have:=HN1.out; omega))
   rw [(chkJ_zero HE.out).1] at HLB
   go_wp2_with fail
   refine HLB.out.mono ?_
   rintro e w6 ⟨lb,⟨vb,rfl,h6⟩,hlb⟩
   have HLC:Hid (LabC (Vn:Int).toNat L lb):=jH (hlb.out.1 (chkJ_zero HE.out).1)
   obtain ⟨A6,c6,rfl,hA6⟩:=h6.out.1.form
   have HA6:=jH hA6
   replace HH:=jH (HH.out.step h6.out.2)
   clear h6 hA6 hlb HLB g0 g1 j0 j1 j2 j3 j4
   obtain ⟨g0,g1,_⟩:=two_cells HH.out.gb
   obtain ⟨j0,j1,j2,j3,j4,_⟩:=jb_cells HH.out.jb
   have HDS:=jH (Distances_any (Vn:Int) so A n c L w6 (HL.out.below HH.out.below) HN.out (by have:=HN1.out; omega) (fun _ => by omega))
   obtain ⟨ds,hds⟩:∃ ds,disL (Vn:Int) L so = ds:=⟨_,rfl⟩
   rw [hds,dis_zero HE.out] at HDS
   have HDL:=jH hds
   clear hds
   go_wp2_with fail
   refine HDS.out.mono ?_
   rintro e w7 ⟨vb,rfl,h7⟩
   obtain ⟨A7,c7,rfl,hA7⟩:=h7.out.1.form
   have HA7:=jH hA7
   have HA67:=jH (HA6.out.below h7.out.2)
   replace HH:=jH (HH.out.step h7.out.2)
   clear h7 hA7 HDS HA6 g0 g1 j0 j1 j2 j3 j4
   obtain ⟨j0,j1,j2,j3,j4,_⟩:=jb_cells HH.out.jb
   obtain ⟨s0,s1,s2,s3,s4,s5,_⟩:=Sq.six HH.out.sb
   have hk3:=(chkJ_zero HE.out).2.2.2.1
   have HFU:Hid (k ≠ 1->Mt k so (Vn:Int) L S.vals):=jH (fun hk => by rw [HSE.out]; exact run_full HE.out hk HNN.out.1 (Or.inr hVs) (run_le HE.out HNN.out.2.2))
   rcases hk3 with rfl | rfl | rfl
   ·go_upto_region 11 with fail
    obtain ⟨g0,g1,_⟩:=two_cells HH.out.gb
    go_wp2_with fail
    refine (HPI.out _).mono ?_
    rintro e wp ⟨rfl,rfl⟩
    obtain ⟨s0,s1,s2,s3,s4,s5,_⟩:=Sq.six HH.out.sb
    obtain ⟨j0,j1,j2,j3,j4,_⟩:=jb_cells HH.out.jb
    obtain ⟨X,hX⟩:∃ X,vl S.vals u = X:=⟨_,rfl⟩
    have hu:=HUV.out
    obtain ⟨q0,q1⟩:=NOwn.at_ HH.out.n1 HH.out.q (k:=u) hu
    rw [hX] at q0
    have HX:=jH hX
    clear hX
    by_cases hxv:X = x
    ·go_wp2_with fail
     refine (wrk_any _).mono ?_
     rintro e w8 ⟨rfl,hb8⟩
     go_wp2
     go_ret
     exact ⟨rfl,(HH.out.step hb8.out).below⟩
    have hxv1:(X == x) = false:=by simpa using hxv
    by_cases hs6:(N:Int) = st/\st < (Vn:Int)
    ·obtain ⟨hs7,hs8⟩:=hs6
     first
     | (exfalso; omega)
     | (have hs11:((N:Int) == st) = true:=by simpa using hs7
        clear hs7
        go_wp2_with fail
        refine (wrk_any _).mono ?_
        rintro e w8 ⟨rfl,hb8⟩
        go_wp2
        go_ret
        exact ⟨rfl,(HH.out.step hb8.out).below⟩)
    have HNS:=jH hs6
    have HXV:Hid (S.vals.set u x ≠ (stS 1 so dm (Vn:Int).toNat L N).vals):=jH (by
     rw [<- HSE.out]
     intro h
     have h2:=Pa.vl_set S.vals u x u (by rw [HH.out.n1]; exact hu)
     rw [h,if_pos rfl,HX.out] at h2
     exact hxv h2)
    have hs9:((N:Int) = st/\¬ st < (Vn:Int))\/¬ (N:Int) = st:=by omega
    clear hs6
    have hs10:(((N:Int) == st) = true/\¬ st < (Vn:Int))\/((N:Int) == st) = false:=by
     rcases hs9 with ⟨h1,h2⟩ | h1
     ·exact Or.inl ⟨by simpa using h1,h2⟩
     ·exact Or.inr (by simpa using h1)
    clear hs9
    rcases hs10 with ⟨hs7,hs8⟩ | hs7
    all_goals try (exfalso; clear hs7; omega)
    all_goals
     have HP:=jH (HH.out.put u x)
     go_upto_region 17 with fail
     clear g0 g1 j0 j1 j2 j3 j4 s0 s1 s2 s3 s4 s5 q0 q1
     generalize World.setCell _ ⟨g,u,none⟩ (.int .i64 x) = W9 at HP ⊢
     obtain ⟨g0,g1,_⟩:=two_cells HP.out.gb
     obtain ⟨j0,j1,j2,j3,j4,_⟩:=jb_cells HP.out.jb
     obtain ⟨s0,s1,s2,s3,s4,s5,_⟩:=Sq.six HP.out.sb
     have HM:Hid (Calls Tryz.prog 18 #[.agg #[.int .i64 (Vn:Int),.slice A n c],.agg #[.int .u8 1,.int .i64 st,.int .i64 so,.int .i64 dm,.int .i64 ep],.agg #[.int .i64 (N:Int),.slice (some ⟨g,0,none⟩) an1 a1,.slice ac an2 a2,.slice ai an3 a3,.int .i64 S.sum,.int .i64 S.most]] W9 fun e w' => e = .returned (.bool false)/\Hid (Below W9.heap.size W9 w')):=jH (by
      refine (Means_any 1 st so dm ep (Vn:Int) (N:Int) N { S with vals:=S.vals.set u x } A (some ⟨g,0,none⟩) ac ai n c an1 a1 an2 a2 an3 a3 L W9 (HL.out.below HP.out.below) HN.out (by have:=HN1.out; omega) (by omega) HE.out HNN.out HP.out.sat HP.out.f).mono ?_
      rintro e w' ⟨b,rfl,hb,hw⟩
      rw [run_other HE.out HNN.out HNS.out HXV.out hb.out]
      exact ⟨rfl,jH hw⟩)
     go_wp2_with fail
     refine HM.out.mono ?_
     rintro e wa ⟨rfl,hba⟩
     replace HP:=jH (HP.out.step hba.out)
     clear hba HM g0 g1 j0 j1 j2 j3 j4 s0 s1 s2 s3 s4 s5
     go_wp2_with fail
     refine (wrk_any _).mono ?_
     rintro e wb ⟨rfl,hbb⟩
     go_wp2
     go_ret
     exact ⟨rfl,(HP.out.step hbb.out).below⟩
   ·have hbe:lb = S.vals:=by
     rcases HFU.out (by omega) with ⟨_,h⟩ | ⟨h,_⟩
     ·exact HLC.out.one h
     ·omega
    have hln:lb.length = an1:=by rw [hbe]; exact HH.out.n1
    have HC:=jH (Sq.kitq_any (some ⟨g,0,none⟩) A6 an1 an1 a1 c6 S.vals lb w7 HH.out.sat.v HA67.out HH.out.n1 hln (by have:=HH.out.f; omega) (by have:=HH.out.f; omega))
    rw [decide_eq_true hbe.symm] at HC
    rw [hln]
    clear hbe hln
    go_wp2_with fail
    refine HC.out.mono ?_
    rintro e w8 ⟨rfl,hb8⟩
    replace HH:=jH (HH.out.step hb8)
    clear hb8 HC j0 j1 j2 j3 j4 s0 s1 s2 s3 s4 s5
    obtain ⟨j0,j1,j2,j3,j4,_⟩:=jb_cells HH.out.jb
    go_upto_region 11 with fail
    obtain ⟨g0,g1,_⟩:=two_cells HH.out.gb
    go_wp2_with fail
    refine (HPI.out _).mono ?_
    rintro e wp ⟨rfl,rfl⟩
    obtain ⟨s0,s1,s2,s3,s4,s5,_⟩:=Sq.six HH.out.sb
    obtain ⟨j0,j1,j2,j3,j4,_⟩:=jb_cells HH.out.jb
    obtain ⟨X,hX⟩:∃ X,vl S.vals u = X:=⟨_,rfl⟩
    have hu:=HUV.out
    obtain ⟨q0,q1⟩:=NOwn.at_ HH.out.n1 HH.out.q (k:=u) hu
    rw [hX] at q0
    have HX:=jH hX
    clear hX
    by_cases hxv:X = x
    ·go_wp2_with fail
     refine (wrk_any _).mono ?_
     rintro e w8 ⟨rfl,hb8⟩
     go_wp2
     go_ret
     exact ⟨rfl,(HH.out.step hb8.out).below⟩
    have hxv1:(X == x) = false:=by simpa using hxv
    by_cases hs6:(N:Int) = st/\st < (Vn:Int)
    ·obtain ⟨hs7,hs8⟩:=hs6
     first
     | (exfalso; omega)
     | (have hs11:((N:Int) == st) = true:=by simpa using hs7
        clear hs7
        go_wp2_with fail
        refine (wrk_any _).mono ?_
        rintro e w8 ⟨rfl,hb8⟩
        go_wp2
        go_ret
        exact ⟨rfl,(HH.out.step hb8.out).below⟩)
    have HNS:=jH hs6
    have HXV:Hid (S.vals.set u x ≠ (stS 2 so dm (Vn:Int).toNat L N).vals):=jH (by
     rw [<- HSE.out]
     intro h
     have h2:=Pa.vl_set S.vals u x u (by rw [HH.out.n1]; exact hu)
     rw [h,if_pos rfl,HX.out] at h2
     exact hxv h2)
    have hs9:((N:Int) = st/\¬ st < (Vn:Int))\/¬ (N:Int) = st:=by omega
    clear hs6
    have hs10:(((N:Int) == st) = true/\¬ st < (Vn:Int))\/((N:Int) == st) = false:=by
     rcases hs9 with ⟨h1,h2⟩ | h1
     ·exact Or.inl ⟨by simpa using h1,h2⟩
     ·exact Or.inr (by simpa using h1)
    clear hs9
    rcases hs10 with ⟨hs7,hs8⟩ | hs7
    all_goals try (exfalso; clear hs7; omega)
    all_goals
     have HP:=jH (HH.out.put u x)
     go_upto_region 17 with fail
     clear g0 g1 j0 j1 j2 j3 j4 s0 s1 s2 s3 s4 s5 q0 q1
     generalize World.setCell _ ⟨g,u,none⟩ (.int .i64 x) = W9 at HP ⊢
     obtain ⟨g0,g1,_⟩:=two_cells HP.out.gb
     obtain ⟨j0,j1,j2,j3,j4,_⟩:=jb_cells HP.out.jb
     obtain ⟨s0,s1,s2,s3,s4,s5,_⟩:=Sq.six HP.out.sb
     have HM:Hid (Calls Tryz.prog 18 #[.agg #[.int .i64 (Vn:Int),.slice A n c],.agg #[.int .u8 2,.int .i64 st,.int .i64 so,.int .i64 dm,.int .i64 ep],.agg #[.int .i64 (N:Int),.slice (some ⟨g,0,none⟩) an1 a1,.slice ac an2 a2,.slice ai an3 a3,.int .i64 S.sum,.int .i64 S.most]] W9 fun e w' => e = .returned (.bool false)/\Hid (Below W9.heap.size W9 w')):=jH (by
      refine (Means_any 2 st so dm ep (Vn:Int) (N:Int) N { S with vals:=S.vals.set u x } A (some ⟨g,0,none⟩) ac ai n c an1 a1 an2 a2 an3 a3 L W9 (HL.out.below HP.out.below) HN.out (by have:=HN1.out; omega) (by omega) HE.out HNN.out HP.out.sat HP.out.f).mono ?_
      rintro e w' ⟨b,rfl,hb,hw⟩
      rw [run_other HE.out HNN.out HNS.out HXV.out hb.out]
      exact ⟨rfl,jH hw⟩)
     go_wp2_with fail
     refine HM.out.mono ?_
     rintro e wa ⟨rfl,hba⟩
     replace HP:=jH (HP.out.step hba.out)
     clear hba HM g0 g1 j0 j1 j2 j3 j4 s0 s1 s2 s3 s4 s5
     go_wp2_with fail
     refine (wrk_any _).mono ?_
     rintro e wb ⟨rfl,hbb⟩
     go_wp2
     go_ret
     exact ⟨rfl,(HP.out.step hbb.out).below⟩
   ·have hbe:ds = S.vals:=by
     rcases HFU.out (by omega) with ⟨h,_⟩ | ⟨_,h⟩
     ·omega
     ·rw [h,<- HDL.out]; unfold disL; rw [if_pos (dis_zero HE.out)]
    have hln:ds.length = an1:=by rw [hbe]; exact HH.out.n1
    have HC:=jH (Sq.kitq_any (some ⟨g,0,none⟩) A7 an1 an1 a1 c7 S.vals ds w7 HH.out.sat.v HA7.out HH.out.n1 hln (by have:=HH.out.f; omega) (by have:=HH.out.f; omega))
    rw [decide_eq_true hbe.symm] at HC
    rw [hln]
    clear hbe hln
    go_wp2_with fail
    refine HC.out.mono ?_
    rintro e w8 ⟨rfl,hb8⟩
    replace HH:=jH (HH.out.step hb8)
    clear hb8 HC j0 j1 j2 j3 j4 s0 s1 s2 s3 s4 s5
    obtain ⟨j0,j1,j2,j3,j4,_⟩:=jb_cells HH.out.jb
    go_upto_region 11 with fail
    obtain ⟨g0,g1,_⟩:=two_cells HH.out.gb
    go_wp2_with fail
    refine (HPI.out _).mono ?_
    rintro e wp ⟨rfl,rfl⟩
    obtain ⟨s0,s1,s2,s3,s4,s5,_⟩:=Sq.six HH.out.sb
    obtain ⟨j0,j1,j2,j3,j4,_⟩:=jb_cells HH.out.jb
    obtain ⟨X,hX⟩:∃ X,vl S.vals u = X:=⟨_,rfl⟩
    have hu:=HUV.out
    obtain ⟨q0,q1⟩:=NOwn.at_ HH.out.n1 HH.out.q (k:=u) hu
    rw [hX] at q0
    have HX:=jH hX
    clear hX
    by_cases hxv:X = x
    ·go_wp2_with fail
     refine (wrk_any _).mono ?_
     rintro e w8 ⟨rfl,hb8⟩
     go_wp2
     go_ret
     exact ⟨rfl,(HH.out.step hb8.out).below⟩
    have hxv1:(X == x) = false:=by simpa using hxv
    by_cases hs6:(N:Int) = st/\st < (Vn:Int)
    ·obtain ⟨hs7,hs8⟩:=hs6
     first
     | (exfalso; omega)
     | (have hs11:((N:Int) == st) = true:=by simpa using hs7
        clear hs7
        go_wp2_with fail
        refine (wrk_any _).mono ?_
        rintro e w8 ⟨rfl,hb8⟩
        go_wp2
        go_ret
        exact ⟨rfl,(HH.out.step hb8.out).below⟩)
    have HNS:=jH hs6
    have HXV:Hid (S.vals.set u x ≠ (stS 3 so dm (Vn:Int).toNat L N).vals):=jH (by
     rw [<- HSE.out]
     intro h
     have h2:=Pa.vl_set S.vals u x u (by rw [HH.out.n1]; exact hu)
     rw [h,if_pos rfl,HX.out] at h2
     exact hxv h2)
    have hs9:((N:Int) = st/\¬ st < (Vn:Int))\/¬ (N:Int) = st:=by omega
    clear hs6
    have hs10:(((N:Int) == st) = true/\¬ st < (Vn:Int))\/((N:Int) == st) = false:=by
     rcases hs9 with ⟨h1,h2⟩ | h1
     ·exact Or.inl ⟨by simpa using h1,h2⟩
     ·exact Or.inr (by simpa using h1)
    clear hs9
    rcases hs10 with ⟨hs7,hs8⟩ | hs7
    all_goals try (exfalso; clear hs7; omega)
    all_goals
     have HP:=jH (HH.out.put u x)
     go_upto_region 17 with fail
     clear g0 g1 j0 j1 j2 j3 j4 s0 s1 s2 s3 s4 s5 q0 q1
     generalize World.setCell _ ⟨g,u,none⟩ (.int .i64 x) = W9 at HP ⊢
     obtain ⟨g0,g1,_⟩:=two_cells HP.out.gb
     obtain ⟨j0,j1,j2,j3,j4,_⟩:=jb_cells HP.out.jb
     obtain ⟨s0,s1,s2,s3,s4,s5,_⟩:=Sq.six HP.out.sb
     have HM:Hid (Calls Tryz.prog 18 #[.agg #[.int .i64 (Vn:Int),.slice A n c],.agg #[.int .u8 3,.int .i64 st,.int .i64 so,.int .i64 dm,.int .i64 ep],.agg #[.int .i64 (N:Int),.slice (some ⟨g,0,none⟩) an1 a1,.slice ac an2 a2,.slice ai an3 a3,.int .i64 S.sum,.int .i64 S.most]] W9 fun e w' => e = .returned (.bool false)/\Hid (Below W9.heap.size W9 w')):=jH (by
      refine (Means_any 3 st so dm ep (Vn:Int) (N:Int) N { S with vals:=S.vals.set u x } A (some ⟨g,0,none⟩) ac ai n c an1 a1 an2 a2 an3 a3 L W9 (HL.out.below HP.out.below) HN.out (by have:=HN1.out; omega) (by omega) HE.out HNN.out HP.out.sat HP.out.f).mono ?_
      rintro e w' ⟨b,rfl,hb,hw⟩
      rw [run_other HE.out HNN.out HNS.out HXV.out hb.out]
      exact ⟨rfl,jH hw⟩)
     go_wp2_with fail
     refine HM.out.mono ?_
     rintro e wa ⟨rfl,hba⟩
     replace HP:=jH (HP.out.step hba.out)
     clear hba HM g0 g1 j0 j1 j2 j3 j4 s0 s1 s2 s3 s4 s5
     go_wp2_with fail
     refine (wrk_any _).mono ?_
     rintro e wb ⟨rfl,hbb⟩
     go_wp2
     go_ret
     exact ⟨rfl,(HP.out.step hbb.out).below⟩
  ·go_upto_region 11 with fail
   obtain ⟨g0,g1,_⟩:=two_cells HH.out.gb
   go_wp2_with fail
   refine (HPI.out _).mono ?_
   rintro e wp ⟨rfl,rfl⟩
   obtain ⟨s0,s1,s2,s3,s4,s5,_⟩:=Sq.six HH.out.sb
   obtain ⟨j0,j1,j2,j3,j4,_⟩:=jb_cells HH.out.jb
   obtain ⟨X,hX⟩:∃ X,vl S.vals u = X:=⟨_,rfl⟩
   have hu:=HUV.out
   obtain ⟨q0,q1⟩:=NOwn.at_ HH.out.n1 HH.out.q (k:=u) hu
   rw [hX] at q0
   have HX:=jH hX
   clear hX
   by_cases hxv:X = x
   ·go_wp2_with fail
    refine (wrk_any _).mono ?_
    rintro e w8 ⟨rfl,hb8⟩
    go_wp2
    go_ret
    exact ⟨rfl,(HH.out.step hb8.out).below⟩
   have hxv1:(X == x) = false:=by simpa using hxv
   by_cases hs6:(N:Int) = st/\st < (Vn:Int)
   ·obtain ⟨hs7,hs8⟩:=hs6
    first
    | (exfalso; omega)
    | (have hs11:((N:Int) == st) = true:=by simpa using hs7
       clear hs7
       go_wp2_with fail
       refine (wrk_any _).mono ?_
       rintro e w8 ⟨rfl,hb8⟩
       go_wp2
       go_ret
       exact ⟨rfl,(HH.out.step hb8.out).below⟩)
   have HNS:=jH hs6
   have HXV:Hid (S.vals.set u x ≠ (stS k so dm (Vn:Int).toNat L N).vals):=jH (by
    rw [<- HSE.out]
    intro h
    have h2:=Pa.vl_set S.vals u x u (by rw [HH.out.n1]; exact hu)
    rw [h,if_pos rfl,HX.out] at h2
    exact hxv h2)
   have hs9:((N:Int) = st/\¬ st < (Vn:Int))\/¬ (N:Int) = st:=by omega
   clear hs6
   have hs10:(((N:Int) == st) = true/\¬ st < (Vn:Int))\/((N:Int) == st) = false:=by
    rcases hs9 with ⟨h1,h2⟩ | h1
    ·exact Or.inl ⟨by simpa using h1,h2⟩
    ·exact Or.inr (by simpa using h1)
   clear hs9
   rcases hs10 with ⟨hs7,hs8⟩ | hs7
   all_goals try (exfalso; clear hs7; omega)
   all_goals
    have HP:=jH (HH.out.put u x)
    go_upto_region 17 with fail
    clear g0 g1 j0 j1 j2 j3 j4 s0 s1 s2 s3 s4 s5 q0 q1
    generalize World.setCell _ ⟨g,u,none⟩ (.int .i64 x) = W9 at HP ⊢
    obtain ⟨g0,g1,_⟩:=two_cells HP.out.gb
    obtain ⟨j0,j1,j2,j3,j4,_⟩:=jb_cells HP.out.jb
    obtain ⟨s0,s1,s2,s3,s4,s5,_⟩:=Sq.six HP.out.sb
    have HM:Hid (Calls Tryz.prog 18 #[.agg #[.int .i64 (Vn:Int),.slice A n c],.agg #[.int .u8 k,.int .i64 st,.int .i64 so,.int .i64 dm,.int .i64 ep],.agg #[.int .i64 (N:Int),.slice (some ⟨g,0,none⟩) an1 a1,.slice ac an2 a2,.slice ai an3 a3,.int .i64 S.sum,.int .i64 S.most]] W9 fun e w' => e = .returned (.bool false)/\Hid (Below W9.heap.size W9 w')):=jH (by
     refine (Means_any k st so dm ep (Vn:Int) (N:Int) N { S with vals:=S.vals.set u x } A (some ⟨g,0,none⟩) ac ai n c an1 a1 an2 a2 an3 a3 L W9 (HL.out.below HP.out.below) HN.out (by have:=HN1.out; omega) (by omega) HE.out HNN.out HP.out.sat HP.out.f).mono ?_
     rintro e w' ⟨b,rfl,hb,hw⟩
     rw [run_other HE.out HNN.out HNS.out HXV.out hb.out]
     exact ⟨rfl,jH hw⟩)
    go_wp2_with fail
    refine HM.out.mono ?_
    rintro e wa ⟨rfl,hba⟩
    replace HP:=jH (HP.out.step hba.out)
    clear hba HM g0 g1 j0 j1 j2 j3 j4 s0 s1 s2 s3 s4 s5
    go_wp2_with fail
    refine (wrk_any _).mono ?_
    rintro e wb ⟨rfl,hbb⟩
    go_wp2
    go_ret
    exact ⟨rfl,(HP.out.step hbb.out).below⟩
open Go.RowKit Gr Wd Ws Fx Rk Lb Al
open Pa (vl bt vl_of vl_at bt_of bt_at Fits fits_of fr far)
theorem dis_tight {V s:Int} {L:List Ed}:Pa.tgt V L s (disL V L s) = decide (disE V L s = 0):=by
 by_cases h:disE V L s = 0
 ·rw [decide_eq_true h]
  have h0:=h
  unfold disE at h
  split at h
  ·rename_i hc
   split at h
   ·rename_i hs
    obtain ⟨Vn,rfl,hV0,hV⟩:=chk_v hc
    obtain ⟨sn,rfl⟩:∃ sn:Nat,s = (sn:Int):=⟨s.toNat,by omega⟩
    have hs1:sn < Vn:=by omega
    have hl:disL (Vn:Int) L (sn:Int) = far Vn sn L:=by unfold disL; rw [if_pos h0]; simp
    have hT:=Pa.far_tight (L:=L) (fits_of hc) hs1
    rw [hl]
    unfold Pa.tgt
    rw [(Pa.okP_iff _ _ _ _).2 ⟨hc,hs.1,hs.2,by rw [hT.len]⟩,show ((sn:Nat):Int).toNat = sn by simp,(Pa.inP_iff (fits_of hc) hs1 hT.len).2 hT]
    rfl
   ·omega
  ·rename_i hc; exact absurd h hc
 ·rw [decide_eq_false h]
  unfold Pa.tgt
  cases ho:Pa.okP V L s (disL V L s) with
  | false => rfl
  | true =>
   obtain ⟨h1,h2,h3,_⟩:=(Pa.okP_iff _ _ _ _).1 ho
   exact absurd (by unfold disE; rw [if_pos h1,if_pos ⟨h2,h3⟩]) h
set_option maxRecDepth 100000 in
set_option maxHeartbeats 4000000 in
theorem lw_dists (V s:Int) (A:Option Addr) (n c:Nat) (L:List Ed) (w:World) (hL:EAt w A L) (hn:L.length = n) (hm:n <= 9223372036854775807) :
 Calls Tryz.prog 4 #[.agg #[.int .i64 V,.slice A n c],.int .i64 s] w fun e w' => e = .returned (.bool true)/\Below w.heap.size w w':=by
 have mixed:=mixedP
 have HL:=jH hL; have HN:=jH hn
 clear hL hn
 obtain ⟨W1,hW1⟩:∃ W1,W1 = w.alloc (.cells #[.int .i64 V,.slice A n c] 24):=⟨_,rfl⟩
 obtain ⟨b,hb⟩:∃ b,b = w.heap.size:=⟨_,rfl⟩
 have HB1:Hid (Below w.heap.size w W1):=jH (by rw [hW1]; exact (Below.refl _ w).alloc (Nat.le_refl _) _)
 have HX1:Hid (W1.heap[b]? = some (.cells #[.int .i64 V,.slice A n c] 24 (0,0))):=jH (by rw [hW1,hb]; exact heap_alloc_new w _)
 obtain ⟨g0,g1,_⟩:=two_cells HX1.out
 obtain ⟨r,hr,hrt⟩:=lgt_any V A n c L W1 (HL.out.below HB1.out) HN.out hm
 have HLG:=jH hr
 have HRT:=jH hrt
 clear hr hrt
 go_enter Tryz.func4,Tryz.ntmps4
 go_upto_region 1 with fail
 rw [<- hW1,show w.heap.size = b from hb.symm]
 have HBb:=jH hb
 clear hW1 hb
 go_wp2_with fail
 refine HLG.out.mono ?_
 rintro e w2 ⟨rfl,hb2⟩
 have HB2:=jS HB1 hb2.out
 have HX2:=jK HX1 hb2.out
 clear hb2 g0 g1 HLG HB1 HX1
 cases r with
 | false =>
  go_wp2_with fail
  refine (wrk_any _).mono ?_
  rintro e w3 ⟨rfl,hb3⟩
  go_wp2
  go_ret
  exact ⟨rfl,step_below HB2.out HB2.out.size hb3.out⟩
 | true =>
  obtain ⟨hn1,hV16⟩:=HRT.out rfl
  obtain ⟨g0,g1,_⟩:=two_cells HX2.out
  obtain ⟨E,hE⟩:∃ E,disE V L s = E:=⟨_,rfl⟩
  obtain ⟨l,hl⟩:∃ l,disL V L s = l:=⟨_,rfl⟩
  have HDT:=jH (@dis_tight V s L)
  have HC:=jH (Distances_any V s A n c L w2 (HL.out.below HB2.out) HN.out (by omega) (fun h => by have:=hV16 h; omega))
  rw [hE,hl] at HC
  rw [hE,hl] at HDT
  clear hV16
  go_wp2_with fail
  refine HC.out.mono ?_
  rintro e w3 ⟨v,rfl,h3⟩
  obtain ⟨A3,c3,rfl,hA3⟩:=h3.out.1.form
  have HA3:=jH hA3
  have HB3:=jH (step_below HB2.out HB2.out.size h3.out.2)
  have HX3:=jH (keepB HX2.out h3.out.2)
  clear h3 hA3 HC g0 g1
  obtain ⟨g0,g1,_⟩:=two_cells HX3.out
  have HC:=jH (rDistances_any V s A n c L w3 (HL.out.below HB3.out) HN.out (by omega))
  rw [hE,hl] at HC
  go_wp2_with fail
  refine HC.out.mono ?_
  rintro e w4 ⟨v,rfl,h4⟩
  obtain ⟨A4,c4,rfl,hA4⟩:=h4.out.1.form
  have HB4:=jH (step_below HB3.out HB3.out.size h4.out.2)
  have HX4:=jH (keepB HX3.out h4.out.2)
  have HA34:=jH (HA3.out.below h4.out.2)
  obtain ⟨m,hm2⟩:∃ m,m = l.length:=⟨_,rfl⟩
  have hmm:m <= 512:=by
   by_cases h0:E = 0
   ·have hc0:chk V L = 0:=by
     apply Classical.byContradiction; intro hc
     unfold disE at hE
     rw [if_neg hc] at hE
     exact hc (hE.trans h0)
    obtain ⟨Vn,rfl,_,hV⟩:=chk_v hc0
    have hs:0 <= s/\s < (Vn:Int):=by
     apply Classical.byContradiction; intro hs
     unfold disE at hE
     rw [if_pos hc0,if_neg hs] at hE
     omega
    have hT:=Pa.far_tight (V:=Vn) (s:=s.toNat) (L:=L) (fits_of hc0) (by omega)
    have h5:l = far Vn s.toNat L:=by rw [<- hl]; unfold disL; rw [if_pos (hE.trans h0)]; simp
    rw [hm2,h5,hT.len]; exact hV
   ·have h5:l = []:=by rw [<- hl]; unfold disL; rw [if_neg (by rw [hE]; exact h0)]
    rw [hm2,h5]; simp
  have HC:=jH (Sq.kitq_any A3 A4 m m c3 c4 l l w4 HA34.out hA4 hm2.symm hm2.symm (by omega) (by omega))
  rw [decide_eq_true (rfl:l = l)] at HC
  rw [<- hm2]
  have HM:=jH hm2
  clear h4 hA4 g0 g1 hm2 hl hE
  go_wp2_with fail
  refine HC.out.mono ?_
  rintro e w5 ⟨rfl,hb5⟩
  have HB5:=jS HB4 hb5
  have HX5:=jK HX4 hb5
  have HA5:=jH (HA34.out.below hb5)
  clear hb5 HC
  obtain ⟨g0,g1,_⟩:=two_cells HX5.out
  have HC:=jH (Pa.tight_any V s A A3 c c3 L l w5 (HL.out.below HB5.out) HA5.out (by rw [HN.out]; omega) (by rw [<- HM.out]; omega))
  rw [HDT.out,HN.out,<- HM.out] at HC
  by_cases hE0:E = 0
  ·subst hE0
   rw [decide_eq_true (rfl:(0:Int) = 0)] at HC
   go_wp2_with fail
   refine HC.out.mono ?_
   rintro e w6 ⟨rfl,hb6⟩
   have HB6:=jS HB5 hb6
   clear hb6 HC
   go_wp2_with fail
   refine (wrk_any _).mono ?_
   rintro e w7 ⟨rfl,hb7⟩
   go_wp2
   go_ret
   exact ⟨rfl,step_below HB6.out HB6.out.size hb7.out⟩
  ·rw [decide_eq_false hE0] at HC
   go_wp2_with fail
   refine HC.out.mono ?_
   rintro e w6 ⟨rfl,hb6⟩
   have HB6:=jS HB5 hb6
   clear hb6 HC
   go_wp2_with fail
   refine (wrk_any _).mono ?_
   rintro e w7 ⟨rfl,hb7⟩
   go_wp2
   go_ret
   exact ⟨by simp [hE0],step_below HB6.out HB6.out.size hb7.out⟩
end Go.Proofs.YtdcaekmgfcpbmaaGreat.Mn
