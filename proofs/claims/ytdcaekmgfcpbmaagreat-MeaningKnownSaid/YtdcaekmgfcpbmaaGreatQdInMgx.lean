/-
  What is proved here: the map of what came to whom, in memory: what a lookup tells, what a store leaves. Conditions: vertices fit an int, fewer than 10^9 messages came. What is proved here: contracts of inbox.with and of inbox.together: what came to whom. Conditions: vertices fit an int, fewer than 10^9 messages. What is proved here: words for mail in memory: a slice of mail that can be read, and one that the call made; append of one. No condition. What is proved here: contracts of inbox.sameMail, of slices.EqualFunc over it, of inbox.Same, and of the document's own Same: which mail is the same. Condition: lengths fit an int. What is proved here: a contract of inbox.together: what came to whom of rows of messages. Conditions: vertices fit an int, fewer than 10^9 messages. What is proved here: contracts of the document's own Fold, mail and Same. Conditions: lengths fit an int; fewer than 1000000 messages. What is proved here: a contract of inbox.Fold: to each vertex what all messages to it come to. Conditions: vertices fit an int, fewer than 1000000 messages. What is proved here: a contract of inbox.Merge: the mail of vertices. Conditions: vertices fit an int, fewer than 10^9 messages, fewer than 1000000 vertices asked for.
-/
import Derived.Test.YtdcaekmgfcpbmaaGreatQdAlP2x
import Derived.Test.YtdcaekmgfcpbmaaGreatQdAlR3x
import Derived.Test.YtdcaekmgfcpbmaaGreatQdMnT2x
import Derived.Deep.CutRange
import Derived.Deep.Fields
import Derived.Deep.RegionLaw
import Derived.Deep.AppendLies
import Derived.Laws.OwnMore
import Derived.Laws.StructEq
import Derived.Test.YtdcaekmgfcpbmaaGreatQdInMathx
import Derived.Maps.OwnSet
import Derived.Maps.Views
import Derived.Test.YtdcaekmgfcpbmaaGreatQdTlPrex
import Derived.Carry
import Derived.Maps.AppendAt
namespace Go.Proofs.YtdcaekmgfcpbmaaGreat.In
open Go.RowKit Go.Maps Gr Wd Ws Fx Rk Lb Al
def mlV (m:Ml):Value:=.agg #[.bool m.1,.int .i64 m.2]
def mlD (m:Ml):DataW Unit:=.agg [.lit (.bool m.1),.lit (.int .i64 m.2)]
def mlElem:Value->Option (DataW Unit × List MemPlace)
 | .agg a => match a.toList with
  | [.bool h,.int .i64 x] => some (mlD (h,x),[])
  | _ => none
 | _ => none
theorem mlElem_mk (m:Ml):mlElem (mlV m) = some (mlD m,[]):=rfl
theorem mlElem_inv {v:Value} {z:DataW Unit × List MemPlace} (h:mlElem v = some z):∃ m:Ml,v = mlV m/\z = (mlD m,[]):=by
 unfold mlElem at h
 split at h
 ·rename_i a
  split at h
  ·rename_i b x he
   refine ⟨(b,x),?_,(Option.some.inj h).symm⟩
   obtain ⟨l⟩:=a
   simp only at he
   subst he
   rfl
  ·cases h
 ·cases h
theorem mlD_inj {m n:Ml} (h:mlD m = mlD n):m = n:=by
 unfold mlD at h
 simp at h
 exact Prod.ext h.1 h.2
theorem keyedI:Keyed Tryz.prog 3:=int_keyed Tryz.underlying3
theorem wf_i {a:Int} (h:-9223372036854775808 <= a/\a <= 9223372036854775807):(Lit.int .i64 a).wf = true:=by
 have h3:IntKind.i64.min = -9223372036854775808:=by decide
 have h4:IntKind.i64.max = 9223372036854775807:=by decide
 simp only [Lit.wf,Bool.and_eq_true,decide_eq_true_eq]; omega
theorem key_i {a:Int} (h:-9223372036854775808 <= a/\a <= 9223372036854775807):keyOf Tryz.prog 3 (.int .i64 a) = some (.int .i64 a):=keyOf_int_mk Tryz.underlying3 (wf_i h)
theorem zeroMl (w:World):(zeroValue 114).run Tryz.prog w = .ok (mlV (false,0)) w:=by kernel_rfl
structure CMd (D:DataW Unit) (k:Int) (L:List Ms):Prop where
 has_:∀ v:Int,has D (.int .i64 v) = (mailM k v L).isSome
 at_:∀ (v y:Int),mailM k v L = some y->∀ z,D.atKey (.int .i64 v) z = mlD (true,y)
def CM (w:World) (M:Nat) (k:Int) (L:List Ms):Prop:=∃ D:DataW Unit,w.ownsMap Tryz.prog 3 mlElem M L.length D/\CMd D k L
theorem CM.made (w:World) (k:Int):CM (w.alloc (.map #[] 0)) w.heap.size k []:=⟨.map [],World.ownsMap_made _ _ _ _,⟨fun _ => rfl,fun v y h => by cases h⟩⟩
theorem CM.lt {w:World} {M:Nat} {k:Int} {L:List Ms} (h:CM w M k L):M < w.heap.size:=by
 obtain ⟨D,h1,_⟩:=h; exact h1.lt
theorem CM.kept {w w':World} {M:Nat} {k:Int} {L:List Ms} (h:CM w M k L) (hk:w'.heap[M]? = w.heap[M]?):CM w' M k L:=by
 obtain ⟨D,⟨es,clock,h1,h2⟩,h3⟩:=h
 exact ⟨D,⟨es,clock,hk.trans h1,h2⟩,h3⟩
theorem CM.below {w w':World} {M:Nat} {k:Int} {L:List Ms} (h:CM w M k L) (hb:Below w.heap.size w w'):CM w' M k L:=h.kept (hb.block M h.lt)
theorem CM.look {w:World} {M:Nat} {k:Int} {L:List Ms} (h:CM w M k L) {v:Int} (hv:-9223372036854775808 <= v/\v <= 9223372036854775807) :
 (Instr.lookup 150 (.map (some M)) (.int .i64 v) false).run Tryz.prog w = .ok (mlV (mlOf (mailM k v L))) w:=by
 obtain ⟨D,h1,h2⟩:=h
 obtain ⟨u,ps,hrun,hu⟩:=h1.lookup keyedI Tryz.underlying150 (zeroMl w) (mlElem_mk (false,0)) (key_i hv)
 obtain ⟨m,rfl,hm⟩:=mlElem_inv hu
 rw [hrun]
 have hm':=congrArg Prod.fst hm
 simp only at hm'
 have e:m = mlOf (mailM k v L):=by
  cases hc:mailM k v L with
  | none =>
   rw [atKey_of_not_has (by rw [h2.has_ v,hc]; rfl)] at hm'
   exact (mlD_inj hm').symm
  | some y =>
   rw [h2.at_ v y hc] at hm'
   exact (mlD_inj hm').symm
 rw [e]
theorem CM.store {w:World} {M:Nat} {k:Int} {L:List Ms} (h:CM w M k L) {v:Int} (x y:Int) (hv:-9223372036854775808 <= v/\v <= 9223372036854775807) (hn:L.length < 1000000000) (hy:mailM k v (L ++ [(v,x)]) = some y) :
 ∃ w',(Instr.mapUpdate 150 (.map (some M)) (.int .i64 v) (mlV (true,y))).run Tryz.prog w = .ok () w'/\CM w' M k (L ++ [(v,x)])/\w.grownBy w' (some M):=by
 obtain ⟨D,h1,h2⟩:=h
 obtain ⟨w',hrun,h3,h4⟩:=h1.update keyedI Tryz.underlying150 (by unfold maxLen; omega) (key_i hv) (mlElem_mk (true,y))
 have hM:IsMap D:=h1.isMap
 have hk:WideAt.IsKeyLit (.int .i64 v):=keyedI.key (key_i hv)
 refine ⟨w',hrun,⟨_,by rw [List.length_append]; exact h3,⟨fun u => ?_,fun u z hz q => ?_⟩⟩,h4⟩
 ·by_cases e:u = v
  ·subst e; rw [has_put_same hM hk,hy]; rfl
  ·rw [has_put_other (by simpa using e),h2.has_ u,mailM_snoc]
   unfold mst; rw [if_neg (fun e2 => e e2.symm)]
 ·by_cases e:u = v
  ·subst e
   rw [hy] at hz
   rw [atKey_put_same hM hk,Option.some.inj hz]
  ·rw [atKey_put_other (by simpa using e)]
   rw [mailM_snoc] at hz
   unfold mst at hz; rw [if_neg (fun e2 => e e2.symm)] at hz
   exact h2.at_ u z hz q
def nxt (k:Int) (m:Ml) (x:Int):Int:=if m.1 = true then comb k m.2 x else x
theorem nxt_mail (k v x:Int) (L:List Ms):mailM k v (L ++ [(v,x)]) = some (nxt k (mlOf (mailM k v L)) x):=by
 rw [mailM_snoc]
 unfold mst; rw [if_pos rfl]
 cases mailM k v L <;> rfl
open Go.RowKit Go.Maps Gr Wd Ws Fx Rk Lb Al
theorem mixedI:Tryz.prog.follows .mixedOrders = true:=by kernel_rfl
theorem ml_cells {W:World} {b:Nat} {p:Bool} {x:Int} (h:W.heap[b]? = some (.cells #[.bool p,.int .i64 x] 114 (0,0))):W.cell? ⟨b,0,none⟩ = some (.bool p)/\W.cell? ⟨b,1,none⟩ = some (.int .i64 x)/\(∀ j,W.frozen? ⟨b,j,none⟩ = false)/\b < W.heap.size :=
 ⟨by rw [Lib.cell_of_heap h]; rfl,by rw [Lib.cell_of_heap h]; rfl,fun j => Lib.frozen_of_heap h j,lt_of_block h⟩
theorem put_ml {W:World} {b:Nat} {p:Bool} {x:Int} (h:W.heap[b]? = some (.cells #[.bool p,.int .i64 x] 114 (0,0))) (q:Bool) (y:Int) :
 ((W.setCell ⟨b,0,none⟩ (.bool q)).setCell ⟨b,1,none⟩ (.int .i64 y)).heap[b]? = some (.cells #[.bool q,.int .i64 y] 114 (0,0)):=by
 have h1:=heap_setCell_same W b 0 _ 114 (.bool q) h
 have h2:=heap_setCell_same _ b 1 _ 114 (.int .i64 y) h1
 exact h2
set_option maxRecDepth 100000 in
theorem with_any (k st so dm ep:Int) (h:Bool) (x v:Int) (w:World):Calls Tryz.prog 98 #[.agg #[.int .u8 k,.int .i64 st,.int .i64 so,.int .i64 dm,.int .i64 ep],.agg #[.bool h,.int .i64 x],.int .i64 v] w fun e w' => e = .returned (.agg #[.bool true,.int .i64 (nxt k (h,x) v)])/\Below w.heap.size w w':=by
 obtain ⟨r,hr⟩:∃ r,nxt k (h,x) v = r:=⟨_,rfl⟩
 rw [hr]
 have HR:=jH hr; clear hr
 obtain ⟨W1,hW1⟩:∃ W1,W1 = ((w.alloc (.cells #[.int .u8 k,.int .i64 st,.int .i64 so,.int .i64 dm,.int .i64 ep] 40)).alloc (.cells #[.bool h,.int .i64 x] 114)).alloc (.cells #[.bool false,.int .i64 0] 114):=⟨_,rfl⟩
 have hal:=al3 w (.cells #[.int .u8 k,.int .i64 st,.int .i64 so,.int .i64 dm,.int .i64 ep] 40) (.cells #[.bool h,.int .i64 x] 114) (.cells #[.bool false,.int .i64 0] 114)
 rw [<- hW1] at hal
 obtain ⟨b0,e0⟩:∃ b0,b0 = w.heap.size:=⟨_,rfl⟩
 obtain ⟨b1,e1⟩:∃ b1,b1 = w.heap.size + 1:=⟨_,rfl⟩
 obtain ⟨b2,e2⟩:∃ b2,b2 = w.heap.size + 2:=⟨_,rfl⟩
 obtain ⟨x0,x1,x2,hb⟩:=hal
 rw [<- e0] at x0; rw [<- e1] at x1; rw [<- e2] at x2
 have X0:=jH x0; have X1:=jH x1; have X2:=jH x2; have HB:=jH hb
 have HGE:Hid (w.heap.size <= b2):=jH (by omega)
 clear x0 x1 x2 hb
 cases h
 ·have e3:v = r:=HR.out
  subst e3
  clear HR
  go_enter Tryz.func98,Tryz.ntmps98
  go_upto_region 1 with fail
  rw [<- hW1]
  rw [show w.heap.size + 2 = b2 from e2.symm,show w.heap.size + 1 = b1 from e1.symm,show w.heap.size = b0 from e0.symm]
  clear hW1 e0 e1 e2
  obtain ⟨m0,m1,_⟩:=ml_cells X1.out
  obtain ⟨u0,u1,uf,_⟩:=ml_cells X2.out
  go_wp2_with fail
  have hp:=put_ml X2.out true v
  obtain ⟨k0,k1,_⟩:=ml_cells hp
  have hB5:Below w.heap.size w ((W1.setCell ⟨b2,0,none⟩ (.bool true)).setCell ⟨b2,1,none⟩ (.int .i64 v)):=(HB.out.setCell (p:=⟨b2,0,none⟩) HGE.out _).setCell (p:=⟨b2,1,none⟩) HGE.out _
  exact bodyPost_ret (v:=.agg #[.bool true,.int .i64 v]) (by simp [results,Tryz.results98,go_sem,k0,k1]) rfl ⟨rfl,hB5⟩
 ·have e3:comb k x v = r:=HR.out
  have HC:=jH (fun W => comb_any k st so dm ep x v W)
  rw [e3] at HC
  clear HR e3
  go_enter Tryz.func98,Tryz.ntmps98
  go_upto_region 1 with fail
  rw [<- hW1]
  rw [show w.heap.size + 2 = b2 from e2.symm,show w.heap.size + 1 = b1 from e1.symm,show w.heap.size = b0 from e0.symm]
  clear hW1 e0 e1 e2
  obtain ⟨m0,m1,_⟩:=ml_cells X1.out
  obtain ⟨j0,j1,j2,j3,j4,_⟩:=jb_cells X0.out
  go_wp2_with fail
  refine (HC.out _).mono ?_
  rintro e w2 ⟨rfl,hb2⟩
  clear m0 m1 j0 j1 j2 j3 j4
  have Y2:=jK X2 hb2
  have HB2:=jS HB hb2
  clear hb2
  obtain ⟨u0,u1,uf,_⟩:=ml_cells Y2.out
  go_wp2_with fail
  have hp:=put_ml Y2.out true r
  obtain ⟨k0,k1,_⟩:=ml_cells hp
  have hB5:Below w.heap.size w ((w2.setCell ⟨b2,0,none⟩ (.bool true)).setCell ⟨b2,1,none⟩ (.int .i64 r)):=(HB2.out.setCell (p:=⟨b2,0,none⟩) HGE.out _).setCell (p:=⟨b2,1,none⟩) HGE.out _
  exact bodyPost_ret (v:=.agg #[.bool true,.int .i64 r]) (by simp [results,Tryz.results98,go_sem,k0,k1]) rfl ⟨rfl,hB5⟩
open Go.RowKit Go.Sort Gr Wd Ws Lb Al
def kc (m:Ml):List Value:=[.bool m.1,.int .i64 m.2]
theorem kc_len (m:Ml):(kc m).length = 2:=rfl
def kcs (L:List Ml):List Value:=L.flatMap kc
theorem kcs_append (a b:List Ml):kcs (a ++ b) = kcs a ++ kcs b:=by simp [kcs]
theorem kcs_at:∀ (L:List Ml) (k:Nat) (e:Ml),L[k]? = some e->(kcs L)[k * 2]? = some (.bool e.1)/\(kcs L)[k * 2 + 1]? = some (.int .i64 e.2)
 | [],k,e,h => by simp at h
 | x :: L,0,e,h => by
  simp at h; subst h
  exact ⟨rfl,rfl⟩
 | x :: L,k + 1,e,h => by
  have h':L[k]? = some e:=by simpa using h
  obtain ⟨h0,h1⟩:=kcs_at L k e h'
  have key:∀ j,(kcs (x :: L))[j + 2]? = (kcs L)[j]?:=fun j => by
   show (kc x ++ kcs L)[j + 2]? = _
   rw [List.getElem?_append_right (by rw [kc_len]; omega),kc_len]; congr 1
  refine ⟨?_,?_⟩
  ·rw [show (k + 1) * 2 = k * 2 + 2 by omega,key]; exact h0
  ·rw [show (k + 1) * 2 + 1 = k * 2 + 1 + 2 by omega,key]; exact h1
def KAt (w:World) (A:Option Addr) (L:List Ml):Prop:=∀ (k:Nat) (e:Ml),L[k]? = some e->∃ bk o,A = some ⟨bk,o,none⟩ /\
 w.cell? ⟨bk,o + k * 2,none⟩ = some (.bool e.1)/\w.cell? ⟨bk,o + k * 2 + 1,none⟩ = some (.int .i64 e.2)
theorem KAt.below {w w':World} {A:Option Addr} {L:List Ml} (h:KAt w A L) (hb:Below w.heap.size w w'):KAt w' A L:=by
 intro k e hx
 obtain ⟨bk,o,hA,c0,c1⟩:=h k e hx
 exact ⟨bk,o,hA,(hb.cell (block_lt_of_cell c0)).trans c0,(hb.cell (block_lt_of_cell c1)).trans c1⟩
theorem KAt.nil (w:World) (A:Option Addr):KAt w A []:=fun k e h => by simp at h
theorem KAt.take {w:World} {A:Option Addr} {L:List Ml} (h:KAt w A L) (k:Nat):KAt w A (L.take k):=fun i e hi => h i e (by
 rw [List.getElem?_take] at hi; split at hi
 ·exact hi
 ·cases hi)
theorem KAt.drop {w:World} {g o:Nat} {L:List Ml} (h:KAt w (some ⟨g,o,none⟩) L) (k:Nat):KAt w (some ⟨g,o + k * 2,none⟩) (L.drop k):=fun i e hi => by
 rw [List.getElem?_drop] at hi
 obtain ⟨bk,o',e1,c0,c1⟩:=h (k + i) e hi
 cases e1
 rw [Nat.add_mul,<- Nat.add_assoc] at c0 c1
 exact ⟨g,o + k * 2,rfl,c0,c1⟩
def KOwn (w:World) (B:Nat) (v:Value) (L:List Ml):Prop:=w.ownsRow B 114 2 v L.length (kcs L)
theorem KOwn.none_ (w:World) (B:Nat):KOwn w B (.slice none 0 0) []:=World.ownsRow_nil _ _ _ _
theorem KOwn.below {w w':World} {B:Nat} {v:Value} {L:List Ml} (h:KOwn w B v L) (hb:Below w.heap.size w w'):KOwn w' B v L:=own_below h hb
theorem KOwn.alloc {w:World} {B:Nat} {v:Value} {L:List Ml} (h:KOwn w B v L) (o:Obj):KOwn (w.alloc o) B v L:=World.ownsRow.alloc h o
theorem KOwn.mono {w:World} {B B':Nat} {v:Value} {L:List Ml} (h:KOwn w B v L) (hb:B' <= B):KOwn w B' v L:=own_mono h hb
theorem KOwn.room {w:World} {B:Nat} {v:Value} {L:List Ml} (h:KOwn w B v L):∃ A c,v = .slice A L.length c/\KAt w A L/\L.length <= c/\c <= maxLen/\((A = none/\c = 0)\/∃ g,A = some ⟨g,0,none⟩/\B <= g/\g < w.heap.size/\∀ j,w.frozen? ⟨g,j,none⟩ = false):=by
 obtain ⟨h0,h1 | ⟨g,cap,cur,h1,h2,h3,h4,h5,h6,h7⟩⟩:=h
 ·have:L = []:=List.eq_nil_of_length_eq_zero h1.2
  subst this
  exact ⟨none,0,h1.1,KAt.nil _ _,Nat.le_refl _,Nat.zero_le _,Or.inl ⟨rfl,rfl⟩⟩
 ·refine ⟨some ⟨g,0,none⟩,cap,h1,fun k e hx => ?_,h4,h5,Or.inr ⟨g,rfl,h2,lt_of_block h3,fun j => Lib.frozen_of_heap h3 j⟩⟩
  have hk:=lt_at hx
  have key:∀ j,j < L.length * 2->w.cell? ⟨g,0 + j,none⟩ = (kcs L)[j]?:=fun j hj => by
   rw [Nat.zero_add,cell_of_row w g j _ 114 (0,0) h3]
   have e1:cur[j]? = (cur.toList.take (L.length * 2))[j]?:=by
    rw [List.getElem?_take,if_pos hj,Array.getElem?_toList]
   rw [e1,h7]
  obtain ⟨a0,a1⟩:=kcs_at L k e hx
  refine ⟨g,0,rfl,?_,?_⟩
  ·rw [key _ (by omega)]; exact a0
  ·rw [Nat.add_assoc,key _ (by omega)]; exact a1
theorem KOwn.lt {w:World} {B:Nat} {v:Value} {L:List Ml} (h:KOwn w B v L) (j:Nat) (e:v.ownBlock = some j):B <= j:=(own_lt h j e).1
theorem infoK:(Tryz.prog.info? 114).map (fun i => (i.zero,i.size,i.bytes)) = some (some (.agg #[.bool false,.int .i64 0]),2,16):=by kernel_rfl
theorem app_k {w:World} {ops:Array Oper} {rest:List Oper} {o:Oper} {a:Act} {Q:Exit->Act->World->Prop} (hgd:o.guard = none) (s x:Operand)
 (ho:o.op = .call { callee:=.builtin .append,args:=#[s,x],argTypes:=#[43,43] }) (B:Nat) (v:Value) (L:List Ml) (e0:Bool) (e1:Int) (hs:a.eval s = v) (hown:KOwn w B v L)
 (g:Nat) (hx:a.eval x = .slice (some ⟨g,0,none⟩) 1 1) (hg:w.heap[g]? = some (.cells #[.bool e0,.int .i64 e1] 114 (0,0))) (hn:L.length < 1000000000) (hB:B <= w.heap.size)
 (h:∀ v' w',KOwn w' B v' (L ++ [(e0,e1)])->w.grownBy w' v.ownBlock->wpList Tryz.prog ops Q rest (a.put o.dst v') w'):wpList Tryz.prog ops Q (o :: rest) a w:=by
 obtain ⟨i0,hi,hz0,hz1,hz2⟩:=info_parts infoK
 refine wpList_append_own w hgd s x 43 ho B 114 i0 _ 2 16 Tryz.underlying43 hi hz0 hz1 hz2 rfl (by decide) v L.length (kcs L) hs hown ⟨g,0,none⟩ 1 1 (kc (e0,e1)) hx rfl ?_ ?_ ?_ ?_ hB ?_
 ·intro j u hu
  rw [add_plain,Lib.cell_of_heap hg]
  rcases j with _ | _ | j
  ·simpa [kc] using hu
  ·simpa [kc] using hu
  ·simp [kc] at hu
 ·intro u hu
  simp only [kc,List.mem_cons,List.not_mem_nil,or_false] at hu
  rcases hu with rfl | rfl <;> rfl
 ·unfold maxLen; omega
 ·omega
 ·intro v' w' h1 h2 _
  refine h v' w' ?_ h2
  unfold KOwn
  rw [kcs_append,List.length_append]
  have:kcs [(e0,e1)] = kc (e0,e1):=by simp [kcs]
  rw [this]; exact h1
open Go.RowKit Go.Maps Gr Wd Ws Fx Rk Lb Al
def eqM (a b:Ml):Bool:=a.1 == b.1 && (!a.1 || a.2 == b.2)
theorem sameB_cons (x y:Ml) (a b:List Ml):sameB (x :: a) (y :: b) = (eqM x y && sameB a b):=by
 unfold sameB eqM
 simp only [List.length_cons,List.zip_cons_cons,List.all_cons]
 cases h:(a.length == b.length) <;> simp at h <;> simp [h]
theorem sameB_len {a b:List Ml} (h:a.length ≠ b.length):sameB a b = false:=by
 unfold sameB
 rw [show (a.length == b.length) = false by simpa using h]; rfl
set_option maxRecDepth 100000 in
theorem sameMail_any (p:Bool) (x:Int) (q:Bool) (y:Int) (w:World):Calls Tryz.prog 84 #[.agg #[.bool p,.int .i64 x],.agg #[.bool q,.int .i64 y]] w fun e w' => e = .returned (.bool (eqM (p,x) (q,y)))/\Below w.heap.size w w':=by
 obtain ⟨r,hr⟩:∃ r,eqM (p,x) (q,y) = r:=⟨_,rfl⟩
 rw [hr]
 have HR:=jH hr; clear hr
 have hal:=al2 w (.cells #[.bool p,.int .i64 x] 114) (.cells #[.bool q,.int .i64 y] 114)
 obtain ⟨W1,hW1⟩:∃ W1,W1 = (w.alloc (.cells #[.bool p,.int .i64 x] 114)).alloc (.cells #[.bool q,.int .i64 y] 114):=⟨_,rfl⟩
 rw [<- hW1] at hal
 obtain ⟨b0,e0⟩:∃ b0,b0 = w.heap.size:=⟨_,rfl⟩
 obtain ⟨b1,e1⟩:∃ b1,b1 = w.heap.size + 1:=⟨_,rfl⟩
 obtain ⟨x0,x1,hb⟩:=hal
 rw [<- e0] at x0; rw [<- e1] at x1
 have HB:=jH hb
 obtain ⟨m0,m1,_⟩:=ml_cells x0
 obtain ⟨n0,n1,_⟩:=ml_cells x1
 clear hb x0 x1
 cases p <;> cases q
 ·have e3:r = true:=HR.out.symm
  subst e3
  go_enter Tryz.func84,Tryz.ntmps84
  go_upto_region 1 with fail
  rw [<- hW1,show w.heap.size + 1 = b1 from e1.symm,show w.heap.size = b0 from e0.symm]
  clear hW1 e0 e1
  go_wp2
  go_ret
  exact ⟨rfl,HB.out⟩
 ·have e3:r = false:=HR.out.symm
  subst e3
  go_enter Tryz.func84,Tryz.ntmps84
  go_upto_region 1 with fail
  rw [<- hW1,show w.heap.size + 1 = b1 from e1.symm,show w.heap.size = b0 from e0.symm]
  clear hW1 e0 e1
  go_wp2
  go_ret
  exact ⟨rfl,HB.out⟩
 ·have e3:r = false:=HR.out.symm
  subst e3
  go_enter Tryz.func84,Tryz.ntmps84
  go_upto_region 1 with fail
  rw [<- hW1,show w.heap.size + 1 = b1 from e1.symm,show w.heap.size = b0 from e0.symm]
  clear hW1 e0 e1
  go_wp2
  go_ret
  exact ⟨rfl,HB.out⟩
 ·by_cases hxy:x = y
  ·have e3:r = true:=by rw [<- HR.out]; unfold eqM; simp [hxy]
   subst e3
   subst hxy
   go_enter Tryz.func84,Tryz.ntmps84
   go_upto_region 1 with fail
   rw [<- hW1,show w.heap.size + 1 = b1 from e1.symm,show w.heap.size = b0 from e0.symm]
   clear hW1 e0 e1
   go_wp2
   go_ret
   exact ⟨rfl,HB.out⟩
  ·have e3:r = false:=by rw [<- HR.out]; unfold eqM; simp [hxy]
   subst e3
   have hq:(x == y) = false:=by simpa using hxy
   go_enter Tryz.func84,Tryz.ntmps84
   go_upto_region 1 with fail
   rw [<- hW1,show w.heap.size + 1 = b1 from e1.symm,show w.heap.size = b0 from e0.symm]
   clear hW1 e0 e1
   go_wp2
   go_ret
   exact ⟨rfl,HB.out⟩
def EqRel (w:World) (a b:List Ml) (gk:Nat) (i:Value) (wr:World):Prop :=
 ∃ q:Nat,q + gk = a.length/\i = .int .i64 (q:Int)/\Hid (Below w.heap.size w wr)/\Hid (sameB a b = sameB (a.drop q) (b.drop q))
set_option maxRecDepth 100000 in
set_option maxHeartbeats 4000000 in
theorem equalFunc_any (A B:Option Addr) (n m c d:Nat) (a b:List Ml) (w:World) (hA:KAt w A a) (hB:KAt w B b) (hn:a.length = n) (hm:b.length = m) (hn2:n <= 9223372036854775807) (hm2:m <= 9223372036854775807) :
 Calls Tryz.prog 83 #[.slice A n c,.slice B m d,.func (.func 84) #[] #[]] w fun e w' => e = .returned (.bool (sameB a b))/\Hid (Below w.heap.size w w'):=by
 have HA:=jH hA; have HBb:=jH hB; have HN:=jH hn; have HM:=jH hm
 clear hA hB hn hm
 obtain ⟨r,hr⟩:∃ r,sameB a b = r:=⟨_,rfl⟩
 rw [hr]
 have HR:=jH hr; clear hr
 by_cases hnm:n = m
 ·subst hnm
  go_enter Tryz.func83,Tryz.ntmps83
  go_wp2
  go_loopg [17] n (fun gk i wr => EqRel w a b gk i wr)
  case atStart => exact ⟨0,by have:=HN.out; omega,rfl,jH (Below.refl _ w),jH rfl⟩
  case round =>
   obtain ⟨q,hq,rfl,HB,HD⟩:=hrel
   rw [HN.out] at hq
   by_cases hlt:q < n
   ·obtain ⟨⟨p,x⟩,hp⟩:=at_lt a q (by rw [HN.out]; exact hlt)
    obtain ⟨⟨s,y⟩,hs⟩:=at_lt b q (by rw [HM.out]; exact hlt)
    obtain ⟨bk,o,rfl,c0,c1⟩:=(HA.out.below HB.out) q _ hp
    obtain ⟨bk',o',rfl,d0,d1⟩:=(HBb.out.below HB.out) q _ hs
    simp only at c0 c1 d0 d1
    have HD2:Hid (sameB a b = (eqM (p,x) (s,y) && sameB (a.drop (q + 1)) (b.drop (q + 1)))):=jH (by rw [HD.out,drop_at hp,drop_at hs,sameB_cons])
    obtain ⟨t,ht⟩:∃ t,eqM (p,x) (s,y) = t:=⟨_,rfl⟩
    have HC:=jH (fun W => sameMail_any p x s y W)
    rw [ht] at HC HD2
    clear hp hs ht HD
    go_upto_region 6 with fail
    obtain ⟨W1,hW1⟩:∃ W1,W1 = wr.alloc (.cells #[.bool p,.int .i64 x] 114):=⟨_,rfl⟩
    have x0:W1.heap[wr.heap.size]? = some (.cells #[.bool p,.int .i64 x] 114 (0,0)):=by rw [hW1]; exact heap_alloc_new wr _
    have hb1:Below wr.heap.size wr W1:=by rw [hW1]; exact (Below.refl _ wr).alloc (Nat.le_refl _) _
    rw [<- hW1]
    have d0':=(hb1.cell (block_lt_of_cell d0)).trans d0
    have d1':=(hb1.cell (block_lt_of_cell d1)).trans d1
    obtain ⟨b0,e0⟩:∃ b0,b0 = wr.heap.size:=⟨_,rfl⟩
    rw [<- e0] at x0 ⊢
    have HB1:=jS HB hb1
    clear c0 c1 d0 d1 hW1 e0 hb1
    go_upto_region 7 with fail
    obtain ⟨W2,hW2⟩:∃ W2,W2 = W1.alloc (.cells #[.bool s,.int .i64 y] 114):=⟨_,rfl⟩
    have x1:W2.heap[W1.heap.size]? = some (.cells #[.bool s,.int .i64 y] 114 (0,0)):=by rw [hW2]; exact heap_alloc_new W1 _
    have hb2:Below W1.heap.size W1 W2:=by rw [hW2]; exact (Below.refl _ W1).alloc (Nat.le_refl _) _
    rw [<- hW2]
    have x0':=keep x0 hb2
    obtain ⟨b1,e1⟩:∃ b1,b1 = W1.heap.size:=⟨_,rfl⟩
    rw [<- e1] at x1 ⊢
    have HB2:=jS HB1 hb2
    obtain ⟨m0,m1,_⟩:=ml_cells x0'
    obtain ⟨n0,n1,_⟩:=ml_cells x1
    clear x0 x0' x1 hW2 e1 hb2 d0' d1'
    go_wp2_with fail
    refine (HC.out _).mono ?_
    rintro e w3 ⟨rfl,hb3⟩
    have HB3:=jS HB2 hb3
    clear hb3 m0 m1 n0 n1
    cases t with
    | true =>
     have HD3:Hid (sameB a b = sameB (a.drop (q + 1)) (b.drop (q + 1))):=jH (by rw [HD2.out]; rfl)
     go_wp2
     go_roundg (gk - 1)
     case measure => omega
     case rel => exact ⟨q + 1,by have:=HN.out; omega,by go_num,HB3,HD3⟩
    | false =>
     have e3:r = false:=by rw [<- HR.out,HD2.out]; rfl
     subst e3
     go_wp2
     go_ret
     exact ⟨rfl,HB3⟩
   ·have e3:r = true:=by
     rw [<- HR.out,HD.out,List.drop_eq_nil_of_le (by rw [HN.out]; omega),List.drop_eq_nil_of_le (by rw [HM.out]; omega)]; rfl
    subst e3
    go_wp2
    go_ret
    exact ⟨rfl,HB⟩
 ·have e3:r = false:=by rw [<- HR.out]; exact sameB_len (by rw [HN.out,HM.out]; exact hnm)
  subst e3
  go_enter Tryz.func83,Tryz.ntmps83
  go_wp2
  go_ret
  exact ⟨rfl,jH (Below.refl _ w)⟩
set_option maxRecDepth 100000 in
theorem same_any (A B:Option Addr) (n m c d:Nat) (a b:List Ml) (w:World) (hA:KAt w A a) (hB:KAt w B b) (hn:a.length = n) (hm:b.length = m) (hn2:n <= 9223372036854775807) (hm2:m <= 9223372036854775807) :
 Calls Tryz.prog 63 #[.slice A n c,.slice B m d] w fun e w' => e = .returned (.bool (sameB a b))/\Hid (Below w.heap.size w w'):=by
 have HC:=jH (fun W (h:Below w.heap.size w W) => equalFunc_any A B n m c d a b W (hA.below h) (hB.below h) hn hm hn2 hm2)
 obtain ⟨r,hr⟩:∃ r,sameB a b = r:=⟨_,rfl⟩
 rw [hr] at HC ⊢
 clear hA hB hn hm hr
 go_enter Tryz.func63,Tryz.ntmps63
 go_wp2_with fail
 refine (HC.out _ (Below.refl _ w)).mono ?_
 rintro e w' ⟨rfl,hb⟩
 go_wp2
 go_ret
 exact ⟨rfl,hb⟩
open Go.RowKit Go.Maps Gr Wd Ws Fx Rk Lb Al
def RMs (w:World) (A:Option Addr) (Ls:List (List Ms)):Prop:=∀ (k:Nat) (L:List Ms),Ls[k]? = some L->∃ bk o A' c,A = some ⟨bk,o,none⟩/\w.cell? ⟨bk,o + k,none⟩ = some (.slice A' L.length c)/\MAt w A' L
theorem RMs.below {w w':World} {A:Option Addr} {Ls:List (List Ms)} (h:RMs w A Ls) (hb:Below w.heap.size w w'):RMs w' A Ls:=fun k L hk => by
 obtain ⟨bk,o,A',c,e,c0,hm⟩:=h k L hk
 exact ⟨bk,o,A',c,e,(hb.cell (block_lt_of_cell c0)).trans c0,hm.below hb⟩
def ToIn (L:List Ms):Prop:=∀ e ∈ L,-9223372036854775808 <= e.1/\e.1 <= 9223372036854775807
theorem flat_at {Ls:List (List Ms)} {q:Nat} {L:List Ms} (h:Ls[q]? = some L):Ls.flatten = (Ls.take q).flatten ++ (L ++ (Ls.drop (q + 1)).flatten):=by
 rw [<- List.flatten_cons,<- drop_at h,<- List.flatten_append,List.take_append_drop]
theorem flat_next {Ls:List (List Ms)} {q:Nat} {L:List Ms} (h:Ls[q]? = some L):(Ls.take (q + 1)).flatten = (Ls.take q).flatten ++ L:=by
 rw [take_at h,List.flatten_append]; simp
structure TgH (w wr:World) (b M:Nat) (k st so dm ep:Int) (L:List Ms):Prop where
 below:Below w.heap.size w wr
 box:wr.heap[b]? = some (.cells #[.int .u8 k,.int .i64 st,.int .i64 so,.int .i64 dm,.int .i64 ep] 40 (0,0))
 map:CM wr M k L
theorem TgH.step {w w1 w2:World} {b M:Nat} {k st so dm ep:Int} {L:List Ms} (h:TgH w w1 b M k st so dm ep L) (hb:Below w1.heap.size w1 w2):TgH w w2 b M k st so dm ep L :=
 ⟨step_below h.below h.below.size hb,keep h.box hb,h.map.below hb⟩
theorem TgH.grown {w w1 w2:World} {b M:Nat} {k st so dm ep:Int} {L L':List Ms} (h:TgH w w1 b M k st so dm ep L) (hg:w1.grownBy w2 (some M)) (hm:CM w2 M k L') (hM:w.heap.size <= M) (hn:b ≠ M):TgH w w2 b M k st so dm ep L' :=
 ⟨Below.grown h.below hg h.below.size (fun j e => by cases e; exact hM),(hg.block b (lt_of_block h.box) (fun e => hn (by cases e; rfl))).trans h.box,hm⟩
def T1Rel (w:World) (b M:Nat) (k st so dm ep:Int) (Ls:List (List Ms)) (gk:Nat) (i:Value) (wr:World):Prop :=
 ∃ q:Nat,q + gk = Ls.length/\i = .int .i64 (q:Int)/\Hid (TgH w wr b M k st so dm ep (Ls.take q).flatten)
def T2Rel (w:World) (b M:Nat) (k st so dm ep:Int) (P L:List Ms) (gk:Nat) (i:Value) (wr:World):Prop :=
 ∃ q:Nat,q + gk = L.length/\i = .int .i64 (q:Int)/\Hid (TgH w wr b M k st so dm ep (P ++ L.take q))
theorem mb_alloc (w:World) (t y:Int):(w.alloc (.cells #[.int .i64 t,.int .i64 y] 155)).heap[w.heap.size]? = some (.cells #[.int .i64 t,.int .i64 y] 155 (0,0)):=heap_alloc_new w _
set_option maxRecDepth 100000 in
set_option maxHeartbeats 4000000 in
theorem together_any (k st so dm ep:Int) (A:Option Addr) (c:Nat) (Ls:List (List Ms)) (w:World) (hR:RMs w A Ls) (hT:ToIn Ls.flatten) (hn:Ls.length <= 9223372036854775807) (hF:Ls.flatten.length < 1000000000) :
 Calls Tryz.prog 91 #[.agg #[.int .u8 k,.int .i64 st,.int .i64 so,.int .i64 dm,.int .i64 ep],.slice A Ls.length c] w fun e w' => (∃ M,e = .returned (.map (some M))/\Hid (w.heap.size <= M)/\Hid (CM w' M k Ls.flatten))/\Hid (Below w.heap.size w w'):=by
 have mixed:=mixedI
 have HR:=jH hR; have HT:=jH hT; have HF:=jH hF; clear hR hT hF
 obtain ⟨n,hn'⟩:∃ n,n = Ls.length:=⟨_,rfl⟩
 rw [<- hn'] at hn ⊢
 have HN:=jH hn'; clear hn'
 obtain ⟨W1,hW1⟩:∃ W1,W1 = (w.alloc (.cells #[.int .u8 k,.int .i64 st,.int .i64 so,.int .i64 dm,.int .i64 ep] 40)).alloc (.map #[] 0):=⟨_,rfl⟩
 have hal:=al2 w (.cells #[.int .u8 k,.int .i64 st,.int .i64 so,.int .i64 dm,.int .i64 ep] 40) (.map #[] 0)
 have hcm:CM W1 (w.heap.size + 1) k []:=by
  have:=CM.made (w.alloc (.cells #[.int .u8 k,.int .i64 st,.int .i64 so,.int .i64 dm,.int .i64 ep] 40)) k
  rw [show (w.alloc (.cells #[.int .u8 k,.int .i64 st,.int .i64 so,.int .i64 dm,.int .i64 ep] 40)).heap.size = w.heap.size + 1 by simp] at this
  rw [hW1]; exact this
 rw [<- hW1] at hal
 obtain ⟨b,eb⟩:∃ b,b = w.heap.size:=⟨_,rfl⟩
 obtain ⟨M,eM⟩:∃ M,M = w.heap.size + 1:=⟨_,rfl⟩
 rw [<- eM] at hcm
 have HH1:Hid (TgH w W1 b M k st so dm ep []):=jH ⟨hal.2.2,by rw [eb]; exact hal.1,hcm⟩
 have HGM:Hid (w.heap.size <= M):=jH (by omega)
 have HBM:Hid (b ≠ M):=jH (by omega)
 clear hal hcm
 have hmm:=@run_makeMap Tryz.prog
 go_enter Tryz.func91,Tryz.ntmps91
 go_upto_region 2 with fail
 rw [<- hW1]
 rw [show w.heap.size + 1 = M from eM.symm,show w.heap.size = b from eb.symm]
 clear hW1 eM eb
 go_wp2_with fail
 go_loopg [13] n (fun gk i wr => T1Rel w b M k st so dm ep Ls gk i wr)
 case atStart => exact ⟨0,by have:=HN.out; omega,rfl,jH (by simpa using HH1.out)⟩
 case round =>
  clear HH1
  obtain ⟨q,hq,rfl,HH⟩:=hrel
  rw [<- HN.out] at hq
  by_cases hlt:q < n
  ·obtain ⟨L,hL⟩:=at_lt Ls q (by rw [<- HN.out]; exact hlt)
   obtain ⟨bk,o,A',c',rfl,c00,hm⟩:=HR.out q L hL
   have c0:=(HH.out.below.cell (block_lt_of_cell c00)).trans c00
   clear c00
   have HL:=jH hL; have HM:=jH hm
   obtain ⟨m,hm'⟩:∃ m,m = L.length:=⟨_,rfl⟩
   rw [<- hm'] at c0
   have HMN:=jH hm'
   have hmb:m <= 1000000000:=by
    have:=congrArg List.length (flat_at hL)
    simp only [List.length_append] at this
    have:=HF.out; omega
   clear hL hm hm'
   go_wp2_with fail
   clear c0
   obtain ⟨G0,rfl⟩:∃ G0:Nat,G0 = gk:=⟨_,rfl⟩
   go_loopg [19] m (fun gk i wr => T2Rel w b M k st so dm ep (Ls.take q).flatten L gk i wr)
   case atStart => exact ⟨0,by have:=HMN.out; omega,rfl,jH (by simpa using HH.out)⟩
   case round =>
    obtain ⟨j,hj,rfl,HH2⟩:=hrel
    rw [<- HMN.out] at hj
    by_cases hlt2:j < m
    ·obtain ⟨⟨t,y⟩,he⟩:=at_lt L j (by rw [<- HMN.out]; exact hlt2)
     obtain ⟨bk2,o2,rfl,c0,c1⟩:=(HM.out.below HH2.out.below) j _ he
     simp only at c0 c1
     have ht:-9223372036854775808 <= t/\t <= 9223372036854775807:=HT.out (t,y) (by
      rw [flat_at HL.out]
      exact List.mem_append_right _ (List.mem_append_left _ (List.mem_of_getElem? he)))
     obtain ⟨K,hK⟩:∃ K,K = (Ls.take q).flatten ++ L.take j:=⟨_,rfl⟩
     have hKn:K.length < 1000000000:=by
      have:=congrArg List.length (flat_at HL.out)
      simp only [List.length_append] at this
      rw [hK,List.length_append,List.length_take]
      have:=HF.out; omega
     have HNX:Hid (K ++ [(t,y)] = (Ls.take q).flatten ++ L.take (j + 1)):=jH (by rw [take_at he,hK,List.append_assoc])
     rw [<- hK] at HH2
     obtain ⟨⟨h,x⟩,hx⟩:∃ hx:Ml,mlOf (mailM k t K) = hx:=⟨_,rfl⟩
     obtain ⟨r,hr⟩:∃ r,nxt k (h,x) y = r:=⟨_,rfl⟩
     have HY:Hid (mailM k t (K ++ [(t,y)]) = some r):=jH (by rw [nxt_mail,hx,hr])
     have HW:Hid (Below wr.heap.size wr (wr.alloc (.cells #[.int .i64 t,.int .i64 y] 155))):=jH ((Below.refl _ wr).alloc (Nat.le_refl _) _)
     have HE:=jH (mb_alloc wr t y)
     have HKN:=jH hKn; have HTT:=jH ht; have HX:=jH hx; have HRr:=jH hr
     clear he hK hKn ht hx hr
     go_upto_region 8 with fail
     obtain ⟨W1,hW1⟩:∃ W1,W1 = wr.alloc (.cells #[.int .i64 t,.int .i64 y] 155):=⟨_,rfl⟩
     rw [<- hW1] at HW HE ⊢
     obtain ⟨eb,heb⟩:∃ eb,eb = wr.heap.size:=⟨_,rfl⟩
     rw [<- heb] at HE ⊢
     have HH5:=jH (HH2.out.step HW.out)
     obtain ⟨p0,p1,_⟩:=msg_cells HE.out
     obtain ⟨j0,j1,j2,j3,j4,_⟩:=jb_cells HH5.out.box
     have z0:=cell_regrown p0; have z1:=cell_regrown p1
     have y0:=cell_regrown j0; have y1:=cell_regrown j1; have y2:=cell_regrown j2; have y3:=cell_regrown j3; have y4:=cell_regrown j4
     have hlk:∀ (d:Nat) (os:Array Obj),(Instr.lookup 150 (.map (some M)) (.int .i64 t) false).run Tryz.prog (Sort.grow (redrawn W1 d) os) = .ok (.agg #[.bool h,.int .i64 x]) (Sort.grow (redrawn W1 d) os):=fun d os => by
      have:=(HH5.out.map.below (below_regrown W1 d os)).look HTT.out
      rw [HX.out] at this; exact this
     have hC:=regr fun W (_:Below W1.heap.size W1 W) => with_any k st so dm ep h x y W
     rw [HRr.out] at hC
     have C1:=jH hC
     clear hC p0 p1 c0 c1 hW1 heb j0 j1 j2 j3 j4
     refine Tl.region_tail_below 11 mixed (by kernel_rfl) ?_
     simp only [List.take_succ_cons,List.take_zero,List.drop_succ_cons,List.drop_zero]
     repeat (go_big_quiet_step ((with_reducible first | exact C1.out _ _)))
     refine wpQuiet_nil ?_
     intro _ hw'
     obtain ⟨⟨dq,osq⟩,hw''⟩:=hw'
     subst hw''
     obtain ⟨W4,hW4⟩:∃ W4,W4 = Sort.grow (redrawn W1 dq) osq:=⟨_,rfl⟩
     have hb4:Below W1.heap.size W1 W4:=by rw [hW4]; exact below_regrown W1 dq osq
     rw [<- hW4]
     have HH6:=jH (HH5.out.step hb4)
     obtain ⟨W5,hup,hcm,hg5⟩:=HH6.out.map.store y r HTT.out HKN.out HY.out
     unfold mlV at hup
     simp only at hup
     rw [HNX.out] at hcm
     have HH7:=jH (HH6.out.grown hg5 hcm HGM.out HBM.out)
     clear hb4 hW4 z0 z1 y0 y1 y2 y3 y4 hlk C1 hcm hg5
     go_wp2
     go_roundg (gk - 1)
     case measure => omega
     case rel => exact ⟨j + 1,by have:=HMN.out; omega,by go_num,HH7⟩
    ·have HH3:Hid (TgH w wr b M k st so dm ep (Ls.take (q + 1)).flatten):=jH (by
      have:=HH2.out
      rwa [show j = L.length by have:=HMN.out; omega,List.take_length,<- flat_next HL.out] at this)
     go_wp2
     go_roundg (G0 - 1)
     case measure => omega
     case rel => exact ⟨q + 1,by have:=HN.out; omega,by go_num,HH3⟩
  ·have HH3:Hid (TgH w wr b M k st so dm ep Ls.flatten):=jH (by
    have:=HH.out
    rwa [show q = Ls.length by have:=HN.out; omega,List.take_length] at this)
   go_wp2
   go_ret
   exact ⟨⟨M,rfl,HGM,jH HH3.out.map⟩,jH HH3.out.below⟩
open Go.RowKit Go.Maps Gr Wd Ws Fx Rk Lb Al
structure RfH (w wr:World) (b:Nat) (k st so dm ep:Int) (v:Value) (L:List Ms):Prop where
 below:Below w.heap.size w wr
 box:wr.heap[b]? = some (.cells #[.int .u8 k,.int .i64 st,.int .i64 so,.int .i64 dm,.int .i64 ep] 40 (0,0))
 row:MOwn wr w.heap.size v (putM k [] L)
set_option maxRecDepth 100000 in
set_option maxHeartbeats 4000000 in
theorem rsame_any (A B:Option Addr) (n m c d:Nat) (a b:List Ml) (w:World) (hA:KAt w A a) (hB:KAt w B b) (hn:a.length = n) (hm:b.length = m) (hn2:n <= 9223372036854775807) (hm2:m <= 9223372036854775807) :
 Calls Tryz.prog 88 #[.slice A n c,.slice B m d] w fun e w' => e = .returned (.bool (sameB a b))/\Hid (Below w.heap.size w w'):=by
 have mixed:=mixedI
 have HA:=jH hA; have HBb:=jH hB; have HN:=jH hn; have HM:=jH hm
 clear hA hB hn hm
 obtain ⟨r,hr⟩:∃ r,sameB a b = r:=⟨_,rfl⟩
 rw [hr]
 have HR:=jH hr; clear hr
 by_cases hnm:n = m
 ·subst hnm
  go_enter Tryz.func88,Tryz.ntmps88
  go_wp2
  go_loopg [5] n (fun gk i wr => EqRel w a b gk i wr)
  case atStart => exact ⟨0,by have:=HN.out; omega,rfl,jH (Below.refl _ w),jH rfl⟩
  case round =>
   obtain ⟨q,hq,rfl,HB,HD⟩:=hrel
   rw [HN.out] at hq
   by_cases hlt:q < n
   ·obtain ⟨⟨p,x⟩,hp⟩:=at_lt a q (by rw [HN.out]; exact hlt)
    obtain ⟨⟨s,y⟩,hs⟩:=at_lt b q (by rw [HM.out]; exact hlt)
    obtain ⟨bk,o,rfl,c0,c1⟩:=(HA.out.below HB.out) q _ hp
    obtain ⟨bk',o',rfl,d0,d1⟩:=(HBb.out.below HB.out) q _ hs
    simp only at c0 c1 d0 d1
    have HD2:Hid (sameB a b = (eqM (p,x) (s,y) && sameB (a.drop (q + 1)) (b.drop (q + 1)))):=jH (by rw [HD.out,drop_at hp,drop_at hs,sameB_cons])
    clear hp hs HD
    by_cases heq:eqM (p,x) (s,y) = true
    ·have HD3:Hid (sameB a b = sameB (a.drop (q + 1)) (b.drop (q + 1))):=jH (by rw [HD2.out,heq]; rfl)
     cases p <;> cases s
     ·clear heq
      go_wp2_with fail
      go_quiet (fail)
      go_wp2
      go_roundg (gk - 1)
      case measure => omega
      case rel => exact ⟨q + 1,by have:=HN.out; omega,by go_num,jH (Ws.below_drewN HB.out _),HD3⟩
     ·cases heq
     ·cases heq
     ·have hxy:x = y:=by simpa [eqM] using heq
      subst hxy
      clear heq
      go_wp2_with fail
      go_quiet (fail)
      go_wp2
      go_roundg (gk - 1)
      case measure => omega
      case rel => exact ⟨q + 1,by have:=HN.out; omega,by go_num,jH (Ws.below_drewN HB.out _),HD3⟩
    ·have heq2:eqM (p,x) (s,y) = false:=by simpa using heq
     have e3:r = false:=by rw [<- HR.out,HD2.out,heq2]; rfl
     subst e3
     clear HD2 HR heq
     cases p <;> cases s
     ·cases heq2
     ·clear heq2
      go_wp2_with fail
      go_quiet (fail)
      go_wp2
      go_ret
      exact ⟨rfl,jH (Ws.below_drewN HB.out _)⟩
     ·clear heq2
      go_wp2_with fail
      go_quiet (fail)
      go_wp2
      go_ret
      exact ⟨rfl,jH (Ws.below_drewN HB.out _)⟩
     ·have hxy:(x == y) = false:=by simpa [eqM] using heq2
      have hne:¬ x = y:=by simpa using hxy
      clear heq2
      go_wp2_with fail
      go_quiet (fail)
      go_wp2
      go_ret
      exact ⟨rfl,jH (Ws.below_drewN HB.out _)⟩
   ·have e3:r = true:=by
     rw [<- HR.out,HD.out,List.drop_eq_nil_of_le (by rw [HN.out]; omega),List.drop_eq_nil_of_le (by rw [HM.out]; omega)]; rfl
    subst e3
    go_wp2
    go_ret
    exact ⟨rfl,HB⟩
 ·have e3:r = false:=by rw [<- HR.out]; exact sameB_len (by rw [HN.out,HM.out]; exact hnm)
  subst e3
  go_enter Tryz.func88,Tryz.ntmps88
  go_wp2
  go_ret
  exact ⟨rfl,jH (Below.refl _ w)⟩
open Go.RowKit Go.Maps Gr Wd Ws Fx Rk Lb Al
def Off (A:Option Addr) (r:Option Nat):Prop:=∀ a,A = some a->some a.block ≠ r
theorem IAt.grown {w w':World} {A:Option Addr} {l:List Int} {r:Option Nat} (h:IAt w A l) (hg:w.grownBy w' r) (ho:Off A r):IAt w' A l:=by
 intro k x hx
 obtain ⟨bk,o,hA,c⟩:=h k x hx
 refine ⟨bk,o,hA,?_⟩
 have:=hg.block bk (block_lt_of_cell c) (ho _ hA)
 unfold World.cell? at c ⊢
 simp only at c ⊢
 rw [this]; exact c
theorem MAt.grown {w w':World} {A:Option Addr} {l:List Ms} {r:Option Nat} (h:MAt w A l) (hg:w.grownBy w' r) (ho:Off A r):MAt w' A l:=by
 intro k x hx
 obtain ⟨bk,o,hA,c,d⟩:=h k x hx
 have:=hg.block bk (block_lt_of_cell c) (ho _ hA)
 refine ⟨bk,o,hA,?_,?_⟩
 ·unfold World.cell? at c ⊢; simp only at c ⊢; rw [this]; exact c
 ·unfold World.cell? at d ⊢; simp only at d ⊢; rw [this]; exact d
theorem CM.len {w:World} {M:Nat} {k:Int} {L:List Ms} (h:CM w M k L):∃ n:Nat,n <= L.length/\∀ ty,(Builtin.len_ #[150] ty #[.map (some M)]).run Tryz.prog w = .ok (.int .i64 (n:Int)) w:=by
 obtain ⟨D,h1,h2⟩:=h
 exact ⟨Maps.size D,h1.size_le,fun ty => h1.len Tryz.underlying150 ty⟩
theorem CM.grown {w w':World} {M:Nat} {k:Int} {L:List Ms} {r:Option Nat} (h:CM w M k L) (hg:w.grownBy w' r) (hr:some M ≠ r):CM w' M k L:=h.kept (hg.block M h.lt hr)
open Go.RowKit Go.Maps Gr Wd Ws Fx Rk Lb Al
def OwnIn (l:List Int):Prop:=∀ x ∈ l,-9223372036854775808 <= x/\x <= 9223372036854775807
theorem mergeM_take {k:Int} {own:List Int} {rows:List (List Ms)} {q:Nat} {x:Int} (h:own[q]? = some x):mergeM k (own.take q) rows ++ [mlOf (mailM k x rows.flatten)] = mergeM k (own.take (q + 1)) rows:=by
 rw [take_at h]; unfold mergeM; rw [List.map_append]; rfl
structure MgH (w wr:World) (M B:Nat) (k:Int) (Ls:List (List Ms)) (own:List Int) (v:Value) (q:Nat):Prop where
 below:Below w.heap.size w wr
 map:CM wr M k Ls.flatten
 row:KOwn wr B v (mergeM k (own.take q) Ls)
def MgRel (w:World) (M B:Nat) (k:Int) (Ls:List (List Ms)) (own:List Int) (gk:Nat) (v i:Value) (wr:World):Prop :=
 ∃ q:Nat,q + gk = own.length/\i = .int .i64 (q:Int)/\Hid (MgH w wr M B k Ls own v q)
theorem kb_alloc (w:World) (p:Bool) (y:Int):(w.alloc (.cells #[.bool p,.int .i64 y] 114)).heap[w.heap.size]? = some (.cells #[.bool p,.int .i64 y] 114 (0,0)):=heap_alloc_new w _
set_option maxRecDepth 100000 in
set_option maxHeartbeats 4000000 in
theorem merge_any (k st so dm ep:Int) (Ao A:Option Addr) (no co n c:Nat) (own:List Int) (Ls:List (List Ms)) (w:World) (hO:IAt w Ao own) (hno:own.length = no) (hR:RMs w A Ls) (hn:Ls.length = n) (hT:ToIn Ls.flatten) (hOI:OwnIn own) (hno2:no < 1000000) (hn2:n <= 1000000) (hF:Ls.flatten.length < 1000000000) :
 Calls Tryz.prog 82 #[.agg #[.int .u8 k,.int .i64 st,.int .i64 so,.int .i64 dm,.int .i64 ep],.slice Ao no co,.slice A n c] w fun e w' => ∃ v,e = .returned v/\Hid (KOwn w' w.heap.size v (mergeM k own Ls))/\Hid (Below w.heap.size w w'):=by
 have mixed:=mixedI
 have HO:=jH hO; have HNO:=jH hno; have HOI:=jH hOI
 have HR:=jH hR; have HN:=jH hn; have HT:=jH hT; have HF:=jH hF
 clear hO hno hOI hR hn hT hF
 obtain ⟨W1,hW1⟩:∃ W1,W1 = w.alloc (.cells #[.int .u8 k,.int .i64 st,.int .i64 so,.int .i64 dm,.int .i64 ep] 40):=⟨_,rfl⟩
 have x0:W1.heap[w.heap.size]? = some (.cells #[.int .u8 k,.int .i64 st,.int .i64 so,.int .i64 dm,.int .i64 ep] 40 (0,0)):=by rw [hW1]; exact heap_alloc_new w _
 have hb1:Below w.heap.size w W1:=by rw [hW1]; exact (Below.refl _ w).alloc (Nat.le_refl _) _
 have HC:Hid (Calls Tryz.prog 91 #[.agg #[.int .u8 k,.int .i64 st,.int .i64 so,.int .i64 dm,.int .i64 ep],.slice A n c] W1 fun e w' => (∃ M,e = .returned (.map (some M))/\Hid (W1.heap.size <= M)/\Hid (CM w' M k Ls.flatten))/\Hid (Below W1.heap.size W1 w')):=jH (by
  have:=together_any k st so dm ep A c Ls W1 (HR.out.below hb1) HT.out (by rw [HN.out]; omega) HF.out
  rwa [HN.out] at this)
 have HB1:=jH hb1
 obtain ⟨j0,j1,j2,j3,j4,_⟩:=jb_cells x0
 clear x0 hb1
 go_enter Tryz.func82,Tryz.ntmps82
 go_upto_region 1 with fail
 rw [<- hW1]
 clear hW1
 go_wp2_with fail
 refine (HC.out).mono ?_
 rintro e w2 ⟨⟨M,rfl,hMge,HM⟩,hb2⟩
 have HB2:=jS HB1 hb2.out
 clear HC j0 j1 j2 j3 j4 hMge hb2 HB1
 obtain ⟨i0,hi,hz0,hz1,hz2⟩:=info_parts infoK
 obtain ⟨w3,hmk,hown3,hg3⟩:=run_make_own (P:=Tryz.prog) (w:=w2) w2.heap.size 43 114 i0 _ 2 Tryz.underlying43 hi hz0 hz1 .i64 .i64 no (by rw [hz2]; omega) (by unfold maxLen; omega) (Nat.le_refl _)
 have hb3:Below w2.heap.size w2 w3:=⟨hg3.os,hg3.tape,hg3.output,hg3.size,fun i hi => hg3.block i hi nofun⟩
 obtain ⟨B,hB⟩:∃ B,B = w2.heap.size:=⟨_,rfl⟩
 have HH:Hid (MgH w w3 M B k Ls own (.slice (some ⟨w2.heap.size,0,none⟩) 0 no) 0):=jH ⟨step_below HB2.out HB2.out.size hb3,HM.out.below hb3,by rw [hB]; exact hown3⟩
 have HMB:Hid (M < B):=jH (by rw [hB]; exact HM.out.lt)
 have HBS:Hid (B <= w3.heap.size):=jH (by rw [hB]; exact hb3.size)
 have HBW:Hid (w.heap.size <= B):=jH (by rw [hB]; exact HB2.out.size)
 clear hown3 hg3 hb3 hi hz0 hz1 hz2 HM HB2 hB
 go_wp2_with fail
 go_loopg [8,19] no (fun gk v i wr => MgRel w M B k Ls own gk v i wr/\Hid (B <= wr.heap.size))
 case atStart => exact ⟨⟨0,by have:=HNO.out; omega,rfl,HH⟩,HBS⟩
 case round =>
  clear HH HBS
  obtain ⟨⟨q,hq,rfl,HH⟩,HBS⟩:=hrel
  rw [HNO.out] at hq
  by_cases hlt:q < no
  ·obtain ⟨x,hx⟩:=at_lt own q (by rw [HNO.out]; exact hlt)
   obtain ⟨bk,o,rfl,c0⟩:=(HO.out.below HH.out.below) q x hx
   obtain ⟨⟨p,y⟩,hpy⟩:∃ m:Ml,mlOf (mailM k x Ls.flatten) = m:=⟨_,rfl⟩
   have hlk:(Instr.lookup 150 (.map (some M)) (.int .i64 x) false).run Tryz.prog wr = .ok (.agg #[.bool p,.int .i64 y]) wr:=by
    have:=HH.out.map.look (HOI.out x (List.mem_of_getElem? hx))
    rw [hpy] at this; exact this
   have HNX:Hid (mergeM k (own.take q) Ls ++ [(p,y)] = mergeM k (own.take (q + 1)) Ls):=jH (by rw [<- mergeM_take hx,hpy])
   have HO1:=jH (HH.out.row.alloc (.cells #[.bool p,.int .i64 y] 114))
   have HN1:=jH (kb_alloc wr p y)
   have hb1:Below wr.heap.size wr (wr.alloc (.cells #[.bool p,.int .i64 y] 114)):=(Below.refl _ wr).alloc (Nat.le_refl _) _
   have HB1:=jH (step_below HH.out.below HH.out.below.size hb1)
   have HM1:=jH (HH.out.map.below hb1)
   have HS1:Hid (B <= (wr.alloc (.cells #[.bool p,.int .i64 y] 114)).heap.size):=jH (Nat.le_trans HBS.out hb1.size)
   have HSX:Hid ((mergeM k (own.take q) Ls).length < 1000000000):=jH (by rw [mergeM_len,List.length_take]; omega)
   clear hx hpy hb1
   go_wp2_with (at_builtin; refine app_k rfl (.tmp 23) (.tmp 27) rfl B _ _ p y rfl HO1.out _ rfl HN1.out HSX.out HS1.out ?_)
   intro v2 w2' ho2 hg2
   have HH2:Hid (MgH w w2' M B k Ls own v2 (q + 1)):=jH
    ⟨Below.grown HB1.out hg2 HB1.out.size (fun j e => by have:=(own_lt HO1.out j e).1; have:=HBW.out; omega),HM1.out.grown hg2 (fun e => by have:=(own_lt HO1.out M e.symm).1; have:=HMB.out; omega),by rw [<- HNX.out]; exact ho2⟩
   have HS2:Hid (B <= w2'.heap.size):=jH (Nat.le_trans HS1.out hg2.size)
   clear ho2 hg2 HO1 HN1 HB1 HM1 HSX HS1 hlk c0 HNX HH HBS
   go_wp2
   go_roundg (gk - 1)
   case measure => omega
   case rel => exact ⟨⟨q + 1,by have:=HNO.out; omega,by go_num,HH2⟩,HS2⟩
  ·have HO9:=HH.out.row
   rw [show q = own.length by have:=HNO.out; omega,List.take_length] at HO9
   have HO8:=jH (HO9.mono HBW.out)
   clear HO9
   go_wp2
   go_ret
   exact ⟨_,rfl,HO8,jH HH.out.below⟩
end Go.Proofs.YtdcaekmgfcpbmaaGreat.In
