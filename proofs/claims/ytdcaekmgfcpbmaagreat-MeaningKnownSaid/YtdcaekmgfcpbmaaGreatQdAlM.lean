/-
  What is proved here: words for messages in memory: a slice of messages that can be read, and one that the call made; append of one message, of a whole slice. No condition.
-/
import Derived.Test.YtdcaekmgfcpbmaaGreatQdMnT2x
import Derived.Test.YtdcaekmgfcpbmaaGreatQdAlS3x
import Derived.Laws.OwnMore
namespace Go.Proofs.YtdcaekmgfcpbmaaGreat.Al
open Go.RowKit Go.Sort Gr Wd Ws Lb
def mcs (L:List Ms):List Value:=L.flatMap mc
theorem mcs_append (a b:List Ms):mcs (a ++ b) = mcs a ++ mcs b:=by simp [mcs]
theorem mcs_len:∀ L:List Ms,(mcs L).length = L.length * 2
 | [] => rfl
 | e :: L => by
  show (mc e ++ mcs L).length = _
  rw [List.length_append,mc_len,mcs_len L,List.length_cons]; omega
theorem mcs_one (L:List Ms):∀ u ∈ mcs L,u.oneCell' = true:=by
 intro u hu
 simp only [mcs,List.mem_flatMap,mc] at hu
 obtain ⟨e,_,hu⟩:=hu
 simp only [List.mem_cons,List.not_mem_nil,or_false] at hu
 rcases hu with rfl | rfl <;> rfl
theorem mcs_at:∀ (L:List Ms) (k:Nat) (e:Ms),L[k]? = some e->(mcs L)[k * 2]? = some (.int .i64 e.1)/\(mcs L)[k * 2 + 1]? = some (.int .i64 e.2)
 | [],k,e,h => by simp at h
 | x :: L,0,e,h => by
  simp at h; subst h
  exact ⟨rfl,rfl⟩
 | x :: L,k + 1,e,h => by
  have h':L[k]? = some e:=by simpa using h
  obtain ⟨h0,h1⟩:=mcs_at L k e h'
  have key:∀ j,(mcs (x :: L))[j + 2]? = (mcs L)[j]?:=fun j => by
   show (mc x ++ mcs L)[j + 2]? = _
   rw [List.getElem?_append_right (by rw [mc_len]; omega),mc_len]; congr 1
  refine ⟨?_,?_⟩
  ·rw [show (k + 1) * 2 = k * 2 + 2 by omega,key]; exact h0
  ·rw [show (k + 1) * 2 + 1 = k * 2 + 1 + 2 by omega,key]; exact h1
theorem mcs_set (l:List Ms) (z:Ms) (y:Int):(mcs (l ++ [z])).set (l.length * 2 + 1) (.int .i64 y) = mcs (l ++ [(z.1,y)]):=by
 rw [mcs_append,mcs_append,List.set_append_right _ _ (by rw [mcs_len]; omega),mcs_len,show l.length * 2 + 1 - l.length * 2 = 1 by omega]
 simp [mcs,mc]
def MAt (w:World) (A:Option Addr) (L:List Ms):Prop:=∀ (k:Nat) (e:Ms),L[k]? = some e->∃ bk o,A = some ⟨bk,o,none⟩ /\
 w.cell? ⟨bk,o + k * 2,none⟩ = some (.int .i64 e.1)/\w.cell? ⟨bk,o + k * 2 + 1,none⟩ = some (.int .i64 e.2)
theorem MAt.below {w w':World} {A:Option Addr} {L:List Ms} (h:MAt w A L) (hb:Below w.heap.size w w'):MAt w' A L:=by
 intro k e hx
 obtain ⟨bk,o,hA,c0,c1⟩:=h k e hx
 exact ⟨bk,o,hA,(hb.cell (block_lt_of_cell c0)).trans c0,(hb.cell (block_lt_of_cell c1)).trans c1⟩
theorem MAt.nil (w:World) (A:Option Addr):MAt w A []:=fun k e h => by simp at h
theorem MAt.take {w:World} {A:Option Addr} {L:List Ms} (h:MAt w A L) (k:Nat):MAt w A (L.take k):=fun i e hi => h i e (by
 rw [List.getElem?_take] at hi; split at hi
 ·exact hi
 ·cases hi)
theorem MAt.drop {w:World} {g o:Nat} {L:List Ms} (h:MAt w (some ⟨g,o,none⟩) L) (k:Nat):MAt w (some ⟨g,o + k * 2,none⟩) (L.drop k):=fun i e hi => by
 rw [List.getElem?_drop] at hi
 obtain ⟨bk,o',e1,c0,c1⟩:=h (k + i) e hi
 cases e1
 rw [Nat.add_mul,<- Nat.add_assoc] at c0 c1
 exact ⟨g,o + k * 2,rfl,c0,c1⟩
def MOwn (w:World) (B:Nat) (v:Value) (L:List Ms):Prop:=w.ownsRow B 155 2 v L.length (mcs L)
theorem MOwn.none_ (w:World) (B:Nat):MOwn w B (.slice none 0 0) []:=World.ownsRow_nil _ _ _ _
theorem MOwn.below {w w':World} {B:Nat} {v:Value} {L:List Ms} (h:MOwn w B v L) (hb:Below w.heap.size w w'):MOwn w' B v L:=own_below h hb
theorem MOwn.alloc {w:World} {B:Nat} {v:Value} {L:List Ms} (h:MOwn w B v L) (o:Obj):MOwn (w.alloc o) B v L:=World.ownsRow.alloc h o
theorem MOwn.mono {w:World} {B B':Nat} {v:Value} {L:List Ms} (h:MOwn w B v L) (hb:B' <= B):MOwn w B' v L:=own_mono h hb
theorem MOwn.room {w:World} {B:Nat} {v:Value} {L:List Ms} (h:MOwn w B v L):∃ A c,v = .slice A L.length c/\MAt w A L/\L.length <= c/\c <= maxLen/\((A = none/\c = 0)\/∃ g,A = some ⟨g,0,none⟩/\B <= g/\g < w.heap.size/\∀ j,w.frozen? ⟨g,j,none⟩ = false):=by
 obtain ⟨h0,h1 | ⟨g,cap,cur,h1,h2,h3,h4,h5,h6,h7⟩⟩:=h
 ·have:L = []:=List.eq_nil_of_length_eq_zero h1.2
  subst this
  exact ⟨none,0,h1.1,MAt.nil _ _,Nat.le_refl _,Nat.zero_le _,Or.inl ⟨rfl,rfl⟩⟩
 ·refine ⟨some ⟨g,0,none⟩,cap,h1,fun k e hx => ?_,h4,h5,Or.inr ⟨g,rfl,h2,lt_of_block h3,fun j => Lib.frozen_of_heap h3 j⟩⟩
  have hk:=lt_at hx
  have key:∀ j,j < L.length * 2->w.cell? ⟨g,0 + j,none⟩ = (mcs L)[j]?:=fun j hj => by
   rw [Nat.zero_add,cell_of_row w g j _ 155 (0,0) h3]
   have e1:cur[j]? = (cur.toList.take (L.length * 2))[j]?:=by
    rw [List.getElem?_take,if_pos hj,Array.getElem?_toList]
   rw [e1,h7]
  obtain ⟨a0,a1⟩:=mcs_at L k e hx
  refine ⟨g,0,rfl,?_,?_⟩
  ·rw [key _ (by omega)]; exact a0
  ·rw [Nat.add_assoc,key _ (by omega)]; exact a1
theorem MOwn.lt {w:World} {B:Nat} {v:Value} {L:List Ms} (h:MOwn w B v L) (j:Nat) (e:v.ownBlock = some j):B <= j:=(own_lt h j e).1
theorem MOwn.row {w:World} {B g n c:Nat} {L:List Ms} (hn:L.length = n) (h:MOwn w B (.slice (some ⟨g,0,none⟩) n c) L):∃ N,SWm w w g N L.toArray:=by
 subst hn
 obtain ⟨h0,h1 | ⟨g',cap,cur,h1,h2,h3,h4,h5,h6,h7⟩⟩:=h
 ·cases h1.1
 ·cases h1
  refine ⟨cur.size,?_,⟨rfl,rfl,rfl,Nat.le_refl _,fun _ _ _ => rfl⟩,⟨cur,h3,rfl⟩,lt_of_block h3⟩
  intro j hj
  rw [size_flatK] at hj
  have hj2:j < L.length * 2:=by simpa using hj
  refine ⟨?_,Lib.frozen_of_heap h3 _⟩
  rw [Nat.zero_add,cell_of_row w g j _ 155 (0,0) h3]
  have e1:cur[j]? = (cur.toList.take (L.length * 2))[j]?:=by
   rw [List.getElem?_take,if_pos hj2,Array.getElem?_toList]
  rw [e1,h7]
  rw [get_flatK mc 2 L.toArray j (by simpa using hj2)]
  have hj3:j / 2 < L.length:=by omega
  obtain ⟨m,hm⟩:=at_lt L (j / 2) hj3
  obtain ⟨a0,a1⟩:=mcs_at L (j / 2) m hm
  have em:L.toArray[j / 2]! = m:=by
   rw [getElem!_pos L.toArray (j / 2) (by rw [List.size_toArray]; exact hj3)]
   obtain ⟨_,q⟩:=List.getElem?_eq_some_iff.1 hm
   simpa using q
  rw [em]
  rcases (show j % 2 = 0\/j % 2 = 1 by omega) with h | h
  ·have e2:j / 2 * 2 = j:=by omega
   rw [e2] at a0; rw [a0,h]; rfl
  ·have e2:j / 2 * 2 + 1 = j:=by omega
   rw [e2] at a1; rw [a1,h]; rfl
theorem SWm.mat {w0 w:World} {g N:Nat} {d:Array Ms} (h:SWm w0 w g N d):MAt w (some ⟨g,0,none⟩) d.toList:=by
 intro k e hx
 have hk:k < d.size:=by have:=lt_at hx; simpa using this
 obtain ⟨c0,c1⟩:=h.cells k hk
 have ee:d[k]! = e:=by
  rw [getElem!_pos d k hk]
  obtain ⟨_,q⟩:=List.getElem?_eq_some_iff.1 hx
  simpa using q
 rw [ee] at c0 c1
 exact ⟨g,0,rfl,by rw [Nat.zero_add]; exact c0,by rw [Nat.zero_add]; exact c1⟩
theorem infoM:(Tryz.prog.info? 155).map (fun i => (i.zero,i.size,i.bytes)) = some (some (.agg #[.int .i64 0,.int .i64 0]),2,16):=by kernel_rfl
theorem app_m {w:World} {ops:Array Oper} {rest:List Oper} {o:Oper} {a:Act} {Q:Exit->Act->World->Prop} (hgd:o.guard = none) (s x:Operand)
 (ho:o.op = .call { callee:=.builtin .append,args:=#[s,x],argTypes:=#[133,133] }) (B:Nat) (v:Value) (L:List Ms) (e0 e1:Int) (hs:a.eval s = v) (hown:MOwn w B v L)
 (g:Nat) (hx:a.eval x = .slice (some ⟨g,0,none⟩) 1 1) (hg:w.heap[g]? = some (.cells #[.int .i64 e0,.int .i64 e1] 155 (0,0))) (hn:L.length < 1000000000) (hB:B <= w.heap.size)
 (h:∀ v' w',MOwn w' B v' (L ++ [(e0,e1)])->w.grownBy w' v.ownBlock->wpList Tryz.prog ops Q rest (a.put o.dst v') w'):wpList Tryz.prog ops Q (o :: rest) a w:=by
 obtain ⟨i0,hi,hz0,hz1,hz2⟩:=info_parts infoM
 refine wpList_append_own w hgd s x 133 ho B 155 i0 _ 2 16 Tryz.underlying133 hi hz0 hz1 hz2 rfl (by decide) v L.length (mcs L) hs hown ⟨g,0,none⟩ 1 1 (mc (e0,e1)) hx rfl ?_ ?_ ?_ ?_ hB ?_
 ·intro j u hu
  rw [add_plain,Lib.cell_of_heap hg]
  rcases j with _ | _ | j
  ·simpa [mc] using hu
  ·simpa [mc] using hu
  ·simp [mc] at hu
 ·intro u hu
  simp only [mc,List.mem_cons,List.not_mem_nil,or_false] at hu
  rcases hu with rfl | rfl <;> rfl
 ·unfold maxLen; omega
 ·omega
 ·intro v' w' h1 h2 _
  refine h v' w' ?_ h2
  unfold MOwn
  rw [mcs_append,List.length_append]
  have:mcs [(e0,e1)] = mc (e0,e1):=by simp [mcs]
  rw [this]; exact h1
theorem mat_cells {w:World} {A:Option Addr} {L:List Ms} (h:MAt w A L) (a:Addr) (hA:A = some a):∀ j u,(mcs L)[j]? = some u->w.cell? (a.add j) = some u:=by
 intro j u hu
 have hj:j < L.length * 2:=by have:=lt_at hu; rwa [mcs_len] at this
 obtain ⟨e,he⟩:=at_lt L (j / 2) (by omega)
 obtain ⟨bk,o,hb,c0,c1⟩:=h (j / 2) e he
 obtain ⟨a0,a1⟩:=mcs_at L (j / 2) e he
 rw [hA] at hb
 obtain rfl:=Option.some.inj hb
 rw [Ws.add_plain]
 rcases (show j % 2 = 0\/j % 2 = 1 by omega) with h3 | h3
 ·rw [show j / 2 * 2 = j by omega] at a0 c0; rw [a0] at hu; rw [<- hu]; exact c0
 ·rw [show j / 2 * 2 + 1 = j by omega] at a1; rw [show o + j / 2 * 2 + 1 = o + j by omega] at c1; rw [a1] at hu; rw [<- hu]; exact c1
theorem mat_none {w:World} {L:List Ms} (h:MAt w none L):L = []:=by
 cases L with
 | nil => rfl
 | cons e L => obtain ⟨_,_,h0,_⟩:=h 0 e rfl; cases h0
theorem app_mrest {w:World} {ops:Array Oper} {rest:List Oper} {o:Oper} {a:Act} {Q:Exit->Act->World->Prop} (hgd:o.guard = none) (s x:Operand)
 (ho:o.op = .call { callee:=.builtin .append,args:=#[s,x],argTypes:=#[133,133] }) (B:Nat) (v:Value) (K L:List Ms) (hs:a.eval s = v) (hown:MOwn w B v K)
 (A:Option Addr) (n c:Nat) (hx:a.eval x = .slice A n c) (hL:MAt w A L) (hnL:L.length = n) (hn:K.length + n < 1000000000) (hB:B <= w.heap.size)
 (h:∀ v' w',MOwn w' B v' (K ++ L)->w.grownBy w' v.ownBlock->wpList Tryz.prog ops Q rest (a.put o.dst v') w'):wpList Tryz.prog ops Q (o :: rest) a w:=by
 subst hnL
 obtain ⟨i0,hi,hz0,hz1,hz2⟩:=info_parts infoM
 cases A with
 | some ad =>
  refine wpList_append_own w hgd s x 133 ho B 155 i0 _ 2 16 Tryz.underlying133 hi hz0 hz1 hz2 rfl (by decide) v K.length (mcs K) hs hown ad L.length c (mcs L) hx (mcs_len L) (mat_cells hL ad rfl) (mcs_one L) ?_ ?_ hB ?_
  ·unfold maxLen; omega
  ·omega
  ·intro v' w' h1 h2 _
   refine h v' w' ?_ h2
   unfold MOwn
   rw [mcs_append,List.length_append]
   exact h1
 | none =>
  obtain rfl:=mat_none hL
  have u22:=run_underlying Tryz.underlying133
  obtain ⟨A',c',rfl,_,hcap,_⟩:=hown.room
  have hr:(Builtin.append_ #[133,133] o.type #[.slice A' K.length c',.slice none 0 c]).run Tryz.prog w = .ok (.slice A' K.length c') w:=by
   cases A' <;> simp [Builtin.append_,Builtin.lenOf,Builtin.firstCells,u22,sizeOf,typeInfo,hi,hcap,storeCells]
  refine wpList_plain hgd fun _ hK => ?_
  unfold Oper.wp execOp
  simp only [ho,resolve,invoke,builtin,Sem.run_bind,Sem.run_pure,Result.andThen_ok,List.map_toArray,List.map_cons,List.map_nil,hs,hx,hr,List.length_nil]
  exact hK _ _ (h _ _ (by rw [List.append_nil]; exact hown) ⟨rfl,rfl,rfl,Nat.le_refl _,fun _ _ _ => rfl⟩)
theorem MOwn.put_last {w:World} {B g c n:Nat} {l:List Ms} {z:Ms} (hn:(l ++ [z]).length = n) (h:MOwn w B (.slice (some ⟨g,0,none⟩) n c) (l ++ [z])) (y:Int):MOwn (w.setCell ⟨g,l.length * 2 + 1,none⟩ (.int .i64 y)) B (.slice (some ⟨g,0,none⟩) n c) (l ++ [(z.1,y)]):=by
 subst hn
 have:=(World.ownsRow.stored h (l.length * 2 + 1) (.int .i64 y)).1
 unfold MOwn
 rw [mcs_set] at this
 rw [show (l ++ [(z.1,y)]).length = (l ++ [z]).length by simp]
 exact this
end Go.Proofs.YtdcaekmgfcpbmaaGreat.Al
