/-
  What is proved here: words for rows of ints, of int64s, of marks that a call made; append of one to each; a row that is made. No condition.
-/
import Derived.Test.YtdcaekmgfcpbmaaGreatQdMnT2x
import Derived.Test.YtdcaekmgfcpbmaaGreatQdPtG6x
import Derived.Test.YtdcaekmgfcpbmaaGreatQdTlPrex
import Derived.Test.YtdcaekmgfcpbmaaGreatQdRkMathx
import Derived.Laws.OwnMore
namespace Go.Proofs.YtdcaekmgfcpbmaaGreat.Mn
open Go.RowKit Gr Wd Ws Fx Rk Lb
open Pa (vl bt vl_of vl_at bt_of bt_at)
theorem keepB {w w':World} {i:Nat} {o:Obj} (h:w.heap[i]? = some o) (hb:Below w.heap.size w w'):w'.heap[i]? = some o:=(hb.block i (lt_of_block h)).trans h
theorem set_same {w:World} {b i:Nat} {T:TypeId} {c:Array Value} (h:w.heap[b]? = some (.cells c T (0,0))) (u:Value):(w.setCell ⟨b,i,none⟩ u).heap[b]? = some (.cells (c.setIfInBounds i u) T (0,0)):=heap_setCell_same w b i c T u h
theorem set_off (w:World) (b i k:Nat) (u:Value) (hk:k ≠ b):(w.setCell ⟨b,i,none⟩ u).heap[k]? = w.heap[k]?:=Below.heap_setCell w ⟨b,i,none⟩ u k hk
theorem one_cell {w:World} {b:Nat} {T:TypeId} {a0:Value} (h:w.heap[b]? = some (.cells #[a0] T (0,0))):w.cell? ⟨b,0,none⟩ = some a0/\w.frozen? ⟨b,0,none⟩ = false/\b < w.heap.size :=
 ⟨by rw [Lib.cell_of_heap h]; rfl,Lib.frozen_of_heap h _,lt_of_block h⟩
theorem two_cells {w:World} {b:Nat} {T:TypeId} {a0 a1:Value} (h:w.heap[b]? = some (.cells #[a0,a1] T (0,0))):w.cell? ⟨b,0,none⟩ = some a0/\w.cell? ⟨b,1,none⟩ = some a1/\b < w.heap.size :=
 ⟨by rw [Lib.cell_of_heap h]; rfl,by rw [Lib.cell_of_heap h]; rfl,lt_of_block h⟩
def NOwn (w:World) (T:TypeId) (B:Nat) (v:Value) (l:List Int):Prop:=w.ownsRow B T 1 v l.length (ints l)
theorem NOwn.none_ (w:World) (T:TypeId) (B:Nat):NOwn w T B (.slice none 0 0) []:=World.ownsRow_nil _ _ _ _
theorem NOwn.below {w w':World} {T:TypeId} {B:Nat} {v:Value} {l:List Int} (h:NOwn w T B v l) (hb:Below w.heap.size w w'):NOwn w' T B v l:=own_below h hb
theorem NOwn.alloc {w:World} {T:TypeId} {B:Nat} {v:Value} {l:List Int} (h:NOwn w T B v l) (o:Obj):NOwn (w.alloc o) T B v l:=World.ownsRow.alloc h o
theorem NOwn.mono {w:World} {T:TypeId} {B B':Nat} {v:Value} {l:List Int} (h:NOwn w T B v l) (hb:B' <= B):NOwn w T B' v l:=own_mono h hb
theorem NOwn.form {w:World} {T:TypeId} {B:Nat} {v:Value} {l:List Int} (h:NOwn w T B v l):∃ (A:Option Addr) (c:Nat),v = .slice A l.length c/\IAt w A l:=by
 obtain ⟨h0,h1 | ⟨g,cap,cur,h1,h2,h3,h4,h5,h6,h7⟩⟩:=h
 ·have:l = []:=List.eq_nil_of_length_eq_zero h1.2
  subst this
  exact ⟨none,0,h1.1,IAt.nil _ _⟩
 ·refine ⟨some ⟨g,0,none⟩,cap,h1,fun k x hx => ⟨g,0,rfl,?_⟩⟩
  have hk:=lt_at hx
  rw [Nat.zero_add,cell_of_row w g k _ T (0,0) h3]
  have e1:cur[k]? = (cur.toList.take (l.length * 1))[k]?:=by
   rw [List.getElem?_take,if_pos (by omega),Array.getElem?_toList]
  rw [e1,h7,ints_at,hx]; rfl
theorem NOwn.some_ {w:World} {T:TypeId} {B:Nat} {v:Value} {l:List Int} (h:NOwn w T B v l) (hl:0 < l.length):∃ g cp,v = .slice (some ⟨g,0,none⟩) l.length cp/\B <= g:=by
 obtain ⟨_,h1 | ⟨g,cap,cur,h1,h2,_⟩⟩:=h
 ·omega
 ·exact ⟨g,cap,h1,h2⟩
theorem NOwn.at_ {w:World} {T:TypeId} {B g cp:Nat} {l:List Int} {n:Nat} (hn:l.length = n) (h:NOwn w T B (.slice (some ⟨g,0,none⟩) n cp) l) {k:Nat} (hk:k < n):w.cell? ⟨g,k,none⟩ = some (.int .i64 (vl l k))/\w.frozen? ⟨g,k,none⟩ = false:=by
 subst hn
 refine ⟨?_,World.ownsRow.frozenAt h k⟩
 rw [World.ownsRow.cellAt h k (by omega),ints_at,vl_at hk]; rfl
theorem NOwn.set {w:World} {T:TypeId} {B g cp:Nat} {l:List Int} {n:Nat} (hn:l.length = n) (h:NOwn w T B (.slice (some ⟨g,0,none⟩) n cp) l) (k:Nat) (x:Int):NOwn (w.setCell ⟨g,k,none⟩ (.int .i64 x)) T B (.slice (some ⟨g,0,none⟩) n cp) (l.set k x):=by
 subst hn
 have:=(World.ownsRow.stored h k (.int .i64 x)).1
 unfold NOwn
 rw [List.length_set]
 have e:ints (l.set k x) = (ints l).set k (.int .i64 x):=by unfold ints; rw [List.map_set]
 rw [e]; exact this
theorem NOwn.blk {w:World} {T:TypeId} {B g n cp:Nat} {l:List Int} (h:NOwn w T B (.slice (some ⟨g,0,none⟩) n cp) l):B <= g/\∃ c,w.heap[g]? = some (.cells c T (0,0)):=own_lt h g rfl
theorem info3:(Tryz.prog.info? 3).map (fun i => (i.zero,i.size,i.bytes)) = some (some (.int .i64 0),1,8):=by kernel_rfl
theorem info2:(Tryz.prog.info? 2).map (fun i => (i.zero,i.size,i.bytes)) = some (some (.int .i64 0),1,8):=by kernel_rfl
theorem app_n {w:World} {ops:Array Oper} {rest:List Oper} {o:Oper} {a:Act} {Q:Exit->Act->World->Prop} (hgd:o.guard = none) (s x:Operand) (t T:TypeId)
 (ho:o.op = .call { callee:=.builtin .append,args:=#[s,x],argTypes:=#[t,t] }) (hu:Tryz.prog.underlying t = some (.slice T)) (hT:(Tryz.prog.info? T).map (fun i => (i.zero,i.size,i.bytes)) = some (some (.int .i64 0),1,8))
 (B:Nat) (v:Value) (l:List Int) (y:Int) (hs:a.eval s = v) (hown:NOwn w T B v l)
 (g:Nat) (hx:a.eval x = .slice (some ⟨g,0,none⟩) 1 1) (hg:w.heap[g]? = some (.cells #[.int .i64 y] T (0,0))) (hn:l.length < 1000000000) (hB:B <= w.heap.size)
 (h:∀ v' w',NOwn w' T B v' (l ++ [y])->w.grownBy w' v.ownBlock->wpList Tryz.prog ops Q rest (a.put o.dst v') w'):wpList Tryz.prog ops Q (o :: rest) a w:=by
 obtain ⟨i0,hi,hz0,hz1,hz2⟩:=info_parts hT
 refine wpList_append_own w hgd s x t ho B T i0 _ 1 8 hu hi hz0 hz1 hz2 rfl (by decide) v l.length (ints l) hs hown ⟨g,0,none⟩ 1 1 [.int .i64 y] hx rfl ?_ ?_ ?_ ?_ hB ?_
 ·intro j u hu
  rw [add_plain,Lib.cell_of_heap hg]
  rcases j with _ | j
  ·simpa using hu
  ·simp at hu
 ·intro u hu
  simp only [List.mem_cons,List.not_mem_nil,or_false] at hu
  rw [hu]; rfl
 ·unfold maxLen; omega
 ·omega
 ·intro v' w' h1 h2 _
  refine h v' w' ?_ h2
  unfold NOwn
  rw [show ints (l ++ [y]) = ints l ++ [.int .i64 y] by simp [ints],List.length_append]; exact h1
theorem nown_other {w w':World} {B B':Nat} {T T':TypeId} {s s' n n':Nat} {z v:Value} {xs ys:List Value} (hz:w.ownsRow B T s z n xs) (hv:w.ownsRow B' T' s' v n' ys) (hT:T ≠ T') (hg:w.grownBy w' v.ownBlock):w'.ownsRow B T s z n xs :=
 own_kept hz fun b c fz hb hc => hg.block b (lt_of_block hc) (fun e => by
  obtain ⟨_,c1,hc1⟩:=own_lt hv b e.symm
  rw [hc1] at hc; injection hc with hc; injection hc with _ hc _
  exact hT hc.symm)
theorem nbox_other {w w':World} {B' b:Nat} {T T':TypeId} {s' n':Nat} {v:Value} {ys:List Value} {c:Array Value} {fz:Nat × Nat} (hb:w.heap[b]? = some (.cells c T fz)) (hv:w.ownsRow B' T' s' v n' ys) (hT:T ≠ T') (hg:w.grownBy w' v.ownBlock):w'.heap[b]? = some (.cells c T fz) :=
 (hg.block b (lt_of_block hb) (fun e => by
  obtain ⟨_,c1,hc1⟩:=own_lt hv b e.symm
  rw [hc1] at hb; injection hb with hb; injection hb with _ hb _
  exact hT hb.symm)).trans hb
theorem nown_grown {w w':World} {B B':Nat} {T':TypeId} {s' n':Nat} {v:Value} {ys:List Value} (hv:w.ownsRow B' T' s' v n' ys) (hg:w.grownBy w' v.ownBlock) (h:B <= B') (hs:B <= w.heap.size):Below B w w' :=
 Below.grown (Below.refl _ _) hg hs (fun j e => Nat.le_trans h (own_lt hv j e).1)
theorem nown_set {w:World} {B b i n s:Nat} {T T':TypeId} {v u:Value} {xs:List Value} {c:Array Value} (h:w.ownsRow B T s v n xs) (hb:w.heap[b]? = some (.cells c T' (0,0))) (hT:T ≠ T'):(w.setCell ⟨b,i,none⟩ u).ownsRow B T s v n xs :=
 own_kept h fun g c' fz _ hc => set_off w b i g u fun e => by
  subst e; rw [hb] at hc; injection hc with hc; injection hc with _ hc _
  exact hT hc.symm
theorem nbox_set {w:World} {b b' i:Nat} {T T':TypeId} {u:Value} {c c':Array Value} {fz:Nat × Nat} (h:w.heap[b']? = some (.cells c' T fz)) (hb:w.heap[b]? = some (.cells c T' (0,0))) (hT:T ≠ T'):(w.setCell ⟨b,i,none⟩ u).heap[b']? = some (.cells c' T fz) :=
 (set_off w b i b' u fun e => by
  subst e; rw [hb] at h; injection h with h; injection h with _ h _
  exact hT h.symm).trans h
theorem grown_set (w:World) (g k:Nat) (u:Value):w.grownBy (w.setCell ⟨g,k,none⟩ u) (some g) :=
 ⟨rfl,rfl,rfl,by simp [World.setCell],fun j _ hj => set_off w g k j u fun e => hj (by rw [e])⟩
theorem grown_drew (w:World) (r:Option Nat):w.grownBy w.drew r:=⟨rfl,rfl,rfl,Nat.le_refl _,fun _ _ _ => rfl⟩
theorem grown_refl (w:World) (r:Option Nat):w.grownBy w r:=⟨rfl,rfl,rfl,Nat.le_refl _,fun _ _ _ => rfl⟩
theorem grown_trans {a b c:World} {r:Option Nat} (h:a.grownBy b r) (k:b.grownBy c r):a.grownBy c r :=
 ⟨k.os.trans h.os,k.tape.trans h.tape,k.output.trans h.output,Nat.le_trans h.size k.size,fun j hj hn => (k.block j (Nat.lt_of_lt_of_le hj h.size) hn).trans (h.block j hj hn)⟩
theorem grown_box {w w':World} {g b:Nat} {T T':TypeId} {c c':Array Value} {fz fz':Nat × Nat} (hg:w.grownBy w' (some g)) (hb:w.heap[b]? = some (.cells c T fz)) (hc:w.heap[g]? = some (.cells c' T' fz')) (hT:T ≠ T'):w'.heap[b]? = some (.cells c T fz) :=
 (hg.block b (lt_of_block hb) fun e => by
  cases e; rw [hc] at hb; injection hb with hb; injection hb with _ hb _
  exact hT hb.symm).trans hb
theorem grown_below {w w':World} {g B:Nat} (h:w.grownBy w' (some g)) (hg:B <= g) (hB:B <= w.heap.size):Below B w w' :=
 Below.grown (Below.refl _ _) h hB fun k e => by cases e; exact hg
abbrev Wy:=Nat × Int
end Go.Proofs.YtdcaekmgfcpbmaaGreat.Mn
