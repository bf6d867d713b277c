/-
  What is proved here: words for numbers in memory; edges put behind one another in one go; contracts of what holds rows against one another, of the kit's mill. Conditions: counts fit an int. What is proved here: contracts of paths.Start, Give, Take, of the document's own, of fixed.Add and of the document's own Add, of the kit's Pick and Light. No condition, but that Pick picks out of 1 to 1000000. What is proved here: contracts of label.Take, label.Marks, and of the document's own. Conditions: numbers fit an int64, counts an int. What is proved here: a contract of label.Marks. Conditions: counts fit an int. What is proved here: contracts of paths.areDistances, noEdgeLeadsNearer: is each a distance, does an edge lead nearer. Conditions: edges lead between places of the row.
-/
import Derived.Test.YtdcaekmgfcpbmaaGreatQdPtMathx
import Derived.Test.YtdcaekmgfcpbmaaGreatQdInMathx
import Derived.IntWalk
import Derived.Outline
import Derived.Lib.QuietBelow
import Derived.Test.YtdcaekmgfcpbmaaGreatQdRkW1x
import Derived.Test.YtdcaekmgfcpbmaaGreatQdPtG6x
namespace Go.Proofs.YtdcaekmgfcpbmaaGreat.Gr
open Go.RowKit Wd Ws
theorem eat_cells {w:World} {A:Option Addr} {L:List Ed} (h:EAt w A L) (a:Addr) (hA:A = some a):∀ j u,(ecs L)[j]? = some u->w.cell? (a.add j) = some u:=by
 intro j u hu
 have hj:j < L.length * 3:=by have:=lt_at hu; rwa [ecs_len] at this
 obtain ⟨e,he⟩:=at_lt L (j / 3) (by omega)
 obtain ⟨bk,o,hb,c0,c1,c2⟩:=h (j / 3) e he
 obtain ⟨a0,a1,a2⟩:=ecs_at L (j / 3) e he
 rw [hA] at hb
 obtain rfl:=Option.some.inj hb
 rw [Ws.add_plain]
 have h3:j % 3 = 0\/j % 3 = 1\/j % 3 = 2:=by omega
 rcases h3 with h3 | h3 | h3
 ·rw [show j / 3 * 3 = j by omega] at a0 c0; rw [a0] at hu; rw [<- hu]; exact c0
 ·rw [show j / 3 * 3 + 1 = j by omega] at a1; rw [show o + j / 3 * 3 + 1 = o + j by omega] at c1; rw [a1] at hu; rw [<- hu]; exact c1
 ·rw [show j / 3 * 3 + 2 = j by omega] at a2; rw [show o + j / 3 * 3 + 2 = o + j by omega] at c2; rw [a2] at hu; rw [<- hu]; exact c2
theorem eat_none {w:World} {L:List Ed} (h:EAt w none L):L = []:=by
 cases L with
 | nil => rfl
 | cons e L => obtain ⟨_,_,h0,_⟩:=h 0 e rfl; cases h0
end Go.Proofs.YtdcaekmgfcpbmaaGreat.Gr
namespace Go.Proofs.YtdcaekmgfcpbmaaGreat.Lb
open Go.RowKit Gr Wd Ws
theorem mixedP:Tryz.prog.follows .mixedOrders = true:=by kernel_rfl
theorem regr {P:Program} {f:FuncId} {args:Array Value} {w:World} {v:Value} (h:∀ W,Below w.heap.size w W->Calls P f args W fun e w' => e = .returned v/\Below W.heap.size W w') (d:Nat) (os:Array Obj) :
 Calls P f args (Sort.grow (redrawn w d) os) fun e w'' => e = .returned v/\∃ p:Regrown,w'' = Sort.grow (redrawn w p.d) p.os:=Calls.regrown_of (h _ (below_regrown w d os))
def ints (l:List Int):List Value:=l.map fun x => Value.int .i64 x
theorem ints_len (l:List Int):(ints l).length = l.length:=by simp [ints]
theorem ints_at (l:List Int) (k:Nat):(ints l)[k]? = (l[k]?).map fun x => Value.int .i64 x:=by simp [ints]
def IAt (w:World) (A:Option Addr) (l:List Int):Prop:=∀ (k:Nat) (x:Int),l[k]? = some x->∃ bk o,A = some ⟨bk,o,none⟩/\w.cell? ⟨bk,o + k,none⟩ = some (.int .i64 x)
theorem IAt.below {w w':World} {A:Option Addr} {l:List Int} (h:IAt w A l) (hb:Below w.heap.size w w'):IAt w' A l:=by
 intro k x hx
 obtain ⟨bk,o,hA,c⟩:=h k x hx
 exact ⟨bk,o,hA,(hb.cell (block_lt_of_cell c)).trans c⟩
theorem IAt.nil (w:World) (A:Option Addr):IAt w A []:=fun k x h => by simp at h
def IOwn (w:World) (B:Nat) (v:Value) (l:List Int):Prop:=w.ownsRow B 3 1 v l.length (ints l)
theorem IOwn.none_ (w:World) (B:Nat):IOwn w B (.slice none 0 0) []:=World.ownsRow_nil _ _ _ _
theorem IOwn.below {w w':World} {B:Nat} {v:Value} {l:List Int} (h:IOwn w B v l) (hb:Below w.heap.size w w'):IOwn w' B v l:=own_below h hb
theorem IOwn.alloc {w:World} {B:Nat} {v:Value} {l:List Int} (h:IOwn w B v l) (o:Obj):IOwn (w.alloc o) B v l:=World.ownsRow.alloc h o
theorem IOwn.form {w:World} {B:Nat} {v:Value} {l:List Int} (h:IOwn w B v l):∃ (A:Option Addr) (c:Nat),v = .slice A l.length c/\IAt w A l:=by
 obtain ⟨h0,h1 | ⟨g,cap,cur,h1,h2,h3,h4,h5,h6,h7⟩⟩:=h
 ·have:l = []:=List.eq_nil_of_length_eq_zero h1.2
  subst this
  exact ⟨none,0,h1.1,IAt.nil _ _⟩
 ·refine ⟨some ⟨g,0,none⟩,cap,h1,fun k x hx => ⟨g,0,rfl,?_⟩⟩
  have hk:=lt_at hx
  rw [Nat.zero_add,cell_of_row w g k _ 3 (0,0) h3]
  have e1:cur[k]? = (cur.toList.take (l.length * 1))[k]?:=by
   rw [List.getElem?_take,if_pos (by omega),Array.getElem?_toList]
  rw [e1,h7,ints_at,hx]; rfl
theorem infoI:(Tryz.prog.info? 3).map (fun i => (i.zero,i.size,i.bytes)) = some (some (.int .i64 0),1,8):=by kernel_rfl
theorem app_i {w:World} {ops:Array Oper} {rest:List Oper} {o:Oper} {a:Act} {Q:Exit->Act->World->Prop} (hgd:o.guard = none) (s x:Operand)
 (ho:o.op = .call { callee:=.builtin .append,args:=#[s,x],argTypes:=#[57,57] }) (B:Nat) (v:Value) (l:List Int) (y:Int) (hs:a.eval s = v) (hown:IOwn w B v l)
 (g:Nat) (hx:a.eval x = .slice (some ⟨g,0,none⟩) 1 1) (hg:w.heap[g]? = some (.cells #[.int .i64 y] 3 (0,0))) (hn:l.length < 1000000000) (hB:B <= w.heap.size)
 (h:∀ v' w',IOwn w' B v' (l ++ [y])->w.grownBy w' v.ownBlock->wpList Tryz.prog ops Q rest (a.put o.dst v') w'):wpList Tryz.prog ops Q (o :: rest) a w:=by
 obtain ⟨i0,hi,hz0,hz1,hz2⟩:=info_parts infoI
 refine wpList_append_own w hgd s x 57 ho B 3 i0 _ 1 8 Tryz.underlying57 hi hz0 hz1 hz2 rfl (by decide) v l.length (ints l) hs hown ⟨g,0,none⟩ 1 1 [.int .i64 y] hx rfl ?_ ?_ ?_ ?_ hB ?_
 ·intro j u hu
  rw [add_plain,Lib.cell_of_heap hg]
  rcases j with _ | j
  ·simpa using hu
  ·simp at hu
 ·intro u hu
  simp only [List.mem_cons,List.not_mem_nil,or_false] at hu
  rw [hu]; rfl
 ·unfold maxLen; omega
 ·omega
 ·intro v' w' h1 h2 _
  refine h v' w' ?_ h2
  unfold IOwn
  rw [show ints (l ++ [y]) = ints l ++ [.int .i64 y] by simp [ints],List.length_append]; exact h1
def millL:List Ed:=[(0,1,4),(0,2,1),(1,3,5),(2,1,2),(4,4,7)]
end Go.Proofs.YtdcaekmgfcpbmaaGreat.Lb
namespace Go.Proofs.YtdcaekmgfcpbmaaGreat.Pa
open Go.RowKit Gr Wd Ws Fx Lb
theorem ret_j {a b:Int} (h:a = b):Ending.returned (.int .i64 a) = .returned (.int .i64 b):=by rw [h]
def stt (v s:Int):Int:=if v = s then 0 else 4611686018427387904
theorem start_any (v s:Int) (w:World):Calls Tryz.prog 49 #[.int .i64 v,.int .i64 s] w fun e w' => e = .returned (.int .i64 (stt v s))/\w = w':=by
 by_cases h:v = s
 ·have HE:=jH (show stt v s = 0 by unfold stt; rw [if_pos h])
  subst h
  go_enter Tryz.func49,Tryz.ntmps49
  go_wp2
  go_ret
  exact ⟨ret_j HE.out.symm,rfl⟩
 ·have HE:=jH (show stt v s = 4611686018427387904 by unfold stt; rw [if_neg h])
  go_enter Tryz.func49,Tryz.ntmps49
  go_wp2
  go_ret
  exact ⟨ret_j HE.out.symm,rfl⟩
theorem rstart_any (v s:Int) (w:World):Calls Tryz.prog 100 #[.int .i64 v,.int .i64 s] w fun e w' => e = .returned (.int .i64 (stt v s))/\w = w':=by
 by_cases h:v = s
 ·have HE:=jH (show stt v s = 0 by unfold stt; rw [if_pos h])
  subst h
  go_enter Tryz.func100,Tryz.ntmps100
  go_wp2
  go_ret
  exact ⟨ret_j HE.out.symm,rfl⟩
 ·have HE:=jH (show stt v s = 4611686018427387904 by unfold stt; rw [if_neg h])
  go_enter Tryz.func100,Tryz.ntmps100
  go_wp2
  go_ret
  exact ⟨ret_j HE.out.symm,rfl⟩
theorem dist_of (a:Int) (w:World):Calls Tryz.prog 89 #[.int .i64 a] w fun e w' => e = .returned (.int .i64 (dst a))/\w = w':=by
 by_cases h:a < 0
 ·have HE:=jH (show dst a = 0 by unfold dst; rw [if_pos h])
  go_enter Tryz.func89,Tryz.ntmps89
  go_wp2
  go_ret
  exact ⟨ret_j HE.out.symm,rfl⟩
 ·by_cases hi:4611686018427387904 < a
  ·have HE:=jH (show dst a = 4611686018427387904 by unfold dst; rw [if_neg h,if_pos hi])
   go_enter Tryz.func89,Tryz.ntmps89
   go_wp2
   go_ret
   exact ⟨ret_j HE.out.symm,rfl⟩
  ·have HE:=jH (show dst a = a by unfold dst; rw [if_neg h,if_neg hi])
   go_enter Tryz.func89,Tryz.ntmps89
   go_wp2
   go_ret
   exact ⟨ret_j HE.out.symm,rfl⟩
theorem add_of (a b:Int) (w:World):Calls Tryz.prog 75 #[.int .i64 a,.int .i64 b] w fun e w' => e = .returned (.int .i64 (addI a b))/\w = w':=by
 obtain ⟨A,hA⟩:∃ A,dst a = A:=⟨_,rfl⟩
 obtain ⟨B,hB⟩:∃ B,dst b = B:=⟨_,rfl⟩
 have ga:=dst_in a; have gb:=dst_in b
 rw [hA] at ga; rw [hB] at gb
 obtain ⟨ga0,ga1⟩:=ga; obtain ⟨gb0,gb1⟩:=gb
 have HA:=jH hA; have HB:=jH hB; clear hA hB
 have ca:=fun v:World => dist_of a v
 have cb:=fun v:World => dist_of b v
 rw [HA.out] at ca; rw [HB.out] at cb
 have CA:=jH ca; have CB:=jH cb; clear ca cb
 by_cases hs:4611686018427387904 < A + B
 ·have HE:=jH (show addI a b = 4611686018427387904 by unfold addI; rw [HA.out,HB.out,if_pos hs])
  go_enter Tryz.func75,Tryz.ntmps75
  go_wp2_with fail
  refine (CA.out _).mono ?_
  rintro e w' ⟨rfl,rfl⟩
  go_wp2_with fail
  refine (CB.out _).mono ?_
  rintro e w' ⟨rfl,rfl⟩
  go_wp2
  all_goals (try (exfalso; omega))
  all_goals (go_ret; exact ⟨ret_j (by rw [HE.out]; try omega),rfl⟩)
 ·have HE:=jH (show addI a b = A + B by unfold addI; rw [HA.out,HB.out,if_neg hs])
  go_enter Tryz.func75,Tryz.ntmps75
  go_wp2_with fail
  refine (CA.out _).mono ?_
  rintro e w' ⟨rfl,rfl⟩
  go_wp2_with fail
  refine (CB.out _).mono ?_
  rintro e w' ⟨rfl,rfl⟩
  go_wp2
  all_goals (try (exfalso; omega))
  all_goals (go_ret; exact ⟨ret_j (by rw [HE.out]; try omega),rfl⟩)
theorem rdist_of (a:Int) (w:World):Calls Tryz.prog 55 #[.int .i64 a] w fun e w' => e = .returned (.int .i64 (dst a))/\w = w':=by
 by_cases h:a < 0
 ·have HE:=jH (show dst a = 0 by unfold dst; rw [if_pos h])
  go_enter Tryz.func55,Tryz.ntmps55
  go_wp2
  go_ret
  exact ⟨ret_j HE.out.symm,rfl⟩
 ·by_cases hi:4611686018427387904 < a
  ·have HE:=jH (show dst a = 4611686018427387904 by unfold dst; rw [if_neg h,if_pos hi])
   go_enter Tryz.func55,Tryz.ntmps55
   go_wp2
   go_ret
   exact ⟨ret_j HE.out.symm,rfl⟩
  ·have HE:=jH (show dst a = a by unfold dst; rw [if_neg h,if_neg hi])
   go_enter Tryz.func55,Tryz.ntmps55
   go_wp2
   go_ret
   exact ⟨ret_j HE.out.symm,rfl⟩
theorem radd_of (a b:Int) (w:World):Calls Tryz.prog 30 #[.int .i64 a,.int .i64 b] w fun e w' => e = .returned (.int .i64 (addI a b))/\w = w':=by
 obtain ⟨A,hA⟩:∃ A,dst a = A:=⟨_,rfl⟩
 obtain ⟨B,hB⟩:∃ B,dst b = B:=⟨_,rfl⟩
 have ga:=dst_in a; have gb:=dst_in b
 rw [hA] at ga; rw [hB] at gb
 obtain ⟨ga0,ga1⟩:=ga; obtain ⟨gb0,gb1⟩:=gb
 have HA:=jH hA; have HB:=jH hB; clear hA hB
 have ca:=fun v:World => rdist_of a v
 have cb:=fun v:World => rdist_of b v
 rw [HA.out] at ca; rw [HB.out] at cb
 have CA:=jH ca; have CB:=jH cb; clear ca cb
 by_cases hs:4611686018427387904 < A + B
 ·have HE:=jH (show addI a b = 4611686018427387904 by unfold addI; rw [HA.out,HB.out,if_pos hs])
  go_enter Tryz.func30,Tryz.ntmps30
  go_wp2_with fail
  refine (CA.out _).mono ?_
  rintro e w' ⟨rfl,rfl⟩
  go_wp2_with fail
  refine (CB.out _).mono ?_
  rintro e w' ⟨rfl,rfl⟩
  go_wp2
  all_goals (try (exfalso; omega))
  all_goals (go_ret; exact ⟨ret_j (by rw [HE.out]; try omega),rfl⟩)
 ·have HE:=jH (show addI a b = A + B by unfold addI; rw [HA.out,HB.out,if_neg hs])
  go_enter Tryz.func30,Tryz.ntmps30
  go_wp2_with fail
  refine (CA.out _).mono ?_
  rintro e w' ⟨rfl,rfl⟩
  go_wp2_with fail
  refine (CB.out _).mono ?_
  rintro e w' ⟨rfl,rfl⟩
  go_wp2
  all_goals (try (exfalso; omega))
  all_goals (go_ret; exact ⟨ret_j (by rw [HE.out]; try omega),rfl⟩)
theorem eb_alloc (w:World) (x y z:Int):(w.alloc (.cells #[.int .i64 x,.int .i64 y,.int .i64 z] 33)).heap[w.heap.size]? = some (.cells #[.int .i64 x,.int .i64 y,.int .i64 z] 33 (0,0)):=heap_alloc_new w _
theorem give_any (v x y z:Int) (w:World):Calls Tryz.prog 53 #[.int .i64 v,.agg #[.int .i64 x,.int .i64 y,.int .i64 z]] w fun e w' => e = .returned (.int .i64 (addI v z))/\Below w.heap.size w w':=by
 have HB:=jH ((Below.refl _ w).alloc (Nat.le_refl _) (.cells #[.int .i64 x,.int .i64 y,.int .i64 z] 33))
 go_enter Tryz.func53,Tryz.ntmps53
 go_wp2_with fail
 refine (add_of v z _).mono ?_
 rintro e w' ⟨rfl,rfl⟩
 go_wp2
 go_ret
 exact ⟨rfl,HB.out⟩
theorem rgive_any (v x y z:Int) (w:World):Calls Tryz.prog 115 #[.int .i64 v,.agg #[.int .i64 x,.int .i64 y,.int .i64 z]] w fun e w' => e = .returned (.int .i64 (addI v z))/\Below w.heap.size w w':=by
 have HB:=jH ((Below.refl _ w).alloc (Nat.le_refl _) (.cells #[.int .i64 x,.int .i64 y,.int .i64 z] 33))
 go_enter Tryz.func115,Tryz.ntmps115
 go_wp2_with fail
 refine (radd_of v z _).mono ?_
 rintro e w' ⟨rfl,rfl⟩
 go_wp2
 go_ret
 exact ⟨rfl,HB.out⟩
def tkm (v:Int) (has:Bool) (x:Int):Int:=if has then min v (max x 0) else v
def tkb (v:Int) (has:Bool) (x:Int):Bool:=has && decide (max x 0 < v)
theorem ret_tm {a a':Int} {b b':Bool} (h:a = a') (k:b = b'):Ending.returned (.tuple #[.int .i64 a,.bool b]) = .returned (.tuple #[.int .i64 a',.bool b']):=by rw [h,k]
set_option maxRecDepth 100000 in
theorem take_any (v x:Int) (has:Bool) (w:World) :
 Calls Tryz.prog 203 #[.int .i64 v,.agg #[.bool has,.int .i64 x]] w fun e w' => e = .returned (.tuple #[.int .i64 (tkm v has x),.bool (tkb v has x)])/\Below w.heap.size w w':=by
 have HB:=jH ((Below.refl _ w).alloc (Nat.le_refl _) (.cells #[.bool has,.int .i64 x] 114))
 obtain ⟨r,hr⟩:∃ r,tkm v has x = r:=⟨_,rfl⟩
 obtain ⟨q,hq⟩:∃ q,tkb v has x = q:=⟨_,rfl⟩
 rw [hr,hq]
 have HR:=jH hr; have HQ:=jH hq; clear hr hq
 cases has with
 | false =>
  go_enter Tryz.func203,Tryz.ntmps203
  go_wp2
  all_goals (go_ret2; exact ⟨ret_tm (by rw [<- HR.out]; rfl) (by rw [<- HQ.out]; rfl),HB.out⟩)
 | true =>
  have h1:min v (max x 0) = r:=HR.out
  have h2:decide (max x 0 < v) = q:=by rw [<- HQ.out]; simp [tkb]
  have H1:=jH h1; have H2:=jH h2; clear h1 h2
  rcases (show (x < 0/\0 < v)\/(x < 0/\v <= 0)\/(0 <= x/\x < v)\/(0 <= x/\v <= x) by omega) with ⟨g1,g2⟩ | ⟨g1,g2⟩ | ⟨g1,g2⟩ | ⟨g1,g2⟩
  ·have e1:r = 0:=by rw [<- H1.out]; omega
   have e2:q = true:=by rw [<- H2.out]; simp; omega
   subst e1 e2
   clear HR HQ H1 H2
   go_enter Tryz.func203,Tryz.ntmps203
   go_wp2
   all_goals (try (exfalso; omega))
   all_goals (go_ret2; exact ⟨ret_tm (by first | rfl | omega) (by first | rfl | (simp; omega)),HB.out⟩)
  ·have e1:r = v:=by rw [<- H1.out]; omega
   have e2:q = false:=by rw [<- H2.out]; simp; omega
   subst e1 e2
   clear HR HQ H1 H2
   go_enter Tryz.func203,Tryz.ntmps203
   go_wp2
   all_goals (try (exfalso; omega))
   all_goals (go_ret2; exact ⟨ret_tm (by first | rfl | omega) (by first | rfl | (simp; omega)),HB.out⟩)
  ·have e1:r = x:=by rw [<- H1.out]; omega
   have e2:q = true:=by rw [<- H2.out]; simp; omega
   subst e1 e2
   clear HR HQ H1 H2
   go_enter Tryz.func203,Tryz.ntmps203
   go_wp2
   all_goals (try (exfalso; omega))
   all_goals (go_ret2; exact ⟨ret_tm (by first | rfl | omega) (by first | rfl | (simp; omega)),HB.out⟩)
  ·have e1:r = v:=by rw [<- H1.out]; omega
   have e2:q = false:=by rw [<- H2.out]; simp; omega
   subst e1 e2
   clear HR HQ H1 H2
   go_enter Tryz.func203,Tryz.ntmps203
   go_wp2
   all_goals (try (exfalso; omega))
   all_goals (go_ret2; exact ⟨ret_tm (by first | rfl | omega) (by first | rfl | (simp; omega)),HB.out⟩)
set_option maxRecDepth 100000 in
theorem rtake_any (v x:Int) (has:Bool) (w:World) :
 Calls Tryz.prog 108 #[.int .i64 v,.agg #[.bool has,.int .i64 x]] w fun e w' => e = .returned (.tuple #[.int .i64 (tkm v has x),.bool (tkb v has x)])/\Below w.heap.size w w':=by
 have HB:=jH ((Below.refl _ w).alloc (Nat.le_refl _) (.cells #[.bool has,.int .i64 x] 114))
 obtain ⟨r,hr⟩:∃ r,tkm v has x = r:=⟨_,rfl⟩
 obtain ⟨q,hq⟩:∃ q,tkb v has x = q:=⟨_,rfl⟩
 rw [hr,hq]
 have HR:=jH hr; have HQ:=jH hq; clear hr hq
 cases has with
 | false =>
  go_enter Tryz.func108,Tryz.ntmps108
  go_wp2
  all_goals (go_ret2; exact ⟨ret_tm (by rw [<- HR.out]; rfl) (by rw [<- HQ.out]; rfl),HB.out⟩)
 | true =>
  have h1:min v (max x 0) = r:=HR.out
  have h2:decide (max x 0 < v) = q:=by rw [<- HQ.out]; simp [tkb]
  have H1:=jH h1; have H2:=jH h2; clear h1 h2
  rcases (show (x < 0/\0 < v)\/(x < 0/\v <= 0)\/(0 <= x/\x < v)\/(0 <= x/\v <= x) by omega) with ⟨g1,g2⟩ | ⟨g1,g2⟩ | ⟨g1,g2⟩ | ⟨g1,g2⟩
  ·have e1:r = 0:=by rw [<- H1.out]; omega
   have e2:q = true:=by rw [<- H2.out]; simp; omega
   subst e1 e2
   clear HR HQ H1 H2
   go_enter Tryz.func108,Tryz.ntmps108
   go_wp2
   all_goals (try (exfalso; omega))
   all_goals (go_ret2; exact ⟨ret_tm (by first | rfl | omega) (by first | rfl | (simp; omega)),HB.out⟩)
  ·have e1:r = v:=by rw [<- H1.out]; omega
   have e2:q = false:=by rw [<- H2.out]; simp; omega
   subst e1 e2
   clear HR HQ H1 H2
   go_enter Tryz.func108,Tryz.ntmps108
   go_wp2
   all_goals (try (exfalso; omega))
   all_goals (go_ret2; exact ⟨ret_tm (by first | rfl | omega) (by first | rfl | (simp; omega)),HB.out⟩)
  ·have e1:r = x:=by rw [<- H1.out]; omega
   have e2:q = true:=by rw [<- H2.out]; simp; omega
   subst e1 e2
   clear HR HQ H1 H2
   go_enter Tryz.func108,Tryz.ntmps108
   go_wp2
   all_goals (try (exfalso; omega))
   all_goals (go_ret2; exact ⟨ret_tm (by first | rfl | omega) (by first | rfl | (simp; omega)),HB.out⟩)
  ·have e1:r = v:=by rw [<- H1.out]; omega
   have e2:q = false:=by rw [<- H2.out]; simp; omega
   subst e1 e2
   clear HR HQ H1 H2
   go_enter Tryz.func108,Tryz.ntmps108
   go_wp2
   all_goals (try (exfalso; omega))
   all_goals (go_ret2; exact ⟨ret_tm (by first | rfl | omega) (by first | rfl | (simp; omega)),HB.out⟩)
end Go.Proofs.YtdcaekmgfcpbmaaGreat.Pa
namespace Go.Proofs.YtdcaekmgfcpbmaaGreat.Lb
open Go.RowKit Gr Wd Ws
theorem tak_yes {v x:Int} (h:x < v):x = takM v true x/\true = takB v true x:=by unfold takM takB; rw [if_pos ⟨rfl,h⟩,decide_eq_true h]; exact ⟨rfl,rfl⟩
theorem tak_no {v x:Int} (h:¬ x < v):v = takM v true x/\false = takB v true x:=by unfold takM takB; rw [if_neg (fun g => h g.2),decide_eq_false h]; exact ⟨rfl,rfl⟩
theorem ret_tm {a a':Int} {b b':Bool} (h:a = a') (k:b = b'):Ending.returned (.tuple #[.int .i64 a,.bool b]) = .returned (.tuple #[.int .i64 a',.bool b']):=by rw [h,k]
set_option maxRecDepth 100000 in
theorem take_any (v x:Int) (has:Bool) (w:World) :
 Calls Tryz.prog 176 #[.int .i64 v,.agg #[.bool has,.int .i64 x]] w fun e w' => e = .returned (.tuple #[.int .i64 (takM v has x),.bool (takB v has x)])/\Below w.heap.size w w':=by
 have hb:Below w.heap.size w (w.alloc (.cells #[.bool has,.int .i64 x] 114)):=(Below.refl _ w).alloc (Nat.le_refl _) _
 have HB:=jH hb; clear hb
 cases has with
 | false =>
  go_enter Tryz.func176,Tryz.ntmps176
  go_wp2
  go_ret2
  exact ⟨ret_tm (by simp [takM]) (by simp [takB]),HB.out⟩
 | true =>
  by_cases hx:x < v
  ·go_enter Tryz.func176,Tryz.ntmps176
   go_wp2
   go_ret2
   exact ⟨ret_tm (tak_yes (by omega)).1 (tak_yes (by omega)).2,HB.out⟩
  ·go_enter Tryz.func176,Tryz.ntmps176
   go_wp2
   go_ret2
   exact ⟨ret_tm (tak_no (by omega)).1 (tak_no (by omega)).2,HB.out⟩
set_option maxRecDepth 100000 in
theorem rtake_any (v x:Int) (has:Bool) (w:World) :
 Calls Tryz.prog 107 #[.int .i64 v,.agg #[.bool has,.int .i64 x]] w fun e w' => e = .returned (.tuple #[.int .i64 (takM v has x),.bool (takB v has x)])/\Below w.heap.size w w':=by
 have hb:Below w.heap.size w (w.alloc (.cells #[.bool has,.int .i64 x] 114)):=(Below.refl _ w).alloc (Nat.le_refl _) _
 have HB:=jH hb; clear hb
 cases has with
 | false =>
  go_enter Tryz.func107,Tryz.ntmps107
  go_wp2
  go_ret2
  exact ⟨ret_tm (by simp [takM]) (by simp [takB]),HB.out⟩
 | true =>
  by_cases hx:x < v
  ·go_enter Tryz.func107,Tryz.ntmps107
   go_wp2
   go_ret2
   exact ⟨ret_tm (tak_yes (by omega)).1 (tak_yes (by omega)).2,HB.out⟩
  ·go_enter Tryz.func107,Tryz.ntmps107
   go_wp2
   go_ret2
   exact ⟨ret_tm (tak_no (by omega)).1 (tak_no (by omega)).2,HB.out⟩
end Go.Proofs.YtdcaekmgfcpbmaaGreat.Lb
namespace Go.Proofs.YtdcaekmgfcpbmaaGreat.Mk
open Go.RowKit Gr Wd Ws Lb
theorem iat_at {w:World} {A:Option Addr} {l:List Int} (h:IAt w A l) {k:Nat} (hk:k < l.length):∃ x bk o,A = some ⟨bk,o,none⟩/\Hid (l[k]? = some x)/\w.cell? ⟨bk,o + k,none⟩ = some (.int .i64 x):=by
 obtain ⟨x,hx⟩:=at_lt l k hk
 obtain ⟨bk,o,hA,c⟩:=h k x hx
 exact ⟨x,bk,o,hA,jH hx,c⟩
theorem lab_no {l:List Int} {k:Nat} {x:Int} (h:l[k]? = some x) (hn:¬ (0 <= x/\x <= (k:Int))):labOk l k = false:=by
 unfold labOk; rw [h]
 by_cases h0:0 <= x
 ·have:¬ x <= (k:Int):=fun g => hn ⟨h0,g⟩
  simp [this]
 ·simp [h0]
theorem lab_at {l:List Int} {k j:Nat} {z:Int} (h:l[k]? = some (j:Int)) (hj:j <= k) (hz:l[j]? = some z):labOk l k = decide (z = (j:Int)):=by
 unfold labOk; rw [h]
 simp [hj,hz]
theorem own_at {l:List Int} {k:Nat} {x:Int} (h:l[k]? = some x):mne l k = decide (x = (k:Int)):=by
 unfold mne; rw [h]; simp
set_option maxRecDepth 100000 in
theorem maybe_any (A:Option Addr) (c:Nat) (l:List Int) (k:Nat) (w:World) (hL:IAt w A l) (_hl:l.length <= 9223372036854775807) (hk:k < l.length) :
 Calls Tryz.prog 27 #[.slice A l.length c,.int .i64 (k:Int)] w fun e w' => e = .returned (.bool (labOk l k))/\w = w':=by
 obtain ⟨x,bk,o,rfl,HX,c0⟩:=iat_at hL hk
 obtain ⟨R,hR⟩:∃ R,labOk l k = R:=⟨_,rfl⟩
 rw [hR]
 have HR:=jH hR; clear hR
 obtain ⟨n,hn⟩:∃ n,n = l.length:=⟨_,rfl⟩
 rw [<- hn] at hk ⊢
 have HN:=jH hn; clear hn
 by_cases h0:0 <= x
 ·by_cases h1:x <= (k:Int)
  ·obtain ⟨j,rfl⟩:∃ j:Nat,x = (j:Int):=⟨x.toNat,by omega⟩
   obtain ⟨z,bk',o',e0,HZ,c1⟩:=iat_at hL (show j < l.length by rw [<- HN.out]; omega)
   cases e0
   have HL:=jH (lab_at HX.out (by omega) HZ.out)
   clear hL
   by_cases hz:z = (j:Int)
   ·subst hz
    go_enter Tryz.func27,Tryz.ntmps27
    go_wp2
    go_ret
    refine ⟨ret_b ?_,rfl⟩
    rw [<- HR.out,HL.out]; simp
   ·go_enter Tryz.func27,Tryz.ntmps27
    go_wp2
    go_ret
    refine ⟨ret_b ?_,rfl⟩
    rw [<- HR.out,HL.out]; simp [hz]
  ·have HL:=jH (lab_no HX.out (fun h => h1 h.2))
   clear hL
   go_enter Tryz.func27,Tryz.ntmps27
   go_wp2
   go_ret
   refine ⟨ret_b ?_,rfl⟩
   rw [<- HR.out,HL.out]
 ·have HL:=jH (lab_no HX.out (fun h => h0 h.1))
  clear hL
  go_enter Tryz.func27,Tryz.ntmps27
  go_wp2
  go_ret
  refine ⟨ret_b ?_,rfl⟩
  rw [<- HR.out,HL.out]
def MkRel (w:World) (l:List Int) (g:Nat) (m i:Value) (wr:World):Prop :=
 ∃ k m':Nat,k + g = l.length/\i = .int .i64 (k:Int)/\m = .int .i64 (m':Int)/\w = wr/\m' <= k/\mrk l = mrkF l g k m'
theorem mrk_step {l:List Int} {g k m:Nat} (h:labOk l k = true):mrkF l (g + 1) k m = mrkF l g (k + 1) (if mne l k then m + 1 else m):=by rw [mrkF,if_pos h]
theorem mrk_stop {l:List Int} {g k m:Nat} (h:labOk l k = false):mrkF l (g + 1) k m = (0,false):=by rw [mrkF,if_neg (by rw [h]; exact Bool.false_ne_true)]
set_option maxRecDepth 100000 in
set_option maxHeartbeats 1000000 in
theorem marks_any (A:Option Addr) (c:Nat) (l:List Int) (w:World) (hL:IAt w A l) (hl:l.length <= 100000) :
 Calls Tryz.prog 12 #[.slice A l.length c] w fun e w' => e = .returned (.tuple #[.int .i64 (mrk l).1,.bool (mrk l).2])/\w = w':=by
 have HL:=jH hL; clear hL
 obtain ⟨R,hR⟩:∃ R,mrk l = R:=⟨_,rfl⟩
 rw [hR]
 have HR:=jH hR; clear hR
 obtain ⟨n,hn⟩:∃ n,n = l.length:=⟨_,rfl⟩
 rw [<- hn] at hl ⊢
 have HN:=jH hn; clear hn
 go_enter Tryz.func12,Tryz.ntmps12
 go_wp2
 go_loopg [4,8] n (fun g m i wr => MkRel w l g m i wr)
 case atStart => exact ⟨0,0,by have:=HN.out; omega,rfl,rfl,rfl,Nat.le_refl _,by unfold mrk; rw [<- HN.out]⟩
 case round =>
  obtain ⟨k,m,hk,rfl,rfl,rfl,hmk,hmr⟩:=hrel
  rw [<- HN.out] at hk
  have HM:=jH hmr; clear hmr
  by_cases hlt:k < n
  ·obtain ⟨x,bk,o,rfl,HX,c0⟩:=iat_at HL.out (show k < l.length by rw [<- HN.out]; exact hlt)
   have HC:=maybe_any _ c l k w HL.out (by rw [<- HN.out]; omega) (by rw [<- HN.out]; exact hlt)
   rw [<- HN.out] at HC
   obtain ⟨r,hr⟩:∃ r,labOk l k = r:=⟨_,rfl⟩
   rw [hr] at HC
   have HRR:=jH hr; clear hr
   have HC':=jH HC; clear HC
   obtain ⟨G,hG⟩:∃ G,gk = G + 1:=⟨gk - 1,by omega⟩
   cases r with
   | false =>
    have HF:=jH ((HM.out.trans (by rw [hG])).trans (mrk_stop (g:=G) HRR.out))
    go_wp2_with fail
    refine HC'.out.mono ?_
    rintro er w1 ⟨rfl,rfl⟩
    go_wp2
    go_ret2
    have e:=HR.out.symm.trans HF.out
    exact ⟨by subst e; rfl,rfl⟩
   | true =>
    have HF:=jH ((HM.out.trans (by rw [hG])).trans (mrk_step (g:=G) HRR.out))
    have HO:=jH (own_at HX.out)
    by_cases hxk:x = (k:Int)
    ·subst hxk
     go_wp2_with fail
     refine HC'.out.mono ?_
     rintro er w1 ⟨rfl,rfl⟩
     go_wp2
     go_roundg (gk - 1)
     case measure => omega
     case rel =>
      refine ⟨k + 1,m + 1,by have:=HN.out; omega,by go_num,by go_num,rfl,by omega,?_⟩
      rw [HF.out,HO.out]; simp [hG]
    ·go_wp2_with fail
     refine HC'.out.mono ?_
     rintro er w1 ⟨rfl,rfl⟩
     go_wp2
     go_roundg (gk - 1)
     case measure => omega
     case rel =>
      refine ⟨k + 1,m,by have:=HN.out; omega,by go_num,rfl,rfl,by omega,?_⟩
      rw [HF.out,HO.out]; simp [hG,hxk]
  ·have HG:Hid (gk = 0):=jH (by omega)
   have HF:=jH (HM.out.trans (show mrkF l gk k m = ((m:Int),true) by rw [HG.out]; rfl))
   go_wp2
   go_ret2
   have e:=HR.out.symm.trans HF.out
   exact ⟨by subst e; rfl,rfl⟩
end Go.Proofs.YtdcaekmgfcpbmaaGreat.Mk
namespace Go.Proofs.YtdcaekmgfcpbmaaGreat.Pa
open Go.RowKit Gr Wd Ws Fx Lb
theorem iat_at {w:World} {A:Option Addr} {l:List Int} (h:IAt w A l) {k:Nat} (hk:k < l.length):∃ bk o,A = some ⟨bk,o,none⟩/\w.cell? ⟨bk,o + k,none⟩ = some (.int .i64 (vl l k)):=h k _ (vl_at hk)
theorem dist_cons {l:List Int} {k:Nat} (h:k < l.length):distB (l.drop k) = (decide (0 <= vl l k) && decide (vl l k <= 4611686018427387904) && distB (l.drop (k + 1))):=by
 rw [drop_at (vl_at h)]; rfl
def DiRel (w:World) (l:List Int) (g:Nat) (i:Value) (wr:World):Prop :=
 ∃ k:Nat,k + g = l.length/\i = .int .i64 (k:Int)/\wr = w/\distB l = distB (l.drop k)
set_option maxRecDepth 100000 in
theorem dists_any (A:Option Addr) (c:Nat) (l:List Int) (w:World) (hL:IAt w A l) (hl:l.length <= 9223372036854775807) :
 Calls Tryz.prog 31 #[.slice A l.length c] w fun e w' => e = .returned (.bool (distB l))/\w = w':=by
 have HL:=jH hL; clear hL
 obtain ⟨R,hR⟩:∃ R,distB l = R:=⟨_,rfl⟩
 rw [hR]
 have HR:=jH hR; clear hR
 obtain ⟨n,hn⟩:∃ n,n = l.length:=⟨_,rfl⟩
 rw [<- hn] at hl ⊢
 have HN:=jH hn; clear hn
 go_enter Tryz.func31,Tryz.ntmps31
 go_wp2
 go_loopg [7] n (fun g i wr => DiRel w l g i wr)
 case atStart => exact ⟨0,by have:=HN.out; omega,rfl,rfl,rfl⟩
 case round =>
  obtain ⟨k,hk,rfl,rfl,hd⟩:=hrel
  rw [<- HN.out] at hk
  by_cases hlt:k < n
  ·obtain ⟨bk,o,rfl,c0⟩:=iat_at HL.out (show k < l.length by rw [<- HN.out]; exact hlt)
   rw [dist_cons (show k < l.length by rw [<- HN.out]; exact hlt)] at hd
   obtain ⟨x,hx⟩:∃ x,vl l k = x:=⟨_,rfl⟩
   rw [hx] at c0 hd
   have HD:=jH hd; clear hd hx
   rcases (show x < 0\/4611686018427387904 < x/\0 <= x\/(0 <= x/\x <= 4611686018427387904) by omega) with g1 | ⟨g1,g2⟩ | ⟨g1,g2⟩
   ·go_wp2
    go_ret
    refine ⟨ret_b ?_,rfl⟩
    rw [<- HR.out,HD.out,decide_eq_false (by omega:¬ 0 <= x)]; rfl
   ·go_wp2
    go_ret
    refine ⟨ret_b ?_,rfl⟩
    rw [<- HR.out,HD.out,decide_eq_false (by omega:¬ x <= 4611686018427387904),Bool.and_false]; rfl
   ·go_wp2
    go_roundg (gk - 1)
    case measure => omega
    case rel => exact ⟨k + 1,by have:=HN.out; omega,by go_num,rfl,by rw [HD.out,decide_eq_true g1,decide_eq_true g2]; rfl⟩
  ·have HD:=jH hd; clear hd
   have HK:Hid (k = n):=jH (by omega)
   go_wp2
   go_ret
   refine ⟨ret_b ?_,rfl⟩
   rw [<- HR.out,HD.out,HK.out,List.drop_eq_nil_of_le (by rw [HN.out]; exact Nat.le_refl _)]; rfl
def FitsI (m:Nat) (L:List Ed):Prop:=∀ e ∈ L,0 <= e.1/\e.1 < (m:Int)/\0 <= e.2.1/\e.2.1 < (m:Int)
theorem fitsI_of {m:Nat} {L:List Ed} (h:chk (m:Int) L = 0):FitsI m L:=by
 obtain ⟨_,_,_,h,_⟩:=(chk_zero _ _).1 h
 intro e he
 have:=(fitE_iff _ _).1 (h e he)
 omega
theorem FitsI.fits {m:Nat} {L:List Ed} (h:FitsI m L):Fits m L:=fun e he => by
 have:=h e he
 unfold fr to; omega
theorem edge_nat {m:Nat} {L:List Ed} (h:FitsI m L) {k:Nat} (hk:k < L.length):∃ (f t:Nat) (z:Int),L[k]? = some ((f:Int),(t:Int),z)/\f < m/\t < m:=by
 obtain ⟨e,he⟩:=at_lt L k hk
 have hh:=h e (List.mem_of_getElem? he)
 obtain ⟨a,b,z⟩:=e
 have:0 <= a/\a < (m:Int)/\0 <= b/\b < (m:Int):=hh
 refine ⟨a.toNat,b.toNat,z,?_,by omega,by omega⟩
 rw [he]
 have h1:((a.toNat:Nat):Int) = a:=by omega
 have h2:((b.toNat:Nat):Int) = b:=by omega
 rw [h1,h2]
theorem fr_of (f t:Nat) (z:Int):fr ((f:Int),(t:Int),z) = f:=by simp [fr]
theorem to_of (f t:Nat) (z:Int):to ((f:Int),(t:Int),z) = t:=by simp [to]
theorem near_cons {l:List Int} {L:List Ed} {k f t:Nat} {z:Int} (h:L[k]? = some ((f:Int),(t:Int),z)):nearB l (L.drop k) = (decide (vl l t <= addI (vl l f) z) && nearB l (L.drop (k + 1))):=by
 rw [drop_at h]
 have e1:gv l ((f:Int),(t:Int),z) = addI (vl l f) z:=by unfold gv; rw [fr_of]
 show (decide (vl l (to _) <= gv l _) && _) = _
 rw [to_of,e1]; rfl
def NeRel (w:World) (l:List Int) (L:List Ed) (g:Nat) (i:Value) (wr:World):Prop :=
 ∃ k:Nat,k + g = L.length/\i = .int .i64 (k:Int)/\Below w.heap.size w wr/\nearB l L = nearB l (L.drop k)
set_option maxRecDepth 100000 in
set_option maxHeartbeats 600000 in
theorem near_any (V:Int) (A B:Option Addr) (c d:Nat) (L:List Ed) (l:List Int) (w:World) (hL:EAt w A L) (hl:IAt w B l) (hn:L.length <= 9223372036854775807) (hF:FitsI l.length L) :
 Calls Tryz.prog 32 #[.agg #[.int .i64 V,.slice A L.length c],.slice B l.length d] w fun e w' => e = .returned (.bool (nearB l L))/\Below w.heap.size w w':=by
 have mixed:=mixedP
 have HL:=jH hL; have Hl:=jH hl; have HF:=jH hF; clear hL hl hF
 have HZ:=jH ((Below.refl _ w).alloc (Nat.le_refl _) (.cells #[.int .i64 V,.slice A L.length c] 24))
 obtain ⟨R,hR⟩:∃ R,nearB l L = R:=⟨_,rfl⟩
 rw [hR]
 have HR:=jH hR; clear hR
 obtain ⟨n,hn'⟩:∃ n,n = L.length:=⟨_,rfl⟩
 obtain ⟨m,hm⟩:∃ m,m = l.length:=⟨_,rfl⟩
 rw [<- hn'] at hn HZ ⊢
 rw [<- hm] at HF ⊢
 have HN:=jH hn'; have HM:=jH hm; clear hn' hm
 go_enter Tryz.func32,Tryz.ntmps32
 go_wp2
 go_loopg [10] n (fun g i wr => NeRel w l L g i wr)
 case atStart => exact ⟨0,by have:=HN.out; omega,rfl,HZ.out,rfl⟩
 case round =>
  obtain ⟨k,hk,rfl,hb,hd⟩:=hrel
  rw [<- HN.out] at hk
  have HB:=jH hb; clear hb
  by_cases hlt:k < n
  ·obtain ⟨f,t,z,he,hf,ht⟩:=edge_nat HF.out (show k < L.length by rw [<- HN.out]; exact hlt)
   obtain ⟨bk,o,rfl,c0,c1,c2⟩:=(HL.out.below HB.out) k _ he
   obtain ⟨bv,ov,rfl,x0⟩:=iat_at (Hl.out.below HB.out) (show f < l.length by rw [<- HM.out]; exact hf)
   obtain ⟨_,_,e0,y0⟩:=iat_at (Hl.out.below HB.out) (show t < l.length by rw [<- HM.out]; exact ht)
   cases e0
   rw [near_cons he] at hd
   obtain ⟨x,hx⟩:∃ x,vl l f = x:=⟨_,rfl⟩
   obtain ⟨y,hy⟩:∃ y,vl l t = y:=⟨_,rfl⟩
   obtain ⟨G,hG⟩:∃ G,addI x z = G:=⟨_,rfl⟩
   rw [hx] at x0 hd
   rw [hy] at y0 hd
   rw [hG] at hd
   have HD:=jH hd
   have HW:Hid (Below wr.heap.size wr (wr.alloc (.cells #[.int .i64 (f:Int),.int .i64 (t:Int),.int .i64 z] 33))):=jH ((Below.refl _ wr).alloc (Nat.le_refl _) _)
   have HX:=jH (eb_alloc wr (f:Int) (t:Int) z)
   clear hd hx hy he
   go_wp2_with fail
   obtain ⟨W1,hW1⟩:∃ W1,W1 = wr.alloc (.cells #[.int .i64 (f:Int),.int .i64 (t:Int),.int .i64 z] 33):=⟨_,rfl⟩
   rw [<- hW1] at HW HX ⊢
   obtain ⟨b,hb⟩:∃ b,b = wr.heap.size:=⟨_,rfl⟩
   rw [<- hb] at HX ⊢
   have HB1:=jS HB HW.out
   have q0:=cell_regrown ((HW.out.cell (block_lt_of_cell x0)).trans x0)
   have q1:=cell_regrown ((HW.out.cell (block_lt_of_cell y0)).trans y0)
   obtain ⟨p0,p1,p2,_⟩:=eb_cells HX.out
   have r0:=cell_regrown p0; have r1:=cell_regrown p1; have r2:=cell_regrown p2
   have hC:=regr fun W (_:Below W1.heap.size W1 W) => give_any x (f:Int) (t:Int) z W
   rw [hG] at hC
   have C1:=jH hC
   clear hC hG p0 p1 p2 x0 y0 c0 c1 c2 hW1 hb HX
   refine wp_region_quiet_below mixed (by kernel_rfl) ?_
   repeat (go_big_quiet_step ((with_reducible first | exact C1.out _ _)))
   refine wpQuiet_nil ?_
   intro _ hw'
   obtain ⟨⟨dq,osq⟩,hw''⟩:=hw'
   subst hw''
   have HB2:=jH (step_below HB1.out HB1.out.size (below_regrown W1 dq osq))
   clear q0 q1 r0 r1 r2
   by_cases hg:G < y
   ·go_wp2
    go_ret
    refine ⟨ret_b ?_,HB2.out⟩
    rw [<- HR.out,HD.out,decide_eq_false (by omega:¬ y <= G)]; rfl
   ·go_wp2
    go_roundg (gk - 1)
    case measure => omega
    case rel => exact ⟨k + 1,by have:=HN.out; omega,by go_num,HB2.out,by rw [HD.out,decide_eq_true (by omega:y <= G)]; rfl⟩
  ·have HD:=jH hd; clear hd
   have HK:Hid (k = n):=jH (by omega)
   go_wp2
   go_ret
   refine ⟨ret_b ?_,HB.out⟩
   rw [<- HR.out,HD.out,HK.out,List.drop_eq_nil_of_le (by rw [HN.out]; exact Nat.le_refl _)]; rfl
end Go.Proofs.YtdcaekmgfcpbmaaGreat.Pa
