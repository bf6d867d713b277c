/-
  What is proved here: plain words for memory that the texts of this seat share: what lies below is left, rows that the call made. No condition. What is proved here: plain facts on graphs: which may be, that ordered edges are one list. No program. What is proved here: words for edges in memory: a slice of edges that can be read, and one that the call made. No condition. What is proved here: contracts of graph.isVertex, edgeMayBe, isAhead, turned, of the document's own fits and ahead, and of the kit's Light. Conditions: numbers fit an int. What is proved here: contracts of graph.Check and of the document's own Check: may a graph be? Conditions: numbers and counts fit an int. What is proved here: plain facts on parts: which worker has a vertex, which vertices a worker has, what a part is, what parts joined are; that the parts of a graph, joined, are it. No program.
-/
import Derived.Test.YtdcaekmgfcpbmaaGreatQdHi
import Derived.Test.YtdcaekmgfcpbmaaGreatRows
import Derived.WalkKit
import Derived.WalkSpells
import Derived.Deep.LoopGhost
import Derived.Lib.Hide
import Derived.Lib.Builder
import Derived.Laws.CopyOwn
import Derived.Deep.OwnRows
import Derived.Deep.QuietTactic
import Derived.BigQuiet
import Derived.Shelf.SlSortCmp.QuietGrown
import Derived.Laws.StructEq
import Derived.Outline
namespace Go.Proofs.YtdcaekmgfcpbmaaGreat.Wd
def base:Unit:=()
end Go.Proofs.YtdcaekmgfcpbmaaGreat.Wd
namespace Go.Proofs.YtdcaekmgfcpbmaaGreat.Ws
open Go.RowKit
theorem add_plain (g o k:Nat):(⟨g,o,none⟩:Addr).add k = ⟨g,o + k,none⟩:=by unfold Addr.add; split <;> simp_all
theorem ret_int {k:IntKind} {a b:Int} (h:a = b):Ending.returned (.int k a) = .returned (.int k b):=by rw [h]
theorem below_drewN {B:Nat} {a w:World} (h:Below B a w) (n:Nat):Below B a (w.drewN n):=⟨h.os,h.tape,h.output,h.size,h.block⟩
theorem below_grow (w:World) (k:Nat) (os:Array Obj):Below w.heap.size w (Sort.grow (w.drewN k) os):=by
 have h:(w.drewN k).heap = w.heap:=by simp
 refine ⟨rfl,rfl,rfl,by simp [Sort.grow],fun i hi => ?_⟩
 show ((w.drewN k).heap ++ os)[i]? = _
 rw [h,Array.getElem?_append_left hi]
theorem own_kept {w w':World} {B:Nat} {e:TypeId} {s:Nat} {v:Value} {n:Nat} {xs:List Value} (h:w.ownsRow B e s v n xs) (hk:∀ g c fz,v.ownBlock = some g->w.heap[g]? = some (.cells c e fz)->w'.heap[g]? = w.heap[g]?):w'.ownsRow B e s v n xs:=by
 obtain ⟨h0,h1 | ⟨g,cap,cur,h1,h2,h3,h4⟩⟩:=h
 ·exact ⟨h0,Or.inl h1⟩
 ·exact ⟨h0,Or.inr ⟨g,cap,cur,h1,h2,(hk g cur (0,0) (by rw [h1]; rfl) h3).trans h3,h4⟩⟩
theorem own_lt {w:World} {B:Nat} {e:TypeId} {s:Nat} {v:Value} {n:Nat} {xs:List Value} (h:w.ownsRow B e s v n xs):∀ g,v.ownBlock = some g->B <= g/\∃ c,w.heap[g]? = some (.cells c e (0,0)):=by
 intro g hg
 obtain ⟨_,h1 | ⟨g',cap,cur,h1,h2,h3,_⟩⟩:=h
 ·rw [h1.1] at hg; cases hg
 ·rw [h1] at hg
  have:g' = g:=by simpa [Value.ownBlock] using hg
  subst this
  exact ⟨h2,cur,h3⟩
theorem own_below {w w':World} {B:Nat} {e:TypeId} {s:Nat} {v:Value} {n:Nat} {xs:List Value} (h:w.ownsRow B e s v n xs) (hb:Below w.heap.size w w'):w'.ownsRow B e s v n xs :=
 own_kept h fun g _ _ _ hc => hb.block g (lt_of_block hc)
theorem own_mono {w:World} {B B':Nat} {e:TypeId} {s:Nat} {v:Value} {n:Nat} {xs:List Value} (h:w.ownsRow B e s v n xs) (hb:B' <= B):w.ownsRow B' e s v n xs:=by
 obtain ⟨h0,h1 | ⟨g,cap,cur,h1,h2,h3,h4⟩⟩:=h
 ·exact ⟨h0,Or.inl h1⟩
 ·exact ⟨h0,Or.inr ⟨g,cap,cur,h1,by omega,h3,h4⟩⟩
end Go.Proofs.YtdcaekmgfcpbmaaGreat.Ws
namespace Go.Proofs.YtdcaekmgfcpbmaaGreat.Gr
open Go Go.Lib Wd
abbrev Ed:=Int × Int × Int
def ahd (a b:Ed):Bool:=decide (a.1 < b.1) || (decide (a.1 = b.1) && decide (a.2.1 < b.2.1))
def fitE (V:Int) (e:Ed):Bool:=decide (0 <= e.1) && decide (e.1 < V) && decide (0 <= e.2.1) && decide (e.2.1 < V) && decide (0 <= e.2.2) && decide (e.2.2 < 2147483648)
def Rise (L:List Ed):Prop:=L.Pairwise fun a b => ahd a b = true
def ahdO:Option Ed->Ed->Bool
 | none,_ => true
 | some q,e => ahd q e
def okL (V:Int):Option Ed->List Ed->Bool
 | _,[] => true
 | p,e :: L => fitE V e && ahdO p e && okL V (some e) L
def chk (V:Int) (L:List Ed):Int:=if 512 < V\/8192 < L.length then 3 else if V < 1 then 40 else if okL V none L then 0 else 40
theorem fitE_iff (V:Int) (e:Ed):fitE V e = true ↔ 0 <= e.1/\e.1 < V/\0 <= e.2.1/\e.2.1 < V/\0 <= e.2.2/\e.2.2 < 2147483648:=by
 unfold fitE; simp only [Bool.and_eq_true,decide_eq_true_eq]; omega
theorem ahd_iff (a b:Ed):ahd a b = true ↔ a.1 < b.1\/(a.1 = b.1/\a.2.1 < b.2.1):=by
 unfold ahd; simp
theorem ahd_trans {a b c:Ed} (h:ahd a b = true) (k:ahd b c = true):ahd a c = true:=by
 rw [ahd_iff] at *; omega
theorem okL_iff (V:Int):∀ (L:List Ed) (p:Option Ed),okL V p L = true ↔ (∀ e ∈ L,fitE V e = true)/\Rise L/\∀ q,p = some q->∀ e ∈ L,ahd q e = true
 | [],p => by simp [okL,Rise]
 | e :: L,p => by
  rw [okL,Bool.and_eq_true,Bool.and_eq_true,okL_iff V L (some e)]
  constructor
  ·rintro ⟨⟨h1,h2⟩,h3,h4,h5⟩
   have h6:=h5 e rfl
   refine ⟨fun x hx => ?_,List.pairwise_cons.2 ⟨h6,h4⟩,fun q hq x hx => ?_⟩
   ·rcases List.mem_cons.1 hx with rfl | hx
    ·exact h1
    ·exact h3 x hx
   ·subst hq
    rcases List.mem_cons.1 hx with rfl | hx
    ·exact h2
    ·exact ahd_trans h2 (h6 x hx)
  ·rintro ⟨h1,h2,h3⟩
   obtain ⟨h4,h5⟩:=List.pairwise_cons.1 h2
   refine ⟨⟨h1 e List.mem_cons_self,?_⟩,fun x hx => h1 x (List.mem_cons_of_mem _ hx),h5,fun q hq => by cases hq; exact h4⟩
   cases p with
   | none => rfl
   | some q => exact h3 q rfl e List.mem_cons_self
theorem chk_zero (V:Int) (L:List Ed):chk V L = 0 ↔ 1 <= V/\V <= 512/\L.length <= 8192/\(∀ e ∈ L,fitE V e = true)/\Rise L:=by
 unfold chk
 by_cases h1:512 < V\/8192 < L.length
 ·rw [if_pos h1]; omega
 ·rw [if_neg h1]
  by_cases h2:V < 1
  ·rw [if_pos h2]; omega
  ·rw [if_neg h2]
   cases h3:okL V none L with
   | true =>
    obtain ⟨g1,g2,_⟩:=(okL_iff V L none).1 h3
    simp only [if_true,true_iff]
    exact ⟨by omega,by omega,by omega,g1,g2⟩
   | false =>
    simp only [Bool.false_eq_true,if_false]
    constructor
    ·intro h; omega
    ·rintro ⟨_,_,_,g1,g2⟩
     rw [(okL_iff V L none).2 ⟨g1,g2,by simp⟩] at h3; cases h3
def same (a b:Ed):Bool:=decide (a.1 = b.1) && decide (a.2.1 = b.2.1)
open Go.RowKit Wd Ws
def ec (e:Ed):List Value:=[.int .i64 e.1,.int .i64 e.2.1,.int .i64 e.2.2]
def ecs (L:List Ed):List Value:=L.flatMap ec
theorem ec_len (e:Ed):(ec e).length = 3:=rfl
theorem ecs_append (a b:List Ed):ecs (a ++ b) = ecs a ++ ecs b:=by simp [ecs]
theorem ecs_len:∀ L:List Ed,(ecs L).length = L.length * 3
 | [] => rfl
 | e :: L => by
  show (ec e ++ ecs L).length = _
  rw [List.length_append,ec_len,ecs_len L,List.length_cons]; omega
theorem ecs_one (L:List Ed):∀ u ∈ ecs L,u.oneCell' = true:=by
 intro u hu
 simp only [ecs,List.mem_flatMap,ec] at hu
 obtain ⟨e,_,hu⟩:=hu
 simp only [List.mem_cons,List.not_mem_nil,or_false] at hu
 rcases hu with rfl | rfl | rfl <;> rfl
theorem ecs_at:∀ (L:List Ed) (k:Nat) (e:Ed),L[k]? = some e->(ecs L)[k * 3]? = some (.int .i64 e.1)/\(ecs L)[k * 3 + 1]? = some (.int .i64 e.2.1)/\(ecs L)[k * 3 + 2]? = some (.int .i64 e.2.2)
 | [],k,e,h => by simp at h
 | x :: L,0,e,h => by
  simp at h; subst h
  exact ⟨rfl,rfl,rfl⟩
 | x :: L,k + 1,e,h => by
  have h':L[k]? = some e:=by simpa using h
  obtain ⟨h0,h1,h2⟩:=ecs_at L k e h'
  have key:∀ j,(ecs (x :: L))[j + 3]? = (ecs L)[j]?:=fun j => by
   show (ec x ++ ecs L)[j + 3]? = _
   rw [List.getElem?_append_right (by rw [ec_len]; omega),ec_len]; congr 1
  refine ⟨?_,?_,?_⟩
  ·rw [show (k + 1) * 3 = k * 3 + 3 by omega,key]; exact h0
  ·rw [show (k + 1) * 3 + 1 = k * 3 + 1 + 3 by omega,key]; exact h1
  ·rw [show (k + 1) * 3 + 2 = k * 3 + 2 + 3 by omega,key]; exact h2
def EAt (w:World) (A:Option Addr) (L:List Ed):Prop:=∀ (k:Nat) (e:Ed),L[k]? = some e->∃ bk o,A = some ⟨bk,o,none⟩ /\
 w.cell? ⟨bk,o + k * 3,none⟩ = some (.int .i64 e.1)/\w.cell? ⟨bk,o + k * 3 + 1,none⟩ = some (.int .i64 e.2.1)/\w.cell? ⟨bk,o + k * 3 + 2,none⟩ = some (.int .i64 e.2.2)
theorem EAt.kept {w w':World} {A:Option Addr} {L:List Ed} (h:EAt w A L) (hk:∀ p:Addr,p.block < w.heap.size->w'.cell? p = w.cell? p):EAt w' A L:=by
 intro k e hx
 obtain ⟨bk,o,hA,c0,c1,c2⟩:=h k e hx
 exact ⟨bk,o,hA,(hk _ (block_lt_of_cell c0)).trans c0,(hk _ (block_lt_of_cell c1)).trans c1,(hk _ (block_lt_of_cell c2)).trans c2⟩
theorem EAt.below {w w':World} {A:Option Addr} {L:List Ed} (h:EAt w A L) (hb:Below w.heap.size w w'):EAt w' A L:=h.kept fun _ hp => hb.cell hp
theorem EAt.nil (w:World) (A:Option Addr):EAt w A []:=fun k e h => by simp at h
def EOwn (w:World) (B:Nat) (v:Value) (L:List Ed):Prop:=w.ownsRow B 33 3 v L.length (ecs L)
theorem EOwn.none_ (w:World) (B:Nat):EOwn w B (.slice none 0 0) []:=World.ownsRow_nil _ _ _ _
theorem EOwn.below {w w':World} {B:Nat} {v:Value} {L:List Ed} (h:EOwn w B v L) (hb:Below w.heap.size w w'):EOwn w' B v L:=own_below h hb
theorem EOwn.alloc {w:World} {B:Nat} {v:Value} {L:List Ed} (h:EOwn w B v L) (o:Obj):EOwn (w.alloc o) B v L:=World.ownsRow.alloc h o
theorem EOwn.form {w:World} {B:Nat} {v:Value} {L:List Ed} (h:EOwn w B v L):∃ (A:Option Addr) (c:Nat),v = .slice A L.length c/\EAt w A L/\(A = none\/∃ g,A = some ⟨g,0,none⟩/\B <= g/\g < w.heap.size/\∀ j,w.frozen? ⟨g,j,none⟩ = false)/\(A = none->c = 0):=by
 obtain ⟨h0,h1 | ⟨g,cap,cur,h1,h2,h3,h4,h5,h6,h7⟩⟩:=h
 ·have:L = []:=List.eq_nil_of_length_eq_zero h1.2
  subst this
  exact ⟨none,0,h1.1,EAt.nil _ _,Or.inl rfl,fun _ => rfl⟩
 ·refine ⟨some ⟨g,0,none⟩,cap,h1,fun k e hx => ?_,Or.inr ⟨g,rfl,h2,lt_of_block h3,fun j => Lib.frozen_of_heap h3 j⟩,fun hh => by cases hh⟩
  have hk:k < L.length:=by
   rcases Nat.lt_or_ge k L.length with hh | hh
   ·exact hh
   ·rw [List.getElem?_eq_none hh] at hx; cases hx
  have key:∀ j,j < L.length * 3->w.cell? ⟨g,0 + j,none⟩ = (ecs L)[j]?:=fun j hj => by
   rw [Nat.zero_add,cell_of_row w g j _ 33 (0,0) h3]
   have e1:cur[j]? = (cur.toList.take (L.length * 3))[j]?:=by
    rw [List.getElem?_take,if_pos hj,Array.getElem?_toList]
   rw [e1,h7]
  obtain ⟨a0,a1,a2⟩:=ecs_at L k e hx
  refine ⟨g,0,rfl,?_,?_,?_⟩
  ·rw [key _ (by omega)]; exact a0
  ·rw [Nat.add_assoc,key _ (by omega)]; exact a1
  ·rw [Nat.add_assoc,key _ (by omega)]; exact a2
def Egs (w:World) (v:Value) (L:List Ed):Prop:=∃ (A:Option Addr) (c:Nat),v = .slice A L.length c/\EAt w A L
theorem EOwn.egs {w:World} {B:Nat} {v:Value} {L:List Ed} (h:EOwn w B v L):Egs w v L:=by
 obtain ⟨A,c,h1,h2,_⟩:=h.form
 exact ⟨A,c,h1,h2⟩
theorem Egs.below {w w':World} {v:Value} {L:List Ed} (h:Egs w v L) (hb:Below w.heap.size w w'):Egs w' v L:=by
 obtain ⟨A,c,e,h⟩:=h
 exact ⟨A,c,e,h.below hb⟩
theorem infoE:(Tryz.prog.info? 33).map (fun i => (i.zero,i.size,i.bytes)) = some (some (.agg #[.int .i64 0,.int .i64 0,.int .i64 0]),3,24):=by kernel_rfl
theorem app_e {w:World} {ops:Array Oper} {rest:List Oper} {o:Oper} {a:Act} {Q:Exit->Act->World->Prop} (hgd:o.guard = none) (s x:Operand)
 (ho:o.op = .call { callee:=.builtin .append,args:=#[s,x],argTypes:=#[22,22] }) (B:Nat) (v:Value) (L:List Ed) (e0 e1 e2:Int) (hs:a.eval s = v) (hown:EOwn w B v L)
 (g:Nat) (hx:a.eval x = .slice (some ⟨g,0,none⟩) 1 1) (hg:w.heap[g]? = some (.cells #[.int .i64 e0,.int .i64 e1,.int .i64 e2] 33 (0,0))) (hn:L.length < 1000000000) (hB:B <= w.heap.size)
 (h:∀ v' w',EOwn w' B v' (L ++ [(e0,e1,e2)])->w.grownBy w' v.ownBlock->wpList Tryz.prog ops Q rest (a.put o.dst v') w'):wpList Tryz.prog ops Q (o :: rest) a w:=by
 obtain ⟨i0,hi,hz0,hz1,hz2⟩:=info_parts infoE
 refine wpList_append_own w hgd s x 22 ho B 33 i0 _ 3 24 Tryz.underlying22 hi hz0 hz1 hz2 rfl (by decide) v L.length (ecs L) hs hown ⟨g,0,none⟩ 1 1 (ec (e0,e1,e2)) hx rfl ?_ ?_ ?_ ?_ hB ?_
 ·intro j u hu
  rw [add_plain,Lib.cell_of_heap hg]
  rcases j with _ | _ | _ | j
  ·simpa [ec] using hu
  ·simpa [ec] using hu
  ·simpa [ec] using hu
  ·simp [ec] at hu
 ·intro u hu
  simp only [ec,List.mem_cons,List.not_mem_nil,or_false] at hu
  rcases hu with rfl | rfl | rfl <;> rfl
 ·unfold maxLen; omega
 ·omega
 ·intro v' w' h1 h2 _
  refine h v' w' ?_ h2
  unfold EOwn
  rw [ecs_append,List.length_append]
  have:ecs [(e0,e1,e2)] = ec (e0,e1,e2):=by simp [ecs]
  rw [this]; exact h1
theorem lt_at {α:Type} {L:List α} {k:Nat} {x:α} (h:L[k]? = some x):k < L.length:=by
 rcases Nat.lt_or_ge k L.length with hh | hh
 ·exact hh
 ·rw [List.getElem?_eq_none hh] at h; cases h
theorem at_lt {α:Type} (L:List α) (k:Nat) (h:k < L.length):∃ x,L[k]? = some x:=⟨_,List.getElem?_eq_getElem h⟩
theorem drop_at {α:Type} {L:List α} {k:Nat} {x:α} (h:L[k]? = some x):L.drop k = x :: L.drop (k + 1):=by
 obtain ⟨h1,h2⟩:=List.getElem?_eq_some_iff.1 h
 rw [List.drop_eq_getElem_cons h1,h2]
theorem take_at {α:Type} {L:List α} {k:Nat} {x:α} (h:L[k]? = some x):L.take (k + 1) = L.take k ++ [x]:=by
 obtain ⟨h1,h2⟩:=List.getElem?_eq_some_iff.1 h
 rw [List.take_succ_eq_append_getElem h1,h2]
open Go.RowKit Wd Ws
def Grw (w w':World):Prop:=∃ (q:Nat) (os:Array Obj),w' = Sort.grow (w.drewN q) os
theorem Grw.refl (w:World):Grw w w:=⟨0,#[],by rw [Sort.grow_empty]; rfl⟩
theorem Grw.alloc {w w':World} (h:Grw w w') (o:Obj):Grw w (w'.alloc o):=by
 obtain ⟨q,os,rfl⟩:=h
 exact ⟨q,os ++ #[o],by rw [Sort.alloc_eq_grow,Sort.grow_grow]⟩
theorem Grw.drew {w w':World} (h:Grw w w'):Grw w w'.drew:=by
 obtain ⟨q,os,rfl⟩:=h
 exact ⟨q + 1,os,by rw [Sort.drew_grow]; rfl⟩
theorem Grw.trans {a b c:World} (h:Grw a b) (k:Grw b c):Grw a c:=by
 obtain ⟨q,os,rfl⟩:=h
 obtain ⟨r,os',rfl⟩:=k
 refine ⟨q + r,os ++ os',?_⟩
 show Sort.grow (Sort.grow ((a.drewN q).drewN r) os) os' = _
 rw [Sort.grow_grow,World.drewN_drewN]
theorem Grw.below {w w':World} (h:Grw w w'):Below w.heap.size w w':=by
 obtain ⟨q,os,rfl⟩:=h
 exact below_grow w q os
theorem Grw.quiet {P:Program} {f:FuncId} {args:Array Value} {w:World} {n:Nat} {os:Array Obj} {v:Value}
 (h:Calls P f args (Sort.grow (w.drewN n) os) fun e w' => e = .returned v/\Grw (Sort.grow (w.drewN n) os) w'):Calls P f args (Sort.grow (w.drewN n) os) fun e w'' => e = .returned v/\∃ p:GrownBy,w'' = Sort.grow (w.drewN p.n) p.os :=
 Calls.grown_of h
theorem grw_at (w:World) (n:Nat) (os:Array Obj):Grw w (Sort.grow (w.drewN n) os):=⟨n,os,rfl⟩
theorem two_boxes (w:World) (x y:Obj):Below w.heap.size w ((w.alloc x).alloc y):=((Grw.refl w).alloc x |>.alloc y).below
theorem step_below {B:Nat} {a b c:World} (h:Below B a b) (hB:B <= b.heap.size) (k:Below b.heap.size b c):Below B a c:=h.trans (k.mono hB)
theorem jS {a b c : World} (h : Hid (Below a.heap.size a b)) (k : Below b.heap.size b c) : Hid (Below a.heap.size a c) := jH (step_below h.out h.out.size k)
theorem jK {w w' : World} {i : Nat} {o : Obj} (h : Hid (w.heap[i]? = some o)) (hb : Below w.heap.size w w') : Hid (w'.heap[i]? = some o) := jH ((hb.block i (lt_of_block h.out)).trans h.out)
theorem ret_b {a b:Bool} (h:a = b):Ending.returned (.bool a) = .returned (.bool b):=by rw [h]
theorem isVertex_any (v V:Int) (w:World):Calls Tryz.prog 70 #[.int .i64 v,.int .i64 V] w fun e w' => e = .returned (.bool (decide (0 <= v) && decide (v < V)))/\w = w':=by
 by_cases h1:0 <= v
 ·go_enter Tryz.func70,Tryz.ntmps70
  go_wp2
  go_ret
  refine ⟨ret_b ?_,rfl⟩
  simp [h1]
 ·go_enter Tryz.func70,Tryz.ntmps70
  go_wp2
  go_ret
  refine ⟨ret_b ?_,rfl⟩
  simp; omega
theorem isVertex_at (v V:Int) (r:Bool) (w:World) (hr:Hid ((decide (0 <= v) && decide (v < V)) = r)):Calls Tryz.prog 70 #[.int .i64 v,.int .i64 V] w fun e w' => e = .returned (.bool r)/\w = w':=by
 rw [<- hr.out]; exact isVertex_any v V w
set_option maxRecDepth 100000 in
theorem edgeMayBe_any (a b c V:Int) (w:World) :
 Calls Tryz.prog 46 #[.int .i64 a,.int .i64 b,.int .i64 c,.int .i64 V] w fun e w' => e = .returned (.bool (fitE V (a,b,c)))/\w = w':=by
 obtain ⟨ra,ha⟩:∃ ra,(decide (0 <= a) && decide (a < V)) = ra:=⟨_,rfl⟩
 obtain ⟨rb,hb⟩:∃ rb,(decide (0 <= b) && decide (b < V)) = rb:=⟨_,rfl⟩
 have e:fitE V (a,b,c) = (ra && rb && (decide (0 <= c) && decide (c < 2147483648))):=by
  rw [<- ha,<- hb]; unfold fitE; simp only [Bool.and_assoc]
 rw [e]; clear e
 have HA:=jH ha; have HB:=jH hb; clear ha hb
 cases ra with
 | false =>
  go_enter Tryz.func46,Tryz.ntmps46
  go_wp2_with fail
  refine (isVertex_at a V _ _ HA).mono ?_
  rintro e w' ⟨rfl,rfl⟩
  go_wp2_with fail
  go_ret
  exact ⟨rfl,rfl⟩
 | true =>
  cases rb with
  | false =>
   go_enter Tryz.func46,Tryz.ntmps46
   go_wp2_with fail
   refine (isVertex_at a V _ _ HA).mono ?_
   rintro e w' ⟨rfl,rfl⟩
   go_wp2_with fail
   refine (isVertex_at b V _ _ HB).mono ?_
   rintro e w' ⟨rfl,rfl⟩
   go_wp2_with fail
   go_ret
   exact ⟨rfl,rfl⟩
  | true =>
   by_cases h1:0 <= c
   ·go_enter Tryz.func46,Tryz.ntmps46
    go_wp2_with fail
    refine (isVertex_at a V _ _ HA).mono ?_
    rintro e w' ⟨rfl,rfl⟩
    go_wp2_with fail
    refine (isVertex_at b V _ _ HB).mono ?_
    rintro e w' ⟨rfl,rfl⟩
    go_wp2_with fail
    go_ret
    refine ⟨ret_b ?_,rfl⟩
    simp [h1]
   ·go_enter Tryz.func46,Tryz.ntmps46
    go_wp2_with fail
    refine (isVertex_at a V _ _ HA).mono ?_
    rintro e w' ⟨rfl,rfl⟩
    go_wp2_with fail
    refine (isVertex_at b V _ _ HB).mono ?_
    rintro e w' ⟨rfl,rfl⟩
    go_wp2_with fail
    go_ret
    refine ⟨ret_b ?_,rfl⟩
    simp; omega
theorem edgeMayBe_at (a b c V:Int) (r:Bool) (w:World) (hr:Hid (fitE V (a,b,c) = r)) :
 Calls Tryz.prog 46 #[.int .i64 a,.int .i64 b,.int .i64 c,.int .i64 V] w fun e w' => e = .returned (.bool r)/\w = w':=by
 rw [<- hr.out]; exact edgeMayBe_any a b c V w
theorem edgeMayBe_q (a b c V:Int) (r:Bool) (w:World) (hr:Hid (fitE V (a,b,c) = r)) :
 Calls Tryz.prog 46 #[.int .i64 a,.int .i64 b,.int .i64 c,.int .i64 V] w fun e w' => e = .returned (.bool r)/\Grw w w' :=
 (edgeMayBe_at a b c V r w hr).mono fun _ _ ⟨h1,h2⟩ => ⟨h1,by rw [<- h2]; exact Grw.refl w⟩
theorem isAhead_any (a0 a1 a2 b0 b1 b2:Int) (w:World) :
 Calls Tryz.prog 47 #[.agg #[.int .i64 a0,.int .i64 a1,.int .i64 a2],.agg #[.int .i64 b0,.int .i64 b1,.int .i64 b2]] w fun e w' => e = .returned (.bool (ahd (a0,a1,a2) (b0,b1,b2)))/\Grw w w':=by
 have hz:Grw w ((w.alloc (.cells #[.int .i64 a0,.int .i64 a1,.int .i64 a2] 33)).alloc (.cells #[.int .i64 b0,.int .i64 b1,.int .i64 b2] 33)) :=
  ((Grw.refl w).alloc _).alloc _
 have HZ:=jH hz; clear hz
 by_cases h1:a0 < b0
 ·go_enter Tryz.func47,Tryz.ntmps47
  go_wp2
  go_ret
  refine ⟨ret_b ?_,HZ.out⟩
  simp [ahd,h1]
 ·by_cases h2:a0 = b0
  ·subst h2
   go_enter Tryz.func47,Tryz.ntmps47
   go_wp2
   go_ret
   refine ⟨ret_b ?_,HZ.out⟩
   simp [ahd]
  ·go_enter Tryz.func47,Tryz.ntmps47
   go_wp2
   go_ret
   refine ⟨ret_b ?_,HZ.out⟩
   simp [ahd,h1,h2]
theorem isAhead_at (a0 a1 a2 b0 b1 b2:Int) (r:Bool) (w:World) (hr:Hid (ahd (a0,a1,a2) (b0,b1,b2) = r)) :
 Calls Tryz.prog 47 #[.agg #[.int .i64 a0,.int .i64 a1,.int .i64 a2],.agg #[.int .i64 b0,.int .i64 b1,.int .i64 b2]] w fun e w' => e = .returned (.bool r)/\Grw w w':=by
 rw [<- hr.out]; exact isAhead_any a0 a1 a2 b0 b1 b2 w
theorem rahead_any (a0 a1 a2 b0 b1 b2:Int) (w:World) :
 Calls Tryz.prog 45 #[.agg #[.int .i64 a0,.int .i64 a1,.int .i64 a2],.agg #[.int .i64 b0,.int .i64 b1,.int .i64 b2]] w fun e w' => e = .returned (.bool (ahd (a0,a1,a2) (b0,b1,b2)))/\Grw w w':=by
 have hz:Grw w ((w.alloc (.cells #[.int .i64 a0,.int .i64 a1,.int .i64 a2] 33)).alloc (.cells #[.int .i64 b0,.int .i64 b1,.int .i64 b2] 33)) :=
  ((Grw.refl w).alloc _).alloc _
 have HZ:=jH hz; clear hz
 by_cases h1:a0 < b0
 ·go_enter Tryz.func45,Tryz.ntmps45
  go_wp2
  go_ret
  refine ⟨ret_b ?_,HZ.out⟩
  simp [ahd,h1]
 ·by_cases h2:a0 = b0
  ·subst h2
   go_enter Tryz.func45,Tryz.ntmps45
   go_wp2
   go_ret
   refine ⟨ret_b ?_,HZ.out⟩
   simp [ahd]
  ·go_enter Tryz.func45,Tryz.ntmps45
   go_wp2
   go_ret
   refine ⟨ret_b ?_,HZ.out⟩
   simp [ahd,h1,h2]
theorem rahead_at (a0 a1 a2 b0 b1 b2:Int) (r:Bool) (w:World) (hr:Hid (ahd (a0,a1,a2) (b0,b1,b2) = r)) :
 Calls Tryz.prog 45 #[.agg #[.int .i64 a0,.int .i64 a1,.int .i64 a2],.agg #[.int .i64 b0,.int .i64 b1,.int .i64 b2]] w fun e w' => e = .returned (.bool r)/\Grw w w':=by
 rw [<- hr.out]; exact rahead_any a0 a1 a2 b0 b1 b2 w
theorem rfits_any (a b c V:Int) (w:World) :
 Calls Tryz.prog 44 #[.agg #[.int .i64 a,.int .i64 b,.int .i64 c],.int .i64 V] w fun e w' => e = .returned (.bool (fitE V (a,b,c)))/\Grw w w':=by
 have hz:Grw w (w.alloc (.cells #[.int .i64 a,.int .i64 b,.int .i64 c] 33)):=(Grw.refl w).alloc _
 have HZ:=jH hz; clear hz
 by_cases h1:0 <= a
 ·by_cases h2:a < V
  ·by_cases h3:0 <= b
   ·by_cases h4:b < V
    ·by_cases h5:0 <= c
     ·go_enter Tryz.func44,Tryz.ntmps44
      go_wp2
      go_ret
      refine ⟨ret_b ?_,HZ.out⟩
      simp [fitE,h1,h2,h3,h4,h5]
     ·go_enter Tryz.func44,Tryz.ntmps44
      go_wp2
      go_ret
      refine ⟨ret_b ?_,HZ.out⟩
      simp [fitE,h1,h2,h3,h4]; omega
    ·go_enter Tryz.func44,Tryz.ntmps44
     go_wp2
     go_ret
     refine ⟨ret_b ?_,HZ.out⟩
     simp [fitE,h1,h2,h3]; omega
   ·go_enter Tryz.func44,Tryz.ntmps44
    go_wp2
    go_ret
    refine ⟨ret_b ?_,HZ.out⟩
    simp [fitE,h1,h2]; omega
  ·go_enter Tryz.func44,Tryz.ntmps44
   go_wp2
   go_ret
   refine ⟨ret_b ?_,HZ.out⟩
   simp [fitE,h1]; omega
 ·go_enter Tryz.func44,Tryz.ntmps44
  go_wp2
  go_ret
  refine ⟨ret_b ?_,HZ.out⟩
  simp [fitE]; omega
theorem rfits_at (a b c V:Int) (r:Bool) (w:World) (hr:Hid (fitE V (a,b,c) = r)) :
 Calls Tryz.prog 44 #[.agg #[.int .i64 a,.int .i64 b,.int .i64 c],.int .i64 V] w fun e w' => e = .returned (.bool r)/\Grw w w':=by
 rw [<- hr.out]; exact rfits_any a b c V w
theorem light_any (V:Int) (A:Option Addr) (n c:Nat) (top:Nat) (w:World) :
 Calls Tryz.prog 23 #[.agg #[.int .i64 V,.slice A n c],.int .i64 (top:Int)] w fun e w' => e = .returned (.bool (decide (n <= top)))/\Grw w w':=by
 go_enter Tryz.func23,Tryz.ntmps23
 go_wp2
 go_ret
 refine ⟨ret_b ?_,(Grw.refl w).alloc _⟩
 simp
open Go.RowKit Wd Ws
theorem mixedO:Tryz.prog.follows .mixedOrders = true:=by kernel_rfl
def prv (L:List Ed) (k:Nat):Option Ed:=if k = 0 then none else L[k - 1]?
def CkRel (w:World) (V:Int) (A:Option Addr) (c:Nat) (L:List Ed) (g:Nat) (i:Value) (wr:World):Prop :=
 ∃ k:Nat,k + g = L.length/\i = .int .i64 (k:Int)/\Below w.heap.size w wr/\wr.heap[w.heap.size]? = some (.cells #[.int .i64 V,.slice A L.length c] 24 (0,0))/\okL V none L = okL V (prv L k) (L.drop k)
structure Bx (w:World) (b:Nat) (V:Int) (s:Value):Prop where
 at_:w.heap[b]? = some (.cells #[.int .i64 V,s] 24 (0,0))
theorem Bx.cells {w:World} {b:Nat} {V:Int} {s:Value} (h:w.heap[b]? = some (.cells #[.int .i64 V,s] 24 (0,0))):w.cell? ⟨b,0,none⟩ = some (.int .i64 V)/\w.cell? ⟨b,1,none⟩ = some s/\b < w.heap.size :=
 ⟨by rw [Lib.cell_of_heap h]; rfl,by rw [Lib.cell_of_heap h]; rfl,lt_of_block h⟩
theorem eb_cells {w:World} {b:Nat} {x y z:Int} (h:w.heap[b]? = some (.cells #[.int .i64 x,.int .i64 y,.int .i64 z] 33 (0,0))) :
 w.cell? ⟨b,0,none⟩ = some (.int .i64 x)/\w.cell? ⟨b,1,none⟩ = some (.int .i64 y)/\w.cell? ⟨b,2,none⟩ = some (.int .i64 z)/\b < w.heap.size :=
 ⟨by rw [Lib.cell_of_heap h]; rfl,by rw [Lib.cell_of_heap h]; rfl,by rw [Lib.cell_of_heap h]; rfl,lt_of_block h⟩
set_option maxRecDepth 100000 in
set_option maxHeartbeats 600000 in
theorem check_any (V:Int) (A:Option Addr) (c:Nat) (L:List Ed) (w:World) (hL:EAt w A L) (hm:L.length <= 9223372036854775807) :
 Calls Tryz.prog 25 #[.agg #[.int .i64 V,.slice A L.length c]] w fun e w' => e = .returned (.int .i64 (chk V L))/\Below w.heap.size w w':=by
 have mixed:=mixedO
 have HL:=jH hL; clear hL
 have hz:Below w.heap.size w (w.alloc (.cells #[.int .i64 V,.slice A L.length c] 24)):=(Below.refl _ w).alloc (Nat.le_refl _) _
 have HZ:=jH hz; clear hz
 by_cases hV:512 < V
 ·have hk:chk V L = 3:=by unfold chk; rw [if_pos (Or.inl hV)]
  rw [hk]; clear hk
  go_enter Tryz.func25,Tryz.ntmps25
  go_wp2
  go_ret
  exact ⟨rfl,HZ.out⟩
 ·by_cases hn:8192 < L.length
  ·have hk:chk V L = 3:=by unfold chk; rw [if_pos (Or.inr hn)]
   rw [hk]; clear hk
   go_enter Tryz.func25,Tryz.ntmps25
   go_wp2
   go_ret
   exact ⟨rfl,HZ.out⟩
  ·by_cases h1:V < 1
   ·have hk:chk V L = 40:=by unfold chk; rw [if_neg (by omega),if_pos h1]
    rw [hk]; clear hk
    go_enter Tryz.func25,Tryz.ntmps25
    go_wp2
    go_ret
    exact ⟨rfl,HZ.out⟩
   ·have hk:chk V L = if okL V none L then 0 else 40:=by unfold chk; rw [if_neg (by omega),if_neg h1]
    rw [hk]
    clear hk
    obtain ⟨R,hR⟩:∃ R:Int,(if okL V none L then (0:Int) else 40) = R:=⟨_,rfl⟩
    rw [hR]
    have HRR:=jH hR; clear hR
    go_enter Tryz.func25,Tryz.ntmps25
    go_wp2
    go_loopg [20] L.length (fun g i wr => CkRel w V A c L g i wr)
    case atStart => exact ⟨0,by omega,rfl,HZ.out,heap_alloc_new w _,rfl⟩
    case round =>
     obtain ⟨k,hk,rfl,hb,hbx,hok⟩:=hrel
     by_cases hlt:k < L.length
     ·obtain ⟨e,he⟩:=at_lt L k hlt
      obtain ⟨x0,x1,hsz⟩:=Bx.cells hbx
      have hea:=HL.out.below hb
      obtain ⟨bk,o,rfl,c0,c1,c2⟩:=hea k e he
      have hokk:okL V (prv L k) (L.drop k) = (fitE V e && ahdO (prv L k) e && okL V (some e) (L.drop (k + 1))):=by rw [drop_at he]; rfl
      rw [hokk] at hok
      clear hokk
      have HNX:Hid (prv L (k + 1) = some e):=jH (by unfold prv; rw [if_neg (by omega),Nat.add_sub_cancel]; exact he)
      obtain ⟨e0,e1,e2⟩:=e
      have hy:=heap_alloc_new wr (.cells #[.int .i64 e0,.int .i64 e1,.int .i64 e2] 33)
      have hb1:Below w.heap.size w (wr.alloc (.cells #[.int .i64 e0,.int .i64 e1,.int .i64 e2] 33)):=hb.alloc (by omega) _
      have hbx1:=(Lib.alloc_old wr (.cells #[.int .i64 e0,.int .i64 e1,.int .i64 e2] 33) _ hsz).trans hbx
      have hea1:=HL.out.below hb1
      have HB:=jH hb1; have HX:=jH hbx1; have HO:=jH hok; have HE:=jH he; have HA:=jH hea1
      have HY:=jH hy
      clear hb hb1 hbx hbx1 hok he hea hea1 hy
      go_wp2
      generalize hW:wr.alloc (.cells #[.int .i64 e0,.int .i64 e1,.int .i64 e2] 33) = W at HB HX HA HY ⊢
      clear x0 x1 c0 c1 c2 hW
      obtain ⟨x0,x1,hsz1⟩:=Bx.cells HX.out
      obtain ⟨y0,y1,y2,hs1⟩:=eb_cells HY.out
      have fx0:=cell_grown hsz1 x0; have fx1:=cell_grown hsz1 x1
      have fy0:=cell_grown hs1 y0; have fy1:=cell_grown hs1 y1; have fy2:=cell_grown hs1 y2
      clear x0 x1 y0 y1 y2
      cases hf:fitE V (e0,e1,e2) with
      | false =>
       have HF:=jH hf; clear hf
       have HC1:=jH (fun n os => Grw.quiet (edgeMayBe_q e0 e1 e2 V false (Sort.grow (W.drewN n) os) HF))
       refine wp_region_quiet_grown mixed (by kernel_rfl) ?_
       repeat (go_big_quiet_step (first | (go_at_call 46; exact HC1.out _ _)))
       refine wpQuiet_nil ?_
       intro _ hw'
       obtain ⟨⟨nq,osq⟩,hw''⟩:=hw'
       subst hw''
       go_wp2
       go_ret
       refine ⟨?_,HB.out.trans ((grw_at _ _ _).below.mono (by omega))⟩
       exact ret_int (by rw [<- HRR.out,HO.out,HF.out]; rfl)
      | true =>
       have HF:=jH hf; clear hf
       have HC1:=jH (fun n os => Grw.quiet (edgeMayBe_q e0 e1 e2 V true (Sort.grow (W.drewN n) os) HF))
       rcases k with _ | j
       ·refine wp_region_quiet_grown mixed (by kernel_rfl) ?_
        repeat (go_big_quiet_step (first | (go_at_call 46; exact HC1.out _ _)))
        refine wpQuiet_nil ?_
        intro _ hw'
        obtain ⟨⟨nq,osq⟩,hw''⟩:=hw'
        subst hw''
        go_wp2
        go_roundg (gk - 1)
        case measure => omega
        case rel => 
         refine ⟨1,by omega,by go_num,HB.out.trans ((grw_at _ _ _).below.mono (by omega)),?_,?_⟩
         ·exact ((grw_at _ _ _).below.block _ hsz1).trans HX.out
         ·rw [HO.out,HF.out,HNX.out]; rfl
       ·obtain ⟨q,hq⟩:=at_lt L j (by omega)
        obtain ⟨bk',o',hA,p0,p1,p2⟩:=HA.out j q hq
        obtain ⟨rfl,rfl⟩:bk = bk'/\o = o':=by simpa using hA
        have hP:Hid (prv L (j + 1) = some q):=jH (by unfold prv; rw [if_neg (by omega),Nat.add_sub_cancel]; exact hq)
        obtain ⟨q0,q1,q2⟩:=q
        have fp0:=cell_grown (block_lt_of_cell p0) p0; have fp1:=cell_grown (block_lt_of_cell p1) p1; have fp2:=cell_grown (block_lt_of_cell p2) p2
        clear p0 p1 p2 hq hA
        obtain ⟨r,hr⟩:∃ r,ahd (q0,q1,q2) (e0,e1,e2) = r:=⟨_,rfl⟩
        have HR:=jH hr; clear hr
        have HC2:=jH (fun n os => Grw.quiet (isAhead_at q0 q1 q2 e0 e1 e2 r (Sort.grow (W.drewN n) os) HR))
        cases r with
        | false =>
         refine wp_region_quiet_grown mixed (by kernel_rfl) ?_
         repeat (go_big_quiet_step (first | (go_at_call 46; exact HC1.out _ _) | (go_at_call 47; exact HC2.out _ _)))
         refine wpQuiet_nil ?_
         intro _ hw'
         obtain ⟨⟨nq,osq⟩,hw''⟩:=hw'
         subst hw''
         go_wp2
         go_ret
         refine ⟨?_,HB.out.trans ((grw_at _ _ _).below.mono (by omega))⟩
         exact ret_int (by rw [<- HRR.out,HO.out,HF.out,hP.out,show ahdO (some (q0,q1,q2)) (e0,e1,e2) = false from HR.out]; rfl)
        | true =>
         refine wp_region_quiet_grown mixed (by kernel_rfl) ?_
         repeat (go_big_quiet_step (first | (go_at_call 46; exact HC1.out _ _) | (go_at_call 47; exact HC2.out _ _)))
         refine wpQuiet_nil ?_
         intro _ hw'
         obtain ⟨⟨nq,osq⟩,hw''⟩:=hw'
         subst hw''
         go_wp2
         go_roundg (gk - 1)
         case measure => omega
         case rel =>
          refine ⟨j + 2,by omega,by go_num,HB.out.trans ((grw_at _ _ _).below.mono (by omega)),?_,?_⟩
          ·exact ((grw_at _ _ _).below.block _ hsz1).trans HX.out
          ·rw [HO.out,HF.out,HNX.out,hP.out,show ahdO (some (q0,q1,q2)) (e0,e1,e2) = true from HR.out]; rfl
     ·have hkn:k = L.length:=by omega
      have HB:=jH hb
      have HO:Hid (okL V none L = true):=jH (by rw [hok,hkn,List.drop_length]; rfl)
      clear hok hbx hb
      go_wp2
      go_ret
      refine ⟨?_,HB.out⟩
      exact ret_int (by rw [<- HRR.out,HO.out]; rfl)
end Go.Proofs.YtdcaekmgfcpbmaaGreat.Gr
namespace Go.Proofs.YtdcaekmgfcpbmaaGreat.Pt
open Go Go.Lib Gr
def ofI (v k:Int):Int:=if 0 <= v/\v < 512/\1 <= k/\k <= 64 then 2654435761 * v % 4294967296 * k / 4294967296 else -1
theorem ofI_range {v k:Int} (h0:0 <= v) (h1:v < 512) (h2:1 <= k) (h3:k <= 64):0 <= ofI v k/\ofI v k < k:=by
 unfold ofI
 rw [if_pos ⟨h0,h1,h2,h3⟩]
 obtain ⟨x,hx⟩:∃ x,2654435761 * v % 4294967296 = x:=⟨_,rfl⟩
 have hx0:0 <= x:=by omega
 have hx1:x < 4294967296:=by omega
 rw [hx]
 constructor
 ·exact Int.ediv_nonneg (Int.mul_nonneg hx0 (by omega)) (by omega)
 ·apply Int.ediv_lt_of_lt_mul (by omega)
  rw [Int.mul_comm k]
  exact Int.mul_lt_mul_of_pos_right hx1 (by omega)
def vs (n:Nat):List Int:=(List.range n).map fun (i:Nat) => (i:Int)
theorem vs_succ (n:Nat):vs (n + 1) = vs n ++ [(n:Int)]:=by simp [vs,List.range_succ]
def isW (k w:Int) (v:Int):Bool:=decide (0 <= w) && decide (ofI v k = w)
theorem isW_yes {k w v:Int} (h:0 <= w) (e:ofI v k = w):isW k w v = true:=by unfold isW; rw [decide_eq_true h,decide_eq_true e]; rfl
def ow (k w:Int) (n:Nat):List Int:=(vs n).filter (isW k w)
theorem ow_succ (k w:Int) (n:Nat):ow k w (n + 1) = ow k w n ++ (if isW k w n then [(n:Int)] else []):=by
 unfold ow; rw [vs_succ,List.filter_append]
 congr 1
 cases h:isW k w n <;> simp [h]
def nv (n:Int):Nat:=(min n 512).toNat
def owned (n k w:Int):List Int:=ow k w (nv n)
structure Pt where
 w:Int
 k:Int
 n:Int
 own:List Int
 out:List (List Ed)
 back:List (List Ed)
deriving DecidableEq
def frm (L:List Ed) (v:Int):List Ed:=L.filter fun e => decide (e.1 = v)
def tow (L:List Ed) (v:Int):List Ed:=L.filter fun e => decide (e.2.1 = v)
def cutP (V:Int) (L:List Ed) (k w:Int):Pt:=⟨w,k,V,owned V k w,(owned V k w).map (frm L),(owned V k w).map (tow L)⟩
def hd (l:List Pt):Int:=match l[0]? with | none => 0 | some p => p.n
def Cuts (l:List Pt) (V:Int) (es:List Ed) (j:Nat):Prop:=∀ i,i < j->l[i]? = some (cutP V es l.length i)
instance (l:List Pt) (V:Int) (es:List Ed) (j:Nat):Decidable (Cuts l V es j):=by unfold Cuts; infer_instance
theorem ow_split (k w:Int) (j m:Nat) (h:isW k w j = true):∃ B:List Int,ow k w (j + (m + 1)) = ow k w j ++ ((j:Int) :: B)/\∀ x ∈ B,(j:Int) < x:=by
 induction m with
 | zero => exact ⟨[],by rw [ow_succ,h]; rfl,by simp⟩
 | succ m ih =>
  obtain ⟨B,h1,h2⟩:=ih
  refine ⟨B ++ (if isW k w ((j + (m + 1):Nat):Int) then [((j + (m + 1):Nat):Int)] else []),?_,?_⟩
  ·rw [<- Nat.add_assoc,ow_succ,h1]; simp
  ·intro x hx
   rcases List.mem_append.1 hx with hx | hx
   ·exact h2 x hx
   ·split at hx
    ·simp at hx; omega
    ·simp at hx
structure Joins (l:List Pt) (V:Int) (L:List Ed):Prop where
 one:1 <= l.length
 most:l.length <= 64
 ok:chk V L = 0
 cuts:Cuts l V L l.length
theorem Joins.hd {l:List Pt} {V:Int} {L:List Ed} (h:Joins l V L):Pt.hd l = V:=by
 have:=h.cuts 0 h.one
 unfold Pt.hd; rw [this]; rfl
theorem Joins.facts {l:List Pt} {V:Int} {L:List Ed} (h:Joins l V L):1 <= V/\V <= 512/\L.length <= 8192/\(∀ e ∈ L,fitE V e = true)/\Rise L:=(chk_zero V L).1 h.ok
theorem Joins.at_ {l:List Pt} {V:Int} {L:List Ed} (h:Joins l V L) (j:Nat) (hj:(j:Int) < V) :
 ∃ B,l[(ofI j l.length).toNat]? = some (cutP V L l.length (ofI j l.length))/\(ofI j l.length).toNat < l.length/\owned V l.length (ofI j l.length) = ow l.length (ofI j l.length) j ++ ((j:Int) :: B)/\∀ x ∈ B,(j:Int) < x:=by
 obtain ⟨f1,f2,_⟩:=h.facts
 have:=h.one; have:=h.most
 obtain ⟨r1,r2⟩:=ofI_range (v:=j) (k:=l.length) (by omega) (by omega) (by omega) (by omega)
 have hw:isW l.length (ofI j l.length) j = true:=isW_yes r1 rfl
 have hn:nv V = j + ((V.toNat - j - 1) + 1):=by unfold nv; omega
 obtain ⟨B,h1,h2⟩:=ow_split l.length (ofI j l.length) j (V.toNat - j - 1) hw
 refine ⟨B,?_,by omega,?_,h2⟩
 ·have:=h.cuts (ofI j l.length).toNat (by omega)
  rw [this,Int.toNat_of_nonneg r1]
 ·unfold owned; rw [hn]; exact h1
def cnt (f:Int->List Ed) (l:List Int):Nat:=(l.map fun v => (f v).length).sum
end Go.Proofs.YtdcaekmgfcpbmaaGreat.Pt
