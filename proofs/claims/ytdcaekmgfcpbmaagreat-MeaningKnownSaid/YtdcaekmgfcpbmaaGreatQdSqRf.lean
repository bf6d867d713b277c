/-
  What is proved here: a loop over a function, where what a round is handed may be known by the world that it is handed in (R), and where the loop's variables lie in boxes that each round makes (R'). No program; the library's laws of a loop's record are what it rests on.
-/
import Derived.Test.YtdcaekmgfcpbmaaGreatQdTlIn
import Derived.RangeFuncNested
import Derived.RangeFuncBound
import Derived.RangeFuncCalls
import Derived.RangeFuncLeaves
import Derived.RangeFuncFrom
namespace Go.Proofs.YtdcaekmgfcpbmaaGreat.Pt
open Go.RowKit
def Told {α:Type} (F:Fence) (n:Nat) (P:Program) (g:Nat) (lb:Array Value) (encs:α->Array Value) (R:α->World->Prop) (Kp:World->World->Prop) (S Sp:List α->Prop) (N:Nat) (w:World):Prop :=
 ∀ (l:Nat) (J Jx:List α->World->Prop) (W:World),Below w.heap.size w W->AbidesFrom W.heap.size J->AbidesFrom W.heap.size Jx ->
  (∀ pre x W1,J pre W1->R x W1->pre.length < N->YieldAt F (n - 1) P l (encs x) W1 fun e W' =>
   (e = .returned (.bool true)/\J (pre ++ [x]) W'/\Kp W1 W')\/(e = .returned (.bool false)/\Jx (pre ++ [x]) W')) ->
  J [] W ->
  CallsIn F n P g (#[.func (.yield l) #[] #[]] ++ lb) W fun e W' => (∃ v,e = .returned v)/\((∃ xs,S xs/\J xs W')\/(∃ pre,Sp pre/\Jx pre W'))
variable {F:Fence} {n:Nat} {P:Program}
set_option maxHeartbeats 1000000 in
theorem wp_told {α:Type} {g:Operand} {ps:Array Tmp} {assign body:Code} {Q:Exit->Act->World->Prop} {a:Act} {w:World}
 (hro:F.round = none) (h1:1 <= n) {gf:Nat} {lb:Array Value} (hg:a.eval g = .func (.func gf) #[] lb) (hFg:F.fn gf) (eg:∀ args w,(callFunc gf args).run P w = .ok (.enter gf args) w)
 {encs:α->Array Value} {R:α->World->Prop} {R':α->Act->World->Prop} {Kp:World->World->Prop} {S Sp:List α->Prop} {N:Nat} {w0:World} (hseq:Told F (n - 1) P gf lb encs R Kp S Sp N w0)
 (hKt:∀ {A B C:World},Kp A B->Kp B C->Kp A C) (hKb:∀ (W:World) (l:Nat) (o o':Obj),w.heap.size <= l->W.heap[l]? = some o->o.isCells = false->o.isWalk = false->Kp W (W.putObj l o')) (hb0:Below w0.heap.size w0 w) (hps:∀ x,(encs x).size = ps.size)
 (hRk:∀ x a' W l o o',W.heap[l]? = some o->o.isCells = false->R' x a' W->R' x a' (W.putObj l o'))
 (I:List α->World->Prop) (Ix:Code->List α->World->Prop) (hI:OwnFrom w.heap.size I) (hIx:∀ c,OwnFrom w.heap.size (Ix c)) (h0:I [] w)
 (hassign:∀ (l:Nat) (pre:List α) (x:α) (W:World) (K:Act->World->Prop),I pre W->R x W->(∀ a' W',KeepsOthers W W'->Kp W W'->I pre W'->R' x a' W'->K a' W') ->
  assign.wpIn (F.inRound l) (n - 1 - 1) P (Exit.then K (fun _ _ _ => False)) { tmps:=(ps.zip (encs x)).foldl (fun t (p,v) => t.setIfInBounds p v) a.tmps,defers:=[] } W)
 (hbody:∀ (l:Nat) (pre:List α) (x:α) (a':Act) (W:World),I pre W->R' x a' W->pre.length < N->body.wpIn (F.inRound l) (n - 1 - 1) P (ownPostK Kp I Ix (pre ++ [x]) W) a' W)
 (hdone:∀ (D:Nat) (xs:List α) (W:World),w.heap.size <= D->S xs->I xs W->W.heap[D]? = some (.deferred (some []))->Q .normal { a with defers:={ target:=.collected D,args:=#[] } :: a.defers } W)
 (hstop:∀ (D:Nat) (c:Code) (pre:List α) (W:World),w.heap.size <= D->Sp pre->Ix c pre W->W.heap[D]? = some (.deferred (some []))->c.wpIn F n P Q { a with defers:={ target:=.collected D,args:=#[] } :: a.defers } W) :
 (Code.rangeFunc g ps assign body).wpIn F n P Q a w:=by
 refine wpIn_rangeFunc fun fn hfn => ?_
 rw [hro]
 obtain ⟨rc,hrc⟩:∃ rc:LoopState->Option Code->Loop,rc = fun st pe => { state:=st,pending:=pe,fn,tmps:=a.tmps,params:=ps,assign,body,defers:=w.heap.size }:=⟨_,rfl⟩
 obtain ⟨V,hV⟩:∃ V,(w.alloc (.deferred (some []))).alloc (.loop (rc .ready none)) = V:=⟨_,rfl⟩
 have v1:V.heap[w.heap.size + 1]? = some (.loop (rc .ready none)):=by
  rw [<- hV]; have:=World.alloc_heap_new (w.alloc (.deferred (some []))) (.loop (rc .ready none)); rwa [World.size_alloc] at this
 have v0:V.heap[w.heap.size]? = some (.deferred (some [])):=by
  rw [<- hV]; exact (Below.heap_alloc _ _ _ (by simp)).trans (World.alloc_heap_new w _)
 have vI:I [] V:=by rw [<- hV]; exact hI.alloc _ (hI.alloc _ h0)
 have vB:Below w0.heap.size w0 V:=by
  rw [<- hV]; exact hb0.trans ((((Below.refl _ w).alloc (Nat.le_refl _) _).alloc (by simp) _).mono hb0.size)
 have vs:V.heap.size = w.heap.size + 2:=by rw [<- hV]; simp
 refine ⟨w.heap.size + 1,[{ target:=.collected w.heap.size,args:=#[] }],V,{ target:=.fn (.func gf) lb,args:=#[.func (.yield (w.heap.size + 1)) #[] #[]] },V,gf,
  #[.func (.yield (w.heap.size + 1)) #[] #[]] ++ lb,V,?_,?_,?_,?_,fun _ => h1,?_⟩
 ·rw [<- hV,hrc]; exact run_enterLoop_outer _ _ _ _ _
 ·simp only [resolve,hg]
  simp [go_sem]
 ·intro f' hf'; simp [Target.leads] at hf'; subst hf'; exact hFg
 ·simp [invoke,go_sem,eg]
 ·have far:∀ {A:World} {row:Option Nat},(∀ r,row = some r->V.heap.size <= r/\∃ o:Obj,A.heap[r]? = some o/\o.isWalk = true)->(∀ r,row = some r->w.heap.size <= r/\∃ o:Obj,A.heap[r]? = some o/\o.isCells = false) :=
   fun hr r e => by obtain ⟨hB,o,ho,hw⟩:=hr r e; exact ⟨by omega,o,ho,Obj.not_cells_of_walk hw⟩
  refine (hseq (w.heap.size + 1)
   (fun pre W => I pre W/\W.heap[w.heap.size + 1]? = some (.loop (rc .ready none))/\W.heap[w.heap.size]? = some (.deferred (some [])))
   (fun pre W => ∃ c,Ix c pre W/\W.heap[w.heap.size + 1]? = some (.loop (rc .done (some c)))/\W.heap[w.heap.size]? = some (.deferred (some [])))
   V vB ?_ ?_ ?_ ⟨vI,v1,v0⟩).mono ?_
  ·intro s A B row hs hgr hr
   exact ⟨hI s A B row hs.1 hgr (far hr),(grownBy_keeps hgr (fun r e => (hr r e).2) hs.2.1 rfl).trans hs.2.1,(grownBy_keeps hgr (fun r e => (hr r e).2) hs.2.2 rfl).trans hs.2.2⟩
  ·rintro s A B row ⟨c,hc,hl,hk⟩ hgr hr
   exact ⟨c,hIx c s A B row hc hgr (far hr),(grownBy_keeps hgr (fun r e => (hr r e).2) hl rfl).trans hl,(grownBy_keeps hgr (fun r e => (hr r e).2) hk rfl).trans hk⟩
  ·rintro pre x W ⟨hi,hl,hk⟩ hR hlen
   have hy:=run_yield (P:=P) (args:=encs x) hl (by rw [hrc]; exact hps x)
   rw [hrc] at hy
   refine ⟨fn,_,assign,body,hy,roundIn_of_wpIn hfn (hassign _ pre x W _ hi hR fun a' W' hko hkp hi' hR' => ?_)⟩
   have hl':=hko.same _ _ hl rfl
   have hk':=hko.same _ _ hk rfl
   have hlt:w.heap.size + 1 < W'.heap.size:=(Array.getElem?_eq_some_iff.1 hl').1
   refine ⟨_,run_beginRound hl' (by rw [hrc]),?_⟩
   obtain ⟨W2,hW2⟩:∃ W2,W'.putObj (w.heap.size + 1) (.loop { rc .ready none with state:=.busy }) = W2:=⟨_,rfl⟩
   have hl2:W2.heap[w.heap.size + 1]? = some (.loop { rc .ready none with state:=.busy }):=by rw [<- hW2]; exact World.putObj_heap_same hlt
   have hk2:W2.heap[w.heap.size]? = some (.deferred (some [])):=by rw [<- hW2]; exact (World.putObj_heap_other (by omega)).trans hk'
   have hw2:Kp W' W2:=by rw [<- hW2]; exact hKb _ _ _ _ (by omega) hl' rfl rfl
   have hi2:I pre W2:=by rw [<- hW2]; exact hI.putObj _ hi' (by omega) hl' rfl
   have hR2:R' x a' W2:=by rw [<- hW2]; exact hRk _ _ _ _ _ _ hl' rfl hR'
   rw [hW2]
   refine wpIn_mono (hbody _ pre x a' W2 hi2 hR2 hlen) ?_
   have fin:∀ (jump:Option Code) (W3:World),KeepsOthers W2 W3 ->
    (Instr.endRound (w.heap.size + 1) jump).run P W3 = .ok (.bool jump.isNone) (W3.putObj (w.heap.size + 1) (.loop (rc (if jump.isNone then .ready else .done) jump))) /\
    W3.heap[w.heap.size + 1]? = some (.loop { rc .ready none with state:=.busy }) /\
    (W3.putObj (w.heap.size + 1) (.loop (rc (if jump.isNone then .ready else .done) jump))).heap[w.heap.size + 1]? = some (.loop (rc (if jump.isNone then .ready else .done) jump)) /\
    (W3.putObj (w.heap.size + 1) (.loop (rc (if jump.isNone then .ready else .done) jump))).heap[w.heap.size]? = some (.deferred (some [])):=fun jump W3 hk3 => by
    have hl3:=hk3.same _ _ hl2 rfl
    have:=run_endRound (P:=P) jump hl3
    rw [hrc] at this ⊢
    exact ⟨this,by rw [hrc] at hl3; exact hl3,World.putObj_heap_same (Array.getElem?_eq_some_iff.1 hl3).1,(World.putObj_heap_other (by omega)).trans (hk3.same _ _ hk2 rfl)⟩
   have out:∀ (c:Code) (W3:World),KeepsOthers W2 W3->Ix c (pre ++ [x]) W3->∃ c',Ix c' (pre ++ [x]) (W3.putObj (w.heap.size + 1) (.loop (rc .done (some c))))/\(W3.putObj (w.heap.size + 1) (.loop (rc .done (some c)))).heap[w.heap.size + 1]? = some (.loop (rc .done (some c')))/\(W3.putObj (w.heap.size + 1) (.loop (rc .done (some c)))).heap[w.heap.size]? = some (.deferred (some [])):=fun c W3 hk3 hi3 => by
    obtain ⟨_,hl3,hl4,hk4⟩:=fin (some c) W3 hk3
    exact ⟨c,(hIx _).putObj _ hi3 (by omega) hl3 rfl,hl4,hk4⟩
   rintro e a3 W3 hp
   cases e with
   | normal =>
    obtain ⟨hk3,hkp3,hi3⟩:=hp
    obtain ⟨hr,hl3,hl4,hk4⟩:=fin none W3 hk3
    exact ⟨_,_,hr,.inl ⟨rfl,⟨hI.putObj _ hi3 (by omega) hl3 rfl,hl4,hk4⟩,hKt (hKt (hKt hkp hw2) hkp3) (hKb _ _ _ _ (by omega) hl3 rfl rfl)⟩⟩
   | ret => exact ⟨_,_,(fin (some .ret) W3 hp.1).1,.inr ⟨rfl,out _ W3 hp.1 hp.2⟩⟩
   | exit id => exact ⟨_,_,(fin (some (.exit id)) W3 hp.1).1,.inr ⟨rfl,out _ W3 hp.1 hp.2⟩⟩
   | goto t => exact ⟨_,_,(fin (some (.goto t)) W3 hp.1).1,.inr ⟨rfl,out _ W3 hp.1 hp.2⟩⟩
   | panic ch => exact hp.elim
   | outgrown => exact hp.elim
  ·rintro e W2 ⟨⟨v,rfl⟩,(⟨xs,hS,hi,hl,hk⟩ | ⟨pre,hSp,c,hi,hl,hk⟩)⟩
   ·exact ⟨none,_,by have:=run_endLoop (P:=P) hl (by rw [hrc]; simp); rw [hrc] at this; exact this,hdone _ xs _ (Nat.le_refl _) hS (hI.putObj _ hi (by omega) hl rfl) ((World.putObj_heap_other (by omega)).trans hk)⟩
   ·exact ⟨some c,_,by have:=run_endLoop (P:=P) hl (by rw [hrc]; simp); rw [hrc] at this; exact this,hstop _ c pre _ (Nat.le_refl _) hSp ((hIx c).putObj _ hi (by omega) hl rfl) ((World.putObj_heap_other (by omega)).trans hk)⟩
end Go.Proofs.YtdcaekmgfcpbmaaGreat.Pt
