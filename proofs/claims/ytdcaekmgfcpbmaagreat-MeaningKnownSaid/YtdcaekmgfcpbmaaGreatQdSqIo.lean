/-
  What is proved here: a call that returns true and leaves every block that was there as it was meets the law's specification. No condition.
-/
import Derived.Test.YtdcaekmgfcpbmaaGreatQdMnT2x
import Derived.ProofKit
import Derived.LaidMore
import Derived.OpenShut
import Derived.SizedLaws
import Derived.Carry
import Derived.ChangeSlices
import Derived.Deep.Slices
import Derived.Deep.Fields
namespace Go.Proofs.YtdcaekmgfcpbmaaGreat.Al
open Go.ChangeShapes Go.WideShapes Go.ChangeAt Go.RowKit Go.Deep Gr Wd Ws Lb
theorem own:ownKnob Tryz.prog.godebug = none:=by kernel_rfl
theorem law_post {H:Type} {enc:TypeId × Value->H} {f:Func} {s:ChangeSpec} {apart:Bool} {W W':World} {args:Array Value} {ds:List (DataW H)} {before:List MemPlace}
 (hW:DataW.Whole enc Tryz.prog f.params.toList s.vars apart W args.toList ds [] before) (hb:Below W.heap.size W W')
 (ht:f.resultTypes = #[4]) (hr:(s.fn H (ds ++ [])).results = [.lit (.bool true)]) (hv:s.vars = []) (hg:(s.fn H (ds ++ [])).vars = [])
 (hargs:DataW.TrodAll enc Tryz.prog W' 0 (fun b => decide (b < W.heap.size)) true f.params.toList args.toList (s.fn H (ds ++ [])).args before) :
 s.post enc Tryz.prog f apart true false false W args (.bool true) W':=by
 have hres:∀ (b:Nat) (sp:Nat->Bool) (hd:Bool),DataW.TrodAll enc Tryz.prog W' b sp hd f.resultTypes.toList ((Value.bool true).resultList f.resultTypes.size) (s.fn H (ds ++ [])).results []:=by
  intro b sp hd
  rw [hr,ht]
  exact trodAll_cons_mk (shut_bool Tryz.underlying4 _) trodAll_mk0
 have hvars:∀ sp:Nat->Bool,DataW.TrodVars enc Tryz.prog W' sp s.vars (s.fn H (ds ++ [])).vars []:=by
  intro sp; rw [hv,hg]; rfl
 exact ⟨ds,[],before,[],before,[],hW,hres _ _ _,hargs,hvars _,hb.frame _,fun h => absurd h (by simp)⟩
end Go.Proofs.YtdcaekmgfcpbmaaGreat.Al
