/-
  What is proved here: steps of a region that draws its order: an operation that is not wanted; a call and an allocation that may both come up; a store alone. No program.
-/
import Derived.Test.YtfbfckdabbaocaaQbTlIn
namespace Go.Proofs.Ytfbfckdabbaocaa.St
open Go.RowKit
theorem headX_cv {P : Program} {md : Region.Mode} {S : World → Prop} {Q : Exit → Act → World → Prop} {n p g : Nat} {r : List Oper} {o oj : Oper} {f : Nat} {listed : Array Bool} {a : Act} {w : World} {R : Value → World → Prop} (i j : Nat) (fn : FuncId) (args : Array Value) (vj : Value) (wj : World) (hi : r[i]? = some o) (hj : r[j]? = some oj) (hin : i < n) (hjn : j < n) (hr : Region.ready md r.toArray listed = [i, j])
    (hw : Region.wanted o (yielded r.toArray a.tmps) = true) (hwj : Region.wanted oj (yielded r.toArray a.tmps) = true)
    (he : (execOp a.eval o).run P w = .ok (.enter fn args) w) (hej : (execOp a.eval oj).run P w = .ok (.value vj) wj) (hc : Calls P fn args w fun e w' => ∃ v, e = .returned v ∧ R v w') (hsj : S wj)
    (h : ∀ v w', R v w' → S w' ∧ Tl.headX P md r.toArray Q S n p g f (listed.setIfInBounds i true) (a.put o.dst v) w') (h2 : Tl.headX P md r.toArray Q S n p g f (listed.setIfInBounds j true) (a.put oj.dst vj) wj) : Tl.headX P md r.toArray Q S n p g (f + 1) listed a w := by
  intro _
  refine ⟨by rw [hr]; simp, fun k hk => ?_⟩
  rw [hr] at hk
  have hk2 : k = i ∨ k = j := by simpa using hk
  rcases hk2 with rfl | rfl
  · refine ⟨hin, ?_⟩
    unfold wpOp
    simp only [show r.toArray[k]? = some o by simpa using hi, hw, if_true]
    refine .inl ?_
    show o.upon P a _ Q _
    rw [he, Oper.upon_enter]
    refine hc.mono ?_
    rintro e w2 ⟨v, rfl, h3⟩
    exact h v w2 h3
  · refine ⟨hjn, ?_⟩
    unfold wpOp
    simp only [show r.toArray[k]? = some oj by simpa using hj, hwj, if_true]
    refine .inl ?_
    show oj.upon P a _ Q _
    rw [hej]
    exact ⟨hsj, h2⟩
end Go.Proofs.Ytfbfckdabbaocaa.St
