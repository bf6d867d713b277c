/-
  What is proved here: Rows.StatesPutSaid: for any part the law's function StatesPut returns true (whether it is right, and its bytes, are the document's), and no block that was there has changed. No condition.
-/
import Derived.Test.YtfbfckdabbaocaaQaStIn
import Derived.Test.YtfbfckdabbaocaaQaStLp
namespace Go.Proofs.Ytfbfckdabbaocaa
open Go.ChangeShapes Go.WideShapes Go.ChangeAt Go.RowKit Gr Lb Al Sq St
set_option maxRecDepth 100000 in
theorem statesPut_lifted (os : Os) (started : os.Started) (H : Type) (enc : TypeId × Value → H) :
    ReturnsInHanded {} Try.checked os 3 .any (Rows.statesPutSpec.pre6 enc Try.prog Try.f3 Rows.statesPutRow.domain false) (Rows.statesPutSpec.post enc Try.prog Try.f3 false true false false) := by
  refine returnsInHanded_of_change (C := Try.checked) own started (by kernel_rfl) Try.func3
    (ChangeSpec.witness6 (enc := enc) (C := Try.checked) false ⟨#[], #[.agg #[.int .i64 0, .slice none 0 0, .slice none 0 0, .slice none 0 0, .slice none 0 0]], []⟩ 8 (by kernel_rfl) (by kernel_rfl) (by kernel_rfl) (by kernel_rfl)) ?_
  intro W base args ds gs before hval0 hW hcnd _
  have hval : ∀ (j : Nat) t v, Try.f3.params[j]? = some t → args[j]? = some v → Value.okWide Try.prog W .any base t v := hval0
  have hW' := hW
  obtain ⟨p, q, hA0, hV, rfl, hfz, hnd⟩ := hW
  have hA : DataW.TrodAll enc Try.prog W 0 (fun _ => true) true Try.f3.params.toList args.toList ds p := hA0
  rw [Try.params3] at hA hval
  obtain ⟨v0, vs0, d0, ds0, p0, q0, hargs, rfl, rfl, h0, r0⟩ := trodAll_cons hA
  obtain ⟨rfl, rfl, rfl⟩ := trodAll_nil r0
  obtain rfl : args = #[v0] := by cases args; simp_all
  obtain ⟨rfl, rfl⟩ := trodVars_none hV
  obtain ⟨P0, Ao0, Av0, Ac0, Ai0, co0, cv0, cc0, ci0, rfl, hl0, hP0⟩ := part_in (hval 0 27 v0 rfl rfl) h0
  clear hA0 hval0
  simp only [List.append_nil] at hW'
  refine (law_put P0 Ao0 Av0 Ac0 Ai0 P0.own.length P0.vals.length P0.chg.length P0.inb.length co0 cv0 cc0 ci0 W hP0 (by have := hl0.1; unfold maxLen at this; omega) (by have := hl0.2.1; unfold maxLen at this; omega) (by have := hl0.2.2.1; unfold maxLen at this; omega) (by have := hl0.2.2.2; unfold maxLen at this; omega)).mono fun e W' ⟨he, hg0⟩ => ?_
  subst he
  have hg := hg0.out
  have hlt0 : ∀ x ∈ p0, x.block < W.heap.size := fun x hx => by simpa using hW'.lt x (by simp [hx])
  refine ⟨_, rfl, law_post hW' hg rfl rfl rfl rfl ?_⟩
  have g := (trodAll_cons_mk (Below.trod laidOut (by kernel_rfl) (of_decide_eq_true (by kernel_rfl)) h0 hg hlt0) trodAll_mk0)
  simp only [List.append_nil] at g
  exact g
theorem statesPut_holds : Rows.StatesPutSaid :=
  OpenClaim.holds_of_wide 3 Try.f3 rfl rfl rfl rfl rfl rfl rfl ⟨rfl, rfl, rfl, rfl, rfl⟩ rfl rfl rfl rfl rfl (by kernel_rfl) Try.func3 (by kernel_rfl)
    (of_decide_eq_true (by kernel_rfl)) (by unfold Func.isWrapper; first | (rw [if_pos (by decide +kernel)]; kernel_rfl) | (rw [if_neg (by decide +kernel)]; exact ⟨rfl, rfl⟩))
    (fun os started H enc _ => statesPut_lifted os started H enc)
#print axioms statesPut_holds
end Go.Proofs.Ytfbfckdabbaocaa
