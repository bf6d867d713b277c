/-
  What is proved here: Rows.StatesTakeSaid: for any state and two numbers the law's function StatesTake returns true (a worker's part of it is the document's), and no block that was there has changed. No condition.
-/
import Derived.Test.YtfbfckdabbaocaaQbStInx
import Derived.Test.YtfbfckdabbaocaaQbStLt
namespace Go.Proofs.Ytfbfckdabbaocaa
open Go.ChangeShapes Go.WideShapes Go.ChangeAt Go.RowKit Gr Lb Al Sq St
set_option maxRecDepth 100000 in
theorem statesTake_lifted (os : Os) (started : os.Started) (H : Type) (enc : TypeId × Value → H) :
    ReturnsInHanded {} Try.checked os 6 .any (Rows.statesTakeSpec.pre6 enc Try.prog Try.f6 Rows.statesTakeRow.domain false) (Rows.statesTakeSpec.post enc Try.prog Try.f6 false true false false) := by
  refine returnsInHanded_of_change (C := Try.checked) own started (by kernel_rfl) Try.func6
    (ChangeSpec.witness6 (enc := enc) (C := Try.checked) false ⟨#[], #[.agg #[.int .i64 0, .slice none 0 0, .slice none 0 0, .slice none 0 0, .int .i64 0, .int .i64 0], .int .i64 0, .int .i64 0], []⟩ 8 (by kernel_rfl) (by kernel_rfl) (by kernel_rfl) (by kernel_rfl)) ?_
  intro W base args ds gs before hval0 hW hcnd _
  have hval : ∀ (j : Nat) t v, Try.f6.params[j]? = some t → args[j]? = some v → Value.okWide Try.prog W .any base t v := hval0
  have hW' := hW
  obtain ⟨p, q, hA0, hV, rfl, hfz, hnd⟩ := hW
  have hA : DataW.TrodAll enc Try.prog W 0 (fun _ => true) true Try.f6.params.toList args.toList ds p := hA0
  rw [Try.params6] at hA hval
  obtain ⟨v0, vs0, d0, ds0, p0, q0, hargs, rfl, rfl, h0, r0⟩ := trodAll_cons hA
  obtain ⟨v1, vs1, d1, ds1, p1, q1, rfl, rfl, rfl, h1, r1⟩ := trodAll_cons r0
  obtain ⟨v2, vs2, d2, ds2, p2, q2, rfl, rfl, rfl, h2, r2⟩ := trodAll_cons r1
  obtain ⟨rfl, rfl, rfl⟩ := trodAll_nil r2
  obtain rfl : args = #[v0, v1, v2] := by cases args; simp_all
  obtain ⟨rfl, rfl⟩ := trodVars_none hV
  obtain ⟨z0, s0, Av0, Ac0, Ai0, cv0, cc0, ci0, rfl, hl0, hs0, hi0, hp0⟩ := state_in (hval 0 48 v0 rfl rfl) h0
  obtain ⟨a1, rfl, rfl, rfl, w1⟩ := open_int Try.underlying3 (hval 1 3 v1 rfl rfl) h1
  have k1 := i64_in w1
  obtain ⟨a2, rfl, rfl, rfl, w2⟩ := open_int Try.underlying3 (hval 2 3 v2 rfl rfl) h2
  have k2 := i64_in w2
  clear hA0 hval0
  simp only [List.append_nil] at hW'
  refine (law_take z0 s0 Av0 Ac0 Ai0 s0.vals.length s0.chg.length s0.inb.length cv0 cc0 ci0 a1 a2 W hs0 (by have := hl0.1; unfold maxLen at this; omega) (by have := hl0.2.1; unfold maxLen at this; omega) (by have := hl0.2.2; unfold maxLen at this; omega)).mono fun e W' ⟨he, hg0⟩ => ?_
  subst he
  have hg := hg0.out
  have hlt0 : ∀ x ∈ p0, x.block < W.heap.size := fun x hx => by simpa using hW'.lt x (by simp [hx])
  refine ⟨_, rfl, law_post hW' hg rfl rfl rfl rfl ?_⟩
  have g := (trodAll_cons_mk (Below.trod laidOut (by kernel_rfl) (of_decide_eq_true (by kernel_rfl)) h0 hg hlt0) (trodAll_cons_mk (shut_int Try.underlying3 w1) (trodAll_cons_mk (shut_int Try.underlying3 w2) trodAll_mk0)))
  simp only [List.append_nil] at g
  exact g
theorem statesTake_holds : Rows.StatesTakeSaid :=
  OpenClaim.holds_of_wide 6 Try.f6 rfl rfl rfl rfl rfl rfl rfl ⟨rfl, rfl, rfl, rfl, rfl⟩ rfl rfl rfl rfl rfl (by kernel_rfl) Try.func6 (by kernel_rfl)
    (of_decide_eq_true (by kernel_rfl)) (by unfold Func.isWrapper; first | (rw [if_pos (by decide +kernel)]; kernel_rfl) | (rw [if_neg (by decide +kernel)]; exact ⟨rfl, rfl⟩))
    (fun os started H enc _ => statesTake_lifted os started H enc)
#print axioms statesTake_holds
end Go.Proofs.Ytfbfckdabbaocaa
