/-
  What is proved here: Rows.InboxKnownSaid: the law's function InboxKnown returns true (the examples hold; messages to vertices about each bound, for all kinds), and no block that was there has changed. No condition.
-/
import Derived.Test.YtgkmmjlhphinhaaInIn
import Derived.Test.YtgkmmjlhphinhaaInKno
namespace Go.Proofs.Ytgkmmjlhphinhaa
open Go.ChangeShapes Go.WideShapes Go.ChangeAt Go.RowKit Gr Lb Al In

set_option maxRecDepth 100000 in
theorem inboxKnown_lifted (os : Os) (started : os.Started) (H : Type) (enc : TypeId × Value → H) :
    ReturnsInHanded {} Try.checked os 7 .any (Rows.inboxKnownSpec.pre6 enc Try.prog Try.f7 Rows.inboxKnownRow.domain false) (Rows.inboxKnownSpec.post enc Try.prog Try.f7 false true false false) := by
  refine returnsInHanded_of_change (C := Try.checked) own started (by kernel_rfl) Try.func7
    (ChangeSpec.witness6 (enc := enc) (C := Try.checked) false ⟨#[], #[], []⟩ 8 (by kernel_rfl) (by kernel_rfl) (by kernel_rfl) (by kernel_rfl)) ?_
  intro W base args ds gs before hval0 hW hcnd _
  have hval : ∀ (j : Nat) t v, Try.f7.params[j]? = some t → args[j]? = some v → Value.okWide Try.prog W .any base t v := hval0
  have hW' := hW
  obtain ⟨p, q, hA0, hV, rfl, hfz, hnd⟩ := hW
  have hA : DataW.TrodAll enc Try.prog W 0 (fun _ => true) true Try.f7.params.toList args.toList ds p := hA0
  rw [Try.params7] at hA
  obtain ⟨hargs, rfl, rfl⟩ := trodAll_nil hA
  obtain rfl : args = #[] := by cases args; simp_all
  obtain ⟨rfl, rfl⟩ := trodVars_none hV
  clear hA0 hval0
  simp only [List.append_nil] at hW'
  refine (known_law W).mono fun e W' ⟨he, hg0⟩ => ?_
  subst he
  have hg := hg0.out
  exact ⟨_, rfl, law_post hW' hg rfl rfl rfl rfl trodAll_mk0⟩

theorem inboxKnown_holds : Rows.InboxKnownSaid :=
  OpenClaim.holds_of_wide 7 Try.f7 rfl rfl rfl rfl rfl rfl rfl ⟨rfl, rfl, rfl, rfl, rfl⟩ rfl rfl rfl rfl rfl (by kernel_rfl) Try.func7 (by kernel_rfl)
    (of_decide_eq_true (by kernel_rfl)) (by unfold Func.isWrapper; first | (rw [if_pos (by decide +kernel)]; kernel_rfl) | (rw [if_neg (by decide +kernel)]; exact ⟨rfl, rfl⟩))
    (fun os started H enc _ => inboxKnown_lifted os started H enc)
#print axioms inboxKnown_holds

end Go.Proofs.Ytgkmmjlhphinhaa
