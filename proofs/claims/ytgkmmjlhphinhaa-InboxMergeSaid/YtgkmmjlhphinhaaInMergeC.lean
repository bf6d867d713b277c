/-
  What is proved here: Rows.InboxMergeSaid: for any job, vertices, rows of messages and mail the law's function InboxMerge returns true (the mail of the vertices is the document's, and so is whether it is the same as other mail), and no block that was there has changed. No condition.
-/
import Derived.Test.YtgkmmjlhphinhaaInIn
import Derived.Test.YtgkmmjlhphinhaaInL2
namespace Go.Proofs.Ytgkmmjlhphinhaa
open Go.ChangeShapes Go.WideShapes Go.ChangeAt Go.RowKit Gr Lb Al In

set_option maxRecDepth 100000 in
theorem inboxMerge_lifted (os : Os) (started : os.Started) (H : Type) (enc : TypeId × Value → H) :
    ReturnsInHanded {} Try.checked os 5 .any (Rows.inboxMergeSpec.pre6 enc Try.prog Try.f5 Rows.inboxMergeRow.domain false) (Rows.inboxMergeSpec.post enc Try.prog Try.f5 false true false false) := by
  refine returnsInHanded_of_change (C := Try.checked) own started (by kernel_rfl) Try.func5
    (ChangeSpec.witness6 (enc := enc) (C := Try.checked) false ⟨#[], #[.agg #[.int .u8 0, .int .i64 0, .int .i64 0, .int .i64 0, .int .i64 0], .slice none 0 0, .slice none 0 0, .slice none 0 0], []⟩ 8 (by kernel_rfl) (by kernel_rfl) (by kernel_rfl) (by kernel_rfl)) ?_
  intro W base args ds gs before hval0 hW hcnd _
  have hval : ∀ (j : Nat) t v, Try.f5.params[j]? = some t → args[j]? = some v → Value.okWide Try.prog W .any base t v := hval0
  have hW' := hW
  obtain ⟨p, q, hA0, hV, rfl, hfz, hnd⟩ := hW
  have hA : DataW.TrodAll enc Try.prog W 0 (fun _ => true) true Try.f5.params.toList args.toList ds p := hA0
  rw [Try.params5] at hA hval
  obtain ⟨v0, vs0, d0, ds0, p0, q0, hargs, rfl, rfl, h0, r0⟩ := trodAll_cons hA
  obtain ⟨v1, vs1, d1, ds1, p1, q1, rfl, rfl, rfl, h1, r1⟩ := trodAll_cons r0
  obtain ⟨v2, vs2, d2, ds2, p2, q2, rfl, rfl, rfl, h2, r2⟩ := trodAll_cons r1
  obtain ⟨v3, vs3, d3, ds3, p3, q3, rfl, rfl, rfl, h3, r3⟩ := trodAll_cons r2
  obtain ⟨rfl, rfl, rfl⟩ := trodAll_nil r3
  obtain rfl : args = #[v0, v1, v2, v3] := by cases args; simp_all
  obtain ⟨rfl, rfl⟩ := trodVars_none hV
  obtain ⟨k0, st0, so0, dm0, ep0, rfl, hj0⟩ := job_in (hval 0 23 v0 rfl rfl) h0
  obtain ⟨L1, A1, c1, rfl, hl1, hL1, hT1⟩ := ints_at2 (hval 1 34 v1 rfl rfl) h1
  obtain ⟨L2, A2, c2, rfl, hl2, hL2, hT2, hm2⟩ := rows_at (hval 2 31 v2 rfl rfl) h2
  obtain ⟨L3, A3, c3, rfl, hl3, hL3⟩ := mails_at (hval 3 35 v3 rfl rfl) h3
  clear hA0 hval0
  simp only [List.append_nil] at hW'
  refine (law_merge k0 st0 so0 dm0 ep0 A1 A2 A3 L1.length c1 L2.length c2 L3.length c3 L1 L2 L3 W (Lib.hid hL1) (Lib.hid rfl) (Lib.hid hL2) (Lib.hid rfl) (Lib.hid hL3) (Lib.hid rfl) (Lib.hid hT2) (Lib.hid hT1) (Lib.hid hm2) (by unfold maxLen at hl1; omega) (by unfold maxLen at hl2; omega) (by unfold maxLen at hl3; omega)).mono fun e W' ⟨he, hg0⟩ => ?_
  subst he
  have hg := hg0.out
  have hlt3 : ∀ x ∈ p3, x.block < W.heap.size := fun x hx => by simpa using hW'.lt x (by simp [hx])
  have hlt2 : ∀ x ∈ p2, x.block < W.heap.size := fun x hx => by simpa using hW'.lt x (by simp [hx])
  have hlt1 : ∀ x ∈ p1, x.block < W.heap.size := fun x hx => by simpa using hW'.lt x (by simp [hx])
  have hlt0 : ∀ x ∈ p0, x.block < W.heap.size := fun x hx => by simpa using hW'.lt x (by simp [hx])
  refine ⟨_, rfl, law_post hW' hg rfl rfl rfl rfl ?_⟩
  have g := (trodAll_cons_mk (Below.trod laidOut (by kernel_rfl) (of_decide_eq_true (by kernel_rfl)) h0 hg hlt0) (trodAll_cons_mk (Below.trod laidOut (by kernel_rfl) (of_decide_eq_true (by kernel_rfl)) h1 hg hlt1) (trodAll_cons_mk (Below.trod laidOut (by kernel_rfl) (of_decide_eq_true (by kernel_rfl)) h2 hg hlt2) (trodAll_cons_mk (Below.trod laidOut (by kernel_rfl) (of_decide_eq_true (by kernel_rfl)) h3 hg hlt3) trodAll_mk0))))
  simp only [List.append_nil] at g
  exact g

theorem inboxMerge_holds : Rows.InboxMergeSaid :=
  OpenClaim.holds_of_wide 5 Try.f5 rfl rfl rfl rfl rfl rfl rfl ⟨rfl, rfl, rfl, rfl, rfl⟩ rfl rfl rfl rfl rfl (by kernel_rfl) Try.func5 (by kernel_rfl)
    (of_decide_eq_true (by kernel_rfl)) (by unfold Func.isWrapper; first | (rw [if_pos (by decide +kernel)]; kernel_rfl) | (rw [if_neg (by decide +kernel)]; exact ⟨rfl, rfl⟩))
    (fun os started H enc _ => inboxMerge_lifted os started H enc)
#print axioms inboxMerge_holds

end Go.Proofs.Ytgkmmjlhphinhaa
