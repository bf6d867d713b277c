/-
  What is proved here: Rows.CrcRingSaid: for any three words a, b, c the law's function CrcRing returns true (products go together as with numbers), and no block that was there has changed. No condition.
-/
import Derived.Test.YtgfofmcgfmhaeaaLaw
namespace Go.Proofs.Ytgfofmcgfmhaeaa
open Go.ChangeShapes Go.WideShapes Go.ChangeAt Go.RowKit

theorem times_one (x : BitVec 32) (w : World) : Calls Try.prog 15 #[.int .u32 (iv x), .int .u32 2147483648] w fun e w' => e = .returned (.int .u32 (iv x)) ∧ w = w' := by
  have := times_any x Crc.one w
  rw [Crc.T_one, ← lit_one] at this
  exact this
theorem times_zero (x : BitVec 32) (w : World) : Calls Try.prog 15 #[.int .u32 (iv x), .int .u32 0] w fun e w' => e = .returned (.int .u32 0) ∧ w = w' := by
  have := times_any x 0#32 w
  rw [Crc.T_zero_right, ← lit_0] at this
  exact this

set_option maxHeartbeats 1000000 in
theorem ring_walk (a b c : BitVec 32) (w : World) :
    Calls Try.prog 5 #[.int .u32 (iv a), .int .u32 (iv b), .int .u32 (iv c)] w fun e w' => e = .returned (.bool true) ∧ Below w.heap.size w w' := by
  have h1 : (iv (Crc.T a b) == iv (Crc.T b a)) = true := by rw [Crc.T_comm]; simp
  have h2 : (iv (Crc.T (Crc.T a b) c) == iv (Crc.T a (Crc.T b c))) = true := by rw [Crc.T_assoc]; simp
  have h3 := iv_xor b c
  have h4 : bits .xor .u32 (iv (Crc.T a b)) (iv (Crc.T a c)) = iv (Crc.T a (b ^^^ c)) := by rw [iv_xor, Crc.T_xor_right]
  go_enter Try.func5, Try.ntmps5
  go_wp2_with (first | (go_at_call 15; first | ((with_reducible refine (times_one _ _).mono ?_); rintro e w' ⟨rfl, rfl⟩) | ((with_reducible refine (times_zero _ _).mono ?_); rintro e w' ⟨rfl, rfl⟩) | ((with_reducible refine (times_any _ _ _).mono ?_); rintro e w' ⟨rfl, rfl⟩)) | (go_at_call 10; refine (works_any _).mono ?_; rintro e w' ⟨rfl, hb⟩))
  go_ret
  exact ⟨rfl, hb⟩

set_option maxRecDepth 100000 in
theorem ring_lifted (os : Os) (started : os.Started) (H : Type) (enc : TypeId × Value → H) :
    ReturnsInHanded {} Try.checked os 5 .any (Rows.crcRingSpec.pre6 enc Try.prog Try.f5 Rows.crcRingRow.domain false) (Rows.crcRingSpec.post enc Try.prog Try.f5 false true false false) := by
  refine returnsInHanded_of_change (C := Try.checked) own started (by kernel_rfl) Try.func5
    (ChangeSpec.witness6 (enc := enc) (C := Try.checked) false ⟨#[], #[.int .u32 0, .int .u32 0, .int .u32 0], []⟩ 8 (by kernel_rfl) (by kernel_rfl) (by kernel_rfl) (by kernel_rfl)) ?_
  intro W base args ds gs before hval0 hW hcnd _
  have hval : ∀ (j : Nat) t v, Try.f5.params[j]? = some t → args[j]? = some v → Value.okWide Try.prog W .any base t v := hval0
  have hW' := hW
  obtain ⟨p, q, hA0, hV, rfl, hfz, hnd⟩ := hW
  have hA : DataW.TrodAll enc Try.prog W 0 (fun _ => true) true Try.f5.params.toList args.toList ds p := hA0
  rw [Try.params5] at hA hval
  obtain ⟨v0, vs0, d0, ds0, p0, q0, hargs, rfl, rfl, h0, r0⟩ := trodAll_cons hA
  obtain ⟨v1, vs1, d1, ds1, p1, q1, rfl, rfl, rfl, h1, r1⟩ := trodAll_cons r0
  obtain ⟨v2, vs2, d2, ds2, p2, q2, rfl, rfl, rfl, h2, r2⟩ := trodAll_cons r1
  obtain ⟨rfl, rfl, rfl⟩ := trodAll_nil r2
  obtain rfl : args = #[v0, v1, v2] := by cases args; simp_all
  obtain ⟨rfl, rfl⟩ := trodVars_none hV
  obtain ⟨a0, rfl, rfl, rfl, w0⟩ := open_int Try.underlying24 (hval 0 24 v0 rfl rfl) h0
  obtain ⟨a1, rfl, rfl, rfl, w1⟩ := open_int Try.underlying24 (hval 1 24 v1 rfl rfl) h1
  obtain ⟨a2, rfl, rfl, rfl, w2⟩ := open_int Try.underlying24 (hval 2 24 v2 rfl rfl) h2
  clear hA0 hval0
  simp only [List.append_nil] at hW'
  obtain ⟨x0, rfl⟩ := u32_iv w0
  obtain ⟨x1, rfl⟩ := u32_iv w1
  obtain ⟨x2, rfl⟩ := u32_iv w2
  refine (ring_walk x0 x1 x2 W).mono fun e W' ⟨he, hg⟩ => ?_
  subst he
  exact ⟨_, rfl, law_post hW' hg rfl rfl rfl rfl (fun sp _ => (trodAll_cons_mk (shut_int Try.underlying24 w0) (trodAll_cons_mk (shut_int Try.underlying24 w1) (trodAll_cons_mk (shut_int Try.underlying24 w2) trodAll_mk0))))⟩

theorem ring_holds : Rows.CrcRingSaid :=
  OpenClaim.holds_of_wide 5 Try.f5 rfl rfl rfl rfl rfl rfl rfl ⟨rfl, rfl, rfl, rfl, rfl⟩ rfl rfl rfl rfl rfl (by kernel_rfl) Try.func5 (by kernel_rfl)
    (of_decide_eq_true (by kernel_rfl)) (by unfold Func.isWrapper; first | (rw [if_pos (by decide +kernel)]; kernel_rfl) | (rw [if_neg (by decide +kernel)]; exact ⟨rfl, rfl⟩))
    (fun os started H enc _ => ring_lifted os started H enc)
#print axioms ring_holds

end Go.Proofs.Ytgfofmcgfmhaeaa
