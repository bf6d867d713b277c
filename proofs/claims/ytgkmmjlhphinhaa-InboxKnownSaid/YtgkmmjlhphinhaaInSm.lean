/-
  What is proved here: a contract of the law's sameMessages. Conditions: lengths fit an int.
-/
import Derived.Test.YtgkmmjlhphinhaaInP
namespace Go.Proofs.Ytgkmmjlhphinhaa.Al
open Go.RowKit Go.Sort Gr Wd Ws Fx Lb

theorem eq_m (a0 a1 b0 b1 : Int) (r : Bool) (hr : Hid (decide (((a0, a1) : Ms) = (b0, b1)) = r)) (w : World) :
    Sem.run Try.prog (binOp .neq 29 (.agg #[.int .i64 a0, .int .i64 a1]) (.agg #[.int .i64 b0, .int .i64 b1])) w = .ok (.bool (!r)) w := by
  have u2 := Try.underlying3
  have a2' := Try.isAgg3
  have z2 := Try.sizeOf3
  have u3 := Try.underlying2
  have a3 := Try.isAgg2
  have z3 := Try.sizeOf2
  have hS : Try.prog.underlying 29 = some (.struct (Try.prog.fieldsOf 29)) := by kernel_rfl
  have hp : Try.prog.stoodInHeld 29 = false := by kernel_rfl
  rw [run_neq_struct, show (10000 : Nat) = 9999 + 1 from rfl, run_equalIn_agg w 9999 29 _ _ hS hp]
  simp only [Program.fieldsOf, Try.underlying29]
  go_simp
  have hr' := hr.out
  by_cases h1 : a0 = b0 <;> by_cases h2 : a1 = b1 <;> subst hr' <;> simp [h1, h2]

def SmRel (w : World) (L M : List Ms) (g : Nat) (i : Value) (wr : World) : Prop :=
  ∃ k : Nat, k + g = L.length ∧ i = .int .i64 (k : Int) ∧ Below w.heap.size w wr ∧ decide (L = M) = decide (L.drop k = M.drop k)
set_option maxRecDepth 100000 in
set_option maxHeartbeats 600000 in
theorem samem_any (A B : Option Addr) (c d : Nat) (L M : List Ms) (w : World) (hL : MAt w A L) (hM : MAt w B M) (hl : L.length ≤ 9223372036854775807) (_hm : M.length ≤ 9223372036854775807) :
    Calls Try.prog 10 #[.slice A L.length c, .slice B M.length d] w fun e w' => e = .returned (.bool (decide (L = M))) ∧ Below w.heap.size w w' := by
  have mixed := mixedO
  have HL := Lib.hid hL; have HM := Lib.hid hM; clear hL hM
  obtain ⟨R, hR⟩ : ∃ R, decide (L = M) = R := ⟨_, rfl⟩
  rw [hR]
  have HR := Lib.hid hR; clear hR
  by_cases hlm : L.length = M.length
  · obtain ⟨n, hn⟩ : ∃ n, n = M.length := ⟨_, rfl⟩
    rw [← hn, hlm, ← hn]
    have HLn : Hid (L.length = n) := Lib.hid (by rw [hlm, hn])
    have HMn : Hid (M.length = n) := Lib.hid hn.symm
    have hnn : n ≤ 9223372036854775807 := by omega
    clear hlm hn hl _hm
    go_enter Try.func10, Try.ntmps10
    go_wp2
    go_loopg [5] n (fun g i wr => SmRel w L M g i wr)
    case atStart => exact ⟨0, by have := HLn.out; omega, rfl, Below.refl _ w, rfl⟩
    case round =>
      obtain ⟨k, hk, rfl, hb, hd⟩ := hrel
      rw [HLn.out] at hk
      by_cases hlt : k < n
      · obtain ⟨⟨e0, e1⟩, he⟩ := at_lt L k (by rw [HLn.out]; exact hlt)
        obtain ⟨⟨f0, f1⟩, hf⟩ := at_lt M k (by rw [HMn.out]; exact hlt)
        obtain ⟨bk, o, rfl, c0, c1⟩ := (HL.out.below hb) k _ he
        obtain ⟨bk', o', rfl, d0, d1⟩ := (HM.out.below hb) k _ hf
        rw [drop_at he, drop_at hf] at hd
        obtain ⟨r, hr⟩ : ∃ r, decide (((e0, e1) : Ms) = (f0, f1)) = r := ⟨_, rfl⟩
        have HB := Lib.hid hb; have HD := Lib.hid hd; have HQ := Lib.hid hr
        have heq := fun W => eq_m e0 e1 f0 f1 r HQ W
        clear hb hd he hf hr
        cases r with
        | true =>
          go_wp2_with fail
          go_big_region
          go_wp2
          go_roundg (gk - 1)
          case measure => omega
          case rel =>
            have h2 := of_decide_eq_true HQ.out
            refine ⟨k + 1, by have := HLn.out; omega, by go_num, HB.out.drew, ?_⟩
            rw [HD.out, h2]; simp
        | false =>
          go_wp2_with fail
          go_big_region
          go_wp2
          go_ret
          refine ⟨ret_b ?_, HB.out.drew⟩
          have h2 := of_decide_eq_false HQ.out
          rw [← HR.out, HD.out]
          exact (decide_eq_false (fun h => h2 (List.cons.inj h).1)).symm
      · have HB := Lib.hid hb; have HD := Lib.hid hd
        have HK : Hid (k = n) := Lib.hid (by omega)
        clear hb hd
        go_wp2
        go_ret
        refine ⟨ret_b ?_, HB.out⟩
        rw [← HR.out, HD.out, HK.out]
        rw [List.drop_eq_nil_of_le (by rw [HLn.out]; exact Nat.le_refl _), List.drop_eq_nil_of_le (by rw [HMn.out]; exact Nat.le_refl _)]; simp
  · have hne : R = false := by
      rw [← HR.out]
      exact decide_eq_false fun h => hlm (by rw [h])
    subst hne
    go_enter Try.func10, Try.ntmps10
    go_wp2
    go_ret
    exact ⟨rfl, Below.refl _ w⟩

end Go.Proofs.Ytgkmmjlhphinhaa.Al
