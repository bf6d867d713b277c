/-
  What is proved here: contracts of slices.Equal at edges, graph.Same, and of the document's own SameEdges and Same: are two the same? Conditions: counts fit an int.
-/
import Derived.Test.YtjcgejbggmpikaaPtG2
namespace Go.Proofs.Ytjcgejbggmpikaa.Gr
open Go.RowKit Wd Ws

theorem eq_e (a0 a1 a2 b0 b1 b2 : Int) (r : Bool) (hr : Hid (decide (((a0, a1, a2) : Ed) = (b0, b1, b2)) = r)) (w : World) :
    Sem.run Try.prog (binOp .neq 44 (.agg #[.int .i64 a0, .int .i64 a1, .int .i64 a2]) (.agg #[.int .i64 b0, .int .i64 b1, .int .i64 b2])) w = .ok (.bool (!r)) w := by
  have u2 := Try.underlying2
  have a2' := Try.isAgg2
  have z2 := Try.sizeOf2
  have u3 := Try.underlying3
  have a3 := Try.isAgg3
  have z3 := Try.sizeOf3
  have hS : Try.prog.underlying 44 = some (.struct (Try.prog.fieldsOf 44)) := by kernel_rfl
  have hp : Try.prog.stoodInHeld 44 = false := by kernel_rfl
  rw [run_neq_struct, show (10000 : Nat) = 9999 + 1 from rfl, run_equalIn_agg w 9999 44 _ _ hS hp]
  simp only [Program.fieldsOf, Try.underlying44]
  go_simp
  have hr' := hr.out
  by_cases h1 : a0 = b0 <;> by_cases h2 : a1 = b1 <;> by_cases h3 : a2 = b2 <;> subst hr' <;> simp [h1, h2, h3]

def SmRel (w : World) (L M : List Ed) (g : Nat) (i : Value) (wr : World) : Prop :=
  ∃ k : Nat, k + g = L.length ∧ i = .int .i64 (k : Int) ∧ Below w.heap.size w wr ∧ decide (L = M) = decide (L.drop k = M.drop k)

set_option maxRecDepth 100000 in
set_option maxHeartbeats 600000 in
theorem equal_any (A B : Option Addr) (c d : Nat) (L M : List Ed) (w : World) (hL : EAt w A L) (hM : EAt w B M) (hl : L.length ≤ 9223372036854775807) (_hm : M.length ≤ 9223372036854775807) :
    Calls Try.prog 61 #[.slice A L.length c, .slice B M.length d] w fun e w' => e = .returned (.bool (decide (L = M))) ∧ Below w.heap.size w w' := by
  have HL := Lib.hid hL; have HM := Lib.hid hM; clear hL hM
  obtain ⟨R, hR⟩ : ∃ R, decide (L = M) = R := ⟨_, rfl⟩
  rw [hR]
  have HR := Lib.hid hR; clear hR
  by_cases hlm : L.length = M.length
  · obtain ⟨n, hn⟩ : ∃ n, n = M.length := ⟨_, rfl⟩
    rw [← hn, hlm, ← hn]
    have HLn : Hid (L.length = n) := Lib.hid (by rw [hlm, hn])
    have HMn : Hid (M.length = n) := Lib.hid hn.symm
    have hnn : n ≤ 9223372036854775807 := by omega
    clear hlm hn hl _hm
    go_enter Try.func61, Try.ntmps61
    go_wp2
    go_loopg [13] n (fun g i wr => SmRel w L M g i wr)
    case atStart => exact ⟨0, by have := HLn.out; omega, rfl, Below.refl _ w, rfl⟩
    case round =>
      obtain ⟨k, hk, rfl, hb, hd⟩ := hrel
      rw [HLn.out] at hk
      by_cases hlt : k < n
      · obtain ⟨e, he⟩ := at_lt L k (by rw [HLn.out]; exact hlt)
        obtain ⟨f, hf⟩ := at_lt M k (by rw [HMn.out]; exact hlt)
        obtain ⟨bk, o, rfl, c0, c1, c2⟩ := (HL.out.below hb) k e he
        obtain ⟨bk', o', rfl, d0, d1, d2⟩ := (HM.out.below hb) k f hf
        rw [drop_at he, drop_at hf] at hd
        have HB := Lib.hid hb; have HD := Lib.hid hd
        clear hb hd he hf
        obtain ⟨e0, e1, e2⟩ := e
        obtain ⟨f0, f1, f2⟩ := f
        obtain ⟨r, hr⟩ : ∃ r, decide (((e0, e1, e2) : Ed) = (f0, f1, f2)) = r := ⟨_, rfl⟩
        have hne := fun W => eq_e e0 e1 e2 f0 f1 f2 r (Lib.hid hr) W
        have HQ := Lib.hid hr; clear hr
        cases r with
        | true =>
          simp only [Bool.not_true] at hne
          go_wp2
          go_quiet (fail)
          go_wp2
          go_roundg (gk - 1)
          case measure => omega
          case rel =>
            refine ⟨k + 1, by have := HLn.out; omega, by go_num, below_drewN HB.out _, ?_⟩
            rw [HD.out]
            have := of_decide_eq_true HQ.out
            rw [this]; simp
        | false =>
          simp only [Bool.not_false] at hne
          go_wp2
          go_quiet (fail)
          go_wp2
          go_ret
          refine ⟨ret_b ?_, below_drewN HB.out _⟩
          rw [← HR.out, HD.out]
          have := of_decide_eq_false HQ.out
          simp only [List.cons.injEq, this, false_and, decide_false]
      · have HB := Lib.hid hb; have HD := Lib.hid hd
        have HK : Hid (k = n) := Lib.hid (by omega)
        clear hb hd
        go_wp2
        go_ret
        refine ⟨ret_b ?_, HB.out⟩
        rw [← HR.out, HD.out, HK.out]
        rw [List.drop_eq_nil_of_le (by rw [HLn.out]; exact Nat.le_refl _), List.drop_eq_nil_of_le (by rw [HMn.out]; exact Nat.le_refl _)]; simp
  · have hne : R = false := by
      rw [← HR.out]
      exact decide_eq_false fun h => hlm (by rw [h])
    subst hne
    go_enter Try.func61, Try.ntmps61
    go_wp2
    go_ret
    exact ⟨rfl, Below.refl _ w⟩

set_option maxRecDepth 100000 in
set_option maxHeartbeats 600000 in
theorem rsame_edges (A B : Option Addr) (c d : Nat) (L M : List Ed) (w : World) (hL : EAt w A L) (hM : EAt w B M) (hl : L.length ≤ 9223372036854775807) (_hm : M.length ≤ 9223372036854775807) :
    Calls Try.prog 19 #[.slice A L.length c, .slice B M.length d] w fun e w' => e = .returned (.bool (decide (L = M))) ∧ Below w.heap.size w w' := by
  have HL := Lib.hid hL; have HM := Lib.hid hM; clear hL hM
  obtain ⟨R, hR⟩ : ∃ R, decide (L = M) = R := ⟨_, rfl⟩
  rw [hR]
  have HR := Lib.hid hR; clear hR
  by_cases hlm : L.length = M.length
  · obtain ⟨n, hn⟩ : ∃ n, n = M.length := ⟨_, rfl⟩
    rw [← hn, hlm, ← hn]
    have HLn : Hid (L.length = n) := Lib.hid (by rw [hlm, hn])
    have HMn : Hid (M.length = n) := Lib.hid hn.symm
    have hnn : n ≤ 9223372036854775807 := by omega
    clear hlm hn hl _hm
    go_enter Try.func19, Try.ntmps19
    go_wp2
    go_loopg [5] n (fun g i wr => SmRel w L M g i wr)
    case atStart => exact ⟨0, by have := HLn.out; omega, rfl, Below.refl _ w, rfl⟩
    case round =>
      obtain ⟨k, hk, rfl, hb, hd⟩ := hrel
      rw [HLn.out] at hk
      by_cases hlt : k < n
      · obtain ⟨e, he⟩ := at_lt L k (by rw [HLn.out]; exact hlt)
        obtain ⟨f, hf⟩ := at_lt M k (by rw [HMn.out]; exact hlt)
        obtain ⟨bk, o, rfl, c0, c1, c2⟩ := (HL.out.below hb) k e he
        obtain ⟨bk', o', rfl, d0, d1, d2⟩ := (HM.out.below hb) k f hf
        rw [drop_at he, drop_at hf] at hd
        have HB := Lib.hid hb; have HD := Lib.hid hd
        clear hb hd he hf
        obtain ⟨e0, e1, e2⟩ := e
        obtain ⟨f0, f1, f2⟩ := f
        obtain ⟨r, hr⟩ : ∃ r, decide (((e0, e1, e2) : Ed) = (f0, f1, f2)) = r := ⟨_, rfl⟩
        have hne := fun W => eq_e e0 e1 e2 f0 f1 f2 r (Lib.hid hr) W
        have HQ := Lib.hid hr; clear hr
        cases r with
        | true =>
          simp only [Bool.not_true] at hne
          go_wp2
          go_quiet (fail)
          go_wp2
          go_roundg (gk - 1)
          case measure => omega
          case rel =>
            refine ⟨k + 1, by have := HLn.out; omega, by go_num, below_drewN HB.out _, ?_⟩
            rw [HD.out]
            have := of_decide_eq_true HQ.out
            rw [this]; simp
        | false =>
          simp only [Bool.not_false] at hne
          go_wp2
          go_quiet (fail)
          go_wp2
          go_ret
          refine ⟨ret_b ?_, below_drewN HB.out _⟩
          rw [← HR.out, HD.out]
          have := of_decide_eq_false HQ.out
          simp only [List.cons.injEq, this, false_and, decide_false]
      · have HB := Lib.hid hb; have HD := Lib.hid hd
        have HK : Hid (k = n) := Lib.hid (by omega)
        clear hb hd
        go_wp2
        go_ret
        refine ⟨ret_b ?_, HB.out⟩
        rw [← HR.out, HD.out, HK.out]
        rw [List.drop_eq_nil_of_le (by rw [HLn.out]; exact Nat.le_refl _), List.drop_eq_nil_of_le (by rw [HMn.out]; exact Nat.le_refl _)]; simp
  · have hne : R = false := by
      rw [← HR.out]
      exact decide_eq_false fun h => hlm (by rw [h])
    subst hne
    go_enter Try.func19, Try.ntmps19
    go_wp2
    go_ret
    exact ⟨rfl, Below.refl _ w⟩



set_option maxRecDepth 100000 in
theorem rsame_any (V U : Int) (A B : Option Addr) (c d : Nat) (L M : List Ed) (w : World) (hL : EAt w A L) (hM : EAt w B M) (hl : L.length ≤ 9223372036854775807) (hm : M.length ≤ 9223372036854775807) :
    Calls Try.prog 23 #[.agg #[.int .i64 V, .slice A L.length c], .agg #[.int .i64 U, .slice B M.length d]] w fun e w' => e = .returned (.bool (decide (V = U) && decide (L = M))) ∧ Below w.heap.size w w' := by
  have hz := two_boxes w (.cells #[.int .i64 V, .slice A L.length c] 30) (.cells #[.int .i64 U, .slice B M.length d] 30)
  have HC := Lib.hid (rsame_edges A B c d L M _ (hL.below hz) (hM.below hz) hl hm)
  have HZ := Lib.hid hz; clear hz hL hM
  by_cases h : V = U
  · subst h
    go_enter Try.func23, Try.ntmps23
    go_wp2_with fail
    refine HC.out.mono ?_
    rintro e w' ⟨rfl, hb⟩
    have HB := Lib.hid hb; clear hb
    go_wp2_with fail
    go_ret
    refine ⟨ret_b ?_, HZ.out.trans (HB.out.mono (by simp; omega))⟩
    simp
  · go_enter Try.func23, Try.ntmps23
    go_wp2_with fail
    go_ret
    refine ⟨ret_b ?_, HZ.out⟩
    simp [h]

end Go.Proofs.Ytjcgejbggmpikaa.Gr
