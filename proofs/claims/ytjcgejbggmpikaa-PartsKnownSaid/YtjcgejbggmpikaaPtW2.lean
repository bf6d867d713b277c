/-
  What is proved here: contracts of what holds two rows of numbers against one another, of Place and slices.Index, of Owned and the document's own. Conditions: numbers and counts fit an int.
-/
import Derived.Test.YtjcgejbggmpikaaPtW1
namespace Go.Proofs.Ytjcgejbggmpikaa.Pt
open Go.RowKit Gr Wd Ws

def SiRel (w : World) (L M : List Int) (g : Nat) (i : Value) (wr : World) : Prop :=
  ∃ k : Nat, k + g = L.length ∧ i = .int .i64 (k : Int) ∧ Below w.heap.size w wr ∧ decide (L = M) = decide (L.drop k = M.drop k)
def PlRel (w : World) (L : List Int) (v : Int) (g : Nat) (i : Value) (wr : World) : Prop :=
  ∃ k : Nat, k + g = L.length ∧ i = .int .i64 (k : Int) ∧ Below w.heap.size w wr ∧ plc L v = plcF v k (L.drop k)
def OwRel (w : World) (k x : Int) (N : Nat) (g : Nat) (v i : Value) (wr : World) : Prop :=
  ∃ j : Nat, j + g = N ∧ i = .int .i64 (j : Int) ∧ IOwn wr w.heap.size v (ow k x j) ∧ Below w.heap.size w wr

set_option maxRecDepth 100000 in
set_option maxHeartbeats 600000 in
theorem kitsame_any (A B : Option Addr) (c d : Nat) (L M : List Int) (w : World) (hL : IAt w A L) (hM : IAt w B M) (hl : L.length ≤ 9223372036854775807) (_hm : M.length ≤ 9223372036854775807) :
    Calls Try.prog 10 #[.slice A L.length c, .slice B M.length d] w fun e w' => e = .returned (.bool (decide (L = M))) ∧ Below w.heap.size w w' := by
  have HL := Lib.hid hL; have HM := Lib.hid hM; clear hL hM
  obtain ⟨R, hR⟩ : ∃ R, decide (L = M) = R := ⟨_, rfl⟩
  rw [hR]
  have HR := Lib.hid hR; clear hR
  by_cases hlm : L.length = M.length
  · obtain ⟨n, hn⟩ : ∃ n, n = M.length := ⟨_, rfl⟩
    rw [← hn, hlm, ← hn]
    have HLn : Hid (L.length = n) := Lib.hid (by rw [hlm, hn])
    have HMn : Hid (M.length = n) := Lib.hid hn.symm
    have hnn : n ≤ 9223372036854775807 := by omega
    clear hlm hn hl _hm
    go_enter Try.func10, Try.ntmps10
    go_wp2
    go_loopg [5] n (fun g i wr => SiRel w L M g i wr)
    case atStart => exact ⟨0, by have := HLn.out; omega, rfl, Below.refl _ w, rfl⟩
    case round =>
      obtain ⟨k, hk, rfl, hb, hd⟩ := hrel
      rw [HLn.out] at hk
      by_cases hlt : k < n
      · obtain ⟨e, he⟩ := at_lt L k (by rw [HLn.out]; exact hlt)
        obtain ⟨f, hf⟩ := at_lt M k (by rw [HMn.out]; exact hlt)
        obtain ⟨bk, o, rfl, c0⟩ := (HL.out.below hb) k e he
        obtain ⟨bk', o', rfl, d0⟩ := (HM.out.below hb) k f hf
        rw [drop_at he, drop_at hf] at hd
        have HB := Lib.hid hb; have HD := Lib.hid hd
        clear hb hd he hf
        by_cases hef : e = f
        · subst hef
          go_wp2
          go_quiet (fail)
          go_wp2
          go_roundg (gk - 1)
          case measure => omega
          case rel =>
            refine ⟨k + 1, by have := HLn.out; omega, by go_num, below_drewN HB.out _, ?_⟩
            rw [HD.out]; simp
        · go_wp2
          go_quiet (fail)
          go_wp2
          go_ret
          refine ⟨ret_b ?_, below_drewN HB.out _⟩
          rw [← HR.out, HD.out]
          simp only [List.cons.injEq, hef, false_and, decide_false]
      · have HB := Lib.hid hb; have HD := Lib.hid hd
        have HK : Hid (k = n) := Lib.hid (by omega)
        clear hb hd
        go_wp2
        go_ret
        refine ⟨ret_b ?_, HB.out⟩
        rw [← HR.out, HD.out, HK.out]
        rw [List.drop_eq_nil_of_le (by rw [HLn.out]; exact Nat.le_refl _), List.drop_eq_nil_of_le (by rw [HMn.out]; exact Nat.le_refl _)]; simp
  · have hne : R = false := by
      rw [← HR.out]
      exact decide_eq_false fun h => hlm (by rw [h])
    subst hne
    go_enter Try.func10, Try.ntmps10
    go_wp2
    go_ret
    exact ⟨rfl, Below.refl _ w⟩

set_option maxRecDepth 100000 in
set_option maxHeartbeats 600000 in
theorem rsameInts_any (A B : Option Addr) (c d : Nat) (L M : List Int) (w : World) (hL : IAt w A L) (hM : IAt w B M) (hl : L.length ≤ 9223372036854775807) (_hm : M.length ≤ 9223372036854775807) :
    Calls Try.prog 35 #[.slice A L.length c, .slice B M.length d] w fun e w' => e = .returned (.bool (decide (L = M))) ∧ Below w.heap.size w w' := by
  have HL := Lib.hid hL; have HM := Lib.hid hM; clear hL hM
  obtain ⟨R, hR⟩ : ∃ R, decide (L = M) = R := ⟨_, rfl⟩
  rw [hR]
  have HR := Lib.hid hR; clear hR
  by_cases hlm : L.length = M.length
  · obtain ⟨n, hn⟩ : ∃ n, n = M.length := ⟨_, rfl⟩
    rw [← hn, hlm, ← hn]
    have HLn : Hid (L.length = n) := Lib.hid (by rw [hlm, hn])
    have HMn : Hid (M.length = n) := Lib.hid hn.symm
    have hnn : n ≤ 9223372036854775807 := by omega
    clear hlm hn hl _hm
    go_enter Try.func35, Try.ntmps35
    go_wp2
    go_loopg [5] n (fun g i wr => SiRel w L M g i wr)
    case atStart => exact ⟨0, by have := HLn.out; omega, rfl, Below.refl _ w, rfl⟩
    case round =>
      obtain ⟨k, hk, rfl, hb, hd⟩ := hrel
      rw [HLn.out] at hk
      by_cases hlt : k < n
      · obtain ⟨e, he⟩ := at_lt L k (by rw [HLn.out]; exact hlt)
        obtain ⟨f, hf⟩ := at_lt M k (by rw [HMn.out]; exact hlt)
        obtain ⟨bk, o, rfl, c0⟩ := (HL.out.below hb) k e he
        obtain ⟨bk', o', rfl, d0⟩ := (HM.out.below hb) k f hf
        rw [drop_at he, drop_at hf] at hd
        have HB := Lib.hid hb; have HD := Lib.hid hd
        clear hb hd he hf
        by_cases hef : e = f
        · subst hef
          go_wp2
          go_quiet (fail)
          go_wp2
          go_roundg (gk - 1)
          case measure => omega
          case rel =>
            refine ⟨k + 1, by have := HLn.out; omega, by go_num, below_drewN HB.out _, ?_⟩
            rw [HD.out]; simp
        · go_wp2
          go_quiet (fail)
          go_wp2
          go_ret
          refine ⟨ret_b ?_, below_drewN HB.out _⟩
          rw [← HR.out, HD.out]
          simp only [List.cons.injEq, hef, false_and, decide_false]
      · have HB := Lib.hid hb; have HD := Lib.hid hd
        have HK : Hid (k = n) := Lib.hid (by omega)
        clear hb hd
        go_wp2
        go_ret
        refine ⟨ret_b ?_, HB.out⟩
        rw [← HR.out, HD.out, HK.out]
        rw [List.drop_eq_nil_of_le (by rw [HLn.out]; exact Nat.le_refl _), List.drop_eq_nil_of_le (by rw [HMn.out]; exact Nat.le_refl _)]; simp
  · have hne : R = false := by
      rw [← HR.out]
      exact decide_eq_false fun h => hlm (by rw [h])
    subst hne
    go_enter Try.func35, Try.ntmps35
    go_wp2
    go_ret
    exact ⟨rfl, Below.refl _ w⟩

set_option maxRecDepth 100000 in
set_option maxHeartbeats 600000 in
theorem equalI_any (A B : Option Addr) (c d : Nat) (L M : List Int) (w : World) (hL : IAt w A L) (hM : IAt w B M) (hl : L.length ≤ 9223372036854775807) (_hm : M.length ≤ 9223372036854775807) :
    Calls Try.prog 52 #[.slice A L.length c, .slice B M.length d] w fun e w' => e = .returned (.bool (decide (L = M))) ∧ Below w.heap.size w w' := by
  have HL := Lib.hid hL; have HM := Lib.hid hM; clear hL hM
  obtain ⟨R, hR⟩ : ∃ R, decide (L = M) = R := ⟨_, rfl⟩
  rw [hR]
  have HR := Lib.hid hR; clear hR
  by_cases hlm : L.length = M.length
  · obtain ⟨n, hn⟩ : ∃ n, n = M.length := ⟨_, rfl⟩
    rw [← hn, hlm, ← hn]
    have HLn : Hid (L.length = n) := Lib.hid (by rw [hlm, hn])
    have HMn : Hid (M.length = n) := Lib.hid hn.symm
    have hnn : n ≤ 9223372036854775807 := by omega
    clear hlm hn hl _hm
    go_enter Try.func52, Try.ntmps52
    go_wp2
    go_loopg [13] n (fun g i wr => SiRel w L M g i wr)
    case atStart => exact ⟨0, by have := HLn.out; omega, rfl, Below.refl _ w, rfl⟩
    case round =>
      obtain ⟨k, hk, rfl, hb, hd⟩ := hrel
      rw [HLn.out] at hk
      by_cases hlt : k < n
      · obtain ⟨e, he⟩ := at_lt L k (by rw [HLn.out]; exact hlt)
        obtain ⟨f, hf⟩ := at_lt M k (by rw [HMn.out]; exact hlt)
        obtain ⟨bk, o, rfl, c0⟩ := (HL.out.below hb) k e he
        obtain ⟨bk', o', rfl, d0⟩ := (HM.out.below hb) k f hf
        rw [drop_at he, drop_at hf] at hd
        have HB := Lib.hid hb; have HD := Lib.hid hd
        clear hb hd he hf
        by_cases hef : e = f
        · subst hef
          go_wp2
          go_quiet (fail)
          go_wp2
          go_roundg (gk - 1)
          case measure => omega
          case rel =>
            refine ⟨k + 1, by have := HLn.out; omega, by go_num, below_drewN HB.out _, ?_⟩
            rw [HD.out]; simp
        · go_wp2
          go_quiet (fail)
          go_wp2
          go_ret
          refine ⟨ret_b ?_, below_drewN HB.out _⟩
          rw [← HR.out, HD.out]
          simp only [List.cons.injEq, hef, false_and, decide_false]
      · have HB := Lib.hid hb; have HD := Lib.hid hd
        have HK : Hid (k = n) := Lib.hid (by omega)
        clear hb hd
        go_wp2
        go_ret
        refine ⟨ret_b ?_, HB.out⟩
        rw [← HR.out, HD.out, HK.out]
        rw [List.drop_eq_nil_of_le (by rw [HLn.out]; exact Nat.le_refl _), List.drop_eq_nil_of_le (by rw [HMn.out]; exact Nat.le_refl _)]; simp
  · have hne : R = false := by
      rw [← HR.out]
      exact decide_eq_false fun h => hlm (by rw [h])
    subst hne
    go_enter Try.func52, Try.ntmps52
    go_wp2
    go_ret
    exact ⟨rfl, Below.refl _ w⟩

set_option maxRecDepth 100000 in
theorem index_any (A : Option Addr) (c : Nat) (L : List Int) (v : Int) (w : World) (hL : IAt w A L) (hl : L.length ≤ 9223372036854775807) :
    Calls Try.prog 42 #[.slice A L.length c, .int .i64 v] w fun e w' => e = .returned (.int .i64 (plc L v)) ∧ Below w.heap.size w w' := by
  have HL := Lib.hid hL; clear hL
  obtain ⟨R, hR⟩ : ∃ R, plc L v = R := ⟨_, rfl⟩
  obtain ⟨n, hn⟩ : ∃ n, n = L.length := ⟨_, rfl⟩
  rw [hR, ← hn]
  rw [← hn] at hl
  have HN := Lib.hid hn; have HR := Lib.hid hR; clear hn hR
  go_enter Try.func42, Try.ntmps42
  go_wp2
  go_loopg [8] n (fun g i wr => PlRel w L v g i wr)
  case atStart => exact ⟨0, by have := HN.out; omega, rfl, Below.refl _ w, rfl⟩
  case round =>
    obtain ⟨k, hk, rfl, hb, hd⟩ := hrel
    rw [← HN.out] at hk
    by_cases hlt : k < n
    · obtain ⟨e, he⟩ := at_lt L k (by rw [← HN.out]; exact hlt)
      obtain ⟨bk, o, rfl, c0⟩ := (HL.out.below hb) k e he
      have hd2 : plcF v k (L.drop k) = if e = v then (k : Int) else plcF v (k + 1) (L.drop (k + 1)) := by rw [drop_at he]; rfl
      rw [hd2] at hd
      have HB := Lib.hid hb; have HD := Lib.hid hd
      clear hb hd he hd2
      by_cases hef : e = v
      · subst hef
        go_wp2
        go_ret
        refine ⟨ret_int ?_, HB.out⟩
        rw [← HR.out, HD.out]; simp
      · have hfe : ¬ v = e := fun h => hef h.symm
        go_wp2
        go_roundg (gk - 1)
        case measure => omega
        case rel =>
          refine ⟨k + 1, by have := HN.out; omega, by go_num, HB.out, ?_⟩
          rw [HD.out, if_neg hef]
    · have HB := Lib.hid hb; have HD := Lib.hid hd
      have HK : Hid (k = n) := Lib.hid (by omega)
      clear hb hd
      go_wp2
      go_ret
      refine ⟨ret_int ?_, HB.out⟩
      rw [← HR.out, HD.out, HK.out, HN.out, List.drop_length]; rfl

set_option maxRecDepth 100000 in
theorem rplace_any (A : Option Addr) (c : Nat) (L : List Int) (v : Int) (w : World) (hL : IAt w A L) (hl : L.length ≤ 9223372036854775807) :
    Calls Try.prog 54 #[.slice A L.length c, .int .i64 v] w fun e w' => e = .returned (.int .i64 (plc L v)) ∧ Below w.heap.size w w' := by
  have HL := Lib.hid hL; clear hL
  obtain ⟨R, hR⟩ : ∃ R, plc L v = R := ⟨_, rfl⟩
  obtain ⟨n, hn⟩ : ∃ n, n = L.length := ⟨_, rfl⟩
  rw [hR, ← hn]
  rw [← hn] at hl
  have HN := Lib.hid hn; have HR := Lib.hid hR; clear hn hR
  go_enter Try.func54, Try.ntmps54
  go_wp2
  go_loopg [5] n (fun g i wr => PlRel w L v g i wr)
  case atStart => exact ⟨0, by have := HN.out; omega, rfl, Below.refl _ w, rfl⟩
  case round =>
    obtain ⟨k, hk, rfl, hb, hd⟩ := hrel
    rw [← HN.out] at hk
    by_cases hlt : k < n
    · obtain ⟨e, he⟩ := at_lt L k (by rw [← HN.out]; exact hlt)
      obtain ⟨bk, o, rfl, c0⟩ := (HL.out.below hb) k e he
      have hd2 : plcF v k (L.drop k) = if e = v then (k : Int) else plcF v (k + 1) (L.drop (k + 1)) := by rw [drop_at he]; rfl
      rw [hd2] at hd
      have HB := Lib.hid hb; have HD := Lib.hid hd
      clear hb hd he hd2
      by_cases hef : e = v
      · subst hef
        go_wp2
        go_ret
        refine ⟨ret_int ?_, HB.out⟩
        rw [← HR.out, HD.out]; simp
      · have hfe : ¬ v = e := fun h => hef h.symm
        go_wp2
        go_roundg (gk - 1)
        case measure => omega
        case rel =>
          refine ⟨k + 1, by have := HN.out; omega, by go_num, HB.out, ?_⟩
          rw [HD.out, if_neg hef]
    · have HB := Lib.hid hb; have HD := Lib.hid hd
      have HK : Hid (k = n) := Lib.hid (by omega)
      clear hb hd
      go_wp2
      go_ret
      refine ⟨ret_int ?_, HB.out⟩
      rw [← HR.out, HD.out, HK.out, HN.out, List.drop_length]; rfl

end Go.Proofs.Ytjcgejbggmpikaa.Pt
