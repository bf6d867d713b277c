/-
  What is proved here: contracts of what holds rows and parts against one another: the document's sameRows and Same, plain, and parts.sameRows (slices.EqualFunc with its closure), parts.same. Conditions: counts fit an int.
-/
import Derived.Test.YtjcgejbggmpikaaPtW6
import Derived.Test.YtjcgejbggmpikaaPtG3
import Derived.Lib.QuietBelow
namespace Go.Proofs.Ytjcgejbggmpikaa.Pt
open Go.RowKit Gr Wd Ws

/- Every row's length fits an int. -/
def Fits (Ls : List (List Ed)) : Prop := ∀ L ∈ Ls, L.length ≤ 9223372036854775807
def SrRel (w : World) (L M : List (List Ed)) (g : Nat) (i : Value) (wr : World) : Prop :=
  ∃ k : Nat, k + g = L.length ∧ i = .int .i64 (k : Int) ∧ Below w.heap.size w wr ∧ decide (L = M) = decide (L.drop k = M.drop k)

theorem regr {P : Program} {f : FuncId} {args : Array Value} {w : World} {v : Value} (h : ∀ W, Below w.heap.size w W → Calls P f args W fun e w' => e = .returned v ∧ Below W.heap.size W w') (d : Nat) (os : Array Obj) :
    Calls P f args (Sort.grow (redrawn w d) os) fun e w'' => e = .returned v ∧ ∃ p : Regrown, w'' = Sort.grow (redrawn w p.d) p.os := Calls.regrown_of (h _ (below_regrown w d os))

set_option maxRecDepth 100000 in
set_option maxHeartbeats 600000 in
theorem rsameRows_any (A B : Option Addr) (c d : Nat) (L M : List (List Ed)) (w : World) (hL : RAt w A L) (hM : RAt w B M) (hl : L.length ≤ 9223372036854775807) (_hm : M.length ≤ 9223372036854775807) (hf1 : Fits L) (hf2 : Fits M) :
    Calls Try.prog 36 #[.slice A L.length c, .slice B M.length d] w fun e w' => e = .returned (.bool (decide (L = M))) ∧ Below w.heap.size w w' := by
  have mixed := mixedP
  have HL := Lib.hid hL; have HM := Lib.hid hM; clear hL hM
  have HF1 := Lib.hid hf1; have HF2 := Lib.hid hf2; clear hf1 hf2
  obtain ⟨R, hR⟩ : ∃ R, decide (L = M) = R := ⟨_, rfl⟩
  rw [hR]
  have HR := Lib.hid hR; clear hR
  by_cases hlm : L.length = M.length
  · obtain ⟨n, hn⟩ : ∃ n, n = M.length := ⟨_, rfl⟩
    rw [← hn, hlm, ← hn]
    have HLn : Hid (L.length = n) := Lib.hid (by rw [hlm, hn])
    have HMn : Hid (M.length = n) := Lib.hid hn.symm
    have hnn : n ≤ 9223372036854775807 := by omega
    clear hlm hn hl _hm
    go_enter Try.func36, Try.ntmps36
    go_wp2
    go_loopg [5] n (fun g i wr => SrRel w L M g i wr)
    case atStart => exact ⟨0, by have := HLn.out; omega, rfl, Below.refl _ w, rfl⟩
    case round =>
      obtain ⟨k, hk, rfl, hb, hd⟩ := hrel
      rw [HLn.out] at hk
      by_cases hlt : k < n
      · obtain ⟨e, he⟩ := at_lt L k (by rw [HLn.out]; exact hlt)
        obtain ⟨f, hf⟩ := at_lt M k (by rw [HMn.out]; exact hlt)
        obtain ⟨bk, o, X, cx, rfl, c0, hX⟩ := (HL.out.below hb) k e he
        obtain ⟨bk', o', Y, cy, rfl, d0, hY⟩ := (HM.out.below hb) k f hf
        have g1 := HF1.out e (List.mem_of_getElem? he)
        have g2 := HF2.out f (List.mem_of_getElem? hf)
        rw [drop_at he, drop_at hf] at hd
        obtain ⟨r, hr⟩ : ∃ r, decide (e = f) = r := ⟨_, rfl⟩
        have hc1 := regr fun W (h : Below wr.heap.size wr W) => rsame_edges X Y cx cy e f W (hX.below h) (hY.below h) g1 g2
        rw [hr] at hc1
        have C1 := Lib.hid hc1
        obtain ⟨ne, hne⟩ : ∃ n, n = e.length := ⟨_, rfl⟩
        obtain ⟨nf, hnf⟩ : ∃ n, n = f.length := ⟨_, rfl⟩
        rw [← hne, ← hnf] at C1
        rw [← hne] at c0
        rw [← hnf] at d0
        have HB := Lib.hid hb; have HD := Lib.hid hd; have HRr := Lib.hid hr
        clear hb hd he hf hX hY g1 g2 hr hc1 hne hnf
        have k0 := cell_regrown c0
        have k1 := cell_regrown d0
        cases r with
        | true =>
          go_wp2
          refine wp_region_quiet_below mixed (by kernel_rfl) ?_
          repeat (go_big_quiet_step ((with_reducible first | exact C1.out _ _)))
          refine wpQuiet_nil ?_
          intro _ hw'
          obtain ⟨⟨dq, osq⟩, hw''⟩ := hw'
          subst hw''
          have hb2 := Lib.hid (below_regrown wr dq osq)
          clear k0 k1 c0 d0
          go_wp2
          go_roundg (gk - 1)
          case measure => omega
          case rel =>
            refine ⟨k + 1, by have := HLn.out; omega, by go_num, HB.out.trans (hb2.out.mono HB.out.size), ?_⟩
            rw [HD.out]
            have := of_decide_eq_true HRr.out
            rw [this]; simp
        | false =>
          go_wp2
          refine wp_region_quiet_below mixed (by kernel_rfl) ?_
          repeat (go_big_quiet_step ((with_reducible first | exact C1.out _ _)))
          refine wpQuiet_nil ?_
          intro _ hw'
          obtain ⟨⟨dq, osq⟩, hw''⟩ := hw'
          subst hw''
          have hb2 := Lib.hid (below_regrown wr dq osq)
          clear k0 k1 c0 d0
          go_wp2
          go_ret
          refine ⟨ret_b ?_, HB.out.trans (hb2.out.mono HB.out.size)⟩
          rw [← HR.out, HD.out]
          have := of_decide_eq_false HRr.out
          simp only [List.cons.injEq, this, false_and, decide_false]
      · have HB := Lib.hid hb; have HD := Lib.hid hd
        have HK : Hid (k = n) := Lib.hid (by omega)
        clear hb hd
        go_wp2
        go_ret
        refine ⟨ret_b ?_, HB.out⟩
        rw [← HR.out, HD.out, HK.out]
        rw [List.drop_eq_nil_of_le (by rw [HLn.out]; exact Nat.le_refl _), List.drop_eq_nil_of_le (by rw [HMn.out]; exact Nat.le_refl _)]; simp
  · have hne : R = false := by
      rw [← HR.out]
      exact decide_eq_false fun h => hlm (by rw [h])
    subst hne
    go_enter Try.func36, Try.ntmps36
    go_wp2
    go_ret
    exact ⟨rfl, Below.refl _ w⟩

theorem eqclos_any (A B : Option Addr) (c d : Nat) (L M : List Ed) (w : World) (hL : EAt w A L) (hM : EAt w B M) (hl : L.length ≤ 9223372036854775807) (hm : M.length ≤ 9223372036854775807) :
    Calls Try.prog 60 #[.slice A L.length c, .slice B M.length d] w fun e w' => e = .returned (.bool (decide (L = M))) ∧ Below w.heap.size w w' := by
  have HC := Lib.hid (equal_any A B c d L M w hL hM hl hm)
  clear hL hM
  go_enter Try.func60, Try.ntmps60
  go_wp2_with fail
  refine HC.out.mono ?_
  rintro e w' ⟨rfl, hb⟩
  have HB := Lib.hid hb; clear hb
  go_wp2_with fail
  go_ret
  exact ⟨rfl, HB.out⟩

set_option maxRecDepth 100000 in
set_option maxHeartbeats 600000 in
theorem equalFunc_any (A B : Option Addr) (c d : Nat) (L M : List (List Ed)) (w : World) (hL : RAt w A L) (hM : RAt w B M) (hl : L.length ≤ 9223372036854775807) (_hm : M.length ≤ 9223372036854775807) (hf1 : Fits L) (hf2 : Fits M) :
    Calls Try.prog 59 #[.slice A L.length c, .slice B M.length d, .func (.func 60) #[] #[]] w fun e w' => e = .returned (.bool (decide (L = M))) ∧ Below w.heap.size w w' := by
  have eg : ∀ args w, (callFunc 60 args).run Try.prog w = .ok (.enter 60 args) w := enters_of Try.func60 (by kernel_rfl) rfl
  have HL := Lib.hid hL; have HM := Lib.hid hM; clear hL hM
  have HF1 := Lib.hid hf1; have HF2 := Lib.hid hf2; clear hf1 hf2
  obtain ⟨R, hR⟩ : ∃ R, decide (L = M) = R := ⟨_, rfl⟩
  rw [hR]
  have HR := Lib.hid hR; clear hR
  by_cases hlm : L.length = M.length
  · obtain ⟨n, hn⟩ : ∃ n, n = M.length := ⟨_, rfl⟩
    rw [← hn, hlm, ← hn]
    have HLn : Hid (L.length = n) := Lib.hid (by rw [hlm, hn])
    have HMn : Hid (M.length = n) := Lib.hid hn.symm
    have hnn : n ≤ 9223372036854775807 := by omega
    clear hlm hn hl _hm
    go_enter Try.func59, Try.ntmps59
    go_wp2
    go_loopg [17] n (fun g i wr => SrRel w L M g i wr)
    case atStart => exact ⟨0, by have := HLn.out; omega, rfl, Below.refl _ w, rfl⟩
    case round =>
      obtain ⟨k, hk, rfl, hb, hd⟩ := hrel
      rw [HLn.out] at hk
      by_cases hlt : k < n
      · obtain ⟨e, he⟩ := at_lt L k (by rw [HLn.out]; exact hlt)
        obtain ⟨f, hf⟩ := at_lt M k (by rw [HMn.out]; exact hlt)
        obtain ⟨bk, o, X, cx, rfl, c0, hX⟩ := (HL.out.below hb) k e he
        obtain ⟨bk', o', Y, cy, rfl, d0, hY⟩ := (HM.out.below hb) k f hf
        rw [drop_at he, drop_at hf] at hd
        obtain ⟨r, hr⟩ : ∃ r, decide (e = f) = r := ⟨_, rfl⟩
        have C1 := Lib.hid (eqclos_any X Y cx cy e f wr hX hY (HF1.out e (List.mem_of_getElem? he)) (HF2.out f (List.mem_of_getElem? hf)))
        rw [hr] at C1
        obtain ⟨ne, hne⟩ : ∃ n, n = e.length := ⟨_, rfl⟩
        obtain ⟨nf, hnf⟩ : ∃ n, n = f.length := ⟨_, rfl⟩
        rw [← hne, ← hnf] at C1
        rw [← hne] at c0
        rw [← hnf] at d0
        have HB := Lib.hid hb; have HD := Lib.hid hd; have HRr := Lib.hid hr
        clear hb hd he hf hX hY hr hne hnf
        cases r with
        | true =>
          go_wp2_with fail
          refine C1.out.mono ?_
          rintro e w5 ⟨rfl, hb5⟩
          have HB5 := Lib.hid (HB.out.trans (hb5.mono HB.out.size)); clear hb5 c0 d0
          go_wp2
          go_roundg (gk - 1)
          case measure => omega
          case rel =>
            refine ⟨k + 1, by have := HLn.out; omega, by go_num, HB5.out, ?_⟩
            rw [HD.out]
            have := of_decide_eq_true HRr.out
            rw [this]; simp
        | false =>
          go_wp2_with fail
          refine C1.out.mono ?_
          rintro e w5 ⟨rfl, hb5⟩
          have HB5 := Lib.hid (HB.out.trans (hb5.mono HB.out.size)); clear hb5 c0 d0
          go_wp2
          go_ret
          refine ⟨ret_b ?_, HB5.out⟩
          rw [← HR.out, HD.out]
          have := of_decide_eq_false HRr.out
          simp only [List.cons.injEq, this, false_and, decide_false]
      · have HB := Lib.hid hb; have HD := Lib.hid hd
        have HK : Hid (k = n) := Lib.hid (by omega)
        clear hb hd
        go_wp2
        go_ret
        refine ⟨ret_b ?_, HB.out⟩
        rw [← HR.out, HD.out, HK.out]
        rw [List.drop_eq_nil_of_le (by rw [HLn.out]; exact Nat.le_refl _), List.drop_eq_nil_of_le (by rw [HMn.out]; exact Nat.le_refl _)]; simp
  · have hne : R = false := by
      rw [← HR.out]
      exact decide_eq_false fun h => hlm (by rw [h])
    subst hne
    go_enter Try.func59, Try.ntmps59
    go_wp2
    go_ret
    exact ⟨rfl, Below.refl _ w⟩

theorem sameRows_any (A B : Option Addr) (c d : Nat) (L M : List (List Ed)) (w : World) (hL : RAt w A L) (hM : RAt w B M) (hl : L.length ≤ 9223372036854775807) (hm : M.length ≤ 9223372036854775807) (hf1 : Fits L) (hf2 : Fits M) :
    Calls Try.prog 53 #[.slice A L.length c, .slice B M.length d] w fun e w' => e = .returned (.bool (decide (L = M))) ∧ Below w.heap.size w w' := by
  have HC := Lib.hid (equalFunc_any A B c d L M w hL hM hl hm hf1 hf2)
  clear hL hM
  go_enter Try.func53, Try.ntmps53
  go_wp2_with fail
  refine HC.out.mono ?_
  rintro e w' ⟨rfl, hb⟩
  have HB := Lib.hid hb; clear hb
  go_wp2_with fail
  go_ret
  exact ⟨rfl, HB.out⟩

/- What fits an int. -/
structure Sm (P : Pt) : Prop where
  own : P.own.length ≤ 9223372036854775807
  out : P.out.length ≤ 9223372036854775807
  back : P.back.length ≤ 9223372036854775807
  outs : Fits P.out
  backs : Fits P.back
theorem two_part (w : World) (x y : Obj) : Below w.heap.size w ((w.alloc x).alloc y) := ((Below.refl _ w).alloc (Nat.le_refl _) _).alloc (by simp) _

end Go.Proofs.Ytjcgejbggmpikaa.Pt
