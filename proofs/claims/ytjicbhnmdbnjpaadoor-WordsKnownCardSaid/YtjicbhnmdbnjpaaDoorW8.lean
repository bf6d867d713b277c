/-
  What is proved here: the contract of SameTexts: two slices of texts are held against each other; and of words.Print where there is nothing to print.
-/
import Derived.Test.YtjicbhnmdbnjpaaDoorW1
import Derived.Deep.QuietTactic
import Derived.BigQuiet
namespace Go.Proofs.YtjicbhnmdbnjpaaDoor
open Go.RowKit Wd

theorem below_drewN {B : Nat} {a w : World} (h : Below B a w) (n : Nat) : Below B a (w.drewN n) := ⟨h.os, h.tape, h.output, h.size, h.block⟩

set_option maxRecDepth 100000 in
theorem print_bad (n k : Int) (w : World) (h : n < 0 ∨ k < 0 ∨ 3 ≤ k) : Calls Tryd.prog 19 #[.int .i64 n, .int .i64 k] w fun e w' => e = .returned (.string (sb [])) ∧ w = w' := by
  go_enter Tryd.func19, Tryd.ntmps19
  go_wp2_with fail
  all_goals (try (exfalso; omega))
  all_goals
    go_ret
    exact ⟨rfl, rfl⟩
set_option maxRecDepth 100000 in
theorem rprint_bad (n k : Int) (w : World) (h : n < 0 ∨ k < 0 ∨ 3 ≤ k) : Calls Tryd.prog 20 #[.int .i64 n, .int .i64 k] w fun e w' => e = .returned (.string (sb [])) ∧ w = w' := by
  go_enter Tryd.func20, Tryd.ntmps20
  go_wp2_with fail
  all_goals (try (exfalso; omega))
  all_goals
    go_ret
    exact ⟨rfl, rfl⟩

def SaRel (w : World) (n : Nat) (L M : List (List UInt8)) (g : Nat) (v : Value) (wr : World) : Prop :=
  ∃ i : Nat, i + g = n ∧ v = .int .i64 (i : Int) ∧ (∀ j < i, L[j]? = M[j]?) ∧ Below w.heap.size w wr ∧ wr.heap = w.heap

set_option maxRecDepth 100000 in
set_option maxHeartbeats 1000000 in
theorem same_n (A A' : Option Addr) (c c' n m : Nat) (L M : List (List UInt8)) (w : World) (hn : L.length = n) (hm : M.length = m) (hA : At w A L) (hA' : At w A' M) (hl : n ≤ 1000000) (hl' : m ≤ 1000000) :
    Calls Tryd.prog 11 #[.slice A n c, .slice A' m c'] w fun e w' => e = .returned (.bool (decide (L = M))) ∧ Below w.heap.size w w' := by
  have HN := Lib.hid hn; have HM := Lib.hid hm; clear hn hm
  have HA := Lib.hid hA; have HA' := Lib.hid hA'; clear hA hA'
  by_cases hnm : n = m
  · subst hnm
    go_enter Tryd.func11, Tryd.ntmps11
    go_wp2
    go_loopg [5] n (fun g v wr => SaRel w n L M g v wr)
    case atStart => exact ⟨0, by omega, rfl, fun j hj => by omega, Below.refl _ w, rfl⟩
    case round =>
      obtain ⟨i, hi, rfl, hj, hb, hh⟩ := hrel
      have HJ := Lib.hid hj; have HB := Lib.hid hb; clear hj hb
      by_cases hlt : i < n
      · obtain ⟨x, hx⟩ : ∃ x, L[i]? = some x := ⟨_, List.getElem?_eq_getElem (by rw [HN.out]; exact hlt)⟩
        obtain ⟨y, hy⟩ : ∃ y, M[i]? = some y := ⟨_, List.getElem?_eq_getElem (by rw [HM.out]; exact hlt)⟩
        obtain ⟨ad, e1, hc⟩ := HA.out i x hx
        obtain ⟨ad', e2, hc'⟩ := HA'.out i y hy
        have HX := Lib.hid hx; have HY := Lib.hid hy; clear hx hy
        have hcr : wr.cell? (ad.add i) = some (.string (sb x)) := by rw [World.cell?_of_block (w := w) (by rw [hh])]; exact hc
        have hcr' : wr.cell? (ad'.add i) = some (.string (sb y)) := by rw [World.cell?_of_block (w := w) (by rw [hh])]; exact hc'
        clear hc hc'
        have HH := Lib.hid hh; clear hh
        subst e1 e2
        by_cases hxy : x = y
        · have HXY := Lib.hid hxy
          have he : ((sb x).toList == (sb y).toList) = true := by rw [hxy]; simp
          clear hxy
          go_wp2
          go_quiet (fail)
          go_wp2
          go_roundg (gk - 1)
          case measure => omega
          case rel =>
            refine ⟨i + 1, by omega, by go_num, ?_, below_drewN HB.out _, HH.out⟩
            intro j hj
            rcases Nat.lt_or_ge j i with g | g
            · exact HJ.out j g
            · obtain rfl : j = i := by omega
              rw [HX.out, HY.out, HXY.out]
        · have he : ((sb x).toList == (sb y).toList) = false := by rw [sb_toList, sb_toList]; simpa using hxy
          have HXY := Lib.hid hxy; clear hxy
          go_wp2
          go_quiet (fail)
          go_wp2
          go_ret
          refine ⟨?_, below_drewN HB.out _⟩
          have : ¬ L = M := by
            intro e
            have e1 := HX.out; have e2 := HY.out
            rw [e, e2] at e1
            exact HXY.out (Option.some.inj e1).symm
          rw [decide_eq_false this]; rfl
      · have HH := Lib.hid hh; clear hh
        go_wp2
        go_ret
        refine ⟨?_, HB.out⟩
        have : L = M := by
          apply List.ext_getElem?
          intro j
          rcases Nat.lt_or_ge j i with g | g
          · exact HJ.out j g
          · rw [List.getElem?_eq_none (by rw [HN.out]; omega), List.getElem?_eq_none (by rw [HM.out]; omega)]
        rw [decide_eq_true this]; rfl
  · go_enter Tryd.func11, Tryd.ntmps11
    go_wp2
    all_goals (try (exfalso; omega))
    go_ret
    refine ⟨?_, Below.refl _ _⟩
    have : ¬ L = M := by
      intro e
      apply hnm
      rw [← HN.out, ← HM.out, e]
    rw [decide_eq_false this]; rfl

theorem same_any (v v' : Value) (L M : List (List UInt8)) (w : World) (h : Txt w v L) (h' : Txt w v' M) (hl : L.length ≤ 1000000) (hl' : M.length ≤ 1000000) :
    Calls Tryd.prog 11 #[v, v'] w fun e w' => e = .returned (.bool (decide (L = M))) ∧ Below w.heap.size w w' := by
  obtain ⟨A, c, rfl, ha⟩ := h
  obtain ⟨A', c', rfl, ha'⟩ := h'
  exact same_n A A' c c' _ _ L M w rfl rfl ha ha' hl hl'

end Go.Proofs.YtjicbhnmdbnjpaaDoor
