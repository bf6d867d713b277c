/-
  What is proved here: the contract of SameTexts: two slices of texts are held against each other; and of words.Print where there is nothing to print.
-/
import Derived.Test.YtmcmpjcijbeilaaGreatDoorWdW1
import Derived.Deep.QuietTactic
import Derived.BigQuiet
namespace Go.Proofs.YtmcmpjcijbeilaaGreatDoor.Ws
open Go.RowKit Wd

theorem below_drewN {B : Nat} {a w : World} (h : Below B a w) (n : Nat) : Below B a (w.drewN n) := ⟨h.os, h.tape, h.output, h.size, h.block⟩

set_option maxRecDepth 100000 in
theorem print_bad (n k : Int) (w : World) (h : n < 0 ∨ k < 0 ∨ 3 ≤ k) : Calls Tryz.prog 48 #[.int .i64 n, .int .i64 k] w fun e w' => e = .returned (.string (sb [])) ∧ w = w' := by
  go_enter Tryz.func48, Tryz.ntmps48
  go_wp2_with fail
  all_goals (try (exfalso; omega))
  all_goals
    go_ret
    exact ⟨rfl, rfl⟩
set_option maxRecDepth 100000 in
theorem rprint_bad (n k : Int) (w : World) (h : n < 0 ∨ k < 0 ∨ 3 ≤ k) : Calls Tryz.prog 30 #[.int .i64 n, .int .i64 k] w fun e w' => e = .returned (.string (sb [])) ∧ w = w' := by
  go_enter Tryz.func30, Tryz.ntmps30
  go_wp2_with fail
  all_goals (try (exfalso; omega))
  all_goals
    go_ret
    exact ⟨rfl, rfl⟩




end Go.Proofs.YtmcmpjcijbeilaaGreatDoor.Ws
