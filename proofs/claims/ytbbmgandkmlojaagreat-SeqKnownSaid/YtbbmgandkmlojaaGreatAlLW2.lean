/-
  What is proved here: contracts of label.Take, label.Marks, and of the document's own. Conditions: numbers fit an int64, counts an int.
-/
import Derived.Test.YtbbmgandkmlojaaGreatAlMem
namespace Go.Proofs.YtbbmgandkmlojaaGreat.Lb
open Go.RowKit Gr Wd Ws

def mailV (has : Bool) (x : Int) : Value := .agg #[.bool has, .int .i64 x]
theorem tak_yes {v x : Int} (h : x < v) : x = takM v true x ∧ true = takB v true x := by unfold takM takB; rw [if_pos ⟨rfl, h⟩, decide_eq_true h]; exact ⟨rfl, rfl⟩
theorem tak_no {v x : Int} (h : ¬ x < v) : v = takM v true x ∧ false = takB v true x := by unfold takM takB; rw [if_neg (fun g => h g.2), decide_eq_false h]; exact ⟨rfl, rfl⟩
theorem ret_tm {a a' : Int} {b b' : Bool} (h : a = a') (k : b = b') : Ending.returned (.tuple #[.int .i64 a, .bool b]) = .returned (.tuple #[.int .i64 a', .bool b']) := by rw [h, k]

set_option maxRecDepth 100000 in
theorem take_any (v x : Int) (has : Bool) (w : World) :
    Calls Tryz.prog 162 #[.int .i64 v, .agg #[.bool has, .int .i64 x]] w fun e w' => e = .returned (.tuple #[.int .i64 (takM v has x), .bool (takB v has x)]) ∧ Below w.heap.size w w' := by
  have hb : Below w.heap.size w (w.alloc (.cells #[.bool has, .int .i64 x] 78)) := (Below.refl _ w).alloc (Nat.le_refl _) _
  have HB := Lib.hid hb; clear hb
  cases has with
  | false =>
    go_enter Tryz.func162, Tryz.ntmps162
    go_wp2
    go_ret2
    exact ⟨ret_tm (by simp [takM]) (by simp [takB]), HB.out⟩
  | true =>
    by_cases hx : x < v
    · go_enter Tryz.func162, Tryz.ntmps162
      go_wp2
      go_ret2
      exact ⟨ret_tm (tak_yes (by omega)).1 (tak_yes (by omega)).2, HB.out⟩
    · go_enter Tryz.func162, Tryz.ntmps162
      go_wp2
      go_ret2
      exact ⟨ret_tm (tak_no (by omega)).1 (tak_no (by omega)).2, HB.out⟩
set_option maxRecDepth 100000 in
theorem rtake_any (v x : Int) (has : Bool) (w : World) :
    Calls Tryz.prog 95 #[.int .i64 v, .agg #[.bool has, .int .i64 x]] w fun e w' => e = .returned (.tuple #[.int .i64 (takM v has x), .bool (takB v has x)]) ∧ Below w.heap.size w w' := by
  have hb : Below w.heap.size w (w.alloc (.cells #[.bool has, .int .i64 x] 78)) := (Below.refl _ w).alloc (Nat.le_refl _) _
  have HB := Lib.hid hb; clear hb
  cases has with
  | false =>
    go_enter Tryz.func95, Tryz.ntmps95
    go_wp2
    go_ret2
    exact ⟨ret_tm (by simp [takM]) (by simp [takB]), HB.out⟩
  | true =>
    by_cases hx : x < v
    · go_enter Tryz.func95, Tryz.ntmps95
      go_wp2
      go_ret2
      exact ⟨ret_tm (tak_yes (by omega)).1 (tak_yes (by omega)).2, HB.out⟩
    · go_enter Tryz.func95, Tryz.ntmps95
      go_wp2
      go_ret2
      exact ⟨ret_tm (tak_no (by omega)).1 (tak_no (by omega)).2, HB.out⟩

/- Labels: what stands at a place. -/
end Go.Proofs.YtbbmgandkmlojaaGreat.Lb
