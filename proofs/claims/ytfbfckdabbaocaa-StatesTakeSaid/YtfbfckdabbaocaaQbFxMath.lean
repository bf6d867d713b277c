/-
  What is proved here: plain facts on numbers in fixed point, distances, and decimal digits. No condition.
-/
import Derived.Test.YtfbfckdabbaocaaRows
namespace Go.Proofs.Ytfbfckdabbaocaa.Fx
def dst (a : Int) : Int := if a < 0 then 0 else if 4611686018427387904 < a then 4611686018427387904 else a
def addI (a b : Int) : Int := if 4611686018427387904 < dst a + dst b then 4611686018427387904 else dst a + dst b
theorem dst_in (a : Int) : 0 ≤ dst a ∧ dst a ≤ 4611686018427387904 := by unfold dst; split <;> (try split) <;> omega
theorem addI_in (a b : Int) : 0 ≤ addI a b ∧ addI a b ≤ 4611686018427387904 := by
  have ha := dst_in a; have hb := dst_in b
  unfold addI; split <;> omega
end Go.Proofs.Ytfbfckdabbaocaa.Fx
