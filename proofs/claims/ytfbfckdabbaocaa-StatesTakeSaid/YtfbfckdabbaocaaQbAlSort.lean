/-
  What is proved here: plain facts on rows whose parts are turned about, merged where they stand, and sorted by vertices. No program.
-/
import Derived.Test.YtfbfckdabbaocaaQbSqMathx
import Derived.Sort.LotA
namespace Go.Proofs.Ytfbfckdabbaocaa.Al
open Go.Sort
def Srt (a b : Nat) (d : Array Ms) : Prop := ∀ i j, a ≤ i → i < j → j < b → d[i]!.1 ≤ d[j]!.1
theorem Srt.kept {a b a' b' : Nat} {d d' : Array Ms} (h : Srt a' b' d) (k : PermIn a b d d') (hab : b' ≤ a ∨ b ≤ a') : Srt a' b' d' := fun i j h1 h2 h3 => by
  rw [k.2.1 i (by omega), k.2.1 j (by omega)]; exact h i j h1 h2 h3
end Go.Proofs.Ytfbfckdabbaocaa.Al
