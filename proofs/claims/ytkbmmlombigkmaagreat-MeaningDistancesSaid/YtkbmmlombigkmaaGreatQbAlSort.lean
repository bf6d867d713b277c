/-
  What is proved here: plain facts on rows whose parts are turned about, merged where they stand, and sorted by vertices. No program.
-/
import Derived.Test.YtkbmmlombigkmaaGreatQbInMathx
import Derived.Sort.LotA
namespace Go.Proofs.YtkbmmlombigkmaaGreat.Al
open Go.Sort
def Srt (a b : Nat) (d : Array Ms) : Prop := ∀ i j, a ≤ i → i < j → j < b → d[i]!.1 ≤ d[j]!.1
theorem Srt.le {a b : Nat} {d : Array Ms} (h : Srt a b d) {i j : Nat} (h1 : a ≤ i) (h2 : i ≤ j) (h3 : j < b) : d[i]!.1 ≤ d[j]!.1 := by
  rcases Nat.lt_or_ge i j with g | g
  · exact h i j h1 g h3
  · have : i = j := by omega
    subst this; omega
theorem Srt.kept {a b a' b' : Nat} {d d' : Array Ms} (h : Srt a' b' d) (k : PermIn a b d d') (hab : b' ≤ a ∨ b ≤ a') : Srt a' b' d' := fun i j h1 h2 h3 => by
  rw [k.2.1 i (by omega), k.2.1 j (by omega)]; exact h i j h1 h2 h3
def Rot (a m b : Nat) (d e : Array Ms) : Prop := e.size = d.size ∧ (∀ t, e[t]! = if a ≤ t ∧ t < a + (b - m) then d[t + (m - a)]! else if a + (b - m) ≤ t ∧ t < b then d[t - (b - m)]! else d[t]!) ∧
  ∀ lo hi, lo ≤ a → b ≤ hi → hi ≤ d.size → PermIn lo hi d e
end Go.Proofs.YtkbmmlombigkmaaGreat.Al
