/-
  What is proved here: plain facts on messages: put into a row one after another, or sorted and put together, they are one row; how values and totals are put together. No program. What is proved here: plain facts on mail: what all messages of a row come to at a vertex, in whatever order, however cut, folded ahead or not, split by workers or not. No program. What is proved here: plain facts on the supersteps, one behind another: states from the first one on may be; labels and distances never rise; what rests stays so; ranks together are at most One; there is a first state that is done. No program.
-/
import Derived.Test.YtfbfckdabbaocaaQbPtMathx
import Derived.Test.YtfbfckdabbaocaaQbFxMath
import Derived.Lib.SlicesCompact
import Derived.Test.YtfbfckdabbaocaaQbPaMath
namespace Go.Proofs.Ytfbfckdabbaocaa.Al
end Go.Proofs.Ytfbfckdabbaocaa.Al
namespace Go.Proofs.Ytfbfckdabbaocaa.Fx
end Go.Proofs.Ytfbfckdabbaocaa.Fx
namespace Go.Proofs.Ytfbfckdabbaocaa.Gr
end Go.Proofs.Ytfbfckdabbaocaa.Gr
namespace Go.Proofs.Ytfbfckdabbaocaa.In
end Go.Proofs.Ytfbfckdabbaocaa.In
namespace Go.Proofs.Ytfbfckdabbaocaa.Lb
end Go.Proofs.Ytfbfckdabbaocaa.Lb
namespace Go.Proofs.Ytfbfckdabbaocaa.Pt
end Go.Proofs.Ytfbfckdabbaocaa.Pt
namespace Go.Proofs.Ytfbfckdabbaocaa.Rk
end Go.Proofs.Ytfbfckdabbaocaa.Rk
namespace Go.Proofs.Ytfbfckdabbaocaa.Al
open Gr Fx Rk Lb
abbrev Ms := Int × Int
def comb (k a b : Int) : Int := if k = 1 then addI a b else if k = 2 ∨ k = 3 then min a b else 0
end Go.Proofs.Ytfbfckdabbaocaa.Al
namespace Go.Proofs.Ytfbfckdabbaocaa.In
open Gr Fx Rk Lb Al Pt
def mst (k v : Int) (o : Option Int) (x : Ms) : Option Int := if x.1 = v then (match o with | none => some x.2 | some y => some (comb k y x.2)) else o
def mailM (k v : Int) (l : List Ms) : Option Int := l.foldl (mst k v) none
abbrev Ml := Bool × Int
def sameB (a b : List Ml) : Bool := a.length == b.length && (a.zip b).all fun p => p.1.1 == p.2.1 && (!p.1.1 || p.1.2 == p.2.2)
end Go.Proofs.Ytfbfckdabbaocaa.In
namespace Go.Proofs.Ytfbfckdabbaocaa.Sq
open Gr Fx Rk Lb Al Pt In
open Pa (vl bt vl_of vl_at bt_of bt_at vl_ext itr itr_next itr_keep)
def InR (x : Int) : Prop := 0 ≤ x ∧ x ≤ 4611686018427387904
structure Sq where
  vals : List Int
  chg : List Bool
  inb : List Ml
  sum : Int
  most : Int
def I63 (x : Int) : Prop := -9223372036854775808 ≤ x ∧ x ≤ 9223372036854775807
end Go.Proofs.Ytfbfckdabbaocaa.Sq
