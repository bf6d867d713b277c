/-
  What is proved here: words for a row of messages while it is sorted; the contract of the library's swapRangeCmpFunc over it. Conditions: the row is one that the call has made.
-/
import Derived.Test.YtfbfckdabbaocaaQbPtMemx
import Derived.Outline
import Derived.Test.YtfbfckdabbaocaaQbAlSort
import Derived.Shelf.SlSortFuncK.RowK2
namespace Go.Proofs.Ytfbfckdabbaocaa.Al
open Go.RowKit Go.Sort Gr Wd Ws
def mc (m : Ms) : List Value := [.int .i64 m.1, .int .i64 m.2]
end Go.Proofs.Ytfbfckdabbaocaa.Al
