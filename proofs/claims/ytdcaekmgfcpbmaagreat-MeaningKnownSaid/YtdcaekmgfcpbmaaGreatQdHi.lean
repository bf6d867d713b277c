/-
  What is proved here: short names for what the texts say often. No condition.
-/
import Derived.Test.YtdcaekmgfcpbmaaGreatRows
import Derived.Lib.Hide
namespace Go.Proofs.YtdcaekmgfcpbmaaGreat
theorem jH {p : Prop} (h : p) : RowKit.Hid p := Lib.hid h
theorem jZ {α : Type} {l : List α} {i : Nat} {a : α} : l.toArray.setIfInBounds i a = (l.set i a).toArray := by simp only [List.setIfInBounds_toArray]
theorem jY {α : Type} {x : α} {l : List α} {a : α} : (x :: l).set 0 a = a :: l := rfl
theorem jX {α : Type} {x : α} {l : List α} {i : Nat} {a : α} : (x :: l).set (i + 1) a = x :: l.set i a := rfl
end Go.Proofs.YtdcaekmgfcpbmaaGreat
