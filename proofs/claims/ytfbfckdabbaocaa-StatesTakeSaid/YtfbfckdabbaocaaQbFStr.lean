/-
  What is proved here: what a slice of bytes is as a string. No condition.
-/
import Derived.Test.YtfbfckdabbaocaaQbFMem
namespace Go.Proofs.Ytfbfckdabbaocaa.Fd
open Go.RowKit
def str (l : List Nat) : ByteArray := ⟨(l.map fun x => UInt8.ofNat x).toArray⟩
theorem str_size (l : List Nat) : (str l).size = l.length := by simp [str, ByteArray.size]
theorem conv_at (w : World) (A : Option Addr) (l : List Nat) (c : Nat) (h : At w A l) : (convert 30 9 (.slice A l.length c)).run Try.prog w = .ok (.string (str l)) w := by
  rcases A with _ | a
  · have := h.none_
    subst this
    exact run_convert_bytes_nil w 30 5 Try.underlying30 Try.underlying5 _ c 9 Try.underlying9
  · have hl := run_loadCells_list (P := Try.prog) w a (vals l) h.vals
    rw [run_convert_bytes_string w 30 9 5 _ _ c Try.underlying30 Try.underlying5 Try.underlying9]
    have e : vals l = (l.map fun (x : Nat) => (x : Int)).map (Value.int .u8) := by simp [vals]
    rw [vals_length, e] at hl
    rw [run_bytesToString w a l.length c (l.map fun (x : Nat) => (x : Int)) hl, foldl_push_bytes]
    have e2 : ((l.map fun (x : Nat) => (x : Int)).map fun n => UInt8.ofNat n.toNat) = l.map fun x => UInt8.ofNat x := by
      rw [List.map_map]; rfl
    rw [e2]
    unfold str
    simp [ByteArray.empty, ByteArray.emptyWithCapacity]
    rfl
end Go.Proofs.Ytfbfckdabbaocaa.Fd
