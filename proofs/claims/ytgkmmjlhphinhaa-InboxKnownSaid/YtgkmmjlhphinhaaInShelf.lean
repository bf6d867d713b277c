/-
  What is proved here: what the library's theorems on maps.Keys and slices.Sorted at keys that are ints ask of this seat's program, each field by the kernel; and what they give: the keys of a map, sorted. No condition.
-/
import Derived.Shelf.SlIterI.Sorted
import Derived.Test.YtgkmmjlhphinhaaLbShelf
import Derived.Test.YtgkmmjlhphinhaaInMap
namespace Go.Proofs
open Go.Shelf
def Try.seq_ren : Go.Shelf.Ren := ⟨fun | 6 => 20 | 7 => 21 | 8 => 29 | 9 => 30 | 10 => 31 | 11 => 35 | n => n, fun | 0 => 0 | 3 => 43 | 4 => 4 | 23 => 44 | 24 => 34 | 25 => 46 | 26 => 3 | 27 => 47 | 28 => 48 | 29 => 49 | 32 => 55 | 33 => 56 | 34 => 61 | n => n, fun | n => n⟩
theorem Try.seq6 : Go.Proofs.SlLaysZI.n6 Try.prog Try.seq_ren := {
  mixed := by kernel_rfl
  f6 := ⟨"slices.Sorted[int]", by kernel_rfl, Try.func20.trans (congrArg some (by kernel_rfl))⟩
  f8 := ⟨"slices.Collect[int]", by kernel_rfl, Try.func29.trans (congrArg some (by kernel_rfl))⟩
  f11 := ⟨"slices.AppendSeq[[]int,int]", by kernel_rfl, Try.func35.trans (congrArg some (by kernel_rfl))⟩
  t0 := Try.underlying0
  a0 := Try.isAgg0
  z0 := Try.sizeOf0
  v0 := Try.zeroValue0
  t24 := Try.underlying34
  a24 := Try.isAgg34
  z24 := Try.sizeOf34
  v24 := Try.zeroValue34
  t26 := Try.underlying3
  a26 := Try.isAgg3
  z26 := Try.sizeOf3
  v26 := Try.zeroValue3
  t28 := Try.underlying48
  a28 := Try.isAgg48
  z28 := Try.sizeOf48
  v28 := Try.zeroValue48
  i26 := by kernel_rfl }
theorem Try.seq7 : Go.Proofs.SlLaysZI.n7 Try.prog Try.seq_ren := {
  mixed := by kernel_rfl
  f7 := ⟨"maps.Keys[map[int]treadwheel/api.Mail,int,treadwheel/api.Mail]", by kernel_rfl, Try.func21.trans (congrArg some (by kernel_rfl))⟩
  f10 := ⟨"maps.Keys[map[int]treadwheel/api.Mail,int,treadwheel/api.Mail]$1", by kernel_rfl, Try.func31.trans (congrArg some (by kernel_rfl))⟩
  t0 := Try.underlying0
  a0 := Try.isAgg0
  z0 := Try.sizeOf0
  v0 := Try.zeroValue0
  t4 := Try.underlying4
  a4 := Try.isAgg4
  z4 := Try.sizeOf4
  v4 := Try.zeroValue4
  t23 := Try.underlying44
  a23 := Try.isAgg44
  z23 := Try.sizeOf44
  v23 := Try.zeroValue44
  t26 := Try.underlying3
  a26 := Try.isAgg3
  z26 := Try.sizeOf3
  v26 := Try.zeroValue3
  t27 := Try.underlying47
  a27 := Try.isAgg47
  z27 := Try.sizeOf47
  v27 := Try.zeroValue47
  t28 := Try.underlying48
  a28 := Try.isAgg48
  z28 := Try.sizeOf48
  v28 := Try.zeroValue48
  t33 := Try.underlying56
  a33 := Try.isAgg56
  z33 := Try.sizeOf56
  v33 := Try.zeroValue56 }
theorem Try.seq10 : Go.Proofs.SlLaysZI.n10 Try.prog Try.seq_ren := {
  mixed := by kernel_rfl
  f10 := ⟨"maps.Keys[map[int]treadwheel/api.Mail,int,treadwheel/api.Mail]$1", by kernel_rfl, Try.func31.trans (congrArg some (by kernel_rfl))⟩
  t0 := Try.underlying0
  a0 := Try.isAgg0
  z0 := Try.sizeOf0
  v0 := Try.zeroValue0
  t4 := Try.underlying4
  a4 := Try.isAgg4
  z4 := Try.sizeOf4
  v4 := Try.zeroValue4
  t23 := Try.underlying44
  a23 := Try.isAgg44
  z23 := Try.sizeOf44
  v23 := Try.zeroValue44
  t26 := Try.underlying3
  a26 := Try.isAgg3
  z26 := Try.sizeOf3
  v26 := Try.zeroValue3
  t33 := Try.underlying56
  a33 := Try.isAgg56
  z33 := Try.sizeOf56
  v33 := Try.zeroValue56 }
end Go.Proofs
