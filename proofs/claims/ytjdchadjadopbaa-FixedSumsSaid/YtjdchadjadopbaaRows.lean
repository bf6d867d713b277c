/-
  No cell of these rows narrows 'for every input' (looked for: loops, veiled, ifaces, maps, wideKeys, modest, calm, conditions, laid).
  DERIVED. THE GIVEN ROWS OF THIS SEAT. 6 by the template 'for every input the law returns true; each argument reads behind the call as it read before'; 0 by the template 'total and deterministic' (their statements: YtjdchadjadopbaaTotals.lean).
  GIVEN WITH THE SEED: the statements are not yours to turn. If you find one false, say at which input.
  Laid BY PROGRAM, IN A SANDBOX (cutbox-rows.mjs): the forced cells as the released guide's own fill.sh prints them over the translation 1cab6bfd93c35e47… (all of the seat's roots in one cut). By AI agents, Wed Nov 11 2026. No macro, syntax, notation, axiom, sorry.
-/
import Derived.Test.YtjdchadjadopbaaChecked
import GoSem.Claim
import GoSem.ClaimJoined
import GoSem.ClaimMapViews
import Derived.JoinedTies
import Derived.KernelRfl
namespace Go.Proofs.Ytjdchadjadopbaa
/- THE CELL 'sum', in the pinned program and in every row, IS THE sha256 OF THE DUMP (.gsa) THAT YtjdchadjadopbaaProg.lean LOADS. Nothing in Lean hashes anything: it is a label: what it is worth is what the hold of that sum in a sandbox is worth. -/
noncomputable def Try.pinned : Pinned := { name := "ytjdchadjadopbaa", sum := "1cab6bfd93c35e4769807e4958b6a691fdb23215e4bdda346991379a1b91772d", checked := Try.checked }
namespace Rows
def none {H : Type} : Left H := { results := [], args := [] }

/-- 'treadwheellaw05.FixedMul': WHATEVER THE INPUT: true; the input reads as it did. -/
def fixedMulSpec : ChangeSpec := { name := "fixedMul", fn := fun _ => fun
  | [d1, d2] => { results := [.lit (.bool true)], args := [d1, d2] }
  | _ => none }
def fixedMulRow : OpenClaim := { program := "ytjdchadjadopbaa", sum := "1cab6bfd93c35e4769807e4958b6a691fdb23215e4bdda346991379a1b91772d", func := "treadwheel/treadwheellaw05.FixedMul", spec := "fixedMul", named := ["math/bits.divideError", "math/bits.overflowError"], apart := false }
def FixedMulSaid : Prop := fixedMulRow.holds Try.pinned (OpenSpec.ofChange fixedMulSpec)

/-- ITS FALSE NEIGHBOUR: 'it returns false'. Refute it at one input. -/
def fixedMulWrong : ChangeSpec := { name := "fixedMul", fn := fun _ => fun
  | [d1, d2] => { results := [.lit (.bool false)], args := [d1, d2] }
  | _ => none }
def FixedMulWrongFalsely : Prop := fixedMulRow.holds Try.pinned (OpenSpec.ofChange fixedMulWrong)

/-- 'treadwheellaw05.FixedShare': WHATEVER THE INPUT: true; the input reads as it did. -/
def fixedShareSpec : ChangeSpec := { name := "fixedShare", fn := fun _ => fun
  | [d1, d2] => { results := [.lit (.bool true)], args := [d1, d2] }
  | _ => none }
def fixedShareRow : OpenClaim := { program := "ytjdchadjadopbaa", sum := "1cab6bfd93c35e4769807e4958b6a691fdb23215e4bdda346991379a1b91772d", func := "treadwheel/treadwheellaw05.FixedShare", spec := "fixedShare", named := ["math/bits.divideError", "math/bits.overflowError"], apart := false }
def FixedShareSaid : Prop := fixedShareRow.holds Try.pinned (OpenSpec.ofChange fixedShareSpec)

/-- ITS FALSE NEIGHBOUR: 'it returns false'. Refute it at one input. -/
def fixedShareWrong : ChangeSpec := { name := "fixedShare", fn := fun _ => fun
  | [d1, d2] => { results := [.lit (.bool false)], args := [d1, d2] }
  | _ => none }
def FixedShareWrongFalsely : Prop := fixedShareRow.holds Try.pinned (OpenSpec.ofChange fixedShareWrong)

/-- 'treadwheellaw05.FixedAdd': WHATEVER THE INPUT: true; the input reads as it did. -/
def fixedAddSpec : ChangeSpec := { name := "fixedAdd", fn := fun _ => fun
  | [d1, d2] => { results := [.lit (.bool true)], args := [d1, d2] }
  | _ => none }
def fixedAddRow : OpenClaim := { program := "ytjdchadjadopbaa", sum := "1cab6bfd93c35e4769807e4958b6a691fdb23215e4bdda346991379a1b91772d", func := "treadwheel/treadwheellaw05.FixedAdd", spec := "fixedAdd", named := ["math/bits.divideError", "math/bits.overflowError"], apart := false }
def FixedAddSaid : Prop := fixedAddRow.holds Try.pinned (OpenSpec.ofChange fixedAddSpec)

/-- ITS FALSE NEIGHBOUR: 'it returns false'. Refute it at one input. -/
def fixedAddWrong : ChangeSpec := { name := "fixedAdd", fn := fun _ => fun
  | [d1, d2] => { results := [.lit (.bool false)], args := [d1, d2] }
  | _ => none }
def FixedAddWrongFalsely : Prop := fixedAddRow.holds Try.pinned (OpenSpec.ofChange fixedAddWrong)

/-- 'treadwheellaw05.FixedSums': WHATEVER THE INPUT: true; the input reads as it did. -/
def fixedSumsSpec : ChangeSpec := { name := "fixedSums", fn := fun _ => fun
  | [d1, d2, d3] => { results := [.lit (.bool true)], args := [d1, d2, d3] }
  | _ => none }
def fixedSumsRow : OpenClaim := { program := "ytjdchadjadopbaa", sum := "1cab6bfd93c35e4769807e4958b6a691fdb23215e4bdda346991379a1b91772d", func := "treadwheel/treadwheellaw05.FixedSums", spec := "fixedSums", named := ["math/bits.divideError", "math/bits.overflowError"], apart := false }
def FixedSumsSaid : Prop := fixedSumsRow.holds Try.pinned (OpenSpec.ofChange fixedSumsSpec)

/-- ITS FALSE NEIGHBOUR: 'it returns false'. Refute it at one input. -/
def fixedSumsWrong : ChangeSpec := { name := "fixedSums", fn := fun _ => fun
  | [d1, d2, d3] => { results := [.lit (.bool false)], args := [d1, d2, d3] }
  | _ => none }
def FixedSumsWrongFalsely : Prop := fixedSumsRow.holds Try.pinned (OpenSpec.ofChange fixedSumsWrong)

/-- 'treadwheellaw05.FixedText': WHATEVER THE INPUT: true; the input reads as it did. -/
def fixedTextSpec : ChangeSpec := { name := "fixedText", fn := fun _ => fun
  | [d] => { results := [.lit (.bool true)], args := [d] }
  | _ => none }
def fixedTextRow : OpenClaim := { program := "ytjdchadjadopbaa", sum := "1cab6bfd93c35e4769807e4958b6a691fdb23215e4bdda346991379a1b91772d", func := "treadwheel/treadwheellaw05.FixedText", spec := "fixedText", named := ["math/bits.divideError", "math/bits.overflowError"], apart := false }
def FixedTextSaid : Prop := fixedTextRow.holds Try.pinned (OpenSpec.ofChange fixedTextSpec)

/-- ITS FALSE NEIGHBOUR: 'it returns false'. Refute it at one input. -/
def fixedTextWrong : ChangeSpec := { name := "fixedText", fn := fun _ => fun
  | [d] => { results := [.lit (.bool false)], args := [d] }
  | _ => none }
def FixedTextWrongFalsely : Prop := fixedTextRow.holds Try.pinned (OpenSpec.ofChange fixedTextWrong)

/-- 'treadwheellaw05.FixedKnown': WHATEVER THE INPUT: true; the input reads as it did. -/
def fixedKnownSpec : ChangeSpec := { name := "fixedKnown", fn := fun _ => fun
  | [] => { results := [.lit (.bool true)], args := [] }
  | _ => none }
def fixedKnownRow : OpenClaim := { program := "ytjdchadjadopbaa", sum := "1cab6bfd93c35e4769807e4958b6a691fdb23215e4bdda346991379a1b91772d", func := "treadwheel/treadwheellaw05.FixedKnown", spec := "fixedKnown", named := ["math/bits.divideError", "math/bits.overflowError"], apart := false }
def FixedKnownSaid : Prop := fixedKnownRow.holds Try.pinned (OpenSpec.ofChange fixedKnownSpec)

/-- ITS FALSE NEIGHBOUR: 'it returns false'. Refute it at one input. -/
def fixedKnownWrong : ChangeSpec := { name := "fixedKnown", fn := fun _ => fun
  | [] => { results := [.lit (.bool false)], args := [] }
  | _ => none }
def FixedKnownWrongFalsely : Prop := fixedKnownRow.holds Try.pinned (OpenSpec.ofChange fixedKnownWrong)

/- THE SECOND FORM. 'bulk': how many values and letters a reading holds, each counted each time it is reached (what is shared counts as often as it is met; a slice's spare places count too). A statement '..UptoSaid' is the law's where the arguments, and the package variables that the reading takes, are together of bulk at most 1048576: NARROWER than '..Said'. Prove '..Said' where nothing that the law and all that it calls make is longer than what came in: it says more and counts as full. Else prove '..UptoSaid'. A law counts once. -/
mutual
def uptoBulk {H : Type} : DataW H → Nat
  | .lit (.string bytes) => bytes.length + 1
  | .lit _ => 1
  | .nil => 1
  | .ptr d => uptoBulk d + 1
  | .slice elems spare => uptoBulkAll elems + uptoBulkAll spare + 1
  | .agg parts => uptoBulkAll parts + 1
  | .iface _ d => uptoBulk d + 1
  | .map entries => uptoBulkEntries entries + 1
  | .held _ => 1
def uptoBulkAll {H : Type} : List (DataW H) → Nat
  | [] => 0
  | d :: r => uptoBulk d + uptoBulkAll r
def uptoBulkEntries {H : Type} : List (Lit × DataW H) → Nat
  | [] => 0
  | x :: r => uptoBulkEntry x + uptoBulkEntries r
def uptoBulkEntry {H : Type} : Lit × DataW H → Nat
  | (.string bytes, d) => bytes.length + uptoBulk d + 1
  | (_, d) => uptoBulk d + 1
 end
def uptoSmall : (H : Type) → List (DataW H) → Bool := fun _ ds => decide (uptoBulkAll ds ≤ 1048576)
def OpenSpec.upto (s : _root_.Go.ChangeSpec) : _root_.Go.OpenSpec := { _root_.Go.OpenSpec.ofChange s with cond := some uptoSmall }

/-- 'treadwheellaw05.FixedMul', WHERE WHAT IT READS IS OF BULK AT MOST 1048576: true; the input reads as it did. -/
def fixedMulUptoRow : OpenClaim := { program := "ytjdchadjadopbaa", sum := "1cab6bfd93c35e4769807e4958b6a691fdb23215e4bdda346991379a1b91772d", func := "treadwheel/treadwheellaw05.FixedMul", spec := "fixedMul", named := ["math/bits.divideError", "math/bits.overflowError"], apart := false, narrowed := true }
def FixedMulUptoSaid : Prop := fixedMulUptoRow.holds Try.pinned (OpenSpec.upto fixedMulSpec)

/-- 'treadwheellaw05.FixedShare', WHERE WHAT IT READS IS OF BULK AT MOST 1048576: true; the input reads as it did. -/
def fixedShareUptoRow : OpenClaim := { program := "ytjdchadjadopbaa", sum := "1cab6bfd93c35e4769807e4958b6a691fdb23215e4bdda346991379a1b91772d", func := "treadwheel/treadwheellaw05.FixedShare", spec := "fixedShare", named := ["math/bits.divideError", "math/bits.overflowError"], apart := false, narrowed := true }
def FixedShareUptoSaid : Prop := fixedShareUptoRow.holds Try.pinned (OpenSpec.upto fixedShareSpec)

/-- 'treadwheellaw05.FixedAdd', WHERE WHAT IT READS IS OF BULK AT MOST 1048576: true; the input reads as it did. -/
def fixedAddUptoRow : OpenClaim := { program := "ytjdchadjadopbaa", sum := "1cab6bfd93c35e4769807e4958b6a691fdb23215e4bdda346991379a1b91772d", func := "treadwheel/treadwheellaw05.FixedAdd", spec := "fixedAdd", named := ["math/bits.divideError", "math/bits.overflowError"], apart := false, narrowed := true }
def FixedAddUptoSaid : Prop := fixedAddUptoRow.holds Try.pinned (OpenSpec.upto fixedAddSpec)

/-- 'treadwheellaw05.FixedSums', WHERE WHAT IT READS IS OF BULK AT MOST 1048576: true; the input reads as it did. -/
def fixedSumsUptoRow : OpenClaim := { program := "ytjdchadjadopbaa", sum := "1cab6bfd93c35e4769807e4958b6a691fdb23215e4bdda346991379a1b91772d", func := "treadwheel/treadwheellaw05.FixedSums", spec := "fixedSums", named := ["math/bits.divideError", "math/bits.overflowError"], apart := false, narrowed := true }
def FixedSumsUptoSaid : Prop := fixedSumsUptoRow.holds Try.pinned (OpenSpec.upto fixedSumsSpec)

/-- 'treadwheellaw05.FixedText', WHERE WHAT IT READS IS OF BULK AT MOST 1048576: true; the input reads as it did. -/
def fixedTextUptoRow : OpenClaim := { program := "ytjdchadjadopbaa", sum := "1cab6bfd93c35e4769807e4958b6a691fdb23215e4bdda346991379a1b91772d", func := "treadwheel/treadwheellaw05.FixedText", spec := "fixedText", named := ["math/bits.divideError", "math/bits.overflowError"], apart := false, narrowed := true }
def FixedTextUptoSaid : Prop := fixedTextUptoRow.holds Try.pinned (OpenSpec.upto fixedTextSpec)

/-- 'treadwheellaw05.FixedKnown', WHERE WHAT IT READS IS OF BULK AT MOST 1048576: true; the input reads as it did. -/
def fixedKnownUptoRow : OpenClaim := { program := "ytjdchadjadopbaa", sum := "1cab6bfd93c35e4769807e4958b6a691fdb23215e4bdda346991379a1b91772d", func := "treadwheel/treadwheellaw05.FixedKnown", spec := "fixedKnown", named := ["math/bits.divideError", "math/bits.overflowError"], apart := false, narrowed := true }
def FixedKnownUptoSaid : Prop := fixedKnownUptoRow.holds Try.pinned (OpenSpec.upto fixedKnownSpec)

end Rows
end Go.Proofs.Ytjdchadjadopbaa
