/-
  What is proved here: what all laws of this seat share: the listed variables give the contracts' condition; the witness starts in the heap that the program's own start leaves; a call that returns true and leaves every block that was there as it was meets the law's specification.
-/
import Derived.Test.YtjicbhnmdbnjpaaDoorW2
import Derived.Stop.LaidErr
import Derived.Stop.Joined
import Derived.ProofKit
import Derived.LaidMore
import Derived.OpenShut
import Derived.SizedLaws
namespace Go.Proofs.YtjicbhnmdbnjpaaDoor
open Go.ChangeShapes Go.WideShapes Go.ChangeAt Go.RowKit

theorem own : ownKnob Tryd.prog.godebug = none := by kernel_rfl
def laids : List (String × DataW Unit) := [("math/bits.deBruijn32tab", Rows.laid_math_bits_deBruijn32tab), ("math/bits.deBruijn64tab", Rows.laid_math_bits_deBruijn64tab), ("internal/strconv.uint64pow10", Rows.laid_internal_strconv_uint64pow10), ("treadwheel/words.firstDigits", Rows.laid_treadwheel_words_firstDigits)]
theorem glob_b64 : Tryd.prog.globalNamed "math/bits.deBruijn64tab" = some 3 := by kernel_rfl
theorem typ_b64 : (Tryd.prog.globals[3]?).map (·.type) = some 80 := by kernel_rfl
theorem typ_pow : (Tryd.prog.globals[1]?).map (·.type) = some 73 := by kernel_rfl
theorem typ_dig : (Tryd.prog.globals[0]?).map (·.type) = some 54 := by kernel_rfl
def b64 : List Int := [0, 1, 56, 2, 57, 49, 28, 3, 61, 58, 42, 50, 38, 29, 17, 4, 62, 47, 59, 36, 45, 43, 51, 22, 53, 39, 33, 30, 24, 18, 12, 5, 63, 55, 48, 27, 60, 41, 37, 16, 46, 35, 44, 21, 52, 32, 23, 11, 54, 26, 40, 15, 34, 20, 31, 10, 25, 14, 19, 9, 13, 8, 7, 6]

theorem of_laid {W : World} (h : laidMetH Tryd.prog laids W) : Laid W := by
  rw [MakeChecks.laidMetH_plain _ _ _ (by kernel_rfl)] at h
  have h1 : laidMet Tryd.prog (("math/bits.deBruijn64tab", Lib.tabData .u8 b64) :: [("internal/strconv.uint64pow10", Rows.laid_internal_strconv_uint64pow10), ("treadwheel/words.firstDigits", Rows.laid_treadwheel_words_firstDigits)]) W := h.tail
  have h2 : laidMet Tryd.prog (("internal/strconv.uint64pow10", Lib.tabData .u64 Lib.pow10Tab) :: [("treadwheel/words.firstDigits", Rows.laid_treadwheel_words_firstDigits)]) W := h1.tail
  have h3 : laidMet Tryd.prog (("treadwheel/words.firstDigits", Lib.tabData .i32 [48, 1632, 65296]) :: []) W := h2.tail
  have t1 : Lib.TabIs Tryd.prog W "math/bits.deBruijn64tab" .u8 b64 := Lib.tabIs_of_head glob_b64 typ_b64 Tryd.underlying80 Tryd.underlying5 (by kernel_rfl) (by kernel_rfl) h1
  have t2 : Lib.TabIs Tryd.prog W "internal/strconv.uint64pow10" .u64 Lib.pow10Tab := Lib.tabIs_of_head glob_pow typ_pow Tryd.underlying73 Tryd.underlying62 (by kernel_rfl) (by kernel_rfl) h2
  have t3 : Lib.TabIs Tryd.prog W "treadwheel/words.firstDigits" .i32 [48, 1632, 65296] := Lib.tabIs_of_head glob_dig typ_dig Tryd.underlying54 Tryd.underlying21 (by kernel_rfl) (by kernel_rfl) h3
  have c := t1.cell glob_b64 0 (by decide)
  have : (3 : Nat) < W.heap.size := block_lt_of_cell c
  exact ⟨t2, t3, this⟩

/-- The start's own heap meets the condition: closed facts. -/
theorem start_met (os : Os) (args : Array Value) : laidMetH Tryd.prog laids ((World.doorLaid Tryd.prog 400 os).forCall (fun _ _ => 0) ⟨#[], args, []⟩).memory :=
  laidMetH_of_parts3 (fuel := 8) (laidMet_of_run' 8 (by kernel_rfl) (by kernel_rfl)) (by kernel_rfl) (by kernel_rfl)

theorem law_post {H : Type} {enc : TypeId × Value → H} {f : Func} {s : ChangeSpec} {apart : Bool} {W W' : World} {args : Array Value} {ds : List (DataW H)} {before : List MemPlace}
    (hW : DataW.Whole enc Tryd.prog f.params.toList s.vars apart W args.toList ds [] before) (hb : Below W.heap.size W W')
    (ht : f.resultTypes = #[4]) (hr : (s.fn H (ds ++ [])).results = [.lit (.bool true)]) (hv : s.vars = []) (hg : (s.fn H (ds ++ [])).vars = [])
    (hargs : DataW.TrodAll enc Tryd.prog W' 0 (fun b => decide (b < W.heap.size)) true f.params.toList args.toList (s.fn H (ds ++ [])).args before) :
    s.post enc Tryd.prog f apart true false false W args (.bool true) W' := by
  have hres : ∀ (b : Nat) (sp : Nat → Bool) (hd : Bool), DataW.TrodAll enc Tryd.prog W' b sp hd f.resultTypes.toList ((Value.bool true).resultList f.resultTypes.size) (s.fn H (ds ++ [])).results [] := by
    intro b sp hd
    rw [hr, ht]
    exact trodAll_cons_mk (shut_bool Tryd.underlying4 _) trodAll_mk0
  have hvars : ∀ sp : Nat → Bool, DataW.TrodVars enc Tryd.prog W' sp s.vars (s.fn H (ds ++ [])).vars [] := by
    intro sp; rw [hv, hg]; rfl
  exact ⟨ds, [], before, [], before, [], hW, hres _ _ _, hargs, hvars _, hb.frame _, fun h => absurd h (by simp)⟩

theorem i64_in {a : Int} (h : (Lit.int .i64 a).wf = true) : -9223372036854775808 ≤ a ∧ a ≤ 9223372036854775807 := by
  have h1 : IntKind.i64.min ≤ a ∧ a ≤ IntKind.i64.max := by simpa [Lit.wf] using h
  have h3 : IntKind.i64.min = -9223372036854775808 := by decide
  have h4 : IntKind.i64.max = 9223372036854775807 := by decide
  omega
theorem i32_in {a : Int} (h : (Lit.int .i32 a).wf = true) : -2147483648 ≤ a ∧ a ≤ 2147483647 := by
  have h1 : IntKind.i32.min ≤ a ∧ a ≤ IntKind.i32.max := by simpa [Lit.wf] using h
  have h3 : IntKind.i32.min = -2147483648 := by decide
  have h4 : IntKind.i32.max = 2147483647 := by decide
  omega

end Go.Proofs.YtjicbhnmdbnjpaaDoor
