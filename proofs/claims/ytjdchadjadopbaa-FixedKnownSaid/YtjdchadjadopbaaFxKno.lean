/-
  What is proved here: the law FixedKnown walked: it returns true, and no block that was there has changed. No condition.
-/
import Derived.Test.YtjdchadjadopbaaFxLaw1
import Derived.Lib.QuietBelow
import Derived.BigQuiet
import Derived.IntWalk
namespace Go.Proofs.Ytjdchadjadopbaa.Fx
open Go.RowKit

def knl : List Int := [0, 1, 2, 3, 9, 10, 4294967295, 4294967296, 4294967297, 2147483648, 12884901888, 70368744177664, 140737488355327, 140737488355328, 281474976710656, 4611686018427387903, 4611686018427387904, 4611686018427387905, 9223372036854775807, -1, -2, -4294967296, -9223372036854775808, 4294967295000000000, 2147483647, 12884901888000001]
theorem knl_in : ∀ k : Fin 26, -9223372036854775808 ≤ knl[k]'(by show (k : Nat) < 26; exact k.2) ∧ knl[k]'(by show (k : Nat) < 26; exact k.2) ≤ 9223372036854775807 := by decide +kernel
theorem knl_at (k : Nat) (h : k < 26) : ∃ x : Int, knl[k]? = some x ∧ -9223372036854775808 ≤ x ∧ x ≤ 9223372036854775807 := by
  have h2 : k < knl.length := h
  exact ⟨knl[k], List.getElem?_eq_getElem h2, (knl_in ⟨k, h⟩).1, (knl_in ⟨k, h⟩).2⟩
/-- The row of numbers at block b. -/
def Kn (w : World) (b : Nat) : Prop := w.heap[b]? = some (.cells (knl.map fun x => Value.int .i64 x).toArray 2 (0, 0))
theorem Kn.cell {w : World} {b : Nat} (h : Kn w b) (k : Nat) (x : Int) (hx : knl[k]? = some x) : w.cell? ⟨b, k, none⟩ = some (.int .i64 x) := by
  rw [cell_of_row w b k _ 2 (0, 0) h, List.getElem?_toArray, List.getElem?_map, hx]; rfl
theorem Kn.below {w w' : World} {b : Nat} (h : Kn w b) (hb : Below w.heap.size w w') : Kn w' b := (hb.block b (lt_of_block h)).trans h
theorem mixedO : Try.prog.follows .mixedOrders = true := by kernel_rfl
theorem regr {P : Program} {f : FuncId} {args : Array Value} {w : World} {v : Value} (h : ∀ W, Below w.heap.size w W → Calls P f args W fun e w' => e = .returned v ∧ Below W.heap.size W w') (d : Nat) (os : Array Obj) :
    Calls P f args (Sort.grow (redrawn w d) os) fun e w'' => e = .returned v ∧ ∃ p : Regrown, w'' = Sort.grow (redrawn w p.d) p.os := Calls.regrown_of (h _ (below_regrown w d os))

def KoRel (w : World) (b : Nat) (g : Nat) (i : Value) (wr : World) : Prop := ∃ k : Nat, k + g = 26 ∧ i = .int .i64 (k : Int) ∧ Below w.heap.size w wr ∧ Kn wr b

set_option maxRecDepth 100000 in
set_option maxHeartbeats 4000000 in
theorem known_law (w : World) : Calls Try.prog 8 #[] w fun e w' => e = .returned (.bool true) ∧ Below w.heap.size w w' := by
  have mixed := mixedO
  go_enter Try.func8, Try.ntmps8
  go_wp2_with fail
  go_loopg [2] 26 (fun g i wr => KoRel w w.heap.size g i wr)
  case atStart => exact ⟨0, rfl, rfl, (Below.refl _ w).alloc (Nat.le_refl _) _, heap_alloc_new w _⟩
  case round =>
    obtain ⟨i, hi, rfl, hb, hk⟩ := hrel
    have HB := Lib.hid hb; have HK := Lib.hid hk; clear hb hk
    by_cases hi26 : i < 26
    · obtain ⟨X, hX, hX0, hX1⟩ := knl_at i hi26
      have cX := HK.out.cell i X hX
      have HX := Lib.hid hX; clear hX
      go_wp2_with fail
      refine (text_law X _ hX0 hX1).mono ?_
      rintro r w1 ⟨rfl, hb⟩
      have HB1 := Lib.hid (below_trans HB.out hb); have HK1 := Lib.hid (HK.out.below hb); clear hb cX
      go_wp2_with fail
      go_loopg [3] 26 (fun g i wr => KoRel w w.heap.size g i wr)
      case atStart => exact ⟨0, rfl, rfl, HB1.out, HK1.out⟩
      case round =>
        obtain ⟨j, hj, rfl, hb, hk⟩ := hrel
        clear HB HK HB1 HK1
        have HB := Lib.hid hb; have HK := Lib.hid hk; clear hb hk
        by_cases hj26 : j < 26
        · obtain ⟨Y, hY, hY0, hY1⟩ := knl_at j hj26
          obtain ⟨z, hz⟩ : ∃ z, (i * 7 + j) % 26 = z := ⟨_, rfl⟩
          have hz26 : z < 26 := by omega
          obtain ⟨Z, hZ, hZ0, hZ1⟩ := knl_at z hz26
          have k0 := cell_regrown (HK.out.cell i X HX.out)
          have k1 := cell_regrown (HK.out.cell j Y hY)
          have k2 := cell_regrown (HK.out.cell z Z hZ)
          have c1 := regr fun W (_ : Below wr.heap.size wr W) => mul_law X Y W hX0 hX1 hY0 hY1
          have c2 := regr fun W (_ : Below wr.heap.size wr W) => share_law X Y W hX0 hX1 hY0 hY1
          have c3 := regr fun W (_ : Below wr.heap.size wr W) => add_law X Y W hX0 hX1 hY0 hY1
          have c4 := regr fun W (_ : Below wr.heap.size wr W) => sums_law X Y Z W hX0 hX1 hY0 hY1 hZ0 hZ1
          have C1 := Lib.hid c1; have C2 := Lib.hid c2; have C3 := Lib.hid c3; have C4 := Lib.hid c4
          clear c1 c2 c3 c4 hY hZ
          go_wp2_with fail
          obtain ⟨s7, hs7⟩ : ∃ s7, i * 7 = s7 := ⟨_, rfl⟩
          obtain ⟨s, hs⟩ : ∃ s, s7 + j = s := ⟨_, rfl⟩
          have f1 : IntKind.i64.wrap ((i : Int) * 7) = (s7 : Int) := by rw [IntWalk.i64_in _ (by omega)]; omega
          have f2 : IntKind.i64.wrap ((s7 : Int) + (j : Int)) = (s : Int) := by rw [IntWalk.i64_in _ (by omega)]; omega
          have f3 : (s : Int).tmod 26 = (z : Int) := by rw [Int.tmod_eq_emod_of_nonneg (by omega)]; omega
          have f4 : IntKind.i64.wrap ((z : Int)) = (z : Int) := IntWalk.i64_in _ (by omega)
          have g1 : (i : Int) < 26 := by omega
          have g2 : (j : Int) < 26 := by omega
          have g3 : (z : Int) < 26 := by omega
          clear hs7 hs hz
          refine wp_region_quiet_below mixed (by kernel_rfl) ?_
          repeat (go_big_quiet_step ((with_reducible first | exact C1.out _ _ | exact C2.out _ _ | exact C3.out _ _ | exact C4.out _ _)))
          refine wpQuiet_nil ?_
          intro _ hw'
          obtain ⟨⟨dq, osq⟩, hw''⟩ := hw'
          subst hw''
          have hb := below_regrown wr dq osq
          have HB2 := Lib.hid (below_trans HB.out hb); have HK2 := Lib.hid (HK.out.below hb)
          clear hb f1 f2 f3 f4 g1 g2 g3 k0 k1 k2
          go_wp2
          go_roundg (25 - j)
          case measure => omega
          case rel => exact ⟨j + 1, by omega, by go_num, HB2.out, HK2.out⟩
        · obtain rfl : j = 26 := by omega
          go_wp2
          go_roundg (25 - i)
          case measure => omega
          case rel => exact ⟨i + 1, by omega, by go_num, HB.out, HK.out⟩
    · obtain rfl : i = 26 := by omega
      go_wp2_with fail
      refine (works_any _).mono ?_
      rintro r w5 ⟨rfl, HB5⟩
      have HB5 := Lib.hid (below_trans HB.out HB5.out)
      go_wp2
      go_ret
      exact ⟨rfl, HB5.out⟩

end Go.Proofs.Ytjdchadjadopbaa.Fx
