/-
  What is proved here: the law RankKnown walked: it returns true, and no block that was there has changed. No condition.
-/
import Derived.Test.YtjmbfngpaifheaaRkTot
import Derived.Lib.QuietBelow
import Derived.BigQuiet
import Derived.IntWalk
namespace Go.Proofs.Ytjmbfngpaifheaa.Rk
open Go.RowKit Fx

def knl : List Int := [0, 1, 2, 3, 511, 512, 4294967295, 4294967296, 4294967297, 4611686018427387904, 4611686018427387905, 9223372036854775807, -1, -9223372036854775808]
theorem knl_in : ∀ k : Fin 14, -9223372036854775808 ≤ knl[k]'(by show (k : Nat) < 14; exact k.2) ∧ knl[k]'(by show (k : Nat) < 14; exact k.2) ≤ 9223372036854775807 := by decide +kernel
theorem knl_at (k : Nat) (h : k < 14) : ∃ x : Int, knl[k]? = some x ∧ -9223372036854775808 ≤ x ∧ x ≤ 9223372036854775807 := by
  have h2 : k < knl.length := h
  exact ⟨knl[k], List.getElem?_eq_getElem h2, (knl_in ⟨k, h⟩).1, (knl_in ⟨k, h⟩).2⟩
theorem mixedO : Try.prog.follows .mixedOrders = true := by kernel_rfl
theorem regr {P : Program} {f : FuncId} {args : Array Value} {w : World} {v : Value} (h : ∀ W, Below w.heap.size w W → Calls P f args W fun e w' => e = .returned v ∧ Below W.heap.size W w') (d : Nat) (os : Array Obj) :
    Calls P f args (Sort.grow (redrawn w d) os) fun e w'' => e = .returned v ∧ ∃ p : Regrown, w'' = Sort.grow (redrawn w p.d) p.os := Calls.regrown_of (h _ (below_regrown w d os))

/- The two pairs of rows that the law lays. -/
theorem a32_lit {w : World} {b : Nat} (l : List Int) (hl : ∀ x ∈ l, 0 ≤ x ∧ x ≤ 4294967295) (h : w.heap[b]? = some (.cells (l.map fun x => Value.int .u32 x).toArray 32 (0, 0))) : A32 w (some ⟨b, 0, none⟩) l := by
  intro k x hx
  obtain ⟨h0, h1⟩ := hl x (List.mem_of_getElem? hx)
  refine ⟨h0, h1, b, 0, rfl, ?_⟩
  rw [Nat.zero_add, cell_of_row w b k _ 32 (0, 0) h, List.getElem?_toArray, List.getElem?_map, hx]; rfl
theorem a8_lit {w : World} {b : Nat} (l : List Int) (hl : ∀ x ∈ l, 0 ≤ x ∧ x ≤ 255) (h : w.heap[b]? = some (.cells (l.map fun x => Value.int .u8 x).toArray 5 (0, 0))) : A8 w (some ⟨b, 0, none⟩) l := by
  intro k x hx
  obtain ⟨h0, h1⟩ := hl x (List.mem_of_getElem? hx)
  refine ⟨h0, h1, b, 0, rfl, ?_⟩
  rw [Nat.zero_add, cell_of_row w b k _ 5 (0, 0) h, List.getElem?_toArray, List.getElem?_map, hx]; rfl

theorem pair_law (l m : List Int) (D : Int) (hl : ∀ x ∈ l, 0 ≤ x ∧ x ≤ 4294967295) (hm : ∀ x ∈ m, 0 ≤ x ∧ x ≤ 255) (hn : l.length ≤ 9223372036854775807) (hD : 0 ≤ D) (W : World) :
    Calls Try.prog 5 #[.slice (some ⟨W.heap.size, 0, none⟩) l.length l.length, .slice (some ⟨W.heap.size + 1, 0, none⟩) m.length m.length, .int .u64 D]
      ((W.alloc (.cells (l.map fun x => Value.int .u32 x).toArray 32)).alloc (.cells (m.map fun x => Value.int .u8 x).toArray 5)) fun e w' => e = .returned (.bool true) ∧ Below W.heap.size W w' := by
  refine (total_law l m D _ _ _ _ _ (Lib.hid (a32_lit l hl (heap_alloc2_old _ _ _))) (Lib.hid (a8_lit m hm (heap_alloc2_new _ _ _))) hn hD).mono ?_
  rintro e w' ⟨rfl, hb⟩
  have hb2 := ((Below.refl _ W).alloc (Nat.le_refl _) (.cells (l.map fun x => Value.int .u32 x).toArray 32))
  exact ⟨rfl, below_trans (below_trans hb2 ((Below.refl _ _).alloc (Nat.le_refl _) _)) hb⟩
theorem three_law (W : World) :
    Calls Try.prog 5 #[.slice (some ⟨W.heap.size, 0, none⟩) 3 3, .slice (some ⟨W.heap.size + 1, 0, none⟩) 3 3, .int .u64 4294967296]
      ((W.alloc (.cells #[.int .u32 4294967295, .int .u32 4294967295, .int .u32 4294967295] 32)).alloc (.cells #[.int .u8 0, .int .u8 1, .int .u8 3] 5)) fun e w' => e = .returned (.bool true) ∧ Below W.heap.size W w' :=
  pair_law [4294967295, 4294967295, 4294967295] [0, 1, 3] 4294967296 (by decide) (by decide) (by decide) (by decide) W
theorem one_law (W : World) :
    Calls Try.prog 5 #[.slice (some ⟨W.heap.size, 0, none⟩) 1 1, .slice (some ⟨W.heap.size + 1, 0, none⟩) 1 1, .int .u64 0]
      ((W.alloc (.cells #[.int .u32 7] 32)).alloc (.cells #[.int .u8 1] 5)) fun e w' => e = .returned (.bool true) ∧ Below W.heap.size W w' :=
  pair_law [7] [1] 0 (by decide) (by decide) (by decide) (by decide) W

def KoRel (w : World) (b : Nat) (g : Nat) (i : Value) (wr : World) : Prop := ∃ k : Nat, k + g = 14 ∧ i = .int .i64 (k : Int) ∧ Below w.heap.size w wr ∧ Mr wr b knl

set_option maxRecDepth 100000 in
set_option maxHeartbeats 4000000 in
theorem rknown_law (w : World) : Calls Try.prog 6 #[] w fun e w' => e = .returned (.bool true) ∧ Below w.heap.size w w' := by
  have mixed := mixedO
  go_enter Try.func6, Try.ntmps6
  go_wp2_with fail
  go_loopg [2] 14 (fun g i wr => KoRel w w.heap.size g i wr)
  case atStart => exact ⟨0, rfl, rfl, (Below.refl _ w).alloc (Nat.le_refl _) _, heap_alloc_new w _⟩
  case round =>
    obtain ⟨i, hi, rfl, hb, hk⟩ := hrel
    have HB := Lib.hid hb; have HK := Lib.hid hk; clear hb hk
    by_cases hi26 : i < 14
    · obtain ⟨X, hX, hX0, hX1⟩ := knl_at i hi26
      have HX := Lib.hid hX; clear hX
      go_wp2_with fail
      go_loopg [3] 14 (fun g i wr => KoRel w w.heap.size g i wr)
      case atStart => exact ⟨0, rfl, rfl, HB.out, HK.out⟩
      case round =>
        obtain ⟨j, hj, rfl, hb, hk⟩ := hrel
        clear HB HK
        have HB := Lib.hid hb; have HK := Lib.hid hk; clear hb hk
        by_cases hj26 : j < 14
        · obtain ⟨Y, hY, hY0, hY1⟩ := knl_at j hj26
          have k0 := cell_regrown (HK.out.cell i X HX.out)
          have k1 := cell_regrown (HK.out.cell j Y hY)
          have c1 := regr fun W (_ : Below wr.heap.size wr W) => give_law X Y W hX0 hX1 hY0 hY1
          have c2 := regr fun W (_ : Below wr.heap.size wr W) => take_law 3 X Y 7 W (by omega) (by omega) hX0 hX1 hY0 hY1 (by omega) (by omega)
          have c3 := regr fun W (_ : Below wr.heap.size wr W) => take_law X 2147483648 Y X W hX0 hX1 (by omega) (by omega) hY0 hY1 hX0 hX1
          have c4 := regr fun W (_ : Below wr.heap.size wr W) => take_law 2 4294967296 X Y W (by omega) (by omega) (by omega) (by omega) hX0 hX1 hY0 hY1
          have C1 := Lib.hid c1; have C2 := Lib.hid c2; have C3 := Lib.hid c3; have C4 := Lib.hid c4
          clear c1 c2 c3 c4 hY
          go_wp2_with fail
          have g1 : (i : Int) < 14 := by omega
          have g2 : (j : Int) < 14 := by omega
          refine wp_region_quiet_below mixed (by kernel_rfl) ?_
          repeat (go_big_quiet_step ((with_reducible first | exact C1.out _ _ | exact C2.out _ _ | exact C3.out _ _ | exact C4.out _ _)))
          refine wpQuiet_nil ?_
          intro _ hw'
          obtain ⟨⟨dq, osq⟩, hw''⟩ := hw'
          subst hw''
          have hb := below_regrown wr dq osq
          have HB2 := Lib.hid (below_trans HB.out hb); have HK2 := Lib.hid (HK.out.below hb)
          clear hb g1 g2 k0 k1
          go_wp2
          go_roundg (13 - j)
          case measure => omega
          case rel => exact ⟨j + 1, by omega, by go_num, HB2.out, HK2.out⟩
        · obtain rfl : j = 14 := by omega
          go_wp2
          go_roundg (13 - i)
          case measure => omega
          case rel => exact ⟨i + 1, by omega, by go_num, HB.out, HK.out⟩
    · obtain rfl : i = 14 := by omega
      go_wp2_with fail
      refine (three_law _).mono ?_
      rintro r w5 ⟨rfl, hb⟩
      have HB5 := Lib.hid (below_trans HB.out hb); clear hb
      go_wp2_with fail
      refine (one_law _).mono ?_
      rintro r w6 ⟨rfl, hb⟩
      have HB6 := Lib.hid (below_trans HB5.out hb); clear hb
      go_wp2_with fail
      refine (works_any _).mono ?_
      rintro r w7 ⟨rfl, HB7⟩
      have HB7 := Lib.hid (below_trans HB6.out HB7.out)
      go_wp2
      go_ret
      exact ⟨rfl, HB7.out⟩

end Go.Proofs.Ytjmbfngpaifheaa.Rk
