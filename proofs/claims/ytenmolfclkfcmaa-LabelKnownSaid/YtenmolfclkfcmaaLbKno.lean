/-
  What is proved here: the law LabelKnown walked: it returns true, and no block that was there has changed. No condition.
-/
import Derived.Test.YtenmolfclkfcmaaLbL1
import Derived.Test.YtenmolfclkfcmaaLbL2
import Derived.BigQuiet
namespace Go.Proofs.Ytenmolfclkfcmaa.Lb
open Go.RowKit Gr Wd Ws

theorem marks_lit (a b c d : Int) (w : World) : Calls Try.prog 5 #[.slice (some ⟨w.heap.size, 0, none⟩) 4 4] (w.alloc (.cells #[.int .i64 a, .int .i64 b, .int .i64 c, .int .i64 d] 2)) fun e w' => e = .returned (.bool true) ∧ Hid (Below w.heap.size w w') := by
  have hb : Below w.heap.size w (w.alloc (.cells #[.int .i64 a, .int .i64 b, .int .i64 c, .int .i64 d] 2)) := (Below.refl _ w).alloc (Nat.le_refl _) _
  refine (law_marks [a, b, c, d] (some ⟨w.heap.size, 0, none⟩) 4 _ (Lib.hid (iat_block (heap_alloc_new w (.cells #[.int .i64 a, .int .i64 b, .int .i64 c, .int .i64 d] 2)))) (by simp)).mono ?_
  rintro e w' ⟨rfl, h⟩
  exact ⟨rfl, Lib.hid (step_below hb hb.size h)⟩
theorem marks_nil (w : World) : Calls Try.prog 5 #[.slice none 0 0] w fun e w' => e = .returned (.bool true) ∧ Hid (Below w.heap.size w w') := by
  refine (law_marks [] none 0 w (Lib.hid (IAt.nil _ _)) (by simp)).mono ?_
  rintro e w' ⟨rfl, h⟩
  exact ⟨rfl, Lib.hid h⟩

def kl : List Int := [0, 1, 5, -1, 9223372036854775807, -9223372036854775808]
theorem kl_at (k : Nat) (h : k < 6) : ∃ x : Int, kl[k]? = some x := ⟨_, List.getElem?_eq_getElem (show k < kl.length from h)⟩
def Kl (w : World) (b : Nat) : Prop := w.heap[b]? = some (.cells (ints kl).toArray 2 (0, 0))
theorem Kl.cell {w : World} {b : Nat} (h : Kl w b) (k : Nat) (x : Int) (hx : kl[k]? = some x) : w.cell? ⟨b, k, none⟩ = some (.int .i64 x) := by
  rw [cell_of_row w b k _ 2 (0, 0) h, List.getElem?_toArray, ints_at, hx]; rfl
theorem Kl.below {w w' : World} {b : Nat} (h : Kl w b) (hb : Below w.heap.size w w') : Kl w' b := (hb.block b (lt_of_block h)).trans h

def A1Rel (w : World) (g : Nat) (i : Value) (wr : World) : Prop := ∃ k : Nat, k + g = 1296 ∧ i = .int .i64 (k : Int) ∧ Below w.heap.size w wr
def A2Rel (w : World) (b : Nat) (g : Nat) (i : Value) (wr : World) : Prop := ∃ k : Nat, k + g = 6 ∧ i = .int .i64 (k : Int) ∧ Below w.heap.size w wr ∧ Kl wr b

set_option maxRecDepth 100000 in
set_option maxHeartbeats 1000000 in
theorem mill_at (w : World) : Calls Try.prog 16 #[] w fun e w' => (∃ g, e = .returned (.agg #[.int .i64 6, .slice (some ⟨g, 0, none⟩) 5 5]) ∧ Hid (EAt w' (some ⟨g, 0, none⟩) millL)) ∧ Hid (Below w.heap.size w w') := by
  have mixed := mixedP
  go_enter Try.func16, Try.ntmps16
  go_wp2
  obtain ⟨W1, hW1⟩ : ∃ W1, W1 = w.alloc (.cells #[.int .i64 6, .slice (some ⟨w.heap.size + 1, 0, none⟩) 5 5] 39) := ⟨_, rfl⟩
  have s1 : W1.heap.size = w.heap.size + 1 := by rw [hW1]; simp
  have y0 : W1.heap[w.heap.size]? = some (.cells #[.int .i64 6, .slice (some ⟨w.heap.size + 1, 0, none⟩) 5 5] 39 (0, 0)) := by rw [hW1]; exact heap_alloc_new w _
  have b1 : Below w.heap.size w W1 := by rw [hW1]; exact (Below.refl _ w).alloc (Nat.le_refl _) _
  rw [← hW1]
  clear hW1
  obtain ⟨C, hC⟩ : ∃ C : Array Value, C = #[.int .i64 0, .int .i64 1, .int .i64 4, .int .i64 0, .int .i64 2, .int .i64 1, .int .i64 1, .int .i64 3, .int .i64 5, .int .i64 2, .int .i64 1, .int .i64 2, .int .i64 4, .int .i64 4, .int .i64 7] := ⟨_, rfl⟩
  rw [← hC]
  obtain ⟨W2, hW2⟩ : ∃ W2, W2 = W1.alloc (.cells C 42) := ⟨_, rfl⟩
  have b2 : Below W1.heap.size W1 W2 := by rw [hW2]; exact (Below.refl _ W1).alloc (Nat.le_refl _) _
  have y1 := (b2.block _ (lt_of_block y0)).trans y0
  have y2 : W2.heap[w.heap.size + 1]? = some (.cells C 42 (0, 0)) := by rw [hW2, ← s1]; exact heap_alloc_new W1 _
  rw [← hW2]
  have k0 : W2.cell? ⟨w.heap.size, 0, none⟩ = some (.int .i64 6) := by rw [Lib.cell_of_heap y1]; rfl
  have k1 : W2.cell? ⟨w.heap.size, 1, none⟩ = some (.slice (some ⟨w.heap.size + 1, 0, none⟩) 5 5) := by rw [Lib.cell_of_heap y1]; rfl
  refine bodyPost_ret (v := .agg #[.int .i64 6, .slice (some ⟨w.heap.size + 1, 0, none⟩) 5 5]) (by simp [results, Try.results16, go_sem, k0, k1]) rfl ⟨⟨_, rfl, Lib.hid ?_⟩, Lib.hid (b1.trans (b2.mono (by omega)))⟩
  intro k e hk
  rcases k with _ | _ | _ | _ | _ | k
  all_goals (first | (simp [millL] at hk; done) | (simp only [millL, List.getElem?_cons_zero, List.getElem?_cons_succ, Option.some.injEq] at hk; subst hk; exact ⟨_, _, rfl, by rw [Lib.cell_of_heap y2, hC]; rfl, by rw [Lib.cell_of_heap y2, hC]; rfl, by rw [Lib.cell_of_heap y2, hC]; rfl⟩))
theorem eat_take {w : World} {A : Option Addr} {L : List Ed} (h : EAt w A L) (k : Nat) : EAt w A (L.take k) := fun i e hi => h i e (by
  rw [List.getElem?_take] at hi; split at hi
  · exact hi
  · cases hi)
theorem eat_drop {w : World} {g o : Nat} {L : List Ed} (h : EAt w (some ⟨g, o, none⟩) L) (k : Nat) : EAt w (some ⟨g, o + k * 3, none⟩) (L.drop k) := fun i e hi => by
  rw [List.getElem?_drop] at hi
  obtain ⟨bk, o', e1, c0, c1, c2⟩ := h (k + i) e hi
  cases e1
  refine ⟨g, o + k * 3, rfl, ?_, ?_, ?_⟩
  · rw [show o + k * 3 + i * 3 = o + (k + i) * 3 by omega]; exact c0
  · rw [show o + k * 3 + i * 3 + 1 = o + (k + i) * 3 + 1 by omega]; exact c1
  · rw [show o + k * 3 + i * 3 + 2 = o + (k + i) * 3 + 2 by omega]; exact c2
def NearOk (A B : Option Addr) (n c m d : Nat) (v : Int) (wr : World) : Prop := ∀ (q : Nat) (os : Array Obj),
    Calls Try.prog 3 #[.int .i64 v, .slice A n c, .slice B m d] (Sort.grow (redrawn wr q) os) fun e w'' => e = .returned (.bool true) ∧ ∃ p : Regrown, w'' = Sort.grow (redrawn wr p.d) p.os
theorem near_lit (A B : Option Addr) (c d : Nat) (v : Int) (L M : List Ed) (wr : World) (hL : EAt wr A L) (hM : EAt wr B M) (hl : L.length ≤ 5) (hm : M.length ≤ 5) : NearOk A B L.length c M.length d v wr :=
  regr fun W hb => law_near v A B c d L M W (Lib.hid (hL.below hb)) (Lib.hid (hM.below hb)) (by omega) (by omega)

def A3Rel (w : World) (b g : Nat) (gk : Nat) (i : Value) (wr : World) : Prop := ∃ y : Int, y + gk = 7 ∧ -1 ≤ y ∧ i = .int .i64 y ∧ Below w.heap.size w wr ∧ wr.heap[b]? = some (.cells #[.int .i64 6, .slice (some ⟨g, 0, none⟩) 5 5] 39 (0, 0)) ∧ EAt wr (some ⟨g, 0, none⟩) millL

set_option maxRecDepth 100000 in
set_option maxHeartbeats 4000000 in
theorem known_law (w : World) : Calls Try.prog 6 #[] w fun e w' => e = .returned (.bool true) ∧ Below w.heap.size w w' := by
  have mixed := mixedP
  go_enter Try.func6, Try.ntmps6
  go_wp2_with fail
  go_loopg [1] 1296 (fun g i wr => A1Rel w g i wr)
  case atStart => exact ⟨0, rfl, rfl, Below.refl _ w⟩
  case round =>
    obtain ⟨i, hi, rfl, hb⟩ := hrel
    have HB := Lib.hid hb; clear hb
    by_cases hlt : i < 1296
    · go_wp2_with fail
      refine (marks_lit _ _ _ _ _).mono ?_
      rintro e w1 ⟨rfl, h1⟩
      have HB1 := Lib.hid (step_below HB.out HB.out.size h1.out); clear h1 HB
      go_wp2_with fail
      go_roundg (1295 - i)
      case measure => omega
      case rel => exact ⟨i + 1, by omega, by go_num, HB1.out⟩
    · obtain rfl : i = 1296 := by omega
      go_wp2_with fail
      have hb1 : Below w.heap.size w (wr.alloc (.cells #[.int .i64 0, .int .i64 1, .int .i64 5, .int .i64 (-1), .int .i64 9223372036854775807, .int .i64 (-9223372036854775808)] 2)) := HB.out.alloc HB.out.size _
      obtain ⟨b, hb⟩ : ∃ b, b = wr.heap.size := ⟨_, rfl⟩
      have hk1 : Kl (wr.alloc (.cells #[.int .i64 0, .int .i64 1, .int .i64 5, .int .i64 (-1), .int .i64 9223372036854775807, .int .i64 (-9223372036854775808)] 2)) b := by rw [hb]; exact heap_alloc_new wr _
      rw [← hb]
      have HB1 := Lib.hid hb1; have HK1 := Lib.hid hk1
      clear hb hb1 hk1 HB
      go_loopg [3] 6 (fun g i wr => A2Rel w b g i wr)
      case atStart => exact ⟨0, rfl, rfl, HB1.out, HK1.out⟩
      case round =>
        obtain ⟨x, hx, rfl, hb, hk⟩ := hrel
        clear HB1 HK1
        have HB := Lib.hid hb; have HK := Lib.hid hk; clear hb hk
        by_cases hx6 : x < 6
        · obtain ⟨X, hX⟩ := kl_at x hx6
          have HX := Lib.hid hX; clear hX
          go_wp2_with fail
          obtain ⟨G, rfl⟩ : ∃ G : Nat, G = gk := ⟨_, rfl⟩
          go_loopg [4] 6 (fun g i wr => A2Rel w b g i wr)
          case atStart => exact ⟨0, rfl, rfl, HB.out, HK.out⟩
          case round =>
            obtain ⟨y, hy, rfl, hb, hk⟩ := hrel
            clear HB HK
            have HB := Lib.hid hb; have HK := Lib.hid hk; clear hb hk
            by_cases hy6 : y < 6
            · obtain ⟨Y, hY⟩ := kl_at y hy6
              obtain ⟨s, hs⟩ : ∃ s, x + y = s := ⟨_, rfl⟩
              obtain ⟨z, hz⟩ : ∃ z, s % 6 = z := ⟨_, rfl⟩
              have hz6 : z < 6 := by omega
              obtain ⟨Z, hZ⟩ := kl_at z hz6
              have k0 := cell_regrown (HK.out.cell x X HX.out)
              have k1 := cell_regrown (HK.out.cell y Y hY)
              have k2 := cell_regrown (HK.out.cell z Z hZ)
              obtain ⟨p, hp⟩ : ∃ p, y % 2 = p := ⟨_, rfl⟩
              obtain ⟨t, ht⟩ : ∃ t : Bool, ((p : Int) == 0) = t := ⟨_, rfl⟩
              have c1 := regr fun W (_ : Below wr.heap.size wr W) => law_take X Y Z true t W
              have c2 := regr fun W (_ : Below wr.heap.size wr W) => law_take X Y 0 false false W
              have C1 := Lib.hid c1; have C2 := Lib.hid c2
              clear c1 c2 hY hZ
              have f0 : (y : Int).tmod 2 = (p : Int) := by rw [Int.tmod_eq_emod_of_nonneg (by omega)]; omega
              have f2 : IntKind.i64.wrap ((x : Int) + (y : Int)) = (s : Int) := by rw [IntWalk.i64_in _ (by omega)]; omega
              have f3 : (s : Int).tmod 6 = (z : Int) := by rw [Int.tmod_eq_emod_of_nonneg (by omega)]; omega
              have f4 : IntKind.i64.wrap ((z : Int)) = (z : Int) := IntWalk.i64_in _ (by omega)
              have f5 : IntKind.i64.wrap ((p : Int)) = (p : Int) := IntWalk.i64_in _ (by omega)
              have g1 : (x : Int) < 6 := by omega
              have g2 : (y : Int) < 6 := by omega
              have g3 : (z : Int) < 6 := by omega
              clear hs hz hp
              go_wp2_with fail
              refine wp_region_quiet_below mixed (by kernel_rfl) ?_
              repeat (go_big_quiet_step ((with_reducible first | exact C1.out _ _ | exact C2.out _ _)))
              refine wpQuiet_nil ?_
              intro _ hw'
              obtain ⟨⟨dq, osq⟩, hw''⟩ := hw'
              subst hw''
              have hb := below_regrown wr dq osq
              have HB2 := Lib.hid (below_trans HB.out hb); have HK2 := Lib.hid (HK.out.below hb)
              clear hb f0 f2 f3 f4 f5 g1 g2 g3 k0 k1 k2
              go_wp2
              go_roundg (5 - y)
              case measure => omega
              case rel => exact ⟨y + 1, by omega, by go_num, HB2.out, HK2.out⟩
            · obtain rfl : y = 6 := by omega
              go_wp2
              go_roundg (5 - x)
              case measure => omega
              case rel => exact ⟨x + 1, by omega, by go_num, HB.out, HK.out⟩
        · obtain rfl : x = 6 := by omega
          go_wp2_with fail
          refine (mill_at _).mono ?_
          rintro e w2 ⟨⟨g, rfl, hA⟩, h2⟩
          have hb2 := step_below HB.out HB.out.size h2.out
          have hb3 : Below w2.heap.size w2 (w2.alloc (.cells #[.int .i64 6, .slice (some ⟨g, 0, none⟩) 5 5] 39)) := (Below.refl _ w2).alloc (Nat.le_refl _) _
          have HB3 := Lib.hid (step_below hb2 hb2.size hb3)
          have HA3 := Lib.hid (hA.out.below hb3)
          obtain ⟨b2, hb2'⟩ : ∃ b2, b2 = w2.heap.size := ⟨_, rfl⟩
          have HX := Lib.hid (heap_alloc_new w2 (.cells #[.int .i64 6, .slice (some ⟨g, 0, none⟩) 5 5] 39))
          clear HB HK h2 hb2 hb3 hA
          go_wp2_with fail
          rw [← hb2'] at HX ⊢
          have HE := Lib.hid hb2'; clear hb2'
          obtain ⟨G, rfl⟩ : ∃ G : Nat, G = gk := ⟨_, rfl⟩
          go_loopg [6] 8 (fun gk i wr => A3Rel w b2 g gk i wr)
          case atStart => exact ⟨-1, by omega, by omega, rfl, HB3.out, HX.out, HA3.out⟩
          case round =>
            obtain ⟨y, hy, hy1, rfl, hb, hx9, hA⟩ := hrel
            clear HB3 HX HA3
            have HB := Lib.hid hb; have HX := Lib.hid hx9; have HA := Lib.hid hA; clear hb hx9 hA
            by_cases hy7 : y < 7
            · have k0 : wr.cell? ⟨b2, 1, none⟩ = some (.slice (some ⟨g, 0, none⟩) 5 5) := by rw [Lib.cell_of_heap HX.out]; rfl
              have K0 := cell_regrown k0
              have c1 : NearOk (some ⟨g, 0, none⟩) none 5 5 0 0 y wr := near_lit _ _ 5 0 y millL [] wr HA.out (EAt.nil _ _) (by decide) (by decide)
              have c2 : NearOk none (some ⟨g, 0, none⟩) 0 0 5 5 y wr := near_lit _ _ 0 5 y [] millL wr (EAt.nil _ _) HA.out (by decide) (by decide)
              have c3 : NearOk (some ⟨g, 3, none⟩) (some ⟨g, 0, none⟩) 4 4 4 5 y wr := near_lit _ _ 4 5 y (millL.drop 1) (millL.take 4) wr (eat_drop HA.out 1) (eat_take HA.out 4) (by decide) (by decide)
              unfold NearOk at c1 c2 c3
              have C1 := Lib.hid c1; have C2 := Lib.hid c2; have C3 := Lib.hid c3
              clear c1 c2 c3 k0
              go_wp2_with fail
              refine wp_region_quiet_below mixed (by kernel_rfl) ?_
              repeat (go_big_quiet_step ((with_reducible first | exact C1.out _ _ | exact C2.out _ _ | exact C3.out _ _)))

              refine wpQuiet_nil ?_
              intro _ hw'
              obtain ⟨⟨dq, osq⟩, hw''⟩ := hw'
              subst hw''
              have hb := below_regrown wr dq osq
              have HB2 := Lib.hid (below_trans HB.out hb); have HX2 := Lib.hid ((hb.block _ (lt_of_block HX.out)).trans HX.out); have HA2 := Lib.hid (HA.out.below hb)
              clear hb K0
              go_wp2
              go_roundg (gk - 1)
              case measure => omega
              case rel => exact ⟨y + 1, by omega, by omega, by go_num, HB2.out, HX2.out, HA2.out⟩
            · have HY : Hid (y = 7) := Lib.hid (by omega)
              go_wp2_with fail
              refine (marks_nil _).mono ?_
              rintro e w5 ⟨rfl, h5⟩
              have HB5 := Lib.hid (step_below HB.out HB.out.size h5.out); clear h5
              go_wp2_with fail
              refine (works_any _).mono ?_
              rintro e w6 ⟨rfl, h6⟩
              have HB6 := Lib.hid (step_below HB5.out HB5.out.size h6.out); clear h6
              go_wp2
              go_ret
              exact ⟨rfl, HB6.out⟩

end Go.Proofs.Ytenmolfclkfcmaa.Lb
