/-
  What is proved here: the kit's mill; the law on places, walked. Conditions: the part can be read; counts fit an int.
-/
import Derived.Test.YtjcgejbggmpikaaPtW9
import Derived.Test.YtjcgejbggmpikaaPtW4
namespace Go.Proofs.Ytjcgejbggmpikaa.Pt
open Go.RowKit Gr Wd Ws

def millL : List Ed := [(0, 1, 4), (0, 2, 1), (1, 3, 5), (2, 1, 2), (4, 4, 7)]

set_option maxRecDepth 100000 in
set_option maxHeartbeats 1000000 in
theorem mill_any (w : World) : Calls Try.prog 26 #[] w fun e w' => (∃ A c, e = .returned (.agg #[.int .i64 6, .slice A millL.length c]) ∧ Hid (EAt w' A millL)) ∧ Hid (Below w.heap.size w w') := by
  have mixed := mixedP
  go_enter Try.func26, Try.ntmps26
  go_wp2
  obtain ⟨W1, hW1⟩ : ∃ W1, W1 = w.alloc (.cells #[.int .i64 6, .slice (some ⟨w.heap.size + 1, 0, none⟩) 5 5] 30) := ⟨_, rfl⟩
  have s1 : W1.heap.size = w.heap.size + 1 := by rw [hW1]; simp
  have y0 : W1.heap[w.heap.size]? = some (.cells #[.int .i64 6, .slice (some ⟨w.heap.size + 1, 0, none⟩) 5 5] 30 (0, 0)) := by rw [hW1]; exact heap_alloc_new w _
  have b1 : Below w.heap.size w W1 := by rw [hW1]; exact (Below.refl _ w).alloc (Nat.le_refl _) _
  rw [← hW1]
  clear hW1
  obtain ⟨C, hC⟩ : ∃ C : Array Value, C = #[.int .i64 0, .int .i64 1, .int .i64 4, .int .i64 0, .int .i64 2, .int .i64 1, .int .i64 1, .int .i64 3, .int .i64 5, .int .i64 2, .int .i64 1, .int .i64 2, .int .i64 4, .int .i64 4, .int .i64 7] := ⟨_, rfl⟩
  rw [← hC]
  obtain ⟨W2, hW2⟩ : ∃ W2, W2 = W1.alloc (.cells C 44) := ⟨_, rfl⟩
  have b2 : Below W1.heap.size W1 W2 := by rw [hW2]; exact (Below.refl _ W1).alloc (Nat.le_refl _) _
  have y1 := (b2.block _ (lt_of_block y0)).trans y0
  have y2 : W2.heap[w.heap.size + 1]? = some (.cells C 44 (0, 0)) := by rw [hW2, ← s1]; exact heap_alloc_new W1 _
  rw [← hW2]
  have k0 : W2.cell? ⟨w.heap.size, 0, none⟩ = some (.int .i64 6) := by rw [Lib.cell_of_heap y1]; rfl
  have k1 : W2.cell? ⟨w.heap.size, 1, none⟩ = some (.slice (some ⟨w.heap.size + 1, 0, none⟩) 5 5) := by rw [Lib.cell_of_heap y1]; rfl
  refine bodyPost_ret (v := .agg #[.int .i64 6, .slice (some ⟨w.heap.size + 1, 0, none⟩) 5 5]) (by simp [results, Try.results26, go_sem, k0, k1]) rfl ⟨⟨_, _, rfl, Lib.hid ?_⟩, Lib.hid (b1.trans (b2.mono (by omega)))⟩
  intro k e hk
  rcases k with _ | _ | _ | _ | _ | k
  all_goals (first | (simp [millL] at hk; done) | (simp only [millL, List.getElem?_cons_zero, List.getElem?_cons_succ, Option.some.injEq] at hk; subst hk; exact ⟨_, _, rfl, by rw [Lib.cell_of_heap y2, hC]; rfl, by rw [Lib.cell_of_heap y2, hC]; rfl, by rw [Lib.cell_of_heap y2, hC]; rfl⟩))


set_option maxRecDepth 100000 in
set_option maxHeartbeats 2000000 in
theorem pplace_any (x : Value) (P : Pt) (v : Int) (w : World) (hx : PtV w x P) (sP : Sm P) :
    Calls Try.prog 43 #[x, .int .i64 v] w fun e w' => e = .returned (.bool true) ∧ Below w.heap.size w w' := by
  have mixed := mixedP
  obtain ⟨A1, c1, A2, c2, A3, c3, rfl, h1, h2, h3⟩ := hx
  have hso := sP.own
  obtain ⟨n1, hn1⟩ : ∃ n, P.own.length = n := ⟨_, rfl⟩
  obtain ⟨n2, hn2⟩ : ∃ n, P.out.length = n := ⟨_, rfl⟩
  obtain ⟨n3, hn3⟩ : ∃ n, P.back.length = n := ⟨_, rfl⟩
  rw [hn2, hn3]
  obtain ⟨w1, hw1⟩ : ∃ w1, w1 = w.alloc (.cells #[.int .i64 P.w, .int .i64 P.k, .int .i64 P.n, .slice A1 P.own.length c1, .slice A2 n2 c2, .slice A3 n3 c3] 34) := ⟨_, rfl⟩
  have hz : Below w.heap.size w w1 := by rw [hw1]; exact (Below.refl _ w).alloc (Nat.le_refl _) _
  have hb : w1.heap[w.heap.size]? = some (.cells #[.int .i64 P.w, .int .i64 P.k, .int .i64 P.n, .slice A1 P.own.length c1, .slice A2 n2 c2, .slice A3 n3 c3] 34 (0, 0)) := by rw [hw1]; exact heap_alloc_new w _
  have hi := h1.below hz
  have c1' := regr fun W (h : Below w1.heap.size w1 W) => place_any P.w P.k P.n v A1 A2 A3 c1 n2 c2 n3 c3 P.own W (hi.below h) hso
  have c2' := regr fun W (h : Below w1.heap.size w1 W) => rplace_any A1 c1 P.own v W (hi.below h) hso
  have c3' := regr fun W (_ : Below w1.heap.size w1 W) => (works_any W).mono fun e w' ⟨h1, h2⟩ => (⟨h1, h2.out⟩ : _ ∧ Below W.heap.size W w')
  obtain ⟨R, hR⟩ : ∃ R, plc P.own v = R := ⟨_, rfl⟩
  rw [hn1] at c1' c2' hb hw1 hso
  rw [hR] at c1' c2'
  rw [hn1]
  have C1 := Lib.hid c1'; have C2 := Lib.hid c2'; have C3 := Lib.hid c3'
  obtain ⟨y0, y1, y2, y3, y4, y5, _⟩ := six hb
  have Y0 := cell_regrown y0; have Y1 := cell_regrown y1; have Y2 := cell_regrown y2; have Y3 := cell_regrown y3; have Y4 := cell_regrown y4; have Y5 := cell_regrown y5
  have HZ := Lib.hid hz; have HW := Lib.hid hw1
  clear c1' c2' c3' y0 y1 y2 y3 y4 y5 hb hz hw1 hi h1 h2 h3 hn1 hn2 hn3 hR
  have hRR : (R == R) = true := by simp
  by_cases hk : 60 < n1
  · go_enter Try.func43, Try.ntmps43
    have hg : decide ((60 : Int) < (n1 : Int)) = true := by simp; omega
    go_wp2_with fail
    rw [← HW.out]
    refine wp_region_quiet_below mixed (by kernel_rfl) ?_
    repeat (go_big_quiet_step ((with_reducible first | exact C1.out _ _ | exact C2.out _ _ | exact C3.out _ _)))
    refine wpQuiet_nil ?_
    intro _ hw'
    obtain ⟨⟨dq, osq⟩, hw''⟩ := hw'
    subst hw''
    have hb9 := HZ.out.trans ((below_regrown w1 dq osq).mono HZ.out.size)
    go_wp2
    go_ret
    exact ⟨rfl, hb9⟩
  · go_enter Try.func43, Try.ntmps43
    have hg : decide ((60 : Int) < (n1 : Int)) = false := by simp; omega
    go_wp2_with fail
    rw [← HW.out]
    refine wp_region_quiet_below mixed (by kernel_rfl) ?_
    repeat (go_big_quiet_step ((with_reducible first | exact C1.out _ _ | exact C2.out _ _ | exact C3.out _ _)))
    refine wpQuiet_nil ?_
    intro _ hw'
    obtain ⟨⟨dq, osq⟩, hw''⟩ := hw'
    subst hw''
    have hb9 := HZ.out.trans ((below_regrown w1 dq osq).mono HZ.out.size)
    go_wp2
    go_ret
    exact ⟨rfl, hb9⟩

end Go.Proofs.Ytjcgejbggmpikaa.Pt
