/-
  What is proved here: contracts of algos.Start, Compute, Done, Check, Part, Join of the document. Conditions: numbers fit an int.
-/
import Derived.Test.YtobmkhbkcmdhbaaAlP5
import Derived.Stop.Asserts
namespace Go.Proofs.Ytobmkhbkcmdhbaa.Al
open Go.RowKit Gr Wd Ws Fx Rk Lb

set_option maxRecDepth 100000 in
theorem rstart_any (k st so dm ep V v : Int) (hV0 : -9223372036854775808 ≤ V) (hV1 : V ≤ 9223372036854775807) (hv0 : -9223372036854775808 ≤ v) (hv1 : v ≤ 9223372036854775807) (w : World) : Calls Try.prog 11 #[.agg #[.int .u8 k, .int .i64 st, .int .i64 so, .int .i64 dm, .int .i64 ep], .int .i64 V, .int .i64 v] w fun e w' => e = .returned (.tuple #[.int .i64 (sttM k V v so), .bool (sttB k v so)]) ∧ Below w.heap.size w w' := by
  have HB1 := fun (k : Int) => Lib.hid ((Below.refl _ w).alloc (Nat.le_refl _) (.cells #[.int .u8 k, .int .i64 st, .int .i64 so, .int .i64 dm, .int .i64 ep] 26))
  by_cases h1 : k = 1
  · subst h1
    obtain ⟨g, hg⟩ : ∃ g, giveI 4294967296 V = g := ⟨_, rfl⟩
    have HG := Lib.hid hg
    clear hg
    go_enter Try.func11, Try.ntmps11
    go_wp2_with fail
    refine (Rk.rstart_any V g _ HG hV0 hV1).mono ?_
    rintro e w2 ⟨rfl, rfl⟩
    go_wp2
    go_ret2
    exact ⟨ret_tb (by rw [← HG.out]; unfold sttM; simp) (by unfold sttB; simp), (HB1 1).out⟩
  have b1 : (k == 1) = false := by simp [h1]
  by_cases h2 : k = 2
  · subst h2
    have hw : IntKind.i64.wrap v = v := by rw [IntKind.wrap_i64]; omega
    go_enter Try.func11, Try.ntmps11
    go_wp2
    go_ret2
    exact ⟨ret_tb (by unfold sttM; simp) (by unfold sttB; simp), (HB1 2).out⟩
  have b2 : (k == 2) = false := by simp [h2]
  by_cases h3 : k = 3
  · subst h3
    obtain ⟨W1, hW1⟩ : ∃ W1, W1 = w.alloc (.cells #[.int .u8 3, .int .i64 st, .int .i64 so, .int .i64 dm, .int .i64 ep] 26) := ⟨_, rfl⟩
    have HB : Hid (Below w.heap.size w W1) := Lib.hid (by rw [hW1]; exact (HB1 3).out)
    have x0 : W1.heap[w.heap.size]? = some (.cells #[.int .u8 3, .int .i64 st, .int .i64 so, .int .i64 dm, .int .i64 ep] 26 (0, 0)) := by rw [hW1]; exact heap_alloc_new w _
    obtain ⟨b0, e0⟩ : ∃ b0, b0 = w.heap.size := ⟨_, rfl⟩
    rw [← e0] at x0
    obtain ⟨j0, j1, j2, j3, j4, _⟩ := jb_cells x0
    have q2 := cell_regrown j2
    have C1 := Lib.hid (regr fun W (_ : Below W1.heap.size W1 W) => ((Pa.rstart_any v so W).mono fun _ _ k => ⟨k.1, k.2 ▸ Below.refl _ _⟩ : Calls Try.prog 32 #[.int .i64 v, .int .i64 so] W fun e w' => e = .returned (.int .i64 (Pa.stt v so)) ∧ Below W.heap.size W w'))
    have mixed := mixedO
    clear x0 j1 j2 j3 j4
    go_enter Try.func11, Try.ntmps11
    go_upto_region 1 with fail
    rw [← hW1]
    rw [show w.heap.size = b0 from e0.symm]
    clear hW1 e0
    go_wp2_with fail
    refine wp_region_quiet_below mixed (by kernel_rfl) ?_
    repeat (go_big_quiet_step ((with_reducible exact C1.out _ _)))
    refine wpQuiet_nil ?_
    intro _ hw'
    obtain ⟨⟨dq, osq⟩, hw''⟩ := hw'
    subst hw''
    have HB2 := Lib.hid (step_below HB.out HB.out.size (below_regrown W1 dq osq))
    go_wp2
    go_ret2
    exact ⟨ret_tb (by unfold sttM; simp) (by unfold sttB; by_cases h : v = so <;> simp [h]), HB2.out⟩
  have b3 : (k == 3) = false := by simp [h3]
  go_enter Try.func11, Try.ntmps11
  go_wp2
  go_ret2
  exact ⟨ret_tb (by unfold sttM; rw [if_neg h1, if_neg h2, if_neg h3]) (by unfold sttB; rw [if_neg h1, if_neg h2, if_neg h3]), (HB1 k).out⟩
set_option maxRecDepth 100000 in
theorem rdone_any (k st so dm ep s m : Int) (w : World) : Calls Try.prog 15 #[.agg #[.int .u8 k, .int .i64 st, .int .i64 so, .int .i64 dm, .int .i64 ep], .int .i64 s, .int .i64 m] w fun e w' => e = .returned (.bool (donB k st ep s m)) ∧ Below w.heap.size w w' := by
  have HB1 := fun (k : Int) => Lib.hid ((Below.refl _ w).alloc (Nat.le_refl _) (.cells #[.int .u8 k, .int .i64 st, .int .i64 so, .int .i64 dm, .int .i64 ep] 26))
  by_cases h1 : k = 1
  · subst h1
    by_cases g0 : st ≤ s
    · go_enter Try.func15, Try.ntmps15
      go_wp2
      all_goals (go_ret; exact ⟨ret_b (by simp [donB, *]; try omega), (HB1 _).out⟩)
    · by_cases g1 : 1 ≤ s
      · by_cases g2 : m ≤ ep
        · go_enter Try.func15, Try.ntmps15
          go_wp2
          all_goals (go_ret; exact ⟨ret_b (by simp [donB, *]; try omega), (HB1 _).out⟩)
        · go_enter Try.func15, Try.ntmps15
          go_wp2
          all_goals (go_ret; exact ⟨ret_b (by simp [donB, *]; try omega), (HB1 _).out⟩)
      · go_enter Try.func15, Try.ntmps15
        go_wp2
        all_goals (go_ret; exact ⟨ret_b (by simp [donB, *]; try omega), (HB1 _).out⟩)
  have b1 : (k == 1) = false := by simp [h1]
  by_cases h2 : k = 2
  · subst h2
    by_cases g0 : st ≤ s
    · go_enter Try.func15, Try.ntmps15
      go_wp2
      all_goals (go_ret; exact ⟨ret_b (by simp [donB, *]; try omega), (HB1 _).out⟩)
    · by_cases g1 : 1 ≤ s
      · by_cases g2 : m ≤ 0
        · go_enter Try.func15, Try.ntmps15
          go_wp2
          all_goals (go_ret; exact ⟨ret_b (by simp [donB, *]; try omega), (HB1 _).out⟩)
        · go_enter Try.func15, Try.ntmps15
          go_wp2
          all_goals (go_ret; exact ⟨ret_b (by simp [donB, *]; try omega), (HB1 _).out⟩)
      · go_enter Try.func15, Try.ntmps15
        go_wp2
        all_goals (go_ret; exact ⟨ret_b (by simp [donB, *]; try omega), (HB1 _).out⟩)
  have b2 : (k == 2) = false := by simp [h2]
  by_cases h3 : k = 3
  · subst h3
    by_cases g0 : st ≤ s
    · go_enter Try.func15, Try.ntmps15
      go_wp2
      all_goals (go_ret; exact ⟨ret_b (by simp [donB, *]; try omega), (HB1 _).out⟩)
    · by_cases g1 : 1 ≤ s
      · by_cases g2 : m ≤ 0
        · go_enter Try.func15, Try.ntmps15
          go_wp2
          all_goals (go_ret; exact ⟨ret_b (by simp [donB, *]; try omega), (HB1 _).out⟩)
        · go_enter Try.func15, Try.ntmps15
          go_wp2
          all_goals (go_ret; exact ⟨ret_b (by simp [donB, *]; try omega), (HB1 _).out⟩)
      · go_enter Try.func15, Try.ntmps15
        go_wp2
        all_goals (go_ret; exact ⟨ret_b (by simp [donB, *]; try omega), (HB1 _).out⟩)
  have b3 : (k == 3) = false := by simp [h3]
  go_enter Try.func15, Try.ntmps15
  go_wp2
  go_ret
  exact ⟨ret_b (by unfold donB; rw [if_neg h1, if_neg (by omega)]), (HB1 k).out⟩
end Go.Proofs.Ytobmkhbkcmdhbaa.Al
