/-
  What is proved here: the kit's ring. Condition: at most 1000 vertices.
-/
import Derived.Test.YtjcgejbggmpikaaPtRJ
namespace Go.Proofs.Ytjcgejbggmpikaa.Pt
open Go.RowKit Gr Wd Ws

def ringL (n : Nat) (j : Nat) : List Ed := (List.range j).map fun (i : Nat) => ((i : Int), (((i + 1) % n : Nat) : Int), ((i + 1 : Nat) : Int))
theorem ringL_len (n j : Nat) : (ringL n j).length = j := by simp [ringL]
theorem ringL_succ (n j : Nat) : ringL n (j + 1) = ringL n j ++ [((j : Int), (((j + 1) % n : Nat) : Int), ((j + 1 : Nat) : Int))] := by simp [ringL, List.range_succ]
set_option maxRecDepth 100000 in
theorem res1_g (fn : Func) (c : Nat) (tmps : Array Value) (w : World) (b : Nat) (a0 a1 : Value) (hr : fn.results = #[.cell c 30]) (ht : tmps.getD c undef = .pointer (some ⟨b, 0, none⟩)) (hh : w.heap[b]? = some (.cells #[a0, a1] 30 (0, 0))) :
    (results fn tmps).run Try.prog w = .ok (.agg #[a0, a1]) w := by
  obtain ⟨f0, f1, _⟩ := two hh
  have ht' : tmps[c]?.getD undef = .pointer (some ⟨b, 0, none⟩) := by simpa using ht
  simp [results, hr, ht', go_sem, f0, f1]
theorem eat_one (w : World) (x y z : Int) : EAt (w.alloc (.cells #[.int .i64 x, .int .i64 y, .int .i64 z] 44)) (some ⟨w.heap.size, 0, none⟩) [(x, y, z)] := by
  have h := heap_alloc_new w (.cells #[.int .i64 x, .int .i64 y, .int .i64 z] 44)
  intro k e hk
  rcases k with _ | k
  · simp at hk; subst hk
    exact ⟨_, _, rfl, by rw [Lib.cell_of_heap h]; rfl, by rw [Lib.cell_of_heap h]; rfl, by rw [Lib.cell_of_heap h]; rfl⟩
  · simp at hk
theorem rjb_two {w wr : World} {V : Int} {s : Value} {es : List Ed} (h : RjB w wr V s es) : w.heap.size + 2 ≤ wr.heap.size := by have := lt_of_block h.box; omega
def RgRel (w : World) (n g : Nat) (i : Value) (wr : World) : Prop := ∃ (j : Nat) (s : Value), j + g = n ∧ i = .int .i64 (j : Int) ∧ Hid (RjB w wr n s (ringL n j))

set_option maxRecDepth 100000 in
set_option maxHeartbeats 2000000 in
theorem ring_any (n : Nat) (hn : n ≤ 1000) (w : World) : Calls Try.prog 27 #[.int .i64 (n : Int)] w fun e w' => (∃ A c, e = .returned (.agg #[.int .i64 (n : Int), .slice A n c]) ∧ Hid (EAt w' A (ringL n n))) ∧ Hid (Below w.heap.size w w') := by
  have mixed := mixedP
  have HN1 := Lib.hid (heap_alloc_new w (.cells #[.int .i64 0, .slice none 0 0] 30))
  have HZ : Hid (Below w.heap.size w (w.alloc (.cells #[.int .i64 0, .slice none 0 0] 30))) := Lib.hid ((Below.refl _ w).alloc (Nat.le_refl _) _)
  go_enter Try.func27, Try.ntmps27
  go_wp2_with fail
  go_loopg [4] n (fun g i wr => RgRel w n g i wr)
  case atStart => exact ⟨0, _, by omega, rfl, Lib.hid (rj_start w _ n HZ.out (by simp) HN1.out)⟩
  case round =>
    obtain ⟨j, s, hj, rfl, HB⟩ := hrel
    obtain ⟨b0, b1, b2, b3, b4⟩ := two HB.out.box
    obtain ⟨A5, c5, rfl, _⟩ := HB.out.own.form
    by_cases hlt : j < n
    · have hw1 : IntKind.i64.wrap ((j : Int) + 1) = ((j + 1 : Nat) : Int) := by rw [IntWalk.i64_in _ (by omega)]; omega
      have hw2 : (((j + 1 : Nat) : Int)).tmod (n : Int) = (((j + 1) % n : Nat) : Int) := by rw [Int.tmod_eq_emod_of_nonneg (by omega)]; omega
      have hw3 : IntKind.i64.wrap (((j + 1) % n : Nat) : Int) = (((j + 1) % n : Nat) : Int) := IntWalk.i64_in _ (by have := Nat.mod_lt (j + 1) (show 0 < n by omega); omega)
      obtain ⟨t, ht⟩ : ∃ t, (j + 1) % n = t := ⟨_, rfl⟩
      obtain ⟨m, hm⟩ : ∃ m, j + 1 = m := ⟨_, rfl⟩
      rw [ht] at hw2 hw3
      rw [hm] at hw1 hw2
      have HCd : Hid (RjB w wr.drew n (.slice A5 (ringL n j).length c5) (ringL n j)) := Lib.hid (HB.out.quiet (Below.refl _ wr).drew)
      have HCa : Hid (RjB w (wr.drew.alloc (.cells #[.int .i64 (j : Int), .int .i64 (t : Int), .int .i64 (m : Int)] 44)) n (.slice A5 (ringL n j).length c5) (ringL n j)) := Lib.hid (HCd.out.quiet ((Below.refl _ wr.drew).alloc (Nat.le_refl _) _))
      have HE1 := Lib.hid (eat_one wr.drew j t m)
      have HL : Hid (ringL n (j + 1) = ringL n j ++ [((j : Int), (t : Int), (m : Int))]) := Lib.hid (by rw [ringL_succ, ht, hm])
      rw [ringL_len] at HCd HCa b1
      clear ht
      have hn0 : ¬ n = 0 := by omega
      go_wp2_with fail
      go_region_law (refine step_more rfl (.tmp 13) (.tmp 22) rfl (w.heap.size + 2) _ (ringL n j) [((j : Int), (t : Int), (m : Int))] 1 rfl (by simp [Act.eval]) HCa.out.own _ 1 (by simp [Act.eval]) HE1.out (by rw [ringL_len]; omega) (rjb_two HCa.out) ?_; intro A6 n6 c6 w2 ho2 hg2; have HC2 := Lib.hid (HCa.out.app ho2 hg2); have hmd := HCa.out.mid hg2; obtain ⟨m0, m1, m2, m3, m4⟩ := two hmd; clear ho2 hg2 hmd)
      all_goals
        clear m0 m1 m2 m3 m4
        go_wp2
        go_roundg (gk - 1)
        case measure => omega
        case rel => exact ⟨j + 1, _, by omega, by go_num, Lib.hid (by rw [HL.out]; exact HC2.out)⟩
    · obtain rfl : j = n := by omega
      obtain ⟨r0, r1, r2, r3, r4⟩ := two HB.out.res
      have HEA : Hid (RjB w wr (j : Int) (.slice A5 j c5) (ringL j j)) := Lib.hid (by have := HB.out; rw [ringL_len] at this; exact this)
      rw [ringL_len] at b1
      go_wp2_with fail
      have h1 := put2_heap HEA.out.res (.int .i64 (j : Int)) (.slice A5 j c5)
      have h2 := EOwn.put2 HEA.out.own (b := w.heap.size) (by omega) (.int .i64 (j : Int)) (.slice A5 j c5)
      have h3 := put2_below HEA.out.bel (b := w.heap.size) (Nat.le_refl _) (.int .i64 (j : Int)) (.slice A5 j c5)
      unfold put2 at h1 h2 h3
      refine bodyPost_ret (v := .agg #[.int .i64 (j : Int), .slice A5 j c5]) (res1_g _ _ _ _ _ _ _ Try.results27 rfl h1) rfl ⟨?_, Lib.hid h3⟩
      obtain ⟨A', c', e, h4, _⟩ := h2.form
      rw [ringL_len] at e
      cases e
      exact ⟨_, _, rfl, Lib.hid h4⟩

end Go.Proofs.Ytjcgejbggmpikaa.Pt
