/-
  What is proved here: contracts of the document's own Fold, mail and Same. Conditions: lengths fit an int; fewer than 1000000 messages.
-/
import Derived.Test.YtgkmmjlhphinhaaInEq
import Derived.Test.YtgkmmjlhphinhaaInT
namespace Go.Proofs.Ytgkmmjlhphinhaa.In
open Go.RowKit Go.Maps Gr Wd Ws Fx Rk Lb Al

structure RfH (w wr : World) (b : Nat) (k st so dm ep : Int) (v : Value) (L : List Ms) : Prop where
  below : Below w.heap.size w wr
  box : wr.heap[b]? = some (.cells #[.int .u8 k, .int .i64 st, .int .i64 so, .int .i64 dm, .int .i64 ep] 23 (0, 0))
  row : MOwn wr w.heap.size v (putM k [] L)
def RfRel (w : World) (b : Nat) (k st so dm ep : Int) (L : List Ms) (gk : Nat) (v i : Value) (wr : World) : Prop :=
  ∃ q : Nat, q + gk = L.length ∧ i = .int .i64 (q : Int) ∧ Hid (RfH w wr b k st so dm ep v (L.take q))
theorem putM_next {k : Int} {L : List Ms} {q : Nat} {t y : Int} (h : L[q]? = some (t, y)) : insM k (putM k [] (L.take q)) (t, y) = putM k [] (L.take (q + 1)) := by
  rw [take_at h, putM_snoc]

set_option maxRecDepth 100000 in
set_option maxHeartbeats 4000000 in
theorem rfold_any (k st so dm ep : Int) (A : Option Addr) (n c : Nat) (L : List Ms) (w : World) (hL : MAt w A L) (hln : L.length = n) (hn : n < 1000000) :
    Calls Try.prog 11 #[.agg #[.int .u8 k, .int .i64 st, .int .i64 so, .int .i64 dm, .int .i64 ep], .slice A n c] w fun e w' => ∃ v, e = .returned v ∧ Hid (MOwn w' w.heap.size v (putM k [] L)) ∧ Hid (Below w.heap.size w w') := by
  have mixed := mixedI
  have HL := Lib.hid hL; have HLN := Lib.hid hln; clear hL hln
  obtain ⟨W1, hW1⟩ : ∃ W1, W1 = w.alloc (.cells #[.int .u8 k, .int .i64 st, .int .i64 so, .int .i64 dm, .int .i64 ep] 23) := ⟨_, rfl⟩
  have x0 : W1.heap[w.heap.size]? = some (.cells #[.int .u8 k, .int .i64 st, .int .i64 so, .int .i64 dm, .int .i64 ep] 23 (0, 0)) := by rw [hW1]; exact heap_alloc_new w _
  have hb1 : Below w.heap.size w W1 := by rw [hW1]; exact (Below.refl _ w).alloc (Nat.le_refl _) _
  have HH : Hid (RfH w W1 w.heap.size k st so dm ep (.slice none 0 0) []) := Lib.hid ⟨hb1, x0, MOwn.none_ _ _⟩
  obtain ⟨b, eb⟩ : ∃ b, b = w.heap.size := ⟨_, rfl⟩
  rw [← eb] at HH
  clear x0 hb1
  go_enter Try.func11, Try.ntmps11
  go_upto_region 1 with fail
  rw [← hW1, ← eb]
  clear hW1 eb
  go_wp2_with fail
  go_loopg [5, 6] n (fun gk v i wr => RfRel w b k st so dm ep L gk v i wr)
  case atStart => exact ⟨0, by have := HLN.out; omega, rfl, HH⟩
  case round =>
    clear HH
    obtain ⟨q, hq, rfl, HH⟩ := hrel
    rw [HLN.out] at hq
    by_cases hlt : q < n
    · obtain ⟨⟨t, y⟩, he⟩ := at_lt L q (by rw [HLN.out]; exact hlt)
      obtain ⟨bk, o, rfl, c0, c1⟩ := (HL.out.below HH.out.below) q _ he
      simp only at c0 c1
      have HNX := Lib.hid (putM_next (k := k) he)
      obtain ⟨j0, j1, j2, j3, j4, _⟩ := jb_cells HH.out.box
      have hlen : (putM k [] (L.take q)).length < 1000000 := by
        have := putM_len k (L.take q) []
        simp only [List.length_nil, List.length_take] at this
        omega
      have HLE := Lib.hid hlen
      clear he hlen
      go_wp2_with fail
      have z0 := cell_regrown c0; have z1 := cell_regrown c1
      have y0 := cell_regrown j0; have y1 := cell_regrown j1; have y2 := cell_regrown j2; have y3 := cell_regrown j3; have y4 := cell_regrown j4
      refine Tl.region_tail_below 6 mixed (by kernel_rfl) ?_
      simp only [List.take_succ_cons, List.take_zero, List.drop_succ_cons, List.drop_zero]
      repeat (go_big_quiet_step (fail))
      refine wpQuiet_nil ?_
      intro _ hw'
      obtain ⟨⟨dq, osq⟩, hw''⟩ := hw'
      subst hw''
      obtain ⟨W4, hW4⟩ : ∃ W4, W4 = Sort.grow (redrawn wr dq) osq := ⟨_, rfl⟩
      have hb4 : Below wr.heap.size wr W4 := by rw [hW4]; exact below_regrown wr dq osq
      rw [← hW4]
      have HO4 := Lib.hid (HH.out.row.below hb4)
      have HB4 := Lib.hid (step_below HH.out.below HH.out.below.size hb4)
      have HX4 := Lib.hid (keep HH.out.box hb4)
      clear hW4 hb4 z0 z1 y0 y1 y2 y3 y4 c0 c1 j0 j1 j2 j3 j4 HH
      go_wp2_with fail
      refine (radd_any k st so dm ep _ _ w.heap.size t y W4 HO4.out HB4.out.size HLE.out).mono ?_
      rintro e w5 ⟨v5, rfl, ho5, hb5⟩
      have HH5 : Hid (RfH w w5 b k st so dm ep v5 (L.take (q + 1))) := Lib.hid ⟨step_below HB4.out HB4.out.size hb5.out, keep HX4.out hb5.out, by rw [← HNX.out]; exact ho5.out⟩
      clear HO4 HB4 HX4 HNX ho5 hb5
      go_wp2
      go_roundg (gk - 1)
      case measure => omega
      case rel => exact ⟨q + 1, by have := HLN.out; omega, by go_num, HH5⟩
    · have HO9 := HH.out.row
      rw [show q = L.length by have := HLN.out; omega, List.take_length] at HO9
      have HO8 := Lib.hid HO9
      clear HO9
      go_wp2
      go_ret
      exact ⟨_, rfl, HO8, Lib.hid HH.out.below⟩

set_option maxRecDepth 100000 in
set_option maxHeartbeats 4000000 in
theorem rsame_any (A B : Option Addr) (n m c d : Nat) (a b : List Ml) (w : World) (hA : KAt w A a) (hB : KAt w B b) (hn : a.length = n) (hm : b.length = m) (hn2 : n ≤ 9223372036854775807) (hm2 : m ≤ 9223372036854775807) :
    Calls Try.prog 16 #[.slice A n c, .slice B m d] w fun e w' => e = .returned (.bool (sameB a b)) ∧ Hid (Below w.heap.size w w') := by
  have mixed := mixedI
  have HA := Lib.hid hA; have HBb := Lib.hid hB; have HN := Lib.hid hn; have HM := Lib.hid hm
  clear hA hB hn hm
  obtain ⟨r, hr⟩ : ∃ r, sameB a b = r := ⟨_, rfl⟩
  rw [hr]
  have HR := Lib.hid hr; clear hr
  by_cases hnm : n = m
  · subst hnm
    go_enter Try.func16, Try.ntmps16
    go_wp2
    go_loopg [5] n (fun gk i wr => EqRel w a b gk i wr)
    case atStart => exact ⟨0, by have := HN.out; omega, rfl, Lib.hid (Below.refl _ w), Lib.hid rfl⟩
    case round =>
      obtain ⟨q, hq, rfl, HB, HD⟩ := hrel
      rw [HN.out] at hq
      by_cases hlt : q < n
      · obtain ⟨⟨p, x⟩, hp⟩ := at_lt a q (by rw [HN.out]; exact hlt)
        obtain ⟨⟨s, y⟩, hs⟩ := at_lt b q (by rw [HM.out]; exact hlt)
        obtain ⟨bk, o, rfl, c0, c1⟩ := (HA.out.below HB.out) q _ hp
        obtain ⟨bk', o', rfl, d0, d1⟩ := (HBb.out.below HB.out) q _ hs
        simp only at c0 c1 d0 d1
        have HD2 : Hid (sameB a b = (eqM (p, x) (s, y) && sameB (a.drop (q + 1)) (b.drop (q + 1)))) := Lib.hid (by rw [HD.out, drop_at hp, drop_at hs, sameB_cons])
        clear hp hs HD
        by_cases heq : eqM (p, x) (s, y) = true
        · have HD3 : Hid (sameB a b = sameB (a.drop (q + 1)) (b.drop (q + 1))) := Lib.hid (by rw [HD2.out, heq]; rfl)
          cases p <;> cases s
          · clear heq
            go_wp2_with fail
            go_quiet (fail)
            go_wp2
            go_roundg (gk - 1)
            case measure => omega
            case rel => exact ⟨q + 1, by have := HN.out; omega, by go_num, Lib.hid (below_drewN HB.out _), HD3⟩
          · cases heq
          · cases heq
          · have hxy : x = y := by simpa [eqM] using heq
            subst hxy
            clear heq
            go_wp2_with fail
            go_quiet (fail)
            go_wp2
            go_roundg (gk - 1)
            case measure => omega
            case rel => exact ⟨q + 1, by have := HN.out; omega, by go_num, Lib.hid (below_drewN HB.out _), HD3⟩
        · have heq2 : eqM (p, x) (s, y) = false := by simpa using heq
          have e3 : r = false := by rw [← HR.out, HD2.out, heq2]; rfl
          subst e3
          clear HD2 HR heq
          cases p <;> cases s
          · cases heq2
          · clear heq2
            go_wp2_with fail
            go_quiet (fail)
            go_wp2
            go_ret
            exact ⟨rfl, Lib.hid (below_drewN HB.out _)⟩
          · clear heq2
            go_wp2_with fail
            go_quiet (fail)
            go_wp2
            go_ret
            exact ⟨rfl, Lib.hid (below_drewN HB.out _)⟩
          · have hxy : (x == y) = false := by simpa [eqM] using heq2
            have hne : ¬ x = y := by simpa using hxy
            clear heq2
            go_wp2_with fail
            go_quiet (fail)
            go_wp2
            go_ret
            exact ⟨rfl, Lib.hid (below_drewN HB.out _)⟩
      · have e3 : r = true := by
          rw [← HR.out, HD.out, List.drop_eq_nil_of_le (by rw [HN.out]; omega), List.drop_eq_nil_of_le (by rw [HM.out]; omega)]; rfl
        subst e3
        go_wp2
        go_ret
        exact ⟨rfl, HB⟩
  · have e3 : r = false := by rw [← HR.out]; exact sameB_len (by rw [HN.out, HM.out]; exact hnm)
    subst e3
    go_enter Try.func16, Try.ntmps16
    go_wp2
    go_ret
    exact ⟨rfl, Lib.hid (Below.refl _ w)⟩

end Go.Proofs.Ytgkmmjlhphinhaa.In
