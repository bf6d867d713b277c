/-
  What is proved here: a contract of the document's own Send: what any vertex sends is sendM. Conditions: at most 1000 edges each way.
-/
import Derived.Test.YtobmkhbkcmdhbaaAlR2
import Derived.Test.YtobmkhbkcmdhbaaAlLR2
namespace Go.Proofs.Ytobmkhbkcmdhbaa.Al
open Go.RowKit Go.Sort Gr Wd Ws Fx Rk Lb

/- What is told behind so many edges. -/
def Sn (w : World) (b : Nat) (k st so dm ep : Int) (W : World) : Prop := Below w.heap.size w W ∧ W.heap[b]? = some (.cells #[.int .u8 k, .int .i64 st, .int .i64 so, .int .i64 dm, .int .i64 ep] 26 (0, 0))
theorem Sn.step {w W W' : World} {b : Nat} {k st so dm ep : Int} (h : Sn w b k st so dm ep W) (hb : Below W.heap.size W W') : Sn w b k st so dm ep W' := ⟨step_below h.1 h.1.size hb, (hb.block _ (lt_of_block h.2)).trans h.2⟩
def SnRel (w : World) (b : Nat) (k st so dm ep : Int) (L0 : List Ms) (M : List Ms) (n : Nat) (gk : Nat) (v i : Value) (wr : World) : Prop :=
  ∃ q : Nat, q + gk = n ∧ i = .int .i64 (q : Int) ∧ Hid (MOwn wr w.heap.size v (putM k L0 (M.take q))) ∧ Hid (Sn w b k st so dm ep wr)
theorem rgive_q (v n g : Int) (hg : Hid (giveI v n = g)) (w : World) (h0 : -9223372036854775808 ≤ v) (h1 : v ≤ 9223372036854775807) (h2 : -9223372036854775808 ≤ n) (h3 : n ≤ 9223372036854775807) :
    Calls Try.prog 41 #[.int .i64 v, .int .i64 n] w fun e w' => e = .returned (.int .i64 g) ∧ w = w' := Rk.rgive_any v n g w hg h0 h1 h2 h3
theorem rgived_q (v x y z g : Int) (hg : Hid (addI v z = g)) (w : World) : Calls Try.prog 42 #[.int .i64 v, .agg #[.int .i64 x, .int .i64 y, .int .i64 z]] w fun e w' => e = .returned (.int .i64 g) ∧ Below w.heap.size w w' := by
  rw [← hg.out]; exact Pa.rgive_any v x y z w

set_option maxRecDepth 100000 in
set_option maxHeartbeats 4000000 in
theorem rsend_1 (st so dm ep v x : Int) (ch : Bool) (A C : Option Addr) (c d : Nat) (L M : List Ed) (w : World) (hL : EAt w A L) (_hM : EAt w C M) (hl : L.length ≤ 1000) (_hm : M.length ≤ 1000) (hx0 : -9223372036854775808 ≤ x) (hx1 : x ≤ 9223372036854775807) :
    Calls Try.prog 20 #[.agg #[.int .u8 1, .int .i64 st, .int .i64 so, .int .i64 dm, .int .i64 ep], .int .i64 v, .int .i64 x, .bool ch, .slice A L.length c, .slice C M.length d] w fun e w' => ∃ r, e = .returned r ∧ Hid (MOwn w' w.heap.size r (sendM (1) v x ch L M)) ∧ Hid (Below w.heap.size w w') := by
  have mixed := mixedO
  have HSM := Lib.hid (sendM_one v x ch L M)
  obtain ⟨W1, hW1⟩ : ∃ W1, W1 = w.alloc (.cells #[.int .u8 1, .int .i64 st, .int .i64 so, .int .i64 dm, .int .i64 ep] 26) := ⟨_, rfl⟩
  have hb1 : Below w.heap.size w W1 := by rw [hW1]; exact (Below.refl _ w).alloc (Nat.le_refl _) _
  have x0 : W1.heap[w.heap.size]? = some (.cells #[.int .u8 1, .int .i64 st, .int .i64 so, .int .i64 dm, .int .i64 ep] 26 (0, 0)) := by rw [hW1]; exact heap_alloc_new w _
  obtain ⟨b, e0⟩ : ∃ b, b = w.heap.size := ⟨_, rfl⟩
  rw [← e0] at x0
  have HS : Hid (Sn w b (1) st so dm ep W1) := Lib.hid ⟨hb1, x0⟩
  have HL := Lib.hid hL
  obtain ⟨n, hn⟩ : ∃ n, n = L.length := ⟨_, rfl⟩
  obtain ⟨m, hmm⟩ : ∃ m, m = M.length := ⟨_, rfl⟩
  rw [← hn] at hl ⊢
  have HNL := Lib.hid hn
  obtain ⟨j0, j1, j2, j3, j4, _⟩ := job_cells x0
  rw [show sentR x L.length L = sentR x n L by rw [hn]] at HSM
  go_enter Try.func20, Try.ntmps20
  go_upto_region 1 with fail
  rw [← hW1, show w.heap.size = b from e0.symm]
  clear hW1 e0 hb1 x0 hn
  go_wp2_with fail
  clear j0 j1 j2 j3 j4
  go_loopg [13, 16] n (fun gk v i wr => SnRel w b 1 st so dm ep [] (sentR x n L) n gk v i wr)
  case atStart => exact ⟨0, by omega, rfl, Lib.hid (MOwn.none_ _ _), HS⟩
  case round =>
    obtain ⟨q, hq, rfl, HO, HSq⟩ := hrel
    obtain ⟨j0, j1, j2, j3, j4, _⟩ := job_cells HSq.out.2
    by_cases hlt : q < n
    · obtain ⟨⟨e0, e1, e2⟩, hu⟩ := at_lt L q (by rw [← HNL.out]; exact hlt)
      obtain ⟨bk, o, rfl, c0, c1, c2⟩ := (HL.out.below HSq.out.1) q _ hu
      obtain ⟨y, hy⟩ : ∃ y, giveI x n = y := ⟨_, rfl⟩
      have hm1 : (sentR x n L)[q]? = some (e1, y) := by rw [← hy]; unfold sentR; rw [List.getElem?_map, hu]; rfl
      have HM1 : Hid (putM 1 [] ((sentR x n L).take (q + 1)) = insM 1 (putM 1 [] ((sentR x n L).take q)) (e1, y)) := Lib.hid (by rw [take_at hm1, putM_snoc])
      have hlen : (putM 1 [] ((sentR x n L).take q)).length < 1000000 := by
        have h1 := putM_len 1 ((sentR x n L).take q) []
        have h2 : ((sentR x n L).take q).length ≤ q := by rw [List.length_take]; omega
        simp at h1; omega
      have HLEN := Lib.hid hlen
      have HY := Lib.hid hy
      clear hu hm1 hlen hy
      go_upto_region 12 with fail
      have f0 := cell_regrown j0; have f1 := cell_regrown j1; have f2 := cell_regrown j2; have f3 := cell_regrown j3; have f4 := cell_regrown j4
      have z0 := cell_regrown c0; have z1 := cell_regrown c1; have z2 := cell_regrown c2
      have HC := Lib.hid (regr fun W (_ : Below wr.heap.size wr W) => ((rgive_q x (n : Int) y HY W hx0 hx1 (by omega) (by omega)).mono fun _ _ k => ⟨k.1, k.2 ▸ Below.refl _ _⟩ : Calls Try.prog 41 #[.int .i64 x, .int .i64 (n : Int)] W fun e w' => e = .returned (.int .i64 y) ∧ Below W.heap.size W w'))
      clear j0 j1 j2 j3 j4 c0 c1 c2
      refine Tl.region_tail_below 12 mixed (by kernel_rfl) ?_
      simp only [List.take_succ_cons, List.take_zero, List.drop_succ_cons, List.drop_zero]
      repeat (go_big_quiet_step ((with_reducible exact HC.out _ _)))
      refine wpQuiet_nil ?_
      intro _ hw'
      obtain ⟨⟨dq, osq⟩, hw''⟩ := hw'
      subst hw''
      obtain ⟨W3, hW3⟩ : ∃ W3, W3 = Sort.grow (redrawn wr dq) osq := ⟨_, rfl⟩
      have hb3 : Below wr.heap.size wr W3 := by rw [hW3]; exact below_regrown wr dq osq
      rw [← hW3]
      have HO3 := Lib.hid (HO.out.below hb3)
      have HS3 := Lib.hid (HSq.out.step hb3)
      clear hW3 hb3 HO HSq f0 f1 f2 f3 f4 z0 z1 z2 HC
      go_wp2_with fail
      refine (radd_any 1 st so dm ep _ _ w.heap.size e1 y _ HO3.out HS3.out.1.size HLEN.out).mono ?_
      rintro e w4 ⟨r4, rfl, HO4, hb4⟩
      have HS4 := Lib.hid (HS3.out.step hb4.out)
      clear hb4
      obtain ⟨j0, _, _, _, _, _⟩ := job_cells HS4.out.2
      go_wp2
      go_roundg (gk - 1)
      case measure => omega
      case rel => exact ⟨q + 1, by omega, by go_num, Lib.hid (by rw [HM1.out]; exact HO4.out), HS4⟩
    · have HE : Hid ((sentR x n L).take q = sentR x n L) := Lib.hid (List.take_of_length_le (by unfold sentR; rw [List.length_map, ← HNL.out]; omega))
      go_wp2
      go_ret
      refine ⟨_, rfl, Lib.hid ?_, Lib.hid HSq.out.1⟩
      have := HO.out
      rw [HE.out] at this
      rw [HSM.out]
      exact this
set_option maxRecDepth 100000 in
set_option maxHeartbeats 4000000 in
theorem rsend_3 (st so dm ep v x : Int) (A C : Option Addr) (c d : Nat) (L M : List Ed) (w : World) (hL : EAt w A L) (_hM : EAt w C M) (hl : L.length ≤ 1000) (_hm : M.length ≤ 1000) (_hx0 : -9223372036854775808 ≤ x) (_hx1 : x ≤ 9223372036854775807) :
    Calls Try.prog 20 #[.agg #[.int .u8 3, .int .i64 st, .int .i64 so, .int .i64 dm, .int .i64 ep], .int .i64 v, .int .i64 x, .bool true, .slice A L.length c, .slice C M.length d] w fun e w' => ∃ r, e = .returned r ∧ Hid (MOwn w' w.heap.size r (sendM (3) v x true L M)) ∧ Hid (Below w.heap.size w w') := by
  have mixed := mixedO
  have HSM : Hid (sendM 3 v x true L M = putM 3 [] (sentP x L)) := Lib.hid (sendM_three v x true L M)
  obtain ⟨W1, hW1⟩ : ∃ W1, W1 = w.alloc (.cells #[.int .u8 3, .int .i64 st, .int .i64 so, .int .i64 dm, .int .i64 ep] 26) := ⟨_, rfl⟩
  have hb1 : Below w.heap.size w W1 := by rw [hW1]; exact (Below.refl _ w).alloc (Nat.le_refl _) _
  have x0 : W1.heap[w.heap.size]? = some (.cells #[.int .u8 3, .int .i64 st, .int .i64 so, .int .i64 dm, .int .i64 ep] 26 (0, 0)) := by rw [hW1]; exact heap_alloc_new w _
  obtain ⟨b, e0⟩ : ∃ b, b = w.heap.size := ⟨_, rfl⟩
  rw [← e0] at x0
  have HS : Hid (Sn w b (3) st so dm ep W1) := Lib.hid ⟨hb1, x0⟩
  have HL := Lib.hid hL
  obtain ⟨n, hn⟩ : ∃ n, n = L.length := ⟨_, rfl⟩
  obtain ⟨m, hmm⟩ : ∃ m, m = M.length := ⟨_, rfl⟩
  rw [← hn] at hl ⊢
  have HNL := Lib.hid hn
  obtain ⟨j0, j1, j2, j3, j4, _⟩ := job_cells x0
  go_enter Try.func20, Try.ntmps20
  go_upto_region 1 with fail
  rw [← hW1, show w.heap.size = b from e0.symm]
  clear hW1 e0 hb1 x0 hn
  go_wp2_with fail
  clear j0 j1 j2 j3 j4
  go_loopg [13, 16] n (fun gk v i wr => SnRel w b 3 st so dm ep [] (sentP x L) n gk v i wr)
  case atStart => exact ⟨0, by omega, rfl, Lib.hid (MOwn.none_ _ _), HS⟩
  case round =>
    obtain ⟨q, hq, rfl, HO, HSq⟩ := hrel
    obtain ⟨j0, j1, j2, j3, j4, _⟩ := job_cells HSq.out.2
    by_cases hlt : q < n
    · obtain ⟨⟨e0, e1, e2⟩, hu⟩ := at_lt L q (by rw [← HNL.out]; exact hlt)
      obtain ⟨bk, o, rfl, c0, c1, c2⟩ := (HL.out.below HSq.out.1) q _ hu
      obtain ⟨y, hy⟩ : ∃ y, addI x e2 = y := ⟨_, rfl⟩
      have hm1 : (sentP x L)[q]? = some (e1, y) := by rw [← hy]; unfold sentP; rw [List.getElem?_map, hu]; rfl
      have HM1 : Hid (putM 3 [] ((sentP x L).take (q + 1)) = insM 3 (putM 3 [] ((sentP x L).take q)) (e1, y)) := Lib.hid (by rw [take_at hm1, putM_snoc])
      have hlen : (putM 3 [] ((sentP x L).take q)).length < 1000000 := by
        have h1 := putM_len 3 ((sentP x L).take q) []
        have h2 : ((sentP x L).take q).length ≤ q := by rw [List.length_take]; omega
        simp at h1; omega
      have HLEN := Lib.hid hlen
      have HY := Lib.hid hy
      clear hu hm1 hlen hy
      go_upto_region 14 with fail
      have f0 := cell_regrown j0; have f1 := cell_regrown j1; have f2 := cell_regrown j2; have f3 := cell_regrown j3; have f4 := cell_regrown j4
      have z0 := cell_regrown c0; have z1 := cell_regrown c1; have z2 := cell_regrown c2
      have HC := Lib.hid (regr fun W (_ : Below wr.heap.size wr W) => rgived_q x e0 e1 e2 y HY W)
      clear j0 j1 j2 j3 j4 c0 c1 c2
      refine Tl.region_tail_below 14 mixed (by kernel_rfl) ?_
      simp only [List.take_succ_cons, List.take_zero, List.drop_succ_cons, List.drop_zero]
      repeat (go_big_quiet_step ((with_reducible exact HC.out _ _)))
      refine wpQuiet_nil ?_
      intro _ hw'
      obtain ⟨⟨dq, osq⟩, hw''⟩ := hw'
      subst hw''
      obtain ⟨W3, hW3⟩ : ∃ W3, W3 = Sort.grow (redrawn wr dq) osq := ⟨_, rfl⟩
      have hb3 : Below wr.heap.size wr W3 := by rw [hW3]; exact below_regrown wr dq osq
      rw [← hW3]
      have HO3 := Lib.hid (HO.out.below hb3)
      have HS3 := Lib.hid (HSq.out.step hb3)
      clear hW3 hb3 HO HSq f0 f1 f2 f3 f4 z0 z1 z2 HC
      go_wp2_with fail
      refine (radd_any 3 st so dm ep _ _ w.heap.size e1 y _ HO3.out HS3.out.1.size HLEN.out).mono ?_
      rintro e w4 ⟨r4, rfl, HO4, hb4⟩
      have HS4 := Lib.hid (HS3.out.step hb4.out)
      clear hb4
      obtain ⟨j0, _, _, _, _, _⟩ := job_cells HS4.out.2
      go_wp2
      go_roundg (gk - 1)
      case measure => omega
      case rel => exact ⟨q + 1, by omega, by go_num, Lib.hid (by rw [HM1.out]; exact HO4.out), HS4⟩
    · have HE : Hid ((sentP x L).take q = sentP x L) := Lib.hid (List.take_of_length_le (by unfold sentP; rw [List.length_map, ← HNL.out]; omega))
      go_wp2
      go_ret
      refine ⟨_, rfl, Lib.hid ?_, Lib.hid HSq.out.1⟩
      have := HO.out
      rw [HE.out] at this
      rw [HSM.out]
      exact this
set_option maxRecDepth 100000 in
set_option maxHeartbeats 4000000 in
theorem rsend_f2 (st so dm ep v x : Int) (A C : Option Addr) (c d : Nat) (L M : List Ed) (w : World) (hL : EAt w A L) (_hM : EAt w C M) (hl : L.length ≤ 1000) (_hm : M.length ≤ 1000) (_hx0 : -9223372036854775808 ≤ x) (_hx1 : x ≤ 9223372036854775807) :
    Calls Try.prog 20 #[.agg #[.int .u8 2, .int .i64 st, .int .i64 so, .int .i64 dm, .int .i64 ep], .int .i64 v, .int .i64 x, .bool false, .slice A L.length c, .slice C M.length d] w fun e w' => ∃ r, e = .returned r ∧ Hid (MOwn w' w.heap.size r (sendM (2) v x false L M)) ∧ Hid (Below w.heap.size w w') := by
  have HSM : Hid (sendM 2 v x false L M = []) := Lib.hid (by rw [sendM_two]; rfl)
  obtain ⟨W1, hW1⟩ : ∃ W1, W1 = w.alloc (.cells #[.int .u8 2, .int .i64 st, .int .i64 so, .int .i64 dm, .int .i64 ep] 26) := ⟨_, rfl⟩
  have hb1 : Below w.heap.size w W1 := by rw [hW1]; exact (Below.refl _ w).alloc (Nat.le_refl _) _
  have x0 : W1.heap[w.heap.size]? = some (.cells #[.int .u8 2, .int .i64 st, .int .i64 so, .int .i64 dm, .int .i64 ep] 26 (0, 0)) := by rw [hW1]; exact heap_alloc_new w _
  obtain ⟨b, e0⟩ : ∃ b, b = w.heap.size := ⟨_, rfl⟩
  rw [← e0] at x0
  have HS : Hid (Sn w b (2) st so dm ep W1) := Lib.hid ⟨hb1, x0⟩
  have HL := Lib.hid hL
  obtain ⟨n, hn⟩ : ∃ n, n = L.length := ⟨_, rfl⟩
  obtain ⟨m, hmm⟩ : ∃ m, m = M.length := ⟨_, rfl⟩
  rw [← hn] at hl ⊢
  have HNL := Lib.hid hn
  obtain ⟨j0, j1, j2, j3, j4, _⟩ := job_cells x0
  go_enter Try.func20, Try.ntmps20
  go_upto_region 1 with fail
  rw [← hW1, show w.heap.size = b from e0.symm]
  clear hW1 e0 hb1 x0 hn
  go_wp2_with fail
  clear j0 j1 j2 j3 j4
  have HSB := HS
  go_loopg [13, 16] n (fun gk v i wr => v = .slice none 0 0 ∧ ∃ q : Nat, q + gk = n ∧ i = .int .i64 (q : Int) ∧ Hid (Below W1.heap.size W1 wr))
  case atStart => exact ⟨rfl, 0, by omega, rfl, Lib.hid (Below.refl _ _)⟩
  case round =>
    obtain ⟨rfl, q, hq, rfl, HBq⟩ := hrel
    obtain ⟨j0, j1, j2, j3, j4, _⟩ := job_cells (HSB.out.step HBq.out).2
    by_cases hlt : q < n
    · go_wp2
      go_roundg (gk - 1)
      case measure => omega
      case rel => exact ⟨rfl, q + 1, by omega, by go_num, HBq⟩
    · go_wp2
      go_ret
      exact ⟨_, rfl, Lib.hid (by rw [HSM.out]; exact (MOwn.none_ W1 w.heap.size).below HBq.out), Lib.hid (step_below HSB.out.1 HSB.out.1.size HBq.out)⟩
set_option maxRecDepth 100000 in
set_option maxHeartbeats 4000000 in
theorem rsend_f3 (st so dm ep v x : Int) (A C : Option Addr) (c d : Nat) (L M : List Ed) (w : World) (hL : EAt w A L) (_hM : EAt w C M) (hl : L.length ≤ 1000) (_hm : M.length ≤ 1000) (_hx0 : -9223372036854775808 ≤ x) (_hx1 : x ≤ 9223372036854775807) :
    Calls Try.prog 20 #[.agg #[.int .u8 3, .int .i64 st, .int .i64 so, .int .i64 dm, .int .i64 ep], .int .i64 v, .int .i64 x, .bool false, .slice A L.length c, .slice C M.length d] w fun e w' => ∃ r, e = .returned r ∧ Hid (MOwn w' w.heap.size r (sendM (3) v x false L M)) ∧ Hid (Below w.heap.size w w') := by
  have HSM : Hid (sendM 3 v x false L M = []) := Lib.hid (by rw [sendM_three]; rfl)
  obtain ⟨W1, hW1⟩ : ∃ W1, W1 = w.alloc (.cells #[.int .u8 3, .int .i64 st, .int .i64 so, .int .i64 dm, .int .i64 ep] 26) := ⟨_, rfl⟩
  have hb1 : Below w.heap.size w W1 := by rw [hW1]; exact (Below.refl _ w).alloc (Nat.le_refl _) _
  have x0 : W1.heap[w.heap.size]? = some (.cells #[.int .u8 3, .int .i64 st, .int .i64 so, .int .i64 dm, .int .i64 ep] 26 (0, 0)) := by rw [hW1]; exact heap_alloc_new w _
  obtain ⟨b, e0⟩ : ∃ b, b = w.heap.size := ⟨_, rfl⟩
  rw [← e0] at x0
  have HS : Hid (Sn w b (3) st so dm ep W1) := Lib.hid ⟨hb1, x0⟩
  have HL := Lib.hid hL
  obtain ⟨n, hn⟩ : ∃ n, n = L.length := ⟨_, rfl⟩
  obtain ⟨m, hmm⟩ : ∃ m, m = M.length := ⟨_, rfl⟩
  rw [← hn] at hl ⊢
  have HNL := Lib.hid hn
  obtain ⟨j0, j1, j2, j3, j4, _⟩ := job_cells x0
  go_enter Try.func20, Try.ntmps20
  go_upto_region 1 with fail
  rw [← hW1, show w.heap.size = b from e0.symm]
  clear hW1 e0 hb1 x0 hn
  go_wp2_with fail
  clear j0 j1 j2 j3 j4
  have HSB := HS
  go_loopg [13, 16] n (fun gk v i wr => v = .slice none 0 0 ∧ ∃ q : Nat, q + gk = n ∧ i = .int .i64 (q : Int) ∧ Hid (Below W1.heap.size W1 wr))
  case atStart => exact ⟨rfl, 0, by omega, rfl, Lib.hid (Below.refl _ _)⟩
  case round =>
    obtain ⟨rfl, q, hq, rfl, HBq⟩ := hrel
    obtain ⟨j0, j1, j2, j3, j4, _⟩ := job_cells (HSB.out.step HBq.out).2
    by_cases hlt : q < n
    · go_wp2
      go_roundg (gk - 1)
      case measure => omega
      case rel => exact ⟨rfl, q + 1, by omega, by go_num, HBq⟩
    · go_wp2
      go_ret
      exact ⟨_, rfl, Lib.hid (by rw [HSM.out]; exact (MOwn.none_ W1 w.heap.size).below HBq.out), Lib.hid (step_below HSB.out.1 HSB.out.1.size HBq.out)⟩
set_option maxRecDepth 100000 in
set_option maxHeartbeats 4000000 in
theorem rsend_no (k st so dm ep v x : Int) (ch : Bool) (A C : Option Addr) (c d : Nat) (L M : List Ed) (w : World) (hL : EAt w A L) (_hM : EAt w C M) (hl : L.length ≤ 1000) (_hm : M.length ≤ 1000) (_hx0 : -9223372036854775808 ≤ x) (_hx1 : x ≤ 9223372036854775807) (h1 : ¬ k = 1) (h2 : ¬ k = 2) (h3 : ¬ k = 3) :
    Calls Try.prog 20 #[.agg #[.int .u8 k, .int .i64 st, .int .i64 so, .int .i64 dm, .int .i64 ep], .int .i64 v, .int .i64 x, .bool ch, .slice A L.length c, .slice C M.length d] w fun e w' => ∃ r, e = .returned r ∧ Hid (MOwn w' w.heap.size r (sendM (k) v x ch L M)) ∧ Hid (Below w.heap.size w w') := by
  have HSM : Hid (sendM k v x ch L M = []) := Lib.hid (sendM_no k v x ch L M h1 h2 h3)
  obtain ⟨W1, hW1⟩ : ∃ W1, W1 = w.alloc (.cells #[.int .u8 k, .int .i64 st, .int .i64 so, .int .i64 dm, .int .i64 ep] 26) := ⟨_, rfl⟩
  have hb1 : Below w.heap.size w W1 := by rw [hW1]; exact (Below.refl _ w).alloc (Nat.le_refl _) _
  have x0 : W1.heap[w.heap.size]? = some (.cells #[.int .u8 k, .int .i64 st, .int .i64 so, .int .i64 dm, .int .i64 ep] 26 (0, 0)) := by rw [hW1]; exact heap_alloc_new w _
  obtain ⟨b, e0⟩ : ∃ b, b = w.heap.size := ⟨_, rfl⟩
  rw [← e0] at x0
  have HS : Hid (Sn w b (k) st so dm ep W1) := Lib.hid ⟨hb1, x0⟩
  have HL := Lib.hid hL
  obtain ⟨n, hn⟩ : ∃ n, n = L.length := ⟨_, rfl⟩
  obtain ⟨m, hmm⟩ : ∃ m, m = M.length := ⟨_, rfl⟩
  rw [← hn] at hl ⊢
  have HNL := Lib.hid hn
  obtain ⟨j0, j1, j2, j3, j4, _⟩ := job_cells x0
  have g1 : (k == 1) = false := by simp [h1]
  have g2 : (k == 2) = false := by simp [h2]
  have g3 : (k == 3) = false := by simp [h3]
  go_enter Try.func20, Try.ntmps20
  go_upto_region 1 with fail
  rw [← hW1, show w.heap.size = b from e0.symm]
  clear hW1 e0 hb1 x0 hn
  go_wp2_with fail
  clear j0 j1 j2 j3 j4
  have HSB := HS
  go_loopg [13, 16] n (fun gk v i wr => v = .slice none 0 0 ∧ ∃ q : Nat, q + gk = n ∧ i = .int .i64 (q : Int) ∧ Hid (Below W1.heap.size W1 wr))
  case atStart => exact ⟨rfl, 0, by omega, rfl, Lib.hid (Below.refl _ _)⟩
  case round =>
    obtain ⟨rfl, q, hq, rfl, HBq⟩ := hrel
    obtain ⟨j0, j1, j2, j3, j4, _⟩ := job_cells (HSB.out.step HBq.out).2
    by_cases hlt : q < n
    · go_wp2
      go_roundg (gk - 1)
      case measure => omega
      case rel => exact ⟨rfl, q + 1, by omega, by go_num, HBq⟩
    · go_wp2
      go_ret
      exact ⟨_, rfl, Lib.hid (by rw [HSM.out]; exact (MOwn.none_ W1 w.heap.size).below HBq.out), Lib.hid (step_below HSB.out.1 HSB.out.1.size HBq.out)⟩
theorem near_up (v : Int) (L M : List Ed) : Up (nearL v L M) := putAll_up _ _ (by simp [Up])
theorem sendM_near (v x : Int) (L M : List Ed) : sendM 2 v x true L M = sentL x (nearL v L M) := by
  rw [sendM_two, if_pos rfl, putM_up 2 _ [] (by simpa using sentL_up x (near_up v L M))]; rfl
set_option maxRecDepth 100000 in
set_option maxHeartbeats 4000000 in
theorem rsend_2 (st so dm ep v x : Int) (A C : Option Addr) (c d : Nat) (L M : List Ed) (w : World) (hL : EAt w A L) (hM : EAt w C M) (hl : L.length ≤ 1000) (hm : M.length ≤ 1000) (_hx0 : -9223372036854775808 ≤ x) (_hx1 : x ≤ 9223372036854775807) :
    Calls Try.prog 20 #[.agg #[.int .u8 2, .int .i64 st, .int .i64 so, .int .i64 dm, .int .i64 ep], .int .i64 v, .int .i64 x, .bool true, .slice A L.length c, .slice C M.length d] w fun e w' => ∃ r, e = .returned r ∧ Hid (MOwn w' w.heap.size r (sendM (2) v x true L M)) ∧ Hid (Below w.heap.size w w') := by
  have HSM : Hid (sendM 2 v x true L M = sentL x (nearL v L M)) := Lib.hid (sendM_near v x L M)
  obtain ⟨W1, hW1⟩ : ∃ W1, W1 = w.alloc (.cells #[.int .u8 2, .int .i64 st, .int .i64 so, .int .i64 dm, .int .i64 ep] 26) := ⟨_, rfl⟩
  have hb1 : Below w.heap.size w W1 := by rw [hW1]; exact (Below.refl _ w).alloc (Nat.le_refl _) _
  have x0 : W1.heap[w.heap.size]? = some (.cells #[.int .u8 2, .int .i64 st, .int .i64 so, .int .i64 dm, .int .i64 ep] 26 (0, 0)) := by rw [hW1]; exact heap_alloc_new w _
  obtain ⟨b, e0⟩ : ∃ b, b = w.heap.size := ⟨_, rfl⟩
  rw [← e0] at x0
  have HS : Hid (Sn w b (2) st so dm ep W1) := Lib.hid ⟨hb1, x0⟩
  have HL := Lib.hid hL
  obtain ⟨n, hn⟩ : ∃ n, n = L.length := ⟨_, rfl⟩
  obtain ⟨m, hmm⟩ : ∃ m, m = M.length := ⟨_, rfl⟩
  rw [← hn] at hl ⊢
  have HNL := Lib.hid hn
  obtain ⟨j0, j1, j2, j3, j4, _⟩ := job_cells x0
  have HN := Lib.hid (rnear_any v A C c d L M W1 (hL.below hb1) (hM.below hb1) (by omega) (by omega))
  rw [← hn] at HN
  go_enter Try.func20, Try.ntmps20
  go_upto_region 1 with fail
  rw [← hW1, show w.heap.size = b from e0.symm]
  clear hW1 e0 hb1 x0 hn
  go_wp2_with fail
  clear j0 j1 j2 j3 j4
  refine HN.out.mono ?_
  rintro e w2 ⟨r, rfl, HR, HB2⟩
  obtain ⟨N, hN⟩ : ∃ N, N = nearL v L M := ⟨_, rfl⟩
  rw [← hN] at HR HSM
  obtain ⟨A2, c2, rfl, hat⟩ := HR.out.form
  have HS2 := Lib.hid (HS.out.step HB2.out)
  obtain ⟨nn, hnn⟩ : ∃ nn, nn = N.length := ⟨_, rfl⟩
  have hn2 : nn ≤ 2000 := by
    have := near_length v L M
    rw [hnn, hN]; have := HNL.out; omega
  rw [← hnn]
  have HNN := Lib.hid hnn; have HAT := Lib.hid hat
  clear hN hnn hat HR HB2 HN
  go_wp2_with fail
  go_loopg [13, 15] nn (fun gk v i wr => SdRel w2 (sentL x N) nn gk v i wr)
  case atStart => exact ⟨0, by omega, rfl, Lib.hid (MOwn.none_ _ _), Lib.hid (Below.refl _ _)⟩
  case round =>
    obtain ⟨q, hq, rfl, HO, HBq⟩ := hrel
    by_cases hlt : q < nn
    · obtain ⟨u, hu⟩ := at_lt N q (by rw [← HNN.out]; exact hlt)
      obtain ⟨bk, o, rfl, c0⟩ := (HAT.out.below HBq.out) q u hu
      have hm1 : (sentL x N)[q]? = some (u, x) := by unfold sentL; rw [List.getElem?_map, hu]; rfl
      have HM1 := Lib.hid (take_at hm1)
      have hlen : ((sentL x N).take q).length < 1000000000 := by simp; omega
      have HO1 := Lib.hid (HO.out.alloc (.cells #[.int .i64 u, .int .i64 x] 44))
      have HN1 := Lib.hid (msg_new wr u x)
      have HB1 := Lib.hid (HBq.out.alloc HBq.out.size (.cells #[.int .i64 u, .int .i64 x] 44))
      have HLEN := Lib.hid hlen
      clear hu hm1 hlen
      go_wp2_with (at_builtin; refine app_m rfl (.tmp 33) (.tmp 40) rfl w2.heap.size _ ((sentL x N).take q) u x rfl HO1.out _ rfl HN1.out HLEN.out HB1.out.size ?_)
      intro v3 w3 ho3 hg3
      have HB4 := Lib.hid (grown_own HB1.out HB1.out.size HO1.out hg3)
      have HO3 := Lib.hid ho3
      clear ho3 hg3
      go_wp2
      go_roundg (gk - 1)
      case measure => omega
      case rel => exact ⟨q + 1, by omega, by go_num, Lib.hid (by rw [HM1.out]; exact HO3.out), HB4⟩
    · have HE : Hid ((sentL x N).take q = sentL x N) := Lib.hid (List.take_of_length_le (by unfold sentL; rw [List.length_map, ← HNN.out]; omega))
      obtain ⟨G, rfl⟩ : ∃ G : Nat, G = gk := ⟨_, rfl⟩
      obtain ⟨wo, rfl⟩ : ∃ wo : World, wo = wr := ⟨_, rfl⟩
      have HSB := Lib.hid (HS2.out.step HBq.out)
      have HOF : Hid (MOwn wo w.heap.size u13 (sentL x N)) := Lib.hid (by have h := HO.out; rw [HE.out] at h; exact h.mono HS2.out.1.size)
      clear HE HO
      go_wp2_with fail
      go_loopg [13, 16] n (fun gk v i wr => v = u13 ∧ ∃ q : Nat, q + gk = n ∧ i = .int .i64 (q : Int) ∧ Hid (Below wo.heap.size wo wr))
      case atStart => exact ⟨rfl, 0, by omega, rfl, Lib.hid (Below.refl _ _)⟩
      case round =>
        obtain ⟨rfl, q, hq, rfl, HBq⟩ := hrel
        obtain ⟨j0, j1, j2, j3, j4, _⟩ := job_cells (HSB.out.step HBq.out).2
        by_cases hlt : q < n
        · go_wp2
          go_roundg (gk - 1)
          case measure => omega
          case rel => exact ⟨rfl, q + 1, by omega, by go_num, HBq⟩
        · go_wp2
          go_ret
          exact ⟨_, rfl, Lib.hid (by rw [HSM.out]; exact (HOF.out).below HBq.out), Lib.hid (step_below HSB.out.1 HSB.out.1.size HBq.out)⟩
theorem rsend_any (k st so dm ep v x : Int) (ch : Bool) (A C : Option Addr) (c d : Nat) (L M : List Ed) (w : World) (hL : EAt w A L) (hM : EAt w C M) (hl : L.length ≤ 1000) (hm : M.length ≤ 1000) (hx0 : -9223372036854775808 ≤ x) (hx1 : x ≤ 9223372036854775807) :
    Calls Try.prog 20 #[.agg #[.int .u8 k, .int .i64 st, .int .i64 so, .int .i64 dm, .int .i64 ep], .int .i64 v, .int .i64 x, .bool ch, .slice A L.length c, .slice C M.length d] w fun e w' => ∃ r, e = .returned r ∧ Hid (MOwn w' w.heap.size r (sendM k v x ch L M)) ∧ Hid (Below w.heap.size w w') := by
  by_cases h1 : k = 1
  · subst h1; exact rsend_1 st so dm ep v x ch A C c d L M w hL hM hl hm hx0 hx1
  · by_cases h2 : k = 2
    · subst h2
      cases ch
      · exact rsend_f2 st so dm ep v x A C c d L M w hL hM hl hm hx0 hx1
      · exact rsend_2 st so dm ep v x A C c d L M w hL hM hl hm hx0 hx1
    · by_cases h3 : k = 3
      · subst h3
        cases ch
        · exact rsend_f3 st so dm ep v x A C c d L M w hL hM hl hm hx0 hx1
        · exact rsend_3 st so dm ep v x A C c d L M w hL hM hl hm hx0 hx1
      · exact rsend_no k st so dm ep v x ch A C c d L M w hL hM hl hm hx0 hx1 h1 h2 h3

end Go.Proofs.Ytobmkhbkcmdhbaa.Al
