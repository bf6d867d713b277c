/-
  What is proved here: a contract of the document's own Add: a row of messages, rising, with one more. Conditions: the row is one that the call has made, of fewer than 1000000 messages.
-/
import Derived.Test.YtbbmgandkmlojaaGreatAlR1
namespace Go.Proofs.YtbbmgandkmlojaaGreat.Al
open Go.RowKit Go.Sort Gr Wd Ws Fx Rk Lb

theorem job_cells {W : World} {b : Nat} {k st so dm ep : Int} (h : W.heap[b]? = some (.cells #[.int .u8 k, .int .i64 st, .int .i64 so, .int .i64 dm, .int .i64 ep] 26 (0, 0))) : W.cell? ⟨b, 0, none⟩ = some (.int .u8 k) ∧ W.cell? ⟨b, 1, none⟩ = some (.int .i64 st) ∧ W.cell? ⟨b, 2, none⟩ = some (.int .i64 so) ∧ W.cell? ⟨b, 3, none⟩ = some (.int .i64 dm) ∧ W.cell? ⟨b, 4, none⟩ = some (.int .i64 ep) ∧ b < W.heap.size :=
  ⟨by rw [Lib.cell_of_heap h]; rfl, by rw [Lib.cell_of_heap h]; rfl, by rw [Lib.cell_of_heap h]; rfl, by rw [Lib.cell_of_heap h]; rfl, by rw [Lib.cell_of_heap h]; rfl, lt_of_block h⟩
theorem rcomb_y (k st so dm ep a b y : Int) (hy : Hid (comb k a b = y)) (w : World) : Calls Tryz.prog 101 #[.agg #[.int .u8 k, .int .i64 st, .int .i64 so, .int .i64 dm, .int .i64 ep], .int .i64 a, .int .i64 b] w fun e w' => e = .returned (.int .i64 y) ∧ w' = w.alloc (.cells #[.int .u8 k, .int .i64 st, .int .i64 so, .int .i64 dm, .int .i64 ep] 26) := by
  rw [← hy.out]; exact rcomb_x k st so dm ep a b w
def AdRel (w : World) (l : List Ms) (t : Int) (n : Nat) (gk : Nat) (i : Value) (wr : World) : Prop :=
  ∃ q : Nat, q + gk = n ∧ i = .int .i64 (q : Int) ∧ Hid (Low l t q) ∧ Hid (Below w.heap.size w wr)
set_option maxRecDepth 100000 in
set_option maxHeartbeats 4000000 in
theorem radd_any (k st so dm ep : Int) (v : Value) (l : List Ms) (B : Nat) (t y : Int) (w : World) (h : MOwn w B v l) (hB : B ≤ w.heap.size) (hlen : l.length < 1000000) :
    Calls Tryz.prog 85 #[.agg #[.int .u8 k, .int .i64 st, .int .i64 so, .int .i64 dm, .int .i64 ep], v, .agg #[.int .i64 t, .int .i64 y]] w fun e w' => ∃ r, e = .returned r ∧ Hid (MOwn w' B r (insM k l (t, y))) ∧ Hid (Below w.heap.size w w') := by
  have mixed := mixedO
  obtain ⟨A, c, rfl, hat, hc, hcm, hA⟩ := h.room
  have hcm2 : c ≤ 9223372036854775807 := by unfold maxLen at hcm; omega
  obtain ⟨W1, hW1⟩ : ∃ W1, W1 = (w.alloc (.cells #[.int .u8 k, .int .i64 st, .int .i64 so, .int .i64 dm, .int .i64 ep] 26)).alloc (.cells #[.int .i64 t, .int .i64 y] 126) := ⟨_, rfl⟩
  have hb0 : Below w.heap.size w (w.alloc (.cells #[.int .u8 k, .int .i64 st, .int .i64 so, .int .i64 dm, .int .i64 ep] 26)) := (Below.refl _ w).alloc (Nat.le_refl _) _
  have hb1 : Below w.heap.size w W1 := by rw [hW1]; exact hb0.alloc hb0.size _
  have hX1 : W1.heap[w.heap.size]? = some (.cells #[.int .u8 k, .int .i64 st, .int .i64 so, .int .i64 dm, .int .i64 ep] 26 (0, 0)) := by
    rw [hW1]
    have e1 : (w.alloc (.cells #[.int .u8 k, .int .i64 st, .int .i64 so, .int .i64 dm, .int .i64 ep] 26)).heap[w.heap.size]? = some (.cells #[.int .u8 k, .int .i64 st, .int .i64 so, .int .i64 dm, .int .i64 ep] 26 (0, 0)) := heap_alloc_new w _
    exact ((((Below.refl _ (w.alloc (.cells #[.int .u8 k, .int .i64 st, .int .i64 so, .int .i64 dm, .int .i64 ep] 26))).alloc (Nat.le_refl _) (.cells #[.int .i64 t, .int .i64 y] 126))).block _ (lt_of_block e1)).trans e1
  have hY1 : W1.heap[w.heap.size + 1]? = some (.cells #[.int .i64 t, .int .i64 y] 126 (0, 0)) := by
    rw [hW1]
    have := msg_new (w.alloc (.cells #[.int .u8 k, .int .i64 st, .int .i64 so, .int .i64 dm, .int .i64 ep] 26)) t y
    rw [show (w.alloc (.cells #[.int .u8 k, .int .i64 st, .int .i64 so, .int .i64 dm, .int .i64 ep] 26)).heap.size = w.heap.size + 1 by simp] at this
    exact this
  obtain ⟨bj, hbj⟩ : ∃ bj, bj = w.heap.size := ⟨_, rfl⟩
  obtain ⟨bm, hbm⟩ : ∃ bm, bm = w.heap.size + 1 := ⟨_, rfl⟩
  rw [← hbj] at hX1
  rw [← hbm] at hY1
  have HB1 := Lib.hid hb1; have HX1 := Lib.hid hX1; have HY1 := Lib.hid hY1
  have HAt := Lib.hid (hat.below hb1); have HA := Lib.hid hA; have HAw := Lib.hid hat
  obtain ⟨n, hn⟩ : ∃ n, n = l.length := ⟨_, rfl⟩
  rw [← hn] at hc hlen ⊢
  have HN := Lib.hid hn
  have HO := Lib.hid (h.mono (Nat.le_refl B))
  clear hb0 hb1 hX1 hY1 hat hA hcm h hn
  go_enter Tryz.func85, Tryz.ntmps85
  go_upto_region 1 with fail
  rw [← hW1]
  rw [show w.heap.size + 1 = bm from hbm.symm]
  rw [show w.heap.size = bj from hbj.symm]
  have HBJ := Lib.hid hbj; have HBM := Lib.hid hbm
  clear hW1 hbj hbm
  go_wp2_with fail
  go_loopg [7] n (fun gk i wr => AdRel W1 l t n gk i wr)
  case atStart => exact ⟨0, by omega, rfl, Lib.hid (fun j x hj => absurd hj (Nat.not_lt_zero j)), Lib.hid (Below.refl _ _)⟩
  case round =>
    obtain ⟨q, hq, rfl, HLo, HBq⟩ := hrel
    have HXr : Hid (wr.heap[bj]? = some (.cells #[.int .u8 k, .int .i64 st, .int .i64 so, .int .i64 dm, .int .i64 ep] 26 (0, 0))) := Lib.hid ((HBq.out.block _ (lt_of_block HX1.out)).trans HX1.out)
    have HYr : Hid (wr.heap[bm]? = some (.cells #[.int .i64 t, .int .i64 y] 126 (0, 0))) := Lib.hid ((HBq.out.block _ (lt_of_block HY1.out)).trans HY1.out)
    have HBr : Hid (Below w.heap.size w wr) := Lib.hid (step_below HB1.out HB1.out.size HBq.out)
    have HAr : Hid (MAt wr A l) := Lib.hid (HAt.out.below HBq.out)
    obtain ⟨p0, p1, p2⟩ := msg_cells HYr.out
    have hlk : (l.take q).length = q := by rw [List.length_take, ← HN.out]; omega
    have HLK := Lib.hid hlk
    clear hlk
    have HS1 : Hid (([] : List Ms).length + q < 1000000000) := Lib.hid (by show 0 + q < _; omega)
    by_cases hlt : q < n
    · obtain ⟨⟨z1, z2⟩, hz⟩ := at_lt l q (by rw [← HN.out]; exact hlt)
      obtain ⟨bk, o, hA0, c0, c1⟩ := HAr.out q _ hz
      obtain ⟨g, hg⟩ : ∃ g, A = some ⟨g, 0, none⟩ := by
        rcases HA.out with ⟨h, _⟩ | ⟨g', h, _⟩
        · rw [h] at hA0; cases hA0
        · exact ⟨g', h⟩
      subst hg
      cases hA0
      rw [Nat.zero_add] at c0 c1
      have HZ := Lib.hid hz
      clear hz
      by_cases hzt : z1 < t
      · have HL2 := Lib.hid (HLo.out.step HZ.out hzt)
        clear c1 p1
        go_wp2_with fail
        go_big_region
        go_wp2
        go_roundg (gk - 1)
        case measure => omega
        case rel => exact ⟨q + 1, by omega, by go_num, HL2, Lib.hid HBq.out.drew⟩
      · have hat1 := HAr.out.take q
        have hqc : q < c := by omega
        by_cases hze : z1 = t
        · have HI := Lib.hid (low_eq (k := k) (y := y) HLo.out HZ.out hze)
          subst hze
          obtain ⟨yy, hyy⟩ : ∃ yy, comb k z2 y = yy := ⟨_, rfl⟩
          have HYY := Lib.hid hyy
          rw [show comb k (z1, z2).2 y = yy from hyy] at HI
          clear hyy
          have HBd : Hid (Below w.heap.size w wr.drew) := Lib.hid HBr.out.drew
          have hatd : MAt wr.drew (some ⟨bk, 0, none⟩) (l.take q) := hat1
          go_wp2_with fail
          go_big_region
          go_wp2_with (at_builtin; refine app_mrest rfl (.tmp 25) (.tmp 28) rfl w.heap.size _ [] (l.take q) rfl (MOwn.none_ _ _) _ _ _ rfl hatd HLK.out HS1.out HBd.out.size ?_)
          intro v3 w3 ho3 hg3
          have hb3 : Below w.heap.size w w3 := grown_own HBd.out HBd.out.size (MOwn.none_ _ w.heap.size) hg3
          have hb3' : Below wr.heap.size wr w3 := Below.grown (Below.refl _ wr).drew hg3 (Nat.le_refl _) (fun j e => by cases e)
          obtain ⟨A3, c3, hv3, _⟩ := ho3.room
          have hv4 := hv3.trans (congrArg (fun z => Value.slice A3 z c3) (show (l.take q).length = q from HLK.out))
          subst hv4
          clear hv3
          have HO3 : Hid (MOwn w3 w.heap.size (.slice A3 q c3) (l.take q)) := Lib.hid ho3
          have hx3 := (hb3'.block _ (lt_of_block HXr.out)).trans HXr.out
          have HY3 : Hid (w3.heap[bm]? = some (.cells #[.int .i64 z1, .int .i64 y] 126 (0, 0))) := Lib.hid ((hb3'.block _ (lt_of_block HYr.out)).trans HYr.out)
          have HA3 : Hid (MAt w3 (some ⟨bk, 0, none⟩) l) := Lib.hid (HAr.out.below hb3')
          have HB3 := Lib.hid hb3
          have HX3 := Lib.hid hx3
          clear ho3 hg3 hb3 hb3' hx3 p0 p1 p2
          obtain ⟨p0, p1, p2⟩ := msg_cells HY3.out
          obtain ⟨_, _, e0, c0, c1⟩ := HA3.out q _ HZ.out
          cases e0
          rw [Nat.zero_add] at c0 c1
          go_wp2_with fail
          go_big_region
          obtain ⟨W4, hW4⟩ : ∃ W4, W4 = w3.drew := ⟨_, rfl⟩
          rw [show W4 = w3.drew from hW4] at *
          clear hW4 W4
          have q0 : (w3.drew.drew.alloc (.cells #[.int .u8 k, .int .i64 st, .int .i64 so, .int .i64 dm, .int .i64 ep] 26)).cell? ⟨bm, 0, none⟩ = some (.int .i64 z1) := by
            have hb := (((Below.refl _ w3).drew).drew).alloc (Nat.le_refl _) (.cells #[.int .u8 k, .int .i64 st, .int .i64 so, .int .i64 dm, .int .i64 ep] 26)
            exact (hb.cell (p := ⟨bm, 0, none⟩) p2).trans p0
          obtain ⟨j0, j1, j2, j3, j4, _⟩ := job_cells HX3.out
          have hb4 : Below w.heap.size w (w3.drew.drew.alloc (.cells #[.int .u8 k, .int .i64 st, .int .i64 so, .int .i64 dm, .int .i64 ep] 26)) := (((HB3.out.drew).drew).alloc HB3.out.size _)
          have HO4 : Hid (MOwn ((w3.drew.drew.alloc (.cells #[.int .u8 k, .int .i64 st, .int .i64 so, .int .i64 dm, .int .i64 ep] 26)).alloc (.cells #[.int .i64 z1, .int .i64 yy] 126)) w.heap.size (.slice A3 q c3) (l.take q)) := Lib.hid ((HO3.out.alloc _).alloc _)
          have HN4 := Lib.hid (mat_new (w3.drew.drew.alloc (.cells #[.int .u8 k, .int .i64 st, .int .i64 so, .int .i64 dm, .int .i64 ep] 26)) z1 yy)
          have HB4 := Lib.hid (hb4.alloc hb4.size (.cells #[.int .i64 z1, .int .i64 yy] 126))
          have HLN : Hid ((l.take q).length < 1000000000) := Lib.hid (by rw [HLK.out]; omega)
          clear hb4
          go_wp2_with fail
          go_region_law (first | (refine step_m rfl (.tmp 44) (.tmp 57) rfl w.heap.size _ (l.take q) [(z1, yy)] 1 rfl (by simp [Act.eval]) HO4.out _ 1 (by simp [Act.eval]) HN4.out HLN.out HB4.out.size ?_; intro A6 n6 c6 w6 ho6 hg6; have HB6 := Lib.hid (grown_own HB4.out HB4.out.size HO4.out hg6); have HO6 := Lib.hid ho6; clear ho6 hg6) | (go_simp; go_at_call 101; refine (rcomb_y k st so dm ep z2 y yy HYY _).mono ?_; rintro _ _ ⟨rfl, rfl⟩))
          all_goals
            clear q0 p0 p1 p2 j0 j1 j2 j3 j4 c0 c1
            have hld : (l.drop (q + 1)).length = n - (q + 1) := by rw [List.length_drop, ← HN.out]
            have hs3 : (l.take q ++ [(z1, yy)]).length + (n - (q + 1)) < 1000000000 := by rw [List.length_append, HLK.out]; simp; omega
            have HLD := Lib.hid hld; have HS3 := Lib.hid hs3
            clear hld hs3
            by_cases hqc1 : q + 1 < c
            · have hat6 := (HAw.out.below HB6.out).drop (q + 1)
              rw [Nat.zero_add] at hat6
              go_wp2_with (at_builtin; refine app_mrest rfl (.tmp 59) (.tmp 63) rfl w.heap.size _ (l.take q ++ [(z1, yy)]) (l.drop (q + 1)) rfl HO6.out _ _ _ rfl hat6 HLD.out HS3.out HB6.out.size ?_)
              intro v7 w7 ho7 hg7
              have HB7 := Lib.hid (grown_own HB6.out HB6.out.size HO6.out hg7)
              have HO7 : Hid (MOwn w7 B v7 (l.take q ++ (z1, yy) :: l.drop (q + 1))) := Lib.hid (by have h := MOwn.mono ho7 hB; simpa using h)
              clear ho7 hg7 hat6
              go_wp2
              go_ret
              exact ⟨_, rfl, by rw [HI.out]; exact HO7, HB7⟩
            · have HE : Hid (l.drop (q + 1) = []) := Lib.hid (List.drop_eq_nil_of_le (by rw [← HN.out]; omega))
              have hc1 : q + 1 = c := by omega
              have hn1 : n = q + 1 := by omega
              subst hc1
              have hat6 := MAt.nil w6 (some ⟨bk, 0, none⟩)
              have hs4 : (l.take q ++ [(z1, yy)]).length + 0 < 1000000000 := by have := HS3.out; omega
              have HS4 := Lib.hid hs4
              clear hs4
              subst hn1
              go_wp2_with (at_builtin; refine app_mrest rfl (.tmp 59) (.tmp 63) rfl w.heap.size _ (l.take q ++ [(z1, yy)]) [] rfl HO6.out _ _ _ rfl hat6 rfl HS4.out HB6.out.size ?_)
              intro v7 w7 ho7 hg7
              have HB7 := Lib.hid (grown_own HB6.out HB6.out.size HO6.out hg7)
              have HO7 : Hid (MOwn w7 B v7 (l.take q ++ (z1, yy) :: l.drop (q + 1))) := Lib.hid (by have h := MOwn.mono ho7 hB; rw [HE.out]; simpa using h)
              clear ho7 hg7 hat6
              go_wp2
              go_ret
              exact ⟨_, rfl, by rw [HI.out]; exact HO7, HB7⟩
        · have HI := Lib.hid (low_gap (k := k) (y := y) HLo.out (fun x hx => by rw [HZ.out] at hx; cases hx; show t < z1; omega))
          have HBd : Hid (Below w.heap.size w wr.drew) := Lib.hid HBr.out.drew
          have hatd : MAt wr.drew (some ⟨bk, 0, none⟩) (l.take q) := hat1
          clear c1
          go_wp2_with fail
          go_big_region
          go_wp2_with (at_builtin; refine app_mrest rfl (.tmp 25) (.tmp 28) rfl w.heap.size _ [] (l.take q) rfl (MOwn.none_ _ _) _ _ _ rfl hatd HLK.out HS1.out HBd.out.size ?_)
          intro v3 w3 ho3 hg3
          have hb3 : Below w.heap.size w w3 := grown_own HBd.out HBd.out.size (MOwn.none_ _ w.heap.size) hg3
          have hb3' : Below wr.heap.size wr w3 := Below.grown (Below.refl _ wr).drew hg3 (Nat.le_refl _) (fun j e => by cases e)
          obtain ⟨A3, c3, hv3, _⟩ := ho3.room
          have hv4 := hv3.trans (congrArg (fun z => Value.slice A3 z c3) (show (l.take q).length = q from HLK.out))
          subst hv4
          clear hv3
          have HO3 : Hid (MOwn w3 w.heap.size (.slice A3 q c3) (l.take q)) := Lib.hid ho3
          have hx3 := (hb3'.block _ (lt_of_block HXr.out)).trans HXr.out
          have HY3 : Hid (w3.heap[bm]? = some (.cells #[.int .i64 t, .int .i64 y] 126 (0, 0))) := Lib.hid ((hb3'.block _ (lt_of_block HYr.out)).trans HYr.out)
          have HA3 : Hid (MAt w3 (some ⟨bk, 0, none⟩) l) := Lib.hid (HAr.out.below hb3')
          have HB3 := Lib.hid hb3
          have HX3 := Lib.hid hx3
          clear ho3 hg3 hb3 hb3' hx3 p0 p1 p2
          obtain ⟨p0, p1, p2⟩ := msg_cells HY3.out
          obtain ⟨_, _, e0, c0, c1⟩ := HA3.out q _ HZ.out
          cases e0
          rw [Nat.zero_add] at c0 c1
          clear c1
          have HO4 : Hid (MOwn (w3.alloc (.cells #[.int .i64 t, .int .i64 y] 126)).drew w.heap.size (.slice A3 q c3) (l.take q)) := Lib.hid (HO3.out.alloc _)
          have HN4 : Hid ((w3.alloc (.cells #[.int .i64 t, .int .i64 y] 126)).drew.heap[w3.heap.size]? = some (.cells #[.int .i64 t, .int .i64 y] 126 (0, 0))) := Lib.hid (msg_new w3 t y)
          have HB4 : Hid (Below w.heap.size w (w3.alloc (.cells #[.int .i64 t, .int .i64 y] 126)).drew) := Lib.hid (HB3.out.alloc HB3.out.size _).drew
          have HLN : Hid ((l.take q).length < 1000000000) := Lib.hid (by rw [HLK.out]; omega)
          go_wp2_with fail
          go_big_region
          go_wp2_with (at_builtin; refine app_m rfl (.tmp 65) (.tmp 67) rfl w.heap.size _ (l.take q) t y rfl HO4.out _ rfl HN4.out HLN.out HB4.out.size ?_)
          intro v5 w5 ho5 hg5
          have HB5 := Lib.hid (grown_own HB4.out HB4.out.size HO4.out hg5)
          have HO5 : Hid (MOwn w5 w.heap.size v5 (l.take q ++ [(t, y)])) := Lib.hid ho5
          clear ho5 hg5
          have hld : (l.drop q).length = n - q := by rw [List.length_drop, ← HN.out]
          have hs3 : (l.take q ++ [(t, y)]).length + (n - q) < 1000000000 := by rw [List.length_append, HLK.out]; simp; omega
          have HLD := Lib.hid hld; have HS3 := Lib.hid hs3
          clear hld hs3 c0
          have hat6 := (by have h := (HAw.out.below HB5.out).drop q; rw [Nat.zero_add] at h; exact h : MAt w5 (some ⟨bk, q * 2, none⟩) (l.drop q))
          go_wp2_with (at_builtin; refine app_mrest rfl (.tmp 69) (.tmp 72) rfl w.heap.size _ (l.take q ++ [(t, y)]) (l.drop q) rfl HO5.out _ _ _ rfl hat6 HLD.out HS3.out HB5.out.size ?_)
          intro v7 w7 ho7 hg7
          have HB7 := Lib.hid (grown_own HB5.out HB5.out.size HO5.out hg7)
          have HO7 : Hid (MOwn w7 B v7 (insM k l (t, y))) := Lib.hid (by have h := MOwn.mono ho7 hB; rw [HI.out]; simpa using h)
          clear ho7 hg7 hat6
          go_wp2
          go_ret
          exact ⟨_, rfl, HO7, HB7⟩
    · have hqn : q = n := by omega
      have HI0 := low_gap (k := k) (y := y) HLo.out (fun x hx => by have := lt_at hx; rw [← HN.out] at this; omega)
      rw [hqn, HN.out, List.take_length, List.drop_length] at HI0
      have HI : Hid (insM k l (t, y) = l ++ [(t, y)]) := Lib.hid HI0
      have HLL : Hid (l.length = q) := Lib.hid (by rw [← HN.out, hqn])
      have HBd : Hid (Below w.heap.size w wr.drew) := Lib.hid HBr.out.drew
      clear HI0 hq hlt
      subst hqn
      rcases HA.out with ⟨rfl, rfl⟩ | ⟨g, rfl, _⟩
      · have hq0 : q = 0 := by omega
        subst hq0
        have hl0 : l = [] := List.eq_nil_of_length_eq_zero HLL.out
        subst hl0
        go_wp2_with fail
        go_big_region
        go_wp2_with (at_builtin; refine app_mrest rfl (.tmp 25) (.tmp 28) rfl w.heap.size _ [] (([] : List Ms)) rfl (MOwn.none_ _ _) _ _ _ rfl (MAt.nil wr.drew none) (show ([] : List Ms).length = 0 from rfl) HS1.out HBd.out.size ?_)
        intro v3 w3 ho3 hg3
        have hb3 : Below w.heap.size w w3 := grown_own HBd.out HBd.out.size (MOwn.none_ _ w.heap.size) hg3
        have hb3' : Below wr.heap.size wr w3 := Below.grown (Below.refl _ wr).drew hg3 (Nat.le_refl _) (fun j e => by cases e)
        obtain ⟨A3, c3, hv3, _⟩ := ho3.room
        have hv4 := hv3.trans (congrArg (fun z => Value.slice A3 z c3) (show (([] : List Ms)).length = 0 from (show ([] : List Ms).length = 0 from rfl)))
        subst hv4
        clear hv3
        have HO3 : Hid (MOwn w3 w.heap.size (.slice A3 0 c3) (([] : List Ms))) := Lib.hid ho3
        have hx3 := (hb3'.block _ (lt_of_block HXr.out)).trans HXr.out
        have HY3 : Hid (w3.heap[bm]? = some (.cells #[.int .i64 t, .int .i64 y] 126 (0, 0))) := Lib.hid ((hb3'.block _ (lt_of_block HYr.out)).trans HYr.out)
        have HA3 : Hid (MAt w3 none ([] : List Ms)) := Lib.hid (HAr.out.below hb3')
        have HB3 := Lib.hid hb3
        have HX3 := Lib.hid hx3
        clear ho3 hg3 hb3 hb3' hx3 p0 p1 p2
        obtain ⟨p0, p1, p2⟩ := msg_cells HY3.out
        have HO4 : Hid (MOwn (w3.alloc (.cells #[.int .i64 t, .int .i64 y] 126)).drew w.heap.size (.slice A3 0 c3) (([] : List Ms))) := Lib.hid (HO3.out.alloc _)
        have HN4 : Hid ((w3.alloc (.cells #[.int .i64 t, .int .i64 y] 126)).drew.heap[w3.heap.size]? = some (.cells #[.int .i64 t, .int .i64 y] 126 (0, 0))) := Lib.hid (msg_new w3 t y)
        have HB4 : Hid (Below w.heap.size w (w3.alloc (.cells #[.int .i64 t, .int .i64 y] 126)).drew) := Lib.hid (HB3.out.alloc HB3.out.size _).drew
        have HLN : Hid ((([] : List Ms)).length < 1000000000) := Lib.hid (by rw [(show ([] : List Ms).length = 0 from rfl)]; omega)
        go_wp2_with fail
        go_big_region
        go_wp2_with (at_builtin; refine app_m rfl (.tmp 65) (.tmp 67) rfl w.heap.size _ (([] : List Ms)) t y rfl HO4.out _ rfl HN4.out HLN.out HB4.out.size ?_)
        intro v5 w5 ho5 hg5
        have HB5 := Lib.hid (grown_own HB4.out HB4.out.size HO4.out hg5)
        have HO5 : Hid (MOwn w5 w.heap.size v5 (([] : List Ms) ++ [(t, y)])) := Lib.hid ho5
        clear ho5 hg5
        have HS3 : Hid ((([] : List Ms) ++ [(t, y)]).length + 0 < 1000000000) := Lib.hid (by simp)
        have hat6 := MAt.nil w5 none
        go_wp2_with (at_builtin; refine app_mrest rfl (.tmp 69) (.tmp 72) rfl w.heap.size _ (([] : List Ms) ++ [(t, y)]) [] rfl HO5.out _ _ _ rfl hat6 rfl HS3.out HB5.out.size ?_)
        intro v7 w7 ho7 hg7
        have HB7 := Lib.hid (grown_own HB5.out HB5.out.size HO5.out hg7)
        have HO7 : Hid (MOwn w7 B v7 (insM k ([] : List Ms) (t, y))) := Lib.hid (by have h := MOwn.mono ho7 hB; rw [HI.out]; simpa using h)
        clear ho7 hg7 hat6
        go_wp2
        go_ret
        exact ⟨_, rfl, HO7, HB7⟩
      · have hatd : MAt wr.drew (some ⟨g, 0, none⟩) l := HAr.out
        by_cases hqc : q < c
        · go_wp2_with fail
          go_big_region
          go_wp2_with (at_builtin; refine app_mrest rfl (.tmp 25) (.tmp 28) rfl w.heap.size _ [] (l) rfl (MOwn.none_ _ _) _ _ _ rfl hatd HLL.out HS1.out HBd.out.size ?_)
          intro v3 w3 ho3 hg3
          have hb3 : Below w.heap.size w w3 := grown_own HBd.out HBd.out.size (MOwn.none_ _ w.heap.size) hg3
          have hb3' : Below wr.heap.size wr w3 := Below.grown (Below.refl _ wr).drew hg3 (Nat.le_refl _) (fun j e => by cases e)
          obtain ⟨A3, c3, hv3, _⟩ := ho3.room
          have hv4 := hv3.trans (congrArg (fun z => Value.slice A3 z c3) (show (l).length = q from HLL.out))
          subst hv4
          clear hv3
          have HO3 : Hid (MOwn w3 w.heap.size (.slice A3 q c3) (l)) := Lib.hid ho3
          have hx3 := (hb3'.block _ (lt_of_block HXr.out)).trans HXr.out
          have HY3 : Hid (w3.heap[bm]? = some (.cells #[.int .i64 t, .int .i64 y] 126 (0, 0))) := Lib.hid ((hb3'.block _ (lt_of_block HYr.out)).trans HYr.out)
          have HA3 : Hid (MAt w3 (some ⟨g, 0, none⟩) l) := Lib.hid (HAr.out.below hb3')
          have HB3 := Lib.hid hb3
          have HX3 := Lib.hid hx3
          clear ho3 hg3 hb3 hb3' hx3 p0 p1 p2
          obtain ⟨p0, p1, p2⟩ := msg_cells HY3.out
          have HO4 : Hid (MOwn (w3.alloc (.cells #[.int .i64 t, .int .i64 y] 126)).drew w.heap.size (.slice A3 q c3) (l)) := Lib.hid (HO3.out.alloc _)
          have HN4 : Hid ((w3.alloc (.cells #[.int .i64 t, .int .i64 y] 126)).drew.heap[w3.heap.size]? = some (.cells #[.int .i64 t, .int .i64 y] 126 (0, 0))) := Lib.hid (msg_new w3 t y)
          have HB4 : Hid (Below w.heap.size w (w3.alloc (.cells #[.int .i64 t, .int .i64 y] 126)).drew) := Lib.hid (HB3.out.alloc HB3.out.size _).drew
          have HLN : Hid ((l).length < 1000000000) := Lib.hid (by rw [HLL.out]; omega)
          go_wp2_with fail
          go_big_region
          go_wp2_with (at_builtin; refine app_m rfl (.tmp 65) (.tmp 67) rfl w.heap.size _ (l) t y rfl HO4.out _ rfl HN4.out HLN.out HB4.out.size ?_)
          intro v5 w5 ho5 hg5
          have HB5 := Lib.hid (grown_own HB4.out HB4.out.size HO4.out hg5)
          have HO5 : Hid (MOwn w5 w.heap.size v5 (l ++ [(t, y)])) := Lib.hid ho5
          clear ho5 hg5
          have HS3 : Hid ((l ++ [(t, y)]).length + 0 < 1000000000) := Lib.hid (by rw [List.length_append, HLL.out]; simp; omega)
          have hat6 := MAt.nil w5 (some ⟨g, q * 2, none⟩)
          go_wp2_with (at_builtin; refine app_mrest rfl (.tmp 69) (.tmp 72) rfl w.heap.size _ (l ++ [(t, y)]) [] rfl HO5.out _ _ _ rfl hat6 rfl HS3.out HB5.out.size ?_)
          intro v7 w7 ho7 hg7
          have HB7 := Lib.hid (grown_own HB5.out HB5.out.size HO5.out hg7)
          have HO7 : Hid (MOwn w7 B v7 (insM k l (t, y))) := Lib.hid (by have h := MOwn.mono ho7 hB; rw [HI.out]; simpa using h)
          clear ho7 hg7 hat6
          go_wp2
          go_ret
          exact ⟨_, rfl, HO7, HB7⟩
        · have hqc2 : q = c := by omega
          subst hqc2
          go_wp2_with fail
          go_big_region
          go_wp2_with (at_builtin; refine app_mrest rfl (.tmp 25) (.tmp 28) rfl w.heap.size _ [] (l) rfl (MOwn.none_ _ _) _ _ _ rfl hatd HLL.out HS1.out HBd.out.size ?_)
          intro v3 w3 ho3 hg3
          have hb3 : Below w.heap.size w w3 := grown_own HBd.out HBd.out.size (MOwn.none_ _ w.heap.size) hg3
          have hb3' : Below wr.heap.size wr w3 := Below.grown (Below.refl _ wr).drew hg3 (Nat.le_refl _) (fun j e => by cases e)
          obtain ⟨A3, c3, hv3, _⟩ := ho3.room
          have hv4 := hv3.trans (congrArg (fun z => Value.slice A3 z c3) (show (l).length = q from HLL.out))
          subst hv4
          clear hv3
          have HO3 : Hid (MOwn w3 w.heap.size (.slice A3 q c3) (l)) := Lib.hid ho3
          have hx3 := (hb3'.block _ (lt_of_block HXr.out)).trans HXr.out
          have HY3 : Hid (w3.heap[bm]? = some (.cells #[.int .i64 t, .int .i64 y] 126 (0, 0))) := Lib.hid ((hb3'.block _ (lt_of_block HYr.out)).trans HYr.out)
          have HA3 : Hid (MAt w3 (some ⟨g, 0, none⟩) l) := Lib.hid (HAr.out.below hb3')
          have HB3 := Lib.hid hb3
          have HX3 := Lib.hid hx3
          clear ho3 hg3 hb3 hb3' hx3 p0 p1 p2
          obtain ⟨p0, p1, p2⟩ := msg_cells HY3.out
          have HO4 : Hid (MOwn (w3.alloc (.cells #[.int .i64 t, .int .i64 y] 126)).drew w.heap.size (.slice A3 q c3) (l)) := Lib.hid (HO3.out.alloc _)
          have HN4 : Hid ((w3.alloc (.cells #[.int .i64 t, .int .i64 y] 126)).drew.heap[w3.heap.size]? = some (.cells #[.int .i64 t, .int .i64 y] 126 (0, 0))) := Lib.hid (msg_new w3 t y)
          have HB4 : Hid (Below w.heap.size w (w3.alloc (.cells #[.int .i64 t, .int .i64 y] 126)).drew) := Lib.hid (HB3.out.alloc HB3.out.size _).drew
          have HLN : Hid ((l).length < 1000000000) := Lib.hid (by rw [HLL.out]; omega)
          go_wp2_with fail
          go_big_region
          go_wp2_with (at_builtin; refine app_m rfl (.tmp 65) (.tmp 67) rfl w.heap.size _ (l) t y rfl HO4.out _ rfl HN4.out HLN.out HB4.out.size ?_)
          intro v5 w5 ho5 hg5
          have HB5 := Lib.hid (grown_own HB4.out HB4.out.size HO4.out hg5)
          have HO5 : Hid (MOwn w5 w.heap.size v5 (l ++ [(t, y)])) := Lib.hid ho5
          clear ho5 hg5
          have HS3 : Hid ((l ++ [(t, y)]).length + 0 < 1000000000) := Lib.hid (by rw [List.length_append, HLL.out]; simp; omega)
          have hat6 := MAt.nil w5 (some ⟨g, 0, none⟩)
          go_wp2_with (at_builtin; refine app_mrest rfl (.tmp 69) (.tmp 72) rfl w.heap.size _ (l ++ [(t, y)]) [] rfl HO5.out _ _ _ rfl hat6 rfl HS3.out HB5.out.size ?_)
          intro v7 w7 ho7 hg7
          have HB7 := Lib.hid (grown_own HB5.out HB5.out.size HO5.out hg7)
          have HO7 : Hid (MOwn w7 B v7 (insM k l (t, y))) := Lib.hid (by have h := MOwn.mono ho7 hB; rw [HI.out]; simpa using h)
          clear ho7 hg7 hat6
          go_wp2
          go_ret
          exact ⟨_, rfl, HO7, HB7⟩

end Go.Proofs.YtbbmgandkmlojaaGreat.Al
