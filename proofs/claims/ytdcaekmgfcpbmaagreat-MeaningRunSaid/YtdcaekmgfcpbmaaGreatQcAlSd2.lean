/-
  What is proved here: what the three programs send: contracts of their methods send. Conditions: at most 1000 edges each way.
-/
import Derived.Test.YtdcaekmgfcpbmaaGreatQcAlSd1
import Derived.Deep.AppendLies
namespace Go.Proofs.YtdcaekmgfcpbmaaGreat.Al
open Go.RowKit Gr Wd Ws Fx Rk Lb
theorem gived_x (v x y z g : Int) (hg : Hid (addI v z = g)) (w : World) : Calls Tryz.prog 53 #[.int .i64 v, .agg #[.int .i64 x, .int .i64 y, .int .i64 z]] w fun e w' => e = .returned (.int .i64 g) ∧ w' = w.alloc (.cells #[.int .i64 x, .int .i64 y, .int .i64 z] 33) := by
  rw [← hg.out]
  go_enter Tryz.func53, Tryz.ntmps53
  go_wp2_with fail
  refine (Pa.add_of v z _).mono ?_
  rintro e w' ⟨rfl, rfl⟩
  go_wp2
  go_ret
  exact ⟨rfl, rfl⟩
theorem mat_new (W : World) (x y : Int) : MAt (W.alloc (.cells #[.int .i64 x, .int .i64 y] 155)) (some ⟨W.heap.size, 0, none⟩) [(x, y)] := by
  intro k e hk
  rcases k with _ | k
  · simp at hk; subst hk
    have h := msg_new W x y
    exact ⟨_, 0, rfl, by rw [Lib.cell_of_heap h]; rfl, by rw [Lib.cell_of_heap h]; rfl⟩
  · simp at hk
theorem step_m {ops : Array Oper} {o : Oper} {a : Act} {w : World} {K : Act → World → Prop} {Q : Exit → Act → World → Prop} {E : Prop} (hgd : o.guard = none) (s x : Operand)
    (ho : o.op = .call { callee := .builtin .append, args := #[s, x], argTypes := #[133, 133] }) (B : Nat) (v : Value) (M L : List Ms) (z : Nat) (hz : L.length = z) (hs : a.eval s = v) (hown : MOwn w B v M)
    (A : Option Addr) (c : Nat) (hx : a.eval x = .slice A z c) (hL : MAt w A L) (hn : M.length < 1000000000) (hB : B ≤ w.heap.size)
    (h : ∀ A' n' c' w', MOwn w' B (.slice A' n' c') (M ++ L) → w.grownBy w' v.ownBlock → K (a.put o.dst (.slice A' n' c')) w') (hzz : z ≤ 1000000000 := by decide) :
    if Region.wanted o (yielded ops a.tmps) = true then Oper.wp Tryz.prog o a w K Q else E := by
  subst hz
  have hw : Region.wanted o (yielded ops a.tmps) = true := by simp [Region.wanted, hgd]
  rw [if_pos hw]
  obtain ⟨i0, hi, hz0, hz1, hz2⟩ := info_parts infoM
  have ht : Tryz.prog.underlying 133 = some (.slice 155) := Tryz.underlying133
  obtain ⟨v', w', hr, h2, h3⟩ : ∃ v' w', (Builtin.append_ #[133, 133] o.type #[v, .slice A L.length c]).run Tryz.prog w = .ok v' w' ∧ MOwn w' B v' (M ++ L) ∧ w.grownBy w' v.ownBlock := by
    cases A with
    | some ad =>
      obtain ⟨v', w', hr, h2, h3, _⟩ := run_append_own (P := Tryz.prog) w B 133 o.type 155 i0 _ 2 16 ht hi hz0 hz1 hz2 rfl (by decide) v M.length (mcs M) hown ad L.length c (mcs L) (mcs_len L) (mat_cells hL ad rfl) (mcs_one L) (by unfold maxLen; omega) (by omega) hB
      refine ⟨v', w', hr, ?_, h3⟩
      unfold MOwn
      rw [mcs_append, List.length_append]
      exact h2
    | none =>
      obtain rfl := mat_none hL
      refine ⟨v, w, ?_, by rw [List.append_nil]; exact hown, ⟨rfl, rfl, rfl, Nat.le_refl _, fun _ _ _ => rfl⟩⟩
      rcases hown.2 with ⟨rfl, _⟩ | ⟨g, cap, cur, rfl, _, _, hnc, _⟩
      · simp [Builtin.append_, run_underlying ht, sizeOf, typeInfo, hi, Builtin.lenOf, Builtin.firstCells]
      · simp [Builtin.append_, run_underlying ht, sizeOf, typeInfo, hi, Builtin.lenOf, Builtin.firstCells, hnc, storeCells]
  obtain ⟨A', c', rfl, _⟩ := h2.room
  unfold Oper.wp execOp
  simp only [ho, resolve, invoke, builtin, Sem.run_bind, Sem.run_pure, Result.andThen_ok, List.map_toArray, List.map_cons, List.map_nil, hs, hx, hr]
  exact h _ _ _ _ h2 h3
set_option maxRecDepth 100000 in
set_option maxHeartbeats 2000000 in
theorem send_ranks (k st so dm ep v x : Int) (ch : Bool) (A C : Option Addr) (c d : Nat) (L M : List Ed) (w : World) (hL : EAt w A L) (hl : L.length ≤ 1000) (hx0 : -9223372036854775808 ≤ x) (hx1 : x ≤ 9223372036854775807) :
    Calls Tryz.prog 152 #[.agg #[.int .u8 k, .int .i64 st, .int .i64 so, .int .i64 dm, .int .i64 ep], .int .i64 v, .int .i64 x, .bool ch, .slice A L.length c, .slice C M.length d] w fun e w' => ∃ r, e = .returned r ∧ Hid (MOwn w' w.heap.size r (sentR x L.length L)) ∧ Hid (Below w.heap.size w w') := by
  have mixed := mixedO
  obtain ⟨W1, hW1⟩ : ∃ W1, W1 = w.alloc (.cells #[.int .u8 k, .int .i64 st, .int .i64 so, .int .i64 dm, .int .i64 ep] 96) := ⟨_, rfl⟩
  have HB : Hid (Below w.heap.size w W1) := Lib.hid (by rw [hW1]; exact (Below.refl _ w).alloc (Nat.le_refl _) _)
  have HL := Lib.hid (hL.below HB.out)
  obtain ⟨n, hn⟩ : ∃ n, n = L.length := ⟨_, rfl⟩
  obtain ⟨m, hm⟩ : ∃ m, m = M.length := ⟨_, rfl⟩
  rw [← hn] at hl ⊢
  rw [← hm]
  have HNL := Lib.hid hn
  clear hn hL hm
  go_enter Tryz.func152, Tryz.ntmps152
  go_upto_region 1 with fail
  rw [← hW1]
  clear hW1
  go_wp2_with fail
  go_loopg [13, 18] n (fun gk v i wr => SdRel W1 (sentR x n L) n gk v i wr)
  case atStart => exact ⟨0, by omega, rfl, Lib.hid (MOwn.none_ _ _), Lib.hid (Below.refl _ _)⟩
  case round =>
    obtain ⟨q, hq, rfl, HO, HBq⟩ := hrel
    by_cases hlt : q < n
    · obtain ⟨⟨e0, e1, e2⟩, hu⟩ := at_lt L q (by rw [← HNL.out]; exact hlt)
      obtain ⟨bk, o, rfl, c0, c1, c2⟩ := (HL.out.below HBq.out) q _ hu
      obtain ⟨y, hy⟩ : ∃ y, giveI x n = y := ⟨_, rfl⟩
      have hm1 : (sentR x n L)[q]? = some (e1, y) := by rw [← hy]; unfold sentR; rw [List.getElem?_map, hu]; rfl
      have HM1 := Lib.hid (take_at hm1)
      have hlen : ((sentR x n L).take q).length < 1000000000 := by simp; omega
      have HLEN := Lib.hid hlen
      have HY := Lib.hid hy
      clear hu hm1 hlen hy
      obtain ⟨W2, hW2⟩ : ∃ W2, W2 = wr.alloc (.cells #[.int .i64 e0, .int .i64 e1, .int .i64 e2] 33) := ⟨_, rfl⟩
      have hb2 : Below wr.heap.size wr W2 := by rw [hW2]; exact (Below.refl _ wr).alloc (Nat.le_refl _) _
      have HE2 : Hid (W2.heap[wr.heap.size]? = some (.cells #[.int .i64 e0, .int .i64 e1, .int .i64 e2] 33 (0, 0))) := Lib.hid (by rw [hW2]; exact heap_alloc_new wr _)
      have HO2 := Lib.hid (HO.out.below hb2); have HB2 := Lib.hid (step_below HBq.out HBq.out.size hb2)
      obtain ⟨eb, heb⟩ : ∃ eb, eb = wr.heap.size := ⟨_, rfl⟩
      rw [← heb] at HE2
      go_upto_region 5 with fail
      rw [← hW2, ← heb]
      obtain ⟨p0, p1, p2, _⟩ := eb_cells HE2.out
      have hb3 : Below W2.heap.size W2 (W2.drew) := (Below.refl _ W2).drew
      have HO3 := Lib.hid ((HO2.out.below hb3).alloc (.cells #[.int .i64 e1, .int .i64 y] 155))
      have hb4 := step_below HB2.out HB2.out.size hb3
      have HB3 := Lib.hid (hb4.alloc hb4.size (.cells #[.int .i64 e1, .int .i64 y] 155))
      have HN3 := Lib.hid (mat_new (W2.drew) e1 y)
      clear hb3 hb4
      clear c0 c1 c2 hW2 heb hb2 HO HBq
      go_wp2_with fail
      go_region_law (first | (refine step_m rfl (.tmp 22) (.tmp 30) rfl W1.heap.size _ ((sentR x n L).take q) [(e1, y)] 1 rfl (by simp [Act.eval]) HO3.out _ 1 (by simp [Act.eval]) HN3.out HLEN.out HB3.out.size ?_; intro A6 n6 c6 w6 ho6 hg6; have HB4 := Lib.hid (grown_own HB3.out HB3.out.size HO3.out hg6); have HO4 := Lib.hid ho6; clear ho6 hg6) | (go_simp; go_at_call 159; refine (Rk.give_any x (n : Int) y _ HY hx0 hx1 (by omega) (by omega)).mono ?_; rintro _ _ ⟨rfl, rfl⟩))
      all_goals
        go_wp2
        go_roundg (gk - 1)
        case measure => omega
        case rel => exact ⟨q + 1, by omega, by go_num, Lib.hid (by rw [HM1.out]; exact HO4.out), HB4⟩
    · have HE : Hid ((sentR x n L).take q = sentR x n L) := Lib.hid (List.take_of_length_le (by unfold sentR; rw [List.length_map, ← HNL.out]; omega))
      go_wp2
      go_ret
      refine ⟨_, rfl, Lib.hid ?_, Lib.hid (step_below HB.out HB.out.size HBq.out)⟩
      have := HO.out
      rw [HE.out] at this
      exact this.mono HB.out.size
set_option maxRecDepth 100000 in
set_option maxHeartbeats 2000000 in
theorem send_distances (k st so dm ep v x : Int) (ch : Bool) (A C : Option Addr) (c d : Nat) (L M : List Ed) (w : World) (hL : EAt w A L) (hl : L.length ≤ 1000) :
    Calls Tryz.prog 201 #[.agg #[.int .u8 k, .int .i64 st, .int .i64 so, .int .i64 dm, .int .i64 ep], .int .i64 v, .int .i64 x, .bool ch, .slice A L.length c, .slice C M.length d] w fun e w' => ∃ r, e = .returned r ∧ Hid (MOwn w' w.heap.size r (if ch = true then sentP x L else [])) ∧ Hid (Below w.heap.size w w') := by
  have mixed := mixedO
  obtain ⟨W1, hW1⟩ : ∃ W1, W1 = w.alloc (.cells #[.int .u8 k, .int .i64 st, .int .i64 so, .int .i64 dm, .int .i64 ep] 101) := ⟨_, rfl⟩
  have HB : Hid (Below w.heap.size w W1) := Lib.hid (by rw [hW1]; exact (Below.refl _ w).alloc (Nat.le_refl _) _)
  have HL := Lib.hid (hL.below HB.out)
  obtain ⟨n, hn⟩ : ∃ n, n = L.length := ⟨_, rfl⟩
  obtain ⟨m, hm⟩ : ∃ m, m = M.length := ⟨_, rfl⟩
  rw [← hn] at hl ⊢
  rw [← hm]
  have HNL := Lib.hid hn
  clear hn hL hm
  cases ch with
  | false =>
    go_enter Tryz.func201, Tryz.ntmps201
    go_wp2
    go_ret
    rw [← hW1]
    exact ⟨_, rfl, Lib.hid (MOwn.none_ _ _), HB⟩
  | true =>
  go_enter Tryz.func201, Tryz.ntmps201
  go_upto_region 4 with fail
  rw [← hW1]
  clear hW1
  go_wp2_with fail
  go_loopg [13, 20] n (fun gk v i wr => SdRel W1 (sentP x L) n gk v i wr)
  case atStart => exact ⟨0, by omega, rfl, Lib.hid (MOwn.none_ _ _), Lib.hid (Below.refl _ _)⟩
  case round =>
    obtain ⟨q, hq, rfl, HO, HBq⟩ := hrel
    by_cases hlt : q < n
    · obtain ⟨⟨e0, e1, e2⟩, hu⟩ := at_lt L q (by rw [← HNL.out]; exact hlt)
      obtain ⟨bk, o, rfl, c0, c1, c2⟩ := (HL.out.below HBq.out) q _ hu
      obtain ⟨y, hy⟩ : ∃ y, addI x e2 = y := ⟨_, rfl⟩
      have hm1 : (sentP x L)[q]? = some (e1, y) := by rw [← hy]; unfold sentP; rw [List.getElem?_map, hu]; rfl
      have HM1 := Lib.hid (take_at hm1)
      have hlen : ((sentP x L).take q).length < 1000000000 := by simp; omega
      have HLEN := Lib.hid hlen
      have HY := Lib.hid hy
      clear hu hm1 hlen hy
      obtain ⟨W2, hW2⟩ : ∃ W2, W2 = wr.alloc (.cells #[.int .i64 e0, .int .i64 e1, .int .i64 e2] 33) := ⟨_, rfl⟩
      have hb2 : Below wr.heap.size wr W2 := by rw [hW2]; exact (Below.refl _ wr).alloc (Nat.le_refl _) _
      have HE2 : Hid (W2.heap[wr.heap.size]? = some (.cells #[.int .i64 e0, .int .i64 e1, .int .i64 e2] 33 (0, 0))) := Lib.hid (by rw [hW2]; exact heap_alloc_new wr _)
      have HO2 := Lib.hid (HO.out.below hb2); have HB2 := Lib.hid (step_below HBq.out HBq.out.size hb2)
      obtain ⟨eb, heb⟩ : ∃ eb, eb = wr.heap.size := ⟨_, rfl⟩
      rw [← heb] at HE2
      go_upto_region 7 with fail
      rw [← hW2, ← heb]
      obtain ⟨p0, p1, p2, _⟩ := eb_cells HE2.out
      have hb3 : Below W2.heap.size W2 (W2.drew.alloc (.cells #[.int .i64 e0, .int .i64 e1, .int .i64 e2] 33)) := ((Below.refl _ W2).drew).alloc (Nat.le_refl _) _
      have HO3 := Lib.hid ((HO2.out.below hb3).alloc (.cells #[.int .i64 e1, .int .i64 y] 155))
      have hb4 := step_below HB2.out HB2.out.size hb3
      have HB3 := Lib.hid (hb4.alloc hb4.size (.cells #[.int .i64 e1, .int .i64 y] 155))
      have HN3 := Lib.hid (mat_new (W2.drew.alloc (.cells #[.int .i64 e0, .int .i64 e1, .int .i64 e2] 33)) e1 y)
      clear hb3 hb4
      clear c0 c1 c2 hW2 heb hb2 HO HBq
      go_wp2_with fail
      go_region_law (first | (refine step_m rfl (.tmp 24) (.tmp 31) rfl W1.heap.size _ ((sentP x L).take q) [(e1, y)] 1 rfl (by simp [Act.eval]) HO3.out _ 1 (by simp [Act.eval]) HN3.out HLEN.out HB3.out.size ?_; intro A6 n6 c6 w6 ho6 hg6; have HB4 := Lib.hid (grown_own HB3.out HB3.out.size HO3.out hg6); have HO4 := Lib.hid ho6; clear ho6 hg6) | (go_simp; go_at_call 53; refine (gived_x x e0 e1 e2 y HY _).mono ?_; rintro _ _ ⟨rfl, rfl⟩))
      all_goals
        go_wp2
        go_roundg (gk - 1)
        case measure => omega
        case rel => exact ⟨q + 1, by omega, by go_num, Lib.hid (by rw [HM1.out]; exact HO4.out), HB4⟩
    · have HE : Hid ((sentP x L).take q = sentP x L) := Lib.hid (List.take_of_length_le (by unfold sentP; rw [List.length_map, ← HNL.out]; omega))
      go_wp2
      go_ret
      refine ⟨_, rfl, Lib.hid ?_, Lib.hid (step_below HB.out HB.out.size HBq.out)⟩
      have := HO.out
      rw [HE.out] at this
      exact this.mono HB.out.size
end Go.Proofs.YtdcaekmgfcpbmaaGreat.Al
