/-
  What is proved here: algos.oneToEach at the program of Label: sorted and put together, messages are one row, rising, one to each vertex. Conditions: the row is one that the call has made, of at most 100000 messages. What is proved here: a contract of algos.Send: what any vertex sends is sendM. Conditions: at most 1000 edges each way. What is proved here: contracts of the document's own Combine, and of its Add: a row of messages, rising, with one more. Conditions: the row is one that the call has made, of fewer than 1000000 messages.
-/
import Derived.Test.YtdcaekmgfcpbmaaGreatQcAlP1
import Derived.Test.YtdcaekmgfcpbmaaGreatQcAlS7x
import Derived.Test.YtdcaekmgfcpbmaaGreatQcAlO3x
namespace Go.Proofs.YtdcaekmgfcpbmaaGreat.Al
open Go.RowKit Go.Sort Gr Wd Ws Fx Rk Lb
theorem combq_2 (_st _so _dm _ep a b y : Int) (hy : Hid (comb 2 a b = y)) (W : World) : Calls Tryz.prog 169 #[.agg #[], .int .i64 a, .int .i64 b] W fun e w' => e = .returned (.int .i64 y) ∧ Below W.heap.size W w' := by
  rw [← hy.out]
  exact comb_least a b W
theorem ahead_2 (st so dm ep : Int) (w : World) : (nilAhead 329 100 (.agg #[.int .u8 2, .int .i64 st, .int .i64 so, .int .i64 dm, .int .i64 ep]) "treadwheel/algos.combine").run Tryz.prog w = .ok (some false) w := by kernel_rfl
theorem one_none_2 (st so dm ep : Int) (w : World) (B : Nat) :
    Calls Tryz.prog 90 #[.iface 100 (.agg #[.int .u8 2, .int .i64 st, .int .i64 so, .int .i64 dm, .int .i64 ep]), .slice none 0 0] w fun e w' => ∃ r, e = .returned r ∧ Hid (MOwn w' B r []) ∧ Hid (Below B w w') := by
  go_enter Tryz.func90, Tryz.ntmps90
  go_wp2_with fail
  refine (sortStable_none _).mono ?_
  rintro e w2 ⟨rfl, rfl⟩
  go_wp2_with fail
  go_loopg [5, 13] 0 (fun gk v i wr => v = .slice none 0 0 ∧ i = .int .i64 0 ∧ gk = 0 ∧ wr = w)
  case atStart => exact ⟨rfl, rfl, rfl, rfl⟩
  case round =>
    obtain ⟨rfl, rfl, rfl, rfl⟩ := hrel
    go_wp2
    go_ret
    exact ⟨_, rfl, Lib.hid (MOwn.none_ _ _), Lib.hid (Below.refl _ _)⟩
set_option maxRecDepth 100000 in
set_option maxHeartbeats 4000000 in
theorem one_some_2 (st so dm ep : Int) (B g n c : Nat) (L : List Ms) (w : World) (hO : Hid (MOwn w B (.slice (some ⟨g, 0, none⟩) n c) L)) (hL : Hid (L.length = n)) (hn : n ≤ 100000) (hBg : B ≤ g) (hB : B ≤ w.heap.size) :
    Calls Tryz.prog 90 #[.iface 100 (.agg #[.int .u8 2, .int .i64 st, .int .i64 so, .int .i64 dm, .int .i64 ep]), .slice (some ⟨g, 0, none⟩) n c] w fun e w' => ∃ r, e = .returned r ∧ Hid (MOwn w' B r (putM 2 [] L)) ∧ Hid (Below B w w') := by
  have mixed := mixedO
  obtain ⟨N, hN⟩ := MOwn.row hL.out hO.out
  have HN := Lib.hid hN
  have HZ : Hid (L.toArray.size = n) := Lib.hid (by simp [hL.out])
  clear hN
  go_enter Tryz.func90, Tryz.ntmps90
  go_wp2_with fail
  refine (sortStable_any w g N n c L.toArray HN HZ (by omega)).mono ?_
  rintro e w2 ⟨rfl, d, hd⟩
  have HB2 : Hid (Below B w w2) := Lib.hid (Below.grown (Below.refl _ w) hd.out.1.grown hB fun j e => by cases e; exact hBg)
  obtain ⟨hs1, hs2⟩ := sorted_list hL.out hd.out.2.1 hd.out.2.2
  obtain ⟨S, hS⟩ : ∃ S, S = d.toList := ⟨_, rfl⟩
  have HAT : Hid (MAt w2 (some ⟨g, 0, none⟩) S) := Lib.hid (by rw [hS]; exact hd.out.1.mat)
  rw [← hS] at hs1 hs2
  have HSN := Lib.hid hs1; have HSP := Lib.hid hs2
  clear hd hs1 hs2 hS HN HZ
  go_wp2_with fail
  go_loopg [5, 13] n (fun gk v i wr => OeRel w2 2 S n gk v i wr)
  case atStart => exact ⟨0, by omega, rfl, Lib.hid (MOwn.none_ _ _), Lib.hid (Below.refl _ _)⟩
  case round =>
    obtain ⟨q, hq, rfl, HO, HBq⟩ := hrel
    by_cases hlt : q < n
    · obtain ⟨⟨t, y⟩, hu⟩ := at_lt S q (by rw [HSN.out]; exact hlt)
      obtain ⟨bk, o, he, c0, c1⟩ := (HAT.out.below HBq.out) q _ hu
      cases he
      rw [Nat.zero_add] at c0 c1
      have HG : Hid (grp 2 [] (S.take (q + 1)) = stp 2 (grp 2 [] (S.take q)) (t, y)) := Lib.hid (by rw [take_at hu, grp_snoc])
      obtain ⟨acc, hacc⟩ : ∃ acc, acc = grp 2 [] (S.take q) := ⟨_, rfl⟩
      have hal : acc.length ≤ 100000 := by
        rw [hacc]
        have h1 := grp_length 2 (S.take q) []
        have h2 : (S.take q).length ≤ q := by rw [List.length_take]; omega
        simp at h1; omega
      rw [← hacc] at HO HG
      clear hu hacc
      obtain ⟨W2, hW2⟩ : ∃ W2, W2 = wr.alloc (.cells #[.int .i64 t, .int .i64 y] 155) := ⟨_, rfl⟩
      have hb2 : Below wr.heap.size wr W2 := by rw [hW2]; exact (Below.refl _ wr).alloc (Nat.le_refl _) _
      have HE2 : Hid (W2.heap[wr.heap.size]? = some (.cells #[.int .i64 t, .int .i64 y] 155 (0, 0))) := Lib.hid (by rw [hW2]; exact msg_new wr t y)
      have HO2 := Lib.hid (HO.out.below hb2); have HBW := Lib.hid (step_below HBq.out HBq.out.size hb2)
      obtain ⟨eb, heb⟩ : ∃ eb, eb = wr.heap.size := ⟨_, rfl⟩
      rw [← heb] at HE2
      obtain ⟨A2, c2, rfl, hat, hc2, hm2, hA2⟩ := HO2.out.room
      go_upto_region 6 with fail
      rw [← hW2, ← heb]
      clear c0 c1 hW2 heb hb2 HO HBq hc2 hm2
      obtain ⟨E, hE⟩ : ∃ E, E = acc.length := ⟨_, rfl⟩
      rw [← hE] at hal HO2 ⊢
      by_cases hnil : acc = []
      · subst hnil
        have hE0 : E = 0 := hE
        subst hE0
        clear hE hal
        have HGX : Hid (grp 2 [] (S.take (q + 1)) = [(t, y)]) := HG
        have HO3 : Hid (MOwn (W2.alloc (.cells #[.int .i64 t, .int .i64 y] 155)).drew w2.heap.size (.slice A2 0 c2) []) := Lib.hid (HO2.out.alloc _)
        have HN3 : Hid ((W2.alloc (.cells #[.int .i64 t, .int .i64 y] 155)).drew.heap[W2.heap.size]? = some (.cells #[.int .i64 t, .int .i64 y] 155 (0, 0))) := Lib.hid (msg_new W2 t y)
        have HB3 : Hid (Below w2.heap.size w2 (W2.alloc (.cells #[.int .i64 t, .int .i64 y] 155)).drew) := Lib.hid (HBW.out.alloc HBW.out.size _).drew
        obtain ⟨p0, p1, p2⟩ := msg_cells HE2.out
        have hlen : ([] : List Ms).length < 1000000000 := by decide
        go_wp2_with fail
        go_big_region
        go_wp2_with (at_builtin; refine app_m rfl (.tmp 48) (.tmp 50) rfl w2.heap.size _ [] t y rfl HO3.out _ rfl HN3.out hlen HB3.out.size ?_)
        intro v4 w4 ho4 hg4
        have HB4 := Lib.hid (grown_own HB3.out HB3.out.size HO3.out hg4)
        have HO4 : Hid (MOwn w4 w2.heap.size v4 [(t, y)]) := Lib.hid ho4
        clear ho4 hg4
        go_wp2
        go_roundg (gk - 1)
        case measure => omega
        case rel => exact ⟨q + 1, by omega, by go_num, Lib.hid (by rw [HGX.out]; exact HO4.out), HB4⟩
      · obtain ⟨l0, ⟨z1, z2⟩, hz⟩ := last_of acc hnil
        subst hz
        obtain ⟨p, hp⟩ : ∃ p, p = l0.length := ⟨_, rfl⟩
        have hpE : p + 1 = E := by rw [hE, hp]; simp
        obtain ⟨bk, o, hA3, d0, d1⟩ := hat p (z1, z2) (by rw [hp, List.getElem?_append_right (Nat.le_refl _), Nat.sub_self]; rfl)
        rcases hA2 with ⟨hA2, _⟩ | ⟨gX, hA2, hgE, _, hfz⟩
        · rw [hA2] at hA3; cases hA3
        rw [hA2] at hA3
        cases hA3
        subst hA2
        rw [Nat.zero_add] at d0 d1
        have HP := Lib.hid hp
        subst hpE
        have HEL : Hid ((l0 ++ [(z1, z2)]).length = p + 1) := Lib.hid hE.symm
        have HFZ := Lib.hid hfz
        clear hp hE hnil hfz hat
        obtain ⟨p0, p1, p2⟩ := msg_cells HE2.out
        by_cases hzt : z1 = t
        · subst hzt
          obtain ⟨yy, hyy⟩ : ∃ yy, comb 2 z2 y = yy := ⟨_, rfl⟩
          have HYY := Lib.hid hyy
          have HGX : Hid (grp 2 [] (S.take (q + 1)) = l0 ++ [(z1, yy)]) := Lib.hid (by rw [HG.out, stp_snoc, if_pos rfl, hyy])
          clear hyy HG
          go_wp2_with fail
          go_big_region
          go_wp2_with fail
          obtain ⟨W3, hW3⟩ : ∃ W3, W3 = W2.drew := ⟨_, rfl⟩
          have HO3 : Hid (MOwn W3 w2.heap.size (.slice (some ⟨bk, 0, none⟩) (p + 1) c2) (l0 ++ [(z1, z2)])) := Lib.hid (by rw [hW3]; exact HO2.out)
          have HB3 : Hid (Below w2.heap.size w2 W3) := Lib.hid (by rw [hW3]; exact HBW.out.drew)
          have x0 : W3.cell? ⟨bk, p * 2 + 1, none⟩ = some (.int .i64 z2) := by rw [hW3]; exact d1
          have x1 : W3.cell? ⟨eb, 1, none⟩ = some (.int .i64 y) := by rw [hW3]; exact p1
          rw [← hW3]
          have y0 := cell_regrown x0; have y1 := cell_regrown x1
          have HC := Lib.hid (regr fun W (_ : Below W3.heap.size W3 W) => combq_2 st so dm ep z2 y yy HYY W)
          have hlk := look_combine_2 st so dm ep
          have hah := ahead_2 st so dm ep
          clear d0 d1 p0 p1 x0 x1 hW3 HO2 HBW HE2
          refine Tl.region_tail_below 14 mixed (by kernel_rfl) ?_
          simp only [List.take_succ_cons, List.take_zero, List.drop_succ_cons, List.drop_zero]
          repeat (go_big_quiet_step ((with_reducible exact HC.out _ _)))
          refine wpQuiet_nil ?_
          intro _ hw'
          obtain ⟨⟨dq, osq⟩, hw''⟩ := hw'
          subst hw''
          obtain ⟨W4, hW4⟩ : ∃ W4, W4 = Sort.grow (redrawn W3 dq) osq := ⟨_, rfl⟩
          have hb4 : Below W3.heap.size W3 W4 := by rw [hW4]; exact below_regrown W3 dq osq
          rw [← hW4]
          have HO4 := Lib.hid (HO3.out.below hb4)
          have HB4 := Lib.hid (step_below HB3.out HB3.out.size hb4)
          have u0 : W4.cell? ⟨bk, p * 2 + 1, none⟩ = some (.int .i64 z2) := by rw [hW4]; exact y0 _ _
          have u1 := mown_free HEL.out HO4.out
          have HO5 : Hid (MOwn (W4.setCell ⟨bk, p * 2 + 1, none⟩ (.int .i64 yy)) w2.heap.size (.slice (some ⟨bk, 0, none⟩) (p + 1) c2) (l0 ++ [(z1, yy)])) := Lib.hid (by have h := MOwn.put_last HEL.out HO4.out yy; rw [← HP.out] at h; exact h)
          have HB5 : Hid (Below w2.heap.size w2 (W4.setCell ⟨bk, p * 2 + 1, none⟩ (.int .i64 yy))) := Lib.hid (HB4.out.setCell (p := ⟨bk, p * 2 + 1, none⟩) hgE _)
          clear y0 y1 hW4 hb4 HO3 HB3 hlk hah HC
          go_wp2
          go_roundg (gk - 1)
          case measure => omega
          case rel => exact ⟨q + 1, by omega, by go_num, Lib.hid (by rw [HGX.out]; exact HO5.out), HB5⟩
        · have HGX : Hid (grp 2 [] (S.take (q + 1)) = l0 ++ [(z1, z2), (t, y)]) := Lib.hid (by rw [HG.out, stp_snoc, if_neg hzt])
          have HO3 : Hid (MOwn (W2.alloc (.cells #[.int .i64 t, .int .i64 y] 155)).drew w2.heap.size (.slice (some ⟨bk, 0, none⟩) (p + 1) c2) (l0 ++ [(z1, z2)])) := Lib.hid (HO2.out.alloc _)
          have HN3 : Hid ((W2.alloc (.cells #[.int .i64 t, .int .i64 y] 155)).drew.heap[W2.heap.size]? = some (.cells #[.int .i64 t, .int .i64 y] 155 (0, 0))) := Lib.hid (msg_new W2 t y)
          have HB3 : Hid (Below w2.heap.size w2 (W2.alloc (.cells #[.int .i64 t, .int .i64 y] 155)).drew) := Lib.hid (HBW.out.alloc HBW.out.size _).drew
          have hlen : (l0 ++ [(z1, z2)]).length < 1000000000 := by rw [HEL.out]; omega
          have HLEN := Lib.hid hlen
          clear hlen HG
          go_wp2_with fail
          go_big_region
          go_wp2_with (at_builtin; refine app_m rfl (.tmp 48) (.tmp 50) rfl w2.heap.size _ (l0 ++ [(z1, z2)]) t y rfl HO3.out _ rfl HN3.out HLEN.out HB3.out.size ?_)
          intro v4 w4 ho4 hg4
          have HB4 := Lib.hid (grown_own HB3.out HB3.out.size HO3.out hg4)
          have HO4 : Hid (MOwn w4 w2.heap.size v4 (l0 ++ [(z1, z2), (t, y)])) := Lib.hid (by simpa using ho4)
          clear ho4 hg4
          go_wp2
          go_roundg (gk - 1)
          case measure => omega
          case rel => exact ⟨q + 1, by omega, by go_num, Lib.hid (by rw [HGX.out]; exact HO4.out), HB4⟩
    · have HE : Hid (S.take q = S) := Lib.hid (List.take_of_length_le (by rw [HSN.out]; omega))
      go_wp2
      go_ret
      refine ⟨_, rfl, Lib.hid ?_, Lib.hid (HB2.out.trans (HBq.out.mono (Nat.le_trans hB HB2.out.size)))⟩
      have := HO.out
      rw [HE.out, HSP.out] at this
      exact this.mono (Nat.le_trans hB HB2.out.size)
end Go.Proofs.YtdcaekmgfcpbmaaGreat.Al
namespace Go.Proofs.YtdcaekmgfcpbmaaGreat.Al
open Go.RowKit Go.Sort Gr Wd Ws Fx Rk Lb
theorem sendM_one (v x : Int) (ch : Bool) (L M : List Ed) : sendM 1 v x ch L M = putM 1 [] (sentR x L.length L) := by unfold sendM rawM; rw [if_pos rfl]
theorem sendM_two (v x : Int) (ch : Bool) (L M : List Ed) : sendM 2 v x ch L M = putM 2 [] (if ch = true then sentL x (nearL v L M) else []) := by
  unfold sendM rawM; rw [if_neg (by decide)]; cases ch <;> simp
theorem sendM_three (v x : Int) (ch : Bool) (L M : List Ed) : sendM 3 v x ch L M = putM 3 [] (if ch = true then sentP x L else []) := by
  unfold sendM rawM; rw [if_neg (by decide)]; cases ch <;> simp
theorem sendM_no (k v x : Int) (ch : Bool) (L M : List Ed) (h1 : ¬ k = 1) (h2 : ¬ k = 2) (h3 : ¬ k = 3) : sendM k v x ch L M = [] := by
  unfold sendM rawM; rw [if_neg h1, if_neg h2, if_neg h3]; cases ch <;> simp [putM]
theorem near_length (v : Int) (L M : List Ed) : (nearL v L M).length ≤ L.length + M.length := by
  unfold nearL
  have := putAll_len (tos v L ++ froms v M) []
  have h1 := tos_len v L; have h2 := froms_len v M
  simp at this; omega
theorem one_1 (st so dm ep : Int) (B : Nat) (r : Value) (L : List Ms) (w : World) (hO : Hid (MOwn w B r L)) (hn : L.length ≤ 100000) (hB : B ≤ w.heap.size) :
    Calls Tryz.prog 90 #[.iface 96 (.agg #[.int .u8 1, .int .i64 st, .int .i64 so, .int .i64 dm, .int .i64 ep]), r] w fun e w' => ∃ r, e = .returned r ∧ Hid (MOwn w' B r (putM 1 [] L)) ∧ Hid (Below B w w') := by
  obtain ⟨A, c, rfl, hat, _, _, hA⟩ := hO.out.room
  rcases hA with ⟨rfl, rfl⟩ | ⟨g, rfl, hg, _⟩
  · obtain rfl := mat_none hat
    exact one_none_1 st so dm ep w B
  · exact one_some_1 st so dm ep B g _ c L w hO (Lib.hid rfl) hn hg hB
theorem one_2 (st so dm ep : Int) (B : Nat) (r : Value) (L : List Ms) (w : World) (hO : Hid (MOwn w B r L)) (hn : L.length ≤ 100000) (hB : B ≤ w.heap.size) :
    Calls Tryz.prog 90 #[.iface 100 (.agg #[.int .u8 2, .int .i64 st, .int .i64 so, .int .i64 dm, .int .i64 ep]), r] w fun e w' => ∃ r, e = .returned r ∧ Hid (MOwn w' B r (putM 2 [] L)) ∧ Hid (Below B w w') := by
  obtain ⟨A, c, rfl, hat, _, _, hA⟩ := hO.out.room
  rcases hA with ⟨rfl, rfl⟩ | ⟨g, rfl, hg, _⟩
  · obtain rfl := mat_none hat
    exact one_none_2 st so dm ep w B
  · exact one_some_2 st so dm ep B g _ c L w hO (Lib.hid rfl) hn hg hB
theorem one_3 (st so dm ep : Int) (B : Nat) (r : Value) (L : List Ms) (w : World) (hO : Hid (MOwn w B r L)) (hn : L.length ≤ 100000) (hB : B ≤ w.heap.size) :
    Calls Tryz.prog 90 #[.iface 101 (.agg #[.int .u8 3, .int .i64 st, .int .i64 so, .int .i64 dm, .int .i64 ep]), r] w fun e w' => ∃ r, e = .returned r ∧ Hid (MOwn w' B r (putM 3 [] L)) ∧ Hid (Below B w w') := by
  obtain ⟨A, c, rfl, hat, _, _, hA⟩ := hO.out.room
  rcases hA with ⟨rfl, rfl⟩ | ⟨g, rfl, hg, _⟩
  · obtain rfl := mat_none hat
    exact one_none_3 st so dm ep w B
  · exact one_some_3 st so dm ep B g _ c L w hO (Lib.hid rfl) hn hg hB
set_option maxRecDepth 100000 in
set_option maxHeartbeats 2000000 in
theorem send_any (k st so dm ep v x : Int) (ch : Bool) (A C : Option Addr) (c d : Nat) (L M : List Ed) (w : World) (hL : EAt w A L) (hM : EAt w C M) (hl : L.length ≤ 1000) (hm : M.length ≤ 1000) (hx0 : -9223372036854775808 ≤ x) (hx1 : x ≤ 9223372036854775807) :
    Calls Tryz.prog 79 #[.agg #[.int .u8 k, .int .i64 st, .int .i64 so, .int .i64 dm, .int .i64 ep], .int .i64 v, .int .i64 x, .bool ch, .slice A L.length c, .slice C M.length d] w fun e w' => ∃ r, e = .returned r ∧ Hid (MOwn w' w.heap.size r (sendM k v x ch L M)) ∧ Hid (Below w.heap.size w w') := by
  obtain ⟨W1, hW1⟩ : ∃ W1, W1 = w.alloc (.cells #[.int .u8 k, .int .i64 st, .int .i64 so, .int .i64 dm, .int .i64 ep] 40) := ⟨_, rfl⟩
  have HB : Hid (Below w.heap.size w W1) := Lib.hid (by rw [hW1]; exact (Below.refl _ w).alloc (Nat.le_refl _) _)
  have HX : Hid (W1.heap[w.heap.size]? = some (.cells #[.int .u8 k, .int .i64 st, .int .i64 so, .int .i64 dm, .int .i64 ep] 40 (0, 0))) := Lib.hid (by rw [hW1]; exact heap_alloc_new w _)
  by_cases h1 : k = 1
  · subst h1
    have hlk := look_send_1 st so dm ep
    have HSM := Lib.hid (sendM_one v x ch L M)
    have hsl : (sentR x L.length L).length ≤ 100000 := by unfold sentR; rw [List.length_map]; omega
    have HC := Lib.hid (fun (W : World) (h : Below w.heap.size w W) => send_ranks 1 st so dm ep v x ch A C c d L M W (hL.below h) hl hx0 hx1)
    go_enter Tryz.func79, Tryz.ntmps79
    go_wp2_with fail
    refine (prog_1 st so dm ep _).mono ?_
    rintro e w2 ⟨rfl, hb2⟩
    have HB2 : Hid (Below w.heap.size w w2) := Lib.hid (by rw [← hW1] at hb2; exact step_below HB.out HB.out.size hb2)
    clear hb2 hW1 HB
    go_wp2_with fail
    refine (HC.out _ HB2.out).mono ?_
    rintro e w3 ⟨r3, rfl, HO3, hb3⟩
    have HB3 := Lib.hid (step_below HB2.out HB2.out.size hb3.out)
    clear hb3
    go_wp2_with fail
    refine (one_1 st so dm ep w.heap.size r3 _ w3 (Lib.hid (HO3.out.mono HB2.out.size)) hsl HB3.out.size).mono ?_
    rintro e w4 ⟨r4, rfl, HO4, HB4⟩
    go_wp2
    go_ret
    exact ⟨_, rfl, by rw [HSM.out]; exact HO4, Lib.hid (HB3.out.trans HB4.out)⟩
  by_cases h2 : k = 2
  · subst h2
    have hlk := look_send_2 st so dm ep
    have HSM := Lib.hid (sendM_two v x ch L M)
    have hsl : (if ch = true then sentL x (nearL v L M) else []).length ≤ 100000 := by
      have := near_length v L M
      cases ch <;> simp [sentL]; omega
    have HC := Lib.hid (fun (W : World) (h : Below w.heap.size w W) => send_labels 2 st so dm ep v x ch A C c d L M W (hL.below h) (hM.below h) hl hm)
    go_enter Tryz.func79, Tryz.ntmps79
    go_wp2_with fail
    refine (prog_2 st so dm ep _).mono ?_
    rintro e w2 ⟨rfl, hb2⟩
    have HB2 : Hid (Below w.heap.size w w2) := Lib.hid (by rw [← hW1] at hb2; exact step_below HB.out HB.out.size hb2)
    clear hb2 hW1 HB
    go_wp2_with fail
    refine (HC.out _ HB2.out).mono ?_
    rintro e w3 ⟨r3, rfl, HO3, hb3⟩
    have HB3 := Lib.hid (step_below HB2.out HB2.out.size hb3.out)
    clear hb3
    go_wp2_with fail
    refine (one_2 st so dm ep w.heap.size r3 _ w3 (Lib.hid (HO3.out.mono HB2.out.size)) hsl HB3.out.size).mono ?_
    rintro e w4 ⟨r4, rfl, HO4, HB4⟩
    go_wp2
    go_ret
    exact ⟨_, rfl, by rw [HSM.out]; exact HO4, Lib.hid (HB3.out.trans HB4.out)⟩
  by_cases h3 : k = 3
  · subst h3
    have hlk := look_send_3 st so dm ep
    have HSM := Lib.hid (sendM_three v x ch L M)
    have hsl : (if ch = true then sentP x L else []).length ≤ 100000 := by
      cases ch <;> simp [sentP]; omega
    have HC := Lib.hid (fun (W : World) (h : Below w.heap.size w W) => send_distances 3 st so dm ep v x ch A C c d L M W (hL.below h) hl)
    go_enter Tryz.func79, Tryz.ntmps79
    go_wp2_with fail
    refine (prog_3 st so dm ep _).mono ?_
    rintro e w2 ⟨rfl, hb2⟩
    have HB2 : Hid (Below w.heap.size w w2) := Lib.hid (by rw [← hW1] at hb2; exact step_below HB.out HB.out.size hb2)
    clear hb2 hW1 HB
    go_wp2_with fail
    refine (HC.out _ HB2.out).mono ?_
    rintro e w3 ⟨r3, rfl, HO3, hb3⟩
    have HB3 := Lib.hid (step_below HB2.out HB2.out.size hb3.out)
    clear hb3
    go_wp2_with fail
    refine (one_3 st so dm ep w.heap.size r3 _ w3 (Lib.hid (HO3.out.mono HB2.out.size)) hsl HB3.out.size).mono ?_
    rintro e w4 ⟨r4, rfl, HO4, HB4⟩
    go_wp2
    go_ret
    exact ⟨_, rfl, by rw [HSM.out]; exact HO4, Lib.hid (HB3.out.trans HB4.out)⟩
  have HSM := Lib.hid (sendM_no k v x ch L M h1 h2 h3)
  go_enter Tryz.func79, Tryz.ntmps79
  go_wp2_with fail
  refine (prog_no k st so dm ep h1 h2 h3 _).mono ?_
  rintro e w2 ⟨rfl, hb2⟩
  have HB2 : Hid (Below w.heap.size w w2) := Lib.hid (by rw [← hW1] at hb2; exact step_below HB.out HB.out.size hb2)
  clear hb2 hW1 HB
  go_wp2
  go_ret
  exact ⟨_, rfl, by rw [HSM.out]; exact Lib.hid (MOwn.none_ _ _), HB2⟩
end Go.Proofs.YtdcaekmgfcpbmaaGreat.Al
namespace Go.Proofs.YtdcaekmgfcpbmaaGreat.Al
open Go.RowKit Go.Sort Gr Wd Ws Fx Rk Lb
def Low (l : List Ms) (t : Int) (q : Nat) : Prop := ∀ (j : Nat) (x : Ms), j < q → l[j]? = some x → x.1 < t
theorem Low.step {l : List Ms} {t : Int} {q : Nat} {x : Ms} (h : Low l t q) (hx : l[q]? = some x) (e : x.1 < t) : Low l t (q + 1) := by
  intro j z hj hz
  by_cases he : j = q
  · subst he; rw [hx] at hz; cases hz; exact e
  · exact h j z (by omega) hz
end Go.Proofs.YtdcaekmgfcpbmaaGreat.Al
