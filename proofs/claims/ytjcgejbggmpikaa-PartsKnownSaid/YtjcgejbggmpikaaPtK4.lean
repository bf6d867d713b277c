/-
  What is proved here: the law's spoilt, walked. Conditions: the graph can be read, it has at most 200 edges; 1 to 5 workers.
-/
import Derived.Test.YtjcgejbggmpikaaPtK3b
namespace Go.Proofs.Ytjcgejbggmpikaa.Pt
open Go.RowKit Gr Wd Ws

def SpRel (w3 : World) (V : Int) (L : List Ed) (k : Nat) (g : Nat) (v5 i : Value) (wr : World) : Prop :=
  ∃ (j : Nat) (AL : Option Addr) (cl : Nat) (css : List (List Value)), j + g = k ∧ i = .int .i64 (j : Int) ∧ v5 = .slice AL j cl ∧
    Hid (LRow wr w3.heap.size 34 (.slice AL j cl) css) ∧ Hid (OCon wr w3.heap.size css (pcA V L k j)) ∧ Hid (Below w3.heap.size w3 wr)
def SpRel2 (wl : World) (k : Nat) (g : Nat) (i : Value) (wr : World) : Prop := ∃ (j : Nat), j + g = k ∧ i = .int .i64 (j : Int) ∧ Hid (Below wl.heap.size wl wr)

theorem pcA_short (V : Int) (L : List Ed) (k : Int) (j : Nat) : ∀ Q ∈ pcA V L k j, Q.own.length ≤ 512 ∧ Q.out.length ≤ 512 ∧ Q.back.length ≤ 512 := by
  intro Q hQ
  obtain ⟨i, _, rfl⟩ := List.mem_map.1 hQ
  have h0 := owned_len V k i
  unfold cutA
  split
  · simp [noP]
  · split
    · exact ⟨h0, by show ((owned V k i).map _).length ≤ _; rw [List.length_map]; exact h0, by show ((owned V k i).map _).length ≤ _; rw [List.length_map]; exact h0⟩
    · simp [noP]
theorem vals_new (w : World) (T : TypeId) (u : Value) : Vals (w.alloc (.cells #[u] T)) (some ⟨w.heap.size, 0, none⟩) [u] := fun k v hv => by
  rcases k with _ | k
  · simp at hv; subst hv
    exact ⟨_, _, rfl, by rw [Lib.cell_of_heap (heap_alloc_new w _)]; rfl⟩
  · simp at hv
theorem lat_drop {w : World} {g : Nat} {ps : List Pt} (h : LAt w (some ⟨g, 0, none⟩) ps) : LAt w (some ⟨g, 6, none⟩) (ps.drop 1) := by
  intro q Q hQ
  rw [List.getElem?_drop] at hQ
  obtain ⟨bk, o, A1, A2, A3, c1, c2, c3, e, hC⟩ := h (1 + q) Q hQ
  cases e
  refine ⟨g, 6, A1, A2, A3, c1, c2, c3, rfl, ?_⟩
  rw [show 6 + q * 6 = 0 + (1 + q) * 6 by omega]; exact hC
theorem lrow_cells {W : World} {B bm k cm x : Nat} {T : TypeId} {css : List (List Value)} {ds : List Value} (hM : LRow W B T (.slice (some ⟨bm, 0, none⟩) k cm) css) (hds : css[x]? = some ds) (i : Nat) (hi : i < 6) : W.cell? ⟨bm, x * 6 + i, none⟩ = ds[i]? := by
  obtain ⟨⟨h0, h1 | ⟨g, cap, cur, h1, h2, h3, h4, h5, h6, h7⟩⟩, hl6⟩ := hM
  · cases h1.1
  · injection h1 with e1 e2 e3
    injection e1 with e1
    injection e1 with e1
    subst e1
    have hqc := lt_at hds
    rw [cell_of_row W bm _ _ _ (0, 0) h3]
    have e2 : cur[x * 6 + i]? = (cur.toList.take (css.length * 6))[x * 6 + i]? := by
      rw [List.getElem?_take, if_pos (by omega), Array.getElem?_toList]
    rw [e2, h7, flat6 css x i ds hl6 hds hi]
/- Behind the switch: p's box, m's row. -/
def SwInv (wl : World) (bm cm j b : Nat) (css : List (List Value)) (W : World) : Prop :=
  ∃ (x : Value) (P : Pt), BxP W b x ∧ PtN W bm x P ∧ Sm P ∧ LRow W wl.heap.size 34 (.slice (some ⟨bm, 0, none⟩) j cm) css ∧ Below wl.heap.size wl W ∧ b < W.heap.size

theorem sw_done {wl w4 W : World} {bm cm j b : Nat} {css : List (List Value)} (hM : LRow w4 wl.heap.size 34 (.slice (some ⟨bm, 0, none⟩) j cm) css) (hlow : wl.heap.size ≤ bm) (hB : Below wl.heap.size wl w4) (hW : Below (bm + 1) w4 W)
    {a0 a1 a2 a3 a4 a5 : Value} (hx : W.heap[b]? = some (.cells #[a0, a1, a2, a3, a4, a5] 34 (0, 0))) {P' : Pt} (hN : PtN W bm (.agg #[a0, a1, a2, a3, a4, a5]) P') (hs : Sm P') : SwInv wl bm cm j b css W := by
  refine ⟨_, P', BxP.of hx, hN, hs, ⟨own_kept hM.1 fun g c fz hv hc => ?_, hM.2⟩, hB.trans (hW.mono (by omega)), lt_of_block hx⟩
  have e : bm = g := by simpa [Value.ownBlock] using hv
  subst e
  exact hW.block _ (by omega)
theorem ptn_old {wl W : World} {bm : Nat} (hb : Below wl.heap.size wl W) (hlow : wl.heap.size ≤ bm) {A1 A2 A3 : Option Addr} {c1 c2 c3 : Nat} {l1 : List Int} {l2 l3 : List (List Ed)} (p1 : IAt wl A1 l1) (p2 : RAt wl A2 l2) (p3 : RAt wl A3 l3) (a b c : Int) :
    PtN W bm (.agg #[.int .i64 a, .int .i64 b, .int .i64 c, .slice A1 l1.length c1, .slice A2 l2.length c2, .slice A3 l3.length c3]) ⟨a, b, c, l1, l2, l3⟩ := fun w' ho => by
  have hk := off_below hb hlow ho
  exact ⟨A1, c1, A2, c2, A3, c3, rfl, p1.ck hk, p2.ck hk, p3.ck hk⟩

theorem grow4 {w4 W w6 : World} {T : TypeId} {v : Value} {n : Nat} {xs : List Value} (hB : Below w4.heap.size w4 W) (ho : W.ownsRow w4.heap.size T 1 v n xs) (hg : W.grownBy w6 v.ownBlock) : Below w4.heap.size w4 w6 :=
  Below.grown hB hg hB.size fun q e => (own_lt ho q e).1
/- The switch's case 5, behind its region. -/
theorem sw_out {wl w4 w9 : World} {bm cm j b : Nat} {css : List (List Value)} {P : Pt} {n1 n2 n3 c1 c2 c3 c c6 : Nat} {A1 A2 A3 A A6 : Option Addr} {ys : List Value} {L : List Ed}
    (hM : LRow w4 wl.heap.size 34 (.slice (some ⟨bm, 0, none⟩) j cm) css) (hlow : wl.heap.size ≤ bm) (hB : Below wl.heap.size wl w4) (hlt : bm + 1 ≤ b) (hb44 : b < w4.heap.size)
    (hx4 : w4.heap[b]? = some (.cells #[.int .i64 P.w, .int .i64 P.k, .int .i64 P.n, .slice A1 n1 c1, .slice A2 n2 c2, .slice A3 n3 c3] 34 (0, 0)))
    (hn1 : P.own.length = n1) (hn2 : P.out.length = n2) (hn3 : P.back.length = n3) (h2 : n2 ≤ 512) (p1 : IAt wl A1 P.own) (p3 : RAt wl A3 P.back) (sm : Sm P) (hc : RCon wl ys P.out) (hl : EAt wl A L) (hm : L.length ≤ 200)
    (hb9 : Below w4.heap.size w4 w9) (ho9 : w9.ownsRow w4.heap.size 28 1 (.slice A6 (n2 + 1) c6) (n2 + 1) (ys ++ [.slice A L.length c])) :
    SwInv wl bm cm j b css (w9.setCell ⟨b, 4, none⟩ (.slice A6 (n2 + 1) c6)) := by
  have hx9 := (hb9.block _ hb44).trans hx4
  have hset := Below.setCell (B := bm + 1) (hb9.mono (by omega)) (p := ⟨b, 4, none⟩) hlt (.slice A6 (n2 + 1) c6)
  have hx := Go.heap_setCell_same w9 b 4 _ _ (.slice A6 (n2 + 1) c6) hx9
  have hos := ownsRow_setCell_below ho9 (a := ⟨b, 4, none⟩) hb44 (.slice A6 (n2 + 1) c6)
  refine sw_done hM hlow hB hset hx (P' := ⟨P.w, P.k, P.n, P.own, P.out ++ [L], P.back⟩) (fun w' ho => ?_) ⟨sm.own, ?_, sm.back, ?_, sm.backs⟩
  · have hk := off_below (hB.trans (hset.mono (by omega))) hlow ho
    obtain ⟨A7, c7, e7, hv7⟩ := own_vals hos
    cases e7
    refine ⟨A1, c1, A6, c6, A3, c3, ?_, p1.ck hk, rat_of (hv7 bm (by omega) w' ho) (RCon.snoc (hc.ck hk) (EAt.ck hl hk)), p3.ck hk⟩
    simp [hn1, hn2, hn3]
  · simp only [List.length_append, List.length_cons, List.length_nil, hn2]; omega
  · intro M hM
    rcases List.mem_append.1 hM with h | h
    · exact sm.outs M h
    · simp at h; subst h; omega

set_option maxRecDepth 100000 in
set_option maxHeartbeats 4000000 in
theorem spoilt_any (V : Int) (k : Nat) (A : Option Addr) (c : Nat) (L : List Ed) (w : World) (hL : Hid (EAt w A L)) (hm : L.length ≤ 200) (hk : 1 ≤ k ∧ k ≤ 5) :
    Calls Try.prog 28 #[.agg #[.int .i64 V, .slice A L.length c], .int .i64 (k : Int)] w fun e w' => e = .returned (.bool true) ∧ Below w.heap.size w w' := by
  have mixed := mixedP
  obtain ⟨w1, hw1⟩ : ∃ w1, w1 = w.alloc (.cells #[.int .i64 V, .slice A L.length c] 30) := ⟨_, rfl⟩
  have hz : Below w.heap.size w w1 := by rw [hw1]; exact (Below.refl _ w).alloc (Nat.le_refl _) _
  have HG1 : Hid (GBox w1 w.heap.size V A c L) := Lib.hid ⟨by rw [hw1]; exact heap_alloc_new w _, hL.out.below hz⟩
  have HZ1 := Lib.hid hz
  have HW := Lib.hid hw1
  clear hw1 hz
  go_enter Try.func28, Try.ntmps28
  go_wp2_with fail
  rw [← HW.out]
  go_loopg [5, 6] k (fun g v5 i wr => SpRel w1 V L k g v5 i wr)
  case atStart => exact ⟨0, none, 0, [], by omega, rfl, rfl, Lib.hid (LRow.none_ _ _ _), Lib.hid (OCon.nil _ _), Lib.hid (Below.refl _ _)⟩
  case round =>
    obtain ⟨j, AL, cl, css, hj, rfl, rfl, HLR, HOC, HB⟩ := hrel
    have HGr := Lib.hid (HG1.out.below HB.out)
    obtain ⟨k0, k1, hkk⟩ := Bx.cells HGr.out.1
    by_cases hlt : j < k
    · have HC := Lib.hid (Cut_any V (k : Int) (j : Int) A c L wr HGr.out.2 (by omega))
      obtain ⟨P, hP⟩ : ∃ P, (cutA V L k j).1 = P := ⟨_, rfl⟩
      obtain ⟨E, hE⟩ : ∃ E, (cutA V L k j).2 = E := ⟨_, rfl⟩
      have hcut : cutA V L k j = (P, E) := by rw [← hP, ← hE]
      rw [hcut] at HC
      have HP := Lib.hid hP
      clear hcut hE hP
      go_wp2_with fail
      refine HC.out.mono ?_
      rintro e w4 ⟨⟨v4, rfl, hv4⟩, hb4⟩
      clear HC k0 k1 hkk
      have HV4 := Lib.hid hv4
      obtain ⟨s1, s2, s3, rfl, h1, h2, h3⟩ := hv4
      obtain ⟨A1, c1, rfl, _⟩ := h1.form
      obtain ⟨A2, c2, rfl, _⟩ := h2.form
      obtain ⟨A3, c3, rfl, _⟩ := h3.form
      clear h1 h2 h3
      obtain ⟨n1, hn1⟩ : ∃ n, P.own.length = n := ⟨_, rfl⟩
      obtain ⟨n2, hn2⟩ : ∃ n, P.out.length = n := ⟨_, rfl⟩
      obtain ⟨n3, hn3⟩ : ∃ n, P.back.length = n := ⟨_, rfl⟩
      rw [hn1, hn2, hn3] at HV4 ⊢
      clear hn1 hn2 hn3
      obtain ⟨w6, hw6⟩ : ∃ w6, w6 = (w4.alloc (.cells #[.int .i64 P.w, .int .i64 P.k, .int .i64 P.n, .slice A1 n1 c1, .slice A2 n2 c2, .slice A3 n3 c3] 34)).alloc (.cells #[.int .i64 P.w, .int .i64 P.k, .int .i64 P.n, .slice A1 n1 c1, .slice A2 n2 c2, .slice A3 n3 c3] 34) := ⟨_, rfl⟩
      have hb46 : Below w4.heap.size w4 w6 := by rw [hw6]; exact two_part w4 _ _
      have HY6 : Hid (w6.heap[w4.heap.size + 1]? = some (.cells #[.int .i64 P.w, .int .i64 P.k, .int .i64 P.n, .slice A1 n1 c1, .slice A2 n2 c2, .slice A3 n3 c3] 34 (0, 0))) := Lib.hid (by rw [hw6]; exact heap_alloc2_new w4 _ _)
      have HB6w := Lib.hid (hb4.trans (hb46.mono hb4.size))
      have HB6 := Lib.hid (HB.out.trans (HB6w.out.mono HB.out.size))
      have HV6 := Lib.hid ((HV4.out.below hb46).mono (Nat.le_trans HB.out.size (Nat.le_refl _) : w1.heap.size ≤ wr.heap.size))
      have HLR6 := Lib.hid (HLR.out.below HB6w.out)
      have HOC6 := Lib.hid (HOC.out.below HB6w.out)
      have hcl : css.length = j := by rw [HOC.out.1, pcA_len]
      have HW6 := Lib.hid hw6
      clear hw6 hb46 hb4
      have HLRx := Lib.hid HLR6.out
      have HYx := Lib.hid HY6.out
      rw [HW6.out] at HLRx HYx
      go_wp2_with (at_builtin; refine app_p rfl (.tmp 25) (.tmp 27) rfl w1.heap.size _ css rfl HLRx.out _ _ _ _ _ _ _ ?c0 rfl HYx.out ?c1 ?c2 ?_)
      case c0 => first | exact ⟨rfl, rfl, rfl, rfl, rfl, rfl⟩ | (intro u hu; simp only [List.mem_cons, List.not_mem_nil, or_false] at hu; rcases hu with rfl | rfl | rfl | rfl | rfl | rfl <;> rfl)
      case c1 => omega
      case c2 => rw [← HW6.out]; exact HB6.out.size
      intro v' w7 hl7 hg7 hv7
      rw [← HW6.out] at hg7
      clear HLRx HYx
      have hrr : ∀ q, (Value.slice AL j cl).ownBlock = some q → ∃ c fz, w6.heap[q]? = some (.cells c 34 fz) := fun q hq => by obtain ⟨_, d, hd⟩ := HLR6.out.bt q hq; exact ⟨d, _, hd⟩
      have HB7 : Hid (Below w1.heap.size w1 w7) := Lib.hid (Below.grown HB6.out hg7 HB6.out.size fun q e => (HLR6.out.bt q e).1)
      have HOC7 : Hid (OCon w7 w1.heap.size (css ++ [[.int .i64 P.w, .int .i64 P.k, .int .i64 P.n, .slice A1 n1 c1, .slice A2 n2 c2, .slice A3 n3 c3]]) (pcA V L k (j + 1))) := Lib.hid (by rw [pcA_succ, HP.out]; exact (HOC6.out.grown hg7 hrr).snoc (powv_grown HV6.out hg7 hrr))
      obtain ⟨A7, c7, e7, _⟩ := LRow.form hl7 HOC7.out.con
      rw [pcA_len] at e7
      subst e7
      have HLR7 := Lib.hid hl7
      clear hrr hg7 hl7 hv7
      go_wp2_with fail
      go_roundg (gk - 1)
      case measure => omega
      case rel => exact ⟨j + 1, A7, c7, _, by omega, by go_num, rfl, HLR7, HOC7, HB7⟩
    · obtain rfl : j = k := by omega
      clear k0 k1 hkk
      go_wp2_with fail
      obtain ⟨wl, rfl⟩ : ∃ wl : World, wl = wr := ⟨_, rfl⟩
      go_loopg [9] j (fun g i wr => SpRel2 wl j g i wr)
      case atStart => exact ⟨0, by omega, rfl, Lib.hid (Below.refl _ _)⟩
      case round =>
        obtain ⟨x, hx, rfl, HBx⟩ := hrel
        by_cases hxj : x < j
        · go_wp2_with fail
          obtain ⟨G, rfl⟩ : ∃ G : Nat, G = gk := ⟨_, rfl⟩
          obtain ⟨wo, rfl⟩ : ∃ wo : World, wo = wr := ⟨_, rfl⟩
          go_loopg [10] 7 (fun g i wr => SpRel2 wl 7 g i wr)
          case atStart => exact ⟨0, by omega, rfl, HBx⟩
          case round =>
            obtain ⟨y, hy, rfl, HBy⟩ := hrel
            by_cases hy7 : y < 7
            · have hfr := own_fresh wr 34 6 wl.heap.size HBy.out.size
              obtain ⟨w2, hw2⟩ : ∃ w2, w2 = wr.alloc (.cells #[] 34) := ⟨_, rfl⟩
              have hb2 : Below wl.heap.size wl w2 := by rw [hw2]; exact HBy.out.alloc HBy.out.size _
              have hlr := HLR.out.below hb2
              have HB2 := Lib.hid hb2
              have HW2 := Lib.hid hw2
              rw [hw2] at hlr
              have HLRx := Lib.hid hlr; have HFR := Lib.hid hfr
              have hcl : css.length = j := by rw [HOC.out.1, pcA_len]
              have hone := con_one HOC.out.con
              have HON := Lib.hid hone
              clear hfr hw2 hb2 hlr hone
              go_wp2_with (at_builtin; refine app_parts rfl (.tmp 38) (.tmp 39) rfl wl.heap.size _ rfl HFR.out w1.heap.size AL j cl css HLRx.out hcl ?c3 HON.out rfl ?c4 ?c5 ?_)
              case c3 => omega
              case c4 => omega
              case c5 => rw [← HW2.out]; exact HB2.out.size
              intro bm cm w3 hlm hgm
              rw [← HW2.out] at hgm
              have hqq : ∀ q, (Value.slice (some ⟨wr.heap.size, 0, none⟩) 0 0).ownBlock = some q → wl.heap.size ≤ q := fun q e => by
                have e2 : wr.heap.size = q := by simpa [Value.ownBlock] using e
                have := HBy.out.size
                omega
              have HB3 : Hid (Below wl.heap.size wl w3) := Lib.hid (Below.grown HB2.out hgm HB2.out.size hqq)
              clear hqq
              have hbm := (hlm.bt bm (by simp [Value.ownBlock])).1
              have HM3 := Lib.hid hlm
              obtain ⟨Am, cm', e3, hLA⟩ := hlm.form (HOC.out.con.below HB3.out)
              rw [pcA_len] at e3
              cases e3
              obtain ⟨P, hP⟩ := at_lt (pcA V L j j) x (by rw [pcA_len]; exact hxj)
              have HSP := Lib.hid (pcA_sm V L j j (by omega) P (List.mem_of_getElem? hP))
              obtain ⟨ds, hds, A1, c1, A2, c2, A3, c3, e4, p1, p2, p3⟩ := HOC.out.con.2 x P hP
              have eds : ds = [.int .i64 P.w, .int .i64 P.k, .int .i64 P.n, .slice A1 P.own.length c1, .slice A2 P.out.length c2, .slice A3 P.back.length c3] := by
                injection e4 with e4
                have := congrArg Array.toList e4
                simpa using this
              have hcells := lrow_cells HM3.out hds
              rw [eds] at hcells
              have f0 := hcells 0 (by omega); have f1 := hcells 1 (by omega); have f2 := hcells 2 (by omega); have f3 := hcells 3 (by omega); have f4 := hcells 4 (by omega); have f5 := hcells 5 (by omega)
              simp only [List.getElem?_cons_zero, List.getElem?_cons_succ, Nat.add_zero] at f0 f1 f2 f3 f4 f5
              have HP1 := Lib.hid p1; have HP2 := Lib.hid p2; have HP3 := Lib.hid p3
              clear p1 p2 p3 eds hcells
              obtain ⟨n1, hn1⟩ : ∃ n, P.own.length = n := ⟨_, rfl⟩
              obtain ⟨n2, hn2⟩ : ∃ n, P.out.length = n := ⟨_, rfl⟩
              obtain ⟨n3, hn3⟩ : ∃ n, P.back.length = n := ⟨_, rfl⟩
              rw [hn1] at f3; rw [hn2] at f4; rw [hn3] at f5
              clear hlm hgm HLRx HFR HB2 e4 hLA
              obtain ⟨w4, hw4⟩ : ∃ w4, w4 = w3.alloc (.cells #[.int .i64 P.w, .int .i64 P.k, .int .i64 P.n, .slice A1 n1 c1, .slice A2 n2 c2, .slice A3 n3 c3] 34) := ⟨_, rfl⟩
              have HW4 := Lib.hid hw4; clear hw4
              go_upto_region 14 with fail
              go_cut [12] from 41 to 44 (fun p W => p = .pointer (some ⟨w3.heap.size, 0, none⟩) ∧ w4 = W)
              case first =>
                go_wp2_with fail
                go_meet
                exact ⟨rfl, HW4.out⟩
              case rest =>
                obtain ⟨rfl, rfl⟩ := hcut
                apply_assumption
                refine wp_seq_k fun K5 hK5 => ?_
                go_cut [] from 45 to 99 (fun W => SwInv wl bm cm j w3.heap.size css W)
                case first =>
                  have hbx : w4.heap[w3.heap.size]? = some (.cells #[.int .i64 P.w, .int .i64 P.k, .int .i64 P.n, .slice A1 n1 c1, .slice A2 n2 c2, .slice A3 n3 c3] 34 (0, 0)) := by rw [HW4.out]; exact heap_alloc_new w3 _
                  have hb34 : Below w3.heap.size w3 w4 := by rw [HW4.out]; exact (Below.refl _ w3).alloc (Nat.le_refl _) _
                  have HB4 := Lib.hid (HB3.out.trans (hb34.mono HB3.out.size))
                  have HM4 := Lib.hid (HM3.out.below hb34)
                  have HX4 := Lib.hid hbx
                  obtain ⟨y0, y1, y2, y3, y4, y5, z0, z1, z2, z3, z4, z5, _⟩ := six hbx
                  have hlt : bm + 1 ≤ w3.heap.size := by
                    obtain ⟨_, d3, hd3⟩ := HM3.out.bt bm (by simp [Value.ownBlock])
                    exact lt_of_block hd3
                  have HLT := Lib.hid hlt
                  clear hb34 hbx f0 f1 f2 f3 f4 f5 hds hlt
                  have hyc : y = 0 ∨ y = 1 ∨ y = 2 ∨ y = 3 ∨ y = 4 ∨ y = 5 ∨ y = 6 := by omega
                  have hsh := pcA_short V L j j P (List.mem_of_getElem? hP)
                  rw [hn1, hn2, hn3] at hsh
                  rcases hyc with rfl | rfl | rfl | rfl | rfl | rfl | rfl
                  · go_wp2_with fail
                    go_meet
                    have hset := Below.setCell (B := bm + 1) (Below.refl _ w4) (p := ⟨w3.heap.size, 2, none⟩) (by show bm + 1 ≤ w3.heap.size; exact HLT.out) (.int .i64 (wrap64 (P.n + 1)))
                    have hx := Go.heap_setCell_same w4 w3.heap.size 2 _ _ (.int .i64 (wrap64 (P.n + 1))) HX4.out
                    refine sw_done HM4.out hbm HB4.out hset hx (P' := ⟨P.w, P.k, wrap64 (P.n + 1), P.own, P.out, P.back⟩) ?_ ⟨HSP.out.own, HSP.out.out, HSP.out.back, HSP.out.outs, HSP.out.backs⟩
                    have := ptn_old (c1 := c1) (c2 := c2) (c3 := c3) (HB4.out.trans (hset.mono (by omega))) hbm HP1.out HP2.out HP3.out P.w P.k (wrap64 (P.n + 1))
                    rw [hn1, hn2, hn3] at this
                    exact this
                  · have hB44 : w3.heap.size < w4.heap.size := lt_of_block HX4.out
                    have HFR := Lib.hid (own_fresh w4 3 1 w4.heap.size (Nat.le_refl _))
                    have hb45 : Below w4.heap.size w4 (w4.alloc (.cells #[] 3)) := (Below.refl _ w4).alloc (Nat.le_refl _) _
                    have HV5 : Hid (Vals (w4.alloc (.cells #[] 3)) A1 (ints P.own)) := Lib.hid (HP1.out.below (HB4.out.trans (hb45.mono HB4.out.size))).vals
                    have HX5 := Lib.hid ((hb45.block _ hB44).trans HX4.out)
                    have HB45 := Lib.hid hb45
                    clear hb45
                    go_wp2_with (at_builtin; refine app_vals Try.underlying24 infoI rfl (by decide) rfl (.tmp 54) (.tmp 56) rfl w4.heap.size _ [] (ints P.own) 0 n1 c1 (by rw [ints_len, hn1]) rfl HFR.out A1 rfl HV5.out (ints_one _) ?c1a ?c2a ?_)
                    case c1a => omega
                    case c2a => exact HB45.out.size
                    intro A5 c5 w6 ho6 hg6
                    try simp only [Nat.zero_add, List.nil_append] at ho6
                    try simp only [Nat.zero_add]
                    have hb46 : Below w4.heap.size w4 w6 := Below.grown HB45.out hg6 HB45.out.size (fun q e => by have e2 : w4.heap.size = q := by simpa [Value.ownBlock] using e
                                                                                                                  omega)
                    have hx6 := (hb46.block _ hB44).trans HX4.out
                    have hx7 := Go.heap_setCell_same w6 w3.heap.size 3 _ _ (.slice A5 n1 c5) hx6
                    have ho7 := ownsRow_setCell_below ho6 (a := ⟨w3.heap.size, 3, none⟩) hB44 (.slice A5 n1 c5)
                    have hb67 := Below.setCell (B := bm + 1) (hb46.mono (by have := HLT.out; omega)) (p := ⟨w3.heap.size, 3, none⟩) HLT.out (.slice A5 n1 c5)
                    have HO8 := Lib.hid (World.ownsRow.alloc ho7 (.cells #[.int .i64 1] 3))
                    have hs6 : (w6.setCell ⟨w3.heap.size, 3, none⟩ (.slice A5 n1 c5)).heap.size = w6.heap.size := by simp
                    have hv8 := vals_new (w6.setCell ⟨w3.heap.size, 3, none⟩ (.slice A5 n1 c5)) 3 (.int .i64 1)
                    rw [hs6] at hv8
                    have HV8 := Lib.hid hv8
                    clear hs6 hv8
                    have hx8 := (Below.heap_alloc (w6.setCell ⟨w3.heap.size, 3, none⟩ (.slice A5 n1 c5)) (.cells #[.int .i64 1] 3) w3.heap.size (by have := lt_of_block hx7; omega)).trans hx7
                    have HX8 := Lib.hid hx8
                    have HB8 := Lib.hid (hb67.alloc (by have := HLT.out; have := hb67.size; omega) (.cells #[.int .i64 1] 3))
                    clear y0 y1 y2 y3 y4 y5 z0 z1 z2 z3 z4 z5
                    obtain ⟨y0, y1, y2, y3, y4, y5, z0, z1, z2, z3, z4, z5, _⟩ := six hx6
                    go_wp2_with (at_builtin; refine app_vals Try.underlying24 infoI rfl (by decide) rfl (.tmp 60) (.tmp 61) rfl w4.heap.size _ (ints P.own) [.int .i64 1] n1 1 1 rfl rfl HO8.out _ rfl HV8.out (by simp [Value.oneCell']) ?c1b ?c2b ?_)
                    case c1b => omega
                    case c2b => have := hb46.size; simp; omega
                    intro A6 c6 w9 ho9 hg9
                    have hb9 : Below (bm + 1) w4 w9 := Below.grown HB8.out hg9 (by have := HLT.out; have := HB8.out.size; omega) (fun q e => by have := (own_lt HO8.out q e).1; have := HLT.out; omega)
                    have hx9 := (hg9.block _ (lt_of_block HX8.out) (fun e => by have := (own_lt HO8.out _ e.symm).1; omega)).trans HX8.out
                    have HO9 := Lib.hid ho9; have HB9 := Lib.hid hb9; have HX9 := Lib.hid hx9
                    clear y0 y1 y2 y3 y4 y5 z0 z1 z2 z3 z4 z5 ho9 hg9 hb9
                    obtain ⟨y0, y1, y2, y3, y4, y5, z0, z1, z2, z3, z4, z5, _⟩ := six hx9
                    clear hx9
                    go_wp2_with fail
                    go_meet
                    have hset := Below.setCell (B := bm + 1) HB9.out (p := ⟨w3.heap.size, 3, none⟩) HLT.out (.slice A6 (n1 + 1) c6)
                    have hx := Go.heap_setCell_same w9 w3.heap.size 3 _ _ (.slice A6 (n1 + 1) c6) HX9.out
                    have hos := ownsRow_setCell_below HO9.out (a := ⟨w3.heap.size, 3, none⟩) hB44 (.slice A6 (n1 + 1) c6)
                    refine sw_done HM4.out hbm HB4.out hset hx (P' := ⟨P.w, P.k, P.n, P.own ++ [1], P.out, P.back⟩) (fun w' ho => ?_) ⟨?_, HSP.out.out, HSP.out.back, HSP.out.outs, HSP.out.backs⟩
                    · have hk := off_below (HB4.out.trans (hset.mono (by omega))) hbm ho
                      obtain ⟨A7, c7, e7, hv7⟩ := own_vals hos
                      cases e7
                      refine ⟨A6, c6, A2, c2, A3, c3, ?_, vals_int (l := P.own ++ [1]) ?_, HP2.out.ck hk, HP3.out.ck hk⟩
                      · simp [hn1, hn2, hn3]
                      · have := hv7 bm (by have := HLT.out; omega) w' ho
                        rw [show ints (P.own ++ [1]) = ints P.own ++ [.int .i64 1] by simp [ints]]; exact this
                    · simp only [List.length_append, List.length_cons, List.length_nil, hn1]; omega
                  · go_wp2_with fail
                    go_meet
                    have hset := Below.setCell (B := bm + 1) (Below.refl _ w4) (p := ⟨w3.heap.size, 4, none⟩) (by show bm + 1 ≤ w3.heap.size; exact HLT.out) (.slice none 0 0)
                    have hx := Go.heap_setCell_same w4 w3.heap.size 4 _ _ (.slice none 0 0) HX4.out
                    refine sw_done HM4.out hbm HB4.out hset hx (P' := ⟨P.w, P.k, P.n, P.own, [], P.back⟩) ?_ ⟨HSP.out.own, by simp, HSP.out.back, by simp [Fits], HSP.out.backs⟩
                    have := ptn_old (c1 := c1) (c2 := 0) (c3 := c3) (l2 := []) (A2 := none) (HB4.out.trans (hset.mono (by omega))) hbm HP1.out (fun k L h => by simp at h) HP3.out P.w P.k P.n
                    rw [hn1, hn3] at this
                    exact this
                  · have hB44 : w3.heap.size < w4.heap.size := lt_of_block HX4.out
                    obtain ⟨ys, hys, hy1, hyc⟩ := HP3.out.vals
                    have hyl : ys.length = n3 := by rw [hyc.1, hn3]
                    have HFR := Lib.hid (own_fresh w4 28 1 w4.heap.size (Nat.le_refl _))
                    have hb45 : Below w4.heap.size w4 (w4.alloc (.cells #[] 28)) := (Below.refl _ w4).alloc (Nat.le_refl _) _
                    have HV5 : Hid (Vals (w4.alloc (.cells #[] 28)) A3 ys) := Lib.hid (hys.below (HB4.out.trans (hb45.mono HB4.out.size)))
                    have HB45 := Lib.hid hb45
                    have HY1 := Lib.hid hy1; have HYC := Lib.hid hyc
                    clear hb45 hys hy1 hyc
                    go_wp2_with (at_builtin; refine app_vals Try.underlying32 infoR rfl (by decide) rfl (.tmp 69) (.tmp 71) rfl w4.heap.size _ [] ys 0 n3 c3 hyl rfl HFR.out A3 rfl HV5.out HY1.out ?c1c ?c2c ?_)
                    case c1c => omega
                    case c2c => exact HB45.out.size
                    intro A5 c5 w6 ho6 hg6
                    try simp only [Nat.zero_add, List.nil_append] at ho6
                    try simp only [Nat.zero_add]
                    have hb46 : Below w4.heap.size w4 w6 := Below.grown HB45.out hg6 HB45.out.size (fun q e => by have e2 : w4.heap.size = q := by simpa [Value.ownBlock] using e
                                                                                                                  omega)
                    have hx6 := (hb46.block _ hB44).trans HX4.out
                    have HO8 := Lib.hid (World.ownsRow.alloc ho6 (.cells #[.slice none 0 0] 28))
                    have HV8 := Lib.hid (vals_new w6 28 (.slice none 0 0))
                    have HX8 := Lib.hid ((Below.heap_alloc w6 (.cells #[.slice none 0 0] 28) w3.heap.size (by have := lt_of_block hx6; omega)).trans hx6)
                    have HB8 := Lib.hid ((hb46.mono (by have := HLT.out; omega : bm + 1 ≤ w4.heap.size)).alloc (by have := HLT.out; have := hb46.size; omega) (.cells #[.slice none 0 0] 28))
                    clear ho6 hg6 hx6
                    go_wp2_with (at_builtin; refine app_vals Try.underlying32 infoR rfl (by decide) rfl (.tmp 72) (.tmp 73) rfl w4.heap.size _ ys [.slice none 0 0] n3 1 1 rfl rfl HO8.out _ rfl HV8.out (by simp [Value.oneCell']) ?c1d ?c2d ?_)
                    case c1d => omega
                    case c2d => have := hb46.size; simp; omega
                    intro A6 c6 w9 ho9 hg9
                    have hb9 : Below (bm + 1) w4 w9 := Below.grown HB8.out hg9 (by have := HLT.out; have := HB8.out.size; omega) (fun q e => by have := (own_lt HO8.out q e).1; have := HLT.out; omega)
                    have hx9 := (hg9.block _ (lt_of_block HX8.out) (fun e => by have := (own_lt HO8.out _ e.symm).1; omega)).trans HX8.out
                    have HO9 := Lib.hid ho9; have HB9 := Lib.hid hb9; have HX9 := Lib.hid hx9
                    clear y0 y1 y2 y3 y4 y5 z0 z1 z2 z3 z4 z5 ho9 hg9 hb9
                    obtain ⟨y0, y1, y2, y3, y4, y5, z0, z1, z2, z3, z4, z5, _⟩ := six hx9
                    clear hx9
                    go_wp2_with fail
                    go_meet
                    have hset := Below.setCell (B := bm + 1) HB9.out (p := ⟨w3.heap.size, 5, none⟩) HLT.out (.slice A6 (n3 + 1) c6)
                    have hx := Go.heap_setCell_same w9 w3.heap.size 5 _ _ (.slice A6 (n3 + 1) c6) HX9.out
                    have hos := ownsRow_setCell_below HO9.out (a := ⟨w3.heap.size, 5, none⟩) hB44 (.slice A6 (n3 + 1) c6)
                    refine sw_done HM4.out hbm HB4.out hset hx (P' := ⟨P.w, P.k, P.n, P.own, P.out, P.back ++ [[]]⟩) (fun w' ho => ?_) ⟨HSP.out.own, HSP.out.out, ?_, HSP.out.outs, ?_⟩
                    · have hk := off_below (HB4.out.trans (hset.mono (by omega))) hbm ho
                      obtain ⟨A7, c7, e7, hv7⟩ := own_vals hos
                      cases e7
                      refine ⟨A1, c1, A2, c2, A6, c6, ?_, HP1.out.ck hk, HP2.out.ck hk, rat_of (hv7 bm (by have := HLT.out; omega) w' ho) (RCon.snoc (A := none) (c := 0) (L := []) (HYC.out.ck hk) (fun k e h => by cases h))⟩
                      simp [hn1, hn2, hn3]
                    · simp only [List.length_append, List.length_cons, List.length_nil, hn3]; omega
                    · intro M hM
                      rcases List.mem_append.1 hM with h | h
                      · exact HSP.out.backs M h
                      · simp at h; subst h; simp
                  · go_wp2_with fail
                    go_meet
                    have hset := Below.setCell (B := bm + 1) (Below.refl _ w4) (p := ⟨w3.heap.size, 0, none⟩) (by show bm + 1 ≤ w3.heap.size; exact HLT.out) (.int .i64 ((wrap64 (P.w + 1)).tmod (j : Int)))
                    have hx := Go.heap_setCell_same w4 w3.heap.size 0 _ _ (.int .i64 ((wrap64 (P.w + 1)).tmod (j : Int))) HX4.out
                    refine sw_done HM4.out hbm HB4.out hset hx (P' := ⟨(wrap64 (P.w + 1)).tmod (j : Int), P.k, P.n, P.own, P.out, P.back⟩) ?_ ⟨HSP.out.own, HSP.out.out, HSP.out.back, HSP.out.outs, HSP.out.backs⟩
                    have := ptn_old (c1 := c1) (c2 := c2) (c3 := c3) (HB4.out.trans (hset.mono (by omega))) hbm HP1.out HP2.out HP3.out ((wrap64 (P.w + 1)).tmod (j : Int)) P.k P.n
                    rw [hn1, hn2, hn3] at this
                    exact this
                  · have hB44 : w3.heap.size < w4.heap.size := lt_of_block HX4.out
                    obtain ⟨ys, hys, hy1, hyc⟩ := HP2.out.vals
                    have hyl : ys.length = n2 := by rw [hyc.1, hn2]
                    have HGw := Lib.hid (HG1.out.below (HB.out.trans (HB4.out.mono HB.out.size)))
                    have HEL : Hid (EAt wl A L) := Lib.hid (HG1.out.below HB.out).2
                    have hgl := lt_of_block HGw.out.1
                    have HGL := Lib.hid hgl
                    obtain ⟨k0, k1, _⟩ := Bx.cells HGw.out.1
                    have HY1 := Lib.hid hy1; have HYC := Lib.hid hyc
                    obtain ⟨WB, hWB⟩ : ∃ W, W = w4.drew.alloc (.cells #[] 28) := ⟨_, rfl⟩
                    obtain ⟨WC, hWC⟩ : ∃ W, W = w4.drew.alloc (.cells #[.slice A L.length c] 28) := ⟨_, rfl⟩
                    have sB : WB.heap.size = w4.heap.size + 1 := by rw [hWB]; simp
                    have sC : WC.heap.size = w4.heap.size + 1 := by rw [hWC]; simp
                    have b0 : Below w4.heap.size w4 w4.drew := (Below.refl _ w4).drew
                    have b1 : Below w4.heap.size w4 WB := by rw [hWB]; exact b0.alloc (Nat.le_refl _) _
                    have b2 : Below w4.heap.size w4 (WB.alloc (.cells #[.slice A L.length c] 28)) := b1.alloc (by omega) _
                    have b3c : Below w4.heap.size w4 WC := by rw [hWC]; exact b0.alloc (Nat.le_refl _) _
                    have b3 : Below w4.heap.size w4 (WC.alloc (.cells #[] 28)) := b3c.alloc (by omega) _
                    have f1 : WB.ownsRow w4.heap.size 28 1 (.slice (some ⟨w4.heap.size, 0, none⟩) 0 0) 0 [] := by rw [hWB]; exact own_fresh w4.drew 28 1 w4.heap.size (Nat.le_refl _)
                    have f2 := World.ownsRow.alloc f1 (.cells #[.slice A L.length c] 28)
                    have f3 := own_fresh WC 28 1 w4.heap.size (by omega)
                    rw [sC] at f3
                    have h2 := heap_alloc_new WB (.cells #[.slice A L.length c] 28)
                    rw [sB] at h2
                    have h3 : WC.heap[w4.heap.size]? = some (.cells #[.slice A L.length c] 28 (0, 0)) := by rw [hWC]; exact heap_alloc_new w4.drew _
                    have h3' := (Below.heap_alloc WC (.cells #[] 28) w4.heap.size (by omega)).trans h3
                    rw [hWB] at b1 b2 f1 f2 h2
                    rw [hWC] at b3 f3 h3'
                    have B1 := Lib.hid b1; have B2 := Lib.hid b2; have B3 := Lib.hid b3
                    have F1 := Lib.hid f1; have F2 := Lib.hid f2; have F3 := Lib.hid f3
                    have H2 := Lib.hid h2; have H3 := Lib.hid h3'
                    have V1 := Lib.hid (hys.below (HB4.out.trans (b1.mono HB4.out.size)))
                    have V2 := Lib.hid (hys.below (HB4.out.trans (b2.mono HB4.out.size)))
                    have V3 := Lib.hid (hys.below (HB4.out.trans (b3.mono HB4.out.size)))
                    clear hys hy1 hyc sB sC b0 b1 b2 b3c b3 f1 f2 f3 h2 h3 h3' hWB hWC hgl
                    go_wp2_with fail
                    go_region_law (first
                      | (refine step_vals Try.underlying32 infoR rfl (by decide) rfl (.tmp 86) (.tmp 88) rfl w4.heap.size _ [] ys 0 n2 c2 hyl (by simp [Act.eval]) F1.out A2 (by simp [Act.eval]) V1.out HY1.out (by omega) B1.out.size ?_; intro A5 c5 w6 ho6 hg6; rw [Nat.zero_add, List.nil_append] at ho6; rw [Nat.zero_add]; have hb6 := grow4 B1.out F1.out hg6; obtain ⟨p0, p1, p2, p3, p4, p5, q0, q1, q2, q3, q4, q5, _⟩ := six ((hb6.block _ hB44).trans HX4.out); obtain ⟨g0, g1, _⟩ := Bx.cells ((hb6.block _ HGL.out).trans HGw.out.1); have HB6 := Lib.hid (hb6.alloc hb6.size (.cells #[.slice A L.length c] 28)); have HO6 := Lib.hid (World.ownsRow.alloc ho6 (.cells #[.slice A L.length c] 28)); have HV6 := Lib.hid (vals_cell (heap_alloc_new w6 (.cells #[.slice A L.length c] 28))); clear hb6 ho6 hg6)
                      | (refine step_vals Try.underlying32 infoR rfl (by decide) rfl (.tmp 86) (.tmp 88) rfl w4.heap.size _ [] ys 0 n2 c2 hyl (by simp [Act.eval]) F2.out A2 (by simp [Act.eval]) V2.out HY1.out (by omega) B2.out.size ?_; intro A5 c5 w6 ho6 hg6; rw [Nat.zero_add, List.nil_append] at ho6; rw [Nat.zero_add]; have hb6 := grow4 B2.out F2.out hg6; obtain ⟨p0, p1, p2, p3, p4, p5, q0, q1, q2, q3, q4, q5, _⟩ := six ((hb6.block _ hB44).trans HX4.out); obtain ⟨g0, g1, _⟩ := Bx.cells ((hb6.block _ HGL.out).trans HGw.out.1); have HB6 := Lib.hid hb6; have HO6 := Lib.hid ho6; have HV6 := Lib.hid (vals_cell ((hg6.block _ (lt_of_block H2.out) (by simp [Value.ownBlock])).trans H2.out)); clear hb6 ho6 hg6)
                      | (refine step_vals Try.underlying32 infoR rfl (by decide) rfl (.tmp 86) (.tmp 88) rfl w4.heap.size _ [] ys 0 n2 c2 hyl (by simp [Act.eval]) F3.out A2 (by simp [Act.eval]) V3.out HY1.out (by omega) B3.out.size ?_; intro A5 c5 w6 ho6 hg6; rw [Nat.zero_add, List.nil_append] at ho6; rw [Nat.zero_add]; have hb6 := grow4 B3.out F3.out hg6; obtain ⟨p0, p1, p2, p3, p4, p5, q0, q1, q2, q3, q4, q5, _⟩ := six ((hb6.block _ hB44).trans HX4.out); obtain ⟨g0, g1, _⟩ := Bx.cells ((hb6.block _ HGL.out).trans HGw.out.1); have HB6 := Lib.hid hb6; have HO6 := Lib.hid ho6; have HV6 := Lib.hid (vals_cell ((hg6.block _ (lt_of_block H3.out) (by simp [Value.ownBlock])).trans H3.out)); clear hb6 ho6 hg6)
                      | (refine step_vals Try.underlying32 infoR rfl (by decide) rfl (.tmp 89) (.tmp 92) rfl w4.heap.size _ ys [.slice A L.length c] n2 1 1 rfl (by simp [Act.eval]) HO6.out _ (by simp [Act.eval]) HV6.out (by simp [Value.oneCell']) (by omega) HB6.out.size ?_; intro A6 c6 w9 ho9 hg9; have hb9 := grow4 HB6.out HO6.out hg9; clear p0 p1 p2 p3 p4 p5 q0 q1 q2 q3 q4 q5; obtain ⟨p0, p1, p2, p3, p4, p5, q0, q1, q2, q3, q4, q5, _⟩ := six ((hb9.block _ hB44).trans HX4.out); have HS := Lib.hid (sw_out HM4.out hbm HB4.out HLT.out hB44 HX4.out hn1 hn2 hn3 (by omega) HP1.out HP3.out HSP.out HYC.out HEL.out hm hb9 ho9); clear hb9 ho9 hg9))
                    all_goals
                      clear p0 p1 p2 p3 p4 p5 q0 q1 q2 q3 q4 q5
                      go_wp2_with fail
                      go_meet
                      exact HS.out
                  · obtain ⟨P0, hP0⟩ := at_lt (pcA V L j j) 0 (by rw [pcA_len]; omega)
                    have HS0 := Lib.hid (pcA_sm V L j j (by omega) P0 (List.mem_of_getElem? hP0))
                    obtain ⟨es, hes, B1, d1, B2, d2, B3, d3, e5, q1, q2, q3⟩ := HOC.out.con.2 0 P0 hP0
                    have ees : es = [.int .i64 P0.w, .int .i64 P0.k, .int .i64 P0.n, .slice B1 P0.own.length d1, .slice B2 P0.out.length d2, .slice B3 P0.back.length d3] := by
                      injection e5 with e5
                      have := congrArg Array.toList e5
                      simpa using this
                    have hcells := lrow_cells HM4.out hes
                    rw [ees] at hcells
                    have f0 := hcells 0 (by omega); have f1 := hcells 1 (by omega); have f2 := hcells 2 (by omega); have f3 := hcells 3 (by omega); have f4 := hcells 4 (by omega); have f5 := hcells 5 (by omega)
                    simp only [List.getElem?_cons_zero, List.getElem?_cons_succ, Nat.add_zero, Nat.zero_mul, Nat.zero_add] at f0 f1 f2 f3 f4 f5
                    have HQ1 := Lib.hid q1; have HQ2 := Lib.hid q2; have HQ3 := Lib.hid q3
                    clear q1 q2 q3 e5 ees hcells hes hP0
                    go_wp2_with fail
                    go_meet
                    have hset := put6_below (B := bm + 1) (Below.refl _ w4) (b := w3.heap.size) HLT.out (.int .i64 P0.w) (.int .i64 P0.k) (.int .i64 P0.n) (.slice B1 P0.own.length d1) (.slice B2 P0.out.length d2) (.slice B3 P0.back.length d3)
                    have hx := put6_heap HX4.out (.int .i64 P0.w) (.int .i64 P0.k) (.int .i64 P0.n) (.slice B1 P0.own.length d1) (.slice B2 P0.out.length d2) (.slice B3 P0.back.length d3)
                    have hN := ptn_old (c1 := d1) (c2 := d2) (c3 := d3) (HB4.out.trans (hset.mono (by omega))) hbm HQ1.out HQ2.out HQ3.out P0.w P0.k P0.n
                    unfold put6 at hset hx hN
                    exact sw_done HM4.out hbm HB4.out hset hx hN HS0.out
                case rest =>
                  clear f0 f1 f2 f3 f4 f5 hds
                  obtain ⟨xv, P', HBX, HPN, HSP', HMR, HBW, hbW⟩ := hcut
                  obtain ⟨a0, a1, a2, a3, a4, a5, rfl, g0, g1, g2, g3, g4, g5⟩ := HBX
                  obtain ⟨X1, x1, X2, x2, X3, x3, e0, _, _, _⟩ := HPN wc (fun _ _ _ h => h)
                  obtain ⟨rfl, rfl, rfl, rfl, rfl, rfl⟩ : a0 = .int .i64 P'.w ∧ a1 = .int .i64 P'.k ∧ a2 = .int .i64 P'.n ∧ a3 = .slice X1 P'.own.length x1 ∧ a4 = .slice X2 P'.out.length x2 ∧ a5 = .slice X3 P'.back.length x3 := by
                    injection e0 with e0
                    have := congrArg Array.toList e0
                    simpa using this
                  clear e0
                  obtain ⟨Am', cm', e5, hLW⟩ := HMR.form (HOC.out.con.below HBW)
                  rw [pcA_len] at e5
                  cases e5
                  obtain ⟨bk', o', B1, B2, B3, d1, d2, d3, e6, hD⟩ := hLW x P hP
                  obtain ⟨rfl, rfl⟩ : bm = bk' ∧ 0 = o' := by simpa using e6
                  rw [Nat.zero_add] at hD
                  obtain ⟨q0, q1, q2, q3, q4, q5, _, _, _⟩ := hD
                  obtain ⟨_, dd, hdd⟩ := HMR.bt bm (by simp [Value.ownBlock])
                  have r0 := Lib.frozen_of_heap hdd (x * 6); have r1 := Lib.frozen_of_heap hdd (x * 6 + 1); have r2 := Lib.frozen_of_heap hdd (x * 6 + 2)
                  have r3 := Lib.frozen_of_heap hdd (x * 6 + 3); have r4 := Lib.frozen_of_heap hdd (x * 6 + 4); have r5 := Lib.frozen_of_heap hdd (x * 6 + 5)
                  have hset := (set6_lat (P' := P') (by rw [pcA_len]; exact HMR) HOC.out.con HBW hbm (by rw [pcA_len]; exact hxj) HPN).1
                  obtain ⟨w8, hw8⟩ : ∃ w8, w8 = put6o wc bm (x * 6) (.int .i64 P'.w) (.int .i64 P'.k) (.int .i64 P'.n) (.slice X1 P'.own.length x1) (.slice X2 P'.out.length x2) (.slice X3 P'.back.length x3) := ⟨_, rfl⟩
                  rw [← hw8] at hset
                  have hpv8 : PtV w8 (.agg #[.int .i64 P'.w, .int .i64 P'.k, .int .i64 P'.n, .slice X1 P'.own.length x1, .slice X2 P'.out.length x2, .slice X3 P'.back.length x3]) P' := HPN w8 (by rw [hw8]; exact put6o_off _ _ _ _ _ _ _ _ _)
                  have hB8 : Below wl.heap.size wl w8 := by rw [hw8]; exact put6o_below HBW hbm _ _ _ _ _ _ _
                  have hne : w3.heap.size ≠ bm := by
                    obtain ⟨_, d3, hd3⟩ := HM3.out.bt bm (by simp [Value.ownBlock])
                    have := lt_of_block hd3
                    omega
                  have hbx8 : BxP w8 w3.heap.size (.agg #[.int .i64 P'.w, .int .i64 P'.k, .int .i64 P'.n, .slice X1 P'.own.length x1, .slice X2 P'.out.length x2, .slice X3 P'.back.length x3]) := by
                    have ho := put6o_off wc bm (x * 6) (.int .i64 P'.w) (.int .i64 P'.k) (.int .i64 P'.n) (.slice X1 P'.own.length x1) (.slice X2 P'.out.length x2) (.slice X3 P'.back.length x3)
                    rw [← hw8] at ho
                    exact ⟨_, _, _, _, _, _, rfl, ho _ _ hne g0, ho _ _ hne g1, ho _ _ hne g2, ho _ _ hne g3, ho _ _ hne g4, ho _ _ hne g5⟩
                  have hj8 := law_join (some ⟨bm, 0, none⟩) cm ((pcA V L j j).set x P') w8 (Lib.hid hset) (Lib.hid (fun Q hQ => by
                    rcases List.mem_or_eq_of_mem_set hQ with h | h
                    · exact pcA_sm V L j j (by omega) Q h
                    · rw [h]; exact HSP')) (by rw [List.length_set, pcA_len]; omega)
                  rw [List.length_set, pcA_len] at hj8
                  have HJ8 := Lib.hid hj8; have HP8 := Lib.hid hpv8; have HB8 := Lib.hid hB8; have HX8 := Lib.hid hbx8
                  unfold put6o at hw8
                  have HW8 := Lib.hid hw8
                  clear hj8 hpv8 hB8 hbx8 hw8 hset hdd hLW e6
                  go_wp2_with fail
                  rw [← HW8.out]
                  refine HJ8.out.mono ?_
                  rintro e w9 ⟨rfl, hb9⟩
                  have HB9 := Lib.hid (HB8.out.trans (hb9.mono HB8.out.size))
                  have hx9 := HX8.out.ck (ck_below hb9)
                  have HP9 := Lib.hid (pplace_any _ P' (y : Int) w9 (HP8.out.below hb9) HSP')
                  obtain ⟨_, _, _, _, _, _, e7, g0', g1', g2', g3', g4', g5'⟩ := hx9
                  cases e7
                  clear g0 g1 g2 g3 g4 g5 q0 q1 q2 q3 q4 q5 r0 r1 r2 r3 r4 r5 hb9 HJ8
                  go_wp2_with fail
                  refine HP9.out.mono ?_
                  rintro e w10 ⟨rfl, hb10⟩
                  have HB10 := Lib.hid (HB9.out.trans (hb10.mono HB9.out.size))
                  clear g0' g1' g2' g3' g4' g5' hb10 HP9
                  go_wp2_with fail
                  go_roundg (gk - 1)
                  case measure => omega
                  case rel => exact ⟨y + 1, by omega, by go_num, HB10⟩
            · go_wp2
              go_roundg (G - 1)
              case measure => omega
              case rel => exact ⟨x + 1, by omega, by go_num, HBy⟩
        · obtain ⟨AL', cl', e1, hla⟩ := HLR.out.form (HOC.out.con)
          rw [pcA_len] at e1
          cases e1
          have HLA := Lib.hid hla
          have hj1 := law_join AL cl (pcA V L j j) wr (Lib.hid (hla.below HBx.out)) (Lib.hid (pcA_sm V L j j (by omega))) (by rw [pcA_len]; omega)
          rw [pcA_len] at hj1
          have HJ1 := Lib.hid hj1
          clear hj1 hla
          go_wp2_with fail
          refine HJ1.out.mono ?_
          rintro e w2 ⟨rfl, hb2⟩
          have HB2 := Lib.hid (HBx.out.trans (hb2.mono HBx.out.size))
          clear hb2 HJ1
          obtain ⟨g, cap, hcap, hAL⟩ : ∃ g cap, j ≤ cap ∧ AL = some ⟨g, 0, none⟩ ∧ cl = cap := by
            obtain ⟨⟨h0, h1 | ⟨g, cap, cur, h1, h2, h3, h4, h5, h6, h7⟩⟩, hl6⟩ := HLR.out
            · have := h1.1
              injection this with e1 e2 e3
              omega
            · injection h1 with e1 e2 e3
              exact ⟨g, cap, by omega, e1, e3⟩
          obtain ⟨rfl, rfl⟩ := hAL
          have hdl : ((pcA V L j j).drop 1).length = j - 1 := by rw [List.length_drop, pcA_len]
          have hds : ∀ Q ∈ (pcA V L j j).drop 1, Sm Q := fun Q hQ => pcA_sm V L j j (by omega) Q (List.mem_of_mem_drop hQ)
          have HDL := Lib.hid hdl; have HDS := Lib.hid hds
          clear hdl hds
          by_cases hc1 : 1 < cl
          · go_wp2_with fail
            have hj2 := law_join (some ⟨g, 6, none⟩) (cl - 1) ((pcA V L j j).drop 1) w2 (Lib.hid ((lat_drop HLA.out).below HB2.out)) HDS (by rw [HDL.out]; omega)
            rw [HDL.out] at hj2
            refine hj2.mono ?_
            rintro e w5 ⟨rfl, hb5⟩
            have hfin := HZ1.out.trans (((HB.out.trans (HB2.out.mono HB.out.size)).trans (hb5.mono (Nat.le_trans HB.out.size HB2.out.size))).mono HZ1.out.size)
            have HFIN := Lib.hid hfin
            clear hfin hb5 hj2
            go_wp2_with fail
            go_ret
            exact ⟨rfl, HFIN.out⟩
          · go_wp2_with fail
            have hj2 := law_join (some ⟨g, 0, none⟩) 0 ((pcA V L j j).drop 1) w2 (Lib.hid (fun q Q hQ => by have := lt_at hQ; rw [HDL.out] at this; omega)) HDS (by rw [HDL.out]; omega)
            rw [HDL.out] at hj2
            refine hj2.mono ?_
            rintro e w5 ⟨rfl, hb5⟩
            have hfin := HZ1.out.trans (((HB.out.trans (HB2.out.mono HB.out.size)).trans (hb5.mono (Nat.le_trans HB.out.size HB2.out.size))).mono HZ1.out.size)
            have HFIN := Lib.hid hfin
            clear hfin hb5 hj2
            go_wp2_with fail
            go_ret
            exact ⟨rfl, HFIN.out⟩

end Go.Proofs.Ytjcgejbggmpikaa.Pt
