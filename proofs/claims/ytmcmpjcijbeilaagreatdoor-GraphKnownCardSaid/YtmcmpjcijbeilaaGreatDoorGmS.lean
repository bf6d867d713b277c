/-
  What is proved here: the texts GrTurn3 of this seat, laid together (each says itself what it proves; no condition beyond theirs).
-/
import Derived.Test.YtmcmpjcijbeilaaGreatDoorGmF
import Derived.Test.YtmcmpjcijbeilaaGreatDoorGmG
import Derived.Test.YtmcmpjcijbeilaaGreatDoorGmR
import Derived.Deep.AppendLies
import Derived.Deep.RegionLaw
/-
  What is proved here: the contract of treadwheelref04's Turn. Conditions: the edges can be read.
-/
namespace Go.Proofs.YtmcmpjcijbeilaaGreatDoor.Gr
open Go.RowKit Wd Ws

/- The turned graph that grows, in its box; the graph that came in, in its own; the answer's. -/
structure Tb (w W : World) (V : Int) (A : Option Addr) (c : Nat) (L : List Ed) (T : Nat) (v : Value) (M : List Ed) : Prop where
  below : Below w.heap.size w W
  bx : W.heap[w.heap.size]? = some (.cells #[.int .i64 V, .slice A L.length c] 24 (0, 0))
  br : W.heap[w.heap.size + 1]? = some (.cells #[.int .i64 0, .slice none 0 0] 24 (0, 0))
  bt : W.heap[T]? = some (.cells #[.int .i64 V, v] 24 (0, 0))
  own : EOwn W (T + 1) v M
  at0 : EAt w A L
  lt : w.heap.size + 1 < T
theorem Tb.at_ {w W : World} {V : Int} {A : Option Addr} {c : Nat} {L : List Ed} {T : Nat} {v : Value} {M : List Ed} (h : Tb w W V A c L T v M) : EAt W A L := h.at0.below h.below
theorem Tb.step {w W W' : World} {V : Int} {A : Option Addr} {c : Nat} {L : List Ed} {T : Nat} {v : Value} {M : List Ed} (h : Tb w W V A c L T v M) (k : Below W.heap.size W W') : Tb w W' V A c L T v M :=
  ⟨h.below.trans (k.mono h.below.size), (k.block _ (lt_of_block h.bx)).trans h.bx, (k.block _ (lt_of_block h.br)).trans h.br, (k.block _ (lt_of_block h.bt)).trans h.bt, h.own.below k, h.at0, h.lt⟩
theorem Tb.put {w W W' : World} {V : Int} {A : Option Addr} {c : Nat} {L : List Ed} {T : Nat} {v v' : Value} {M M' : List Ed} (h : Tb w W V A c L T v M) (hg : W.grownBy W' v.ownBlock) (ho : EOwn W' (T + 1) v' M') :
    Tb w (W'.setCell ⟨T, 1, none⟩ v') V A c L T v' M' := by
  have hlt := h.lt
  have key : ∀ k, k ≤ T → k < W.heap.size → W'.heap[k]? = W.heap[k]? := fun k hk hs => hg.block k hs (fun e => by have := (own_lt h.own k e.symm).1; omega)
  have hT := lt_of_block h.bt
  have oth : ∀ k, k ≠ T → (W'.setCell ⟨T, 1, none⟩ v').heap[k]? = W'.heap[k]? := fun k hk => heap_setCell_other W' ⟨T, 1, none⟩ k v' hk
  refine ⟨?_, ?_, ?_, ?_, ?_, h.at0, h.lt⟩
  · exact (Below.grown h.below hg h.below.size fun k e => by have := (own_lt h.own k e).1; omega).setCell (p := ⟨T, 1, none⟩) (by show w.heap.size ≤ T; omega) _
  · exact (oth _ (by omega)).trans ((key _ (by omega) (lt_of_block h.bx)).trans h.bx)
  · exact (oth _ (by omega)).trans ((key _ (by omega) (lt_of_block h.br)).trans h.br)
  · exact heap_setCell_same W' T 1 _ _ v' ((key T (Nat.le_refl _) hT).trans h.bt)
  · exact ownsRow_setCell_below ho (a := ⟨T, 1, none⟩) (by show T < T + 1; omega) _
/- One edge more, at a step of a region that draws; where the new row lies. -/
theorem step_l {ops : Array Oper} {o : Oper} {a : Act} {w : World} {K : Act → World → Prop} {Q : Exit → Act → World → Prop} {E : Prop} (hgd : o.guard = none) (s x : Operand)
    (ho : o.op = .call { callee := .builtin .append, args := #[s, x], argTypes := #[22, 22] }) (B : Nat) (v : Value) (L : List Ed) (e0 e1 e2 : Int) (hs : a.eval s = v) (hown : EOwn w B v L)
    (g : Nat) (hx : a.eval x = .slice (some ⟨g, 0, none⟩) 1 1) (hg : w.heap[g]? = some (.cells #[.int .i64 e0, .int .i64 e1, .int .i64 e2] 42 (0, 0))) (hn : L.length < 1000000000) (hB : B ≤ w.heap.size)
    (h : ∀ g n c w', EOwn w' B (.slice (some ⟨g, 0, none⟩) n c) (L ++ [(e0, e1, e2)]) → w.grownBy w' v.ownBlock → (v.ownBlock = some g ∨ g = w.heap.size) → K (a.put o.dst (.slice (some ⟨g, 0, none⟩) n c)) w') : if Region.wanted o (yielded ops a.tmps) = true then Oper.wp Tryz.prog o a w K Q else E := by
  obtain ⟨i0, hi, hz0, hz1, hz2⟩ := info_parts infoE
  refine step_append_lies w hgd s x 22 ho B 42 i0 _ 3 24 Tryz.underlying22 hi hz0 hz1 hz2 rfl (by decide) v L.length (ecs L) hs hown ⟨g, 0, none⟩ 1 1 (ec (e0, e1, e2)) hx rfl ?_ ?_ (by decide) ?_ ?_ hB _ rfl ?_
  · intro j u hu
    rw [Ws.add_plain, Lib.cell_of_heap hg]
    rcases j with _ | _ | _ | j
    · simpa [ec] using hu
    · simpa [ec] using hu
    · simpa [ec] using hu
    · simp [ec] at hu
  · intro u hu
    simp only [ec, List.mem_cons, List.not_mem_nil, or_false] at hu
    rcases hu with rfl | rfl | rfl <;> rfl
  · unfold maxLen; omega
  · omega
  · intro g' cap w' h1 h2 h3 _
    refine h g' _ cap w' ?_ h2 h3
    unfold EOwn
    rw [ecs_append, List.length_append]
    have : ecs [(e0, e1, e2)] = ec (e0, e1, e2) := by simp [ecs]
    rw [this]; exact h1
/- A row of the call's own that lies elsewhere. -/
def Far (A : Option Addr) (T : Nat) (v : Value) : Prop := A = none ∨ ∃ g, A = some ⟨g, 0, none⟩ ∧ T < g ∧ v.ownBlock ≠ some g
theorem eat_far {w w' : World} {A : Option Addr} {M : List Ed} {T : Nat} {v v' : Value} (h : EAt w A M) (hf : Far A T v) (hg : w.grownBy w' v.ownBlock) : EAt (w'.setCell ⟨T, 1, none⟩ v') A M := by
  intro k e he
  obtain ⟨bk, o, hA, c0, c1, c2⟩ := h k e he
  rcases hf with hf | ⟨g, hf, hT, hne⟩
  · rw [hf] at hA; cases hA
  · obtain ⟨rfl, rfl⟩ : bk = g ∧ o = 0 := by
      rw [hf] at hA; simp only [Option.some.injEq, Addr.mk.injEq] at hA; exact ⟨hA.1.symm, hA.2.1.symm⟩
    have e1 : (w'.setCell ⟨T, 1, none⟩ v').heap[bk]? = w.heap[bk]? := (heap_setCell_other w' ⟨T, 1, none⟩ bk v' (by show bk ≠ T; omega)).trans (hg.block bk (block_lt_of_cell c0) (fun e => hne e.symm))
    exact ⟨bk, 0, hf, by rw [World.cell?, e1]; exact c0, by rw [World.cell?, e1]; exact c1, by rw [World.cell?, e1]; exact c2⟩
def TrOut (w : World) (V : Int) (A : Option Addr) (c : Nat) (L : List Ed) (T : Nat) (K : Nat) (gk : Nat) (v6 : Value) (wr : World) : Prop :=
  ∃ (k : Nat) (v : Value), v6 = .int .i64 (k : Int) ∧ k + gk = K ∧ Hid (Tb w wr V A c L T v (tur L k))
def TrIn (w : World) (V : Int) (A : Option Addr) (c : Nat) (L : List Ed) (T : Nat) (k : Nat) (M : List Ed) (A7 : Option Addr) (gk : Nat) (v8 : Value) (wr : World) : Prop :=
  ∃ (i : Nat) (v : Value), v8 = .int .i64 (i : Int) ∧ i + gk = M.length ∧ Hid (EAt wr A7 M) ∧ Hid (Far A7 T v) ∧ Hid (Tb w wr V A c L T v (tur L k ++ (M.take i).map trn)) ∧ (∀ g, A7 = some ⟨g, 0, none⟩ → g < wr.heap.size)

set_option maxRecDepth 100000 in
set_option maxHeartbeats 2000000 in
theorem rturn_any (V : Int) (A : Option Addr) (c : Nat) (L : List Ed) (w : World) (hL : Hid (EAt w A L)) (hm : L.length ≤ 9223372036854775807) :
    Calls Tryz.prog 14 #[.agg #[.int .i64 V, .slice A L.length c]] w fun e w' => TurnRes w w' V L e ∧ Hid (Below w.heap.size w w') := by
  have mixed := mixedO
  obtain ⟨w1, hw1⟩ : ∃ w1, w1 = w.alloc (.cells #[.int .i64 V, .slice A L.length c] 24) := ⟨_, rfl⟩
  obtain ⟨w2, hw2⟩ : ∃ w2, w2 = w1.alloc (.cells #[.int .i64 0, .slice none 0 0] 24) := ⟨_, rfl⟩
  have s1 : w1.heap.size = w.heap.size + 1 := by rw [hw1]; simp
  have s2 : w2.heap.size = w.heap.size + 2 := by rw [hw2]; simp; omega
  have b1 : Below w.heap.size w w1 := by rw [hw1]; exact (Below.refl _ w).alloc (Nat.le_refl _) _
  have b2 : Below w1.heap.size w1 w2 := by rw [hw2]; exact (Below.refl _ w1).alloc (Nat.le_refl _) _
  have b12 := b1.trans (b2.mono (by omega))
  have e1 : w1.heap[w.heap.size]? = some (.cells #[.int .i64 V, .slice A L.length c] 24 (0, 0)) := by rw [hw1]; exact heap_alloc_new w _
  have e2 : w2.heap[w.heap.size + 1]? = some (.cells #[.int .i64 0, .slice none 0 0] 24 (0, 0)) := by rw [hw2, ← s1]; exact heap_alloc_new w1 _
  have HX2 := Lib.hid ((b2.block _ (by omega)).trans e1)
  have HR2 := Lib.hid e2
  have HB2 := Lib.hid b12
  have HA2 := Lib.hid (hL.out.below b12)
  have HW : Hid (w2 = (w.alloc (.cells #[.int .i64 V, .slice A L.length c] 24)).alloc (.cells #[.int .i64 0, .slice none 0 0] 24)) := Lib.hid (by rw [hw2, hw1])
  clear hw1 hw2 b1 b2 b12 e1 e2 s1
  obtain ⟨E, hE⟩ : ∃ E, chk V L = E := ⟨_, rfl⟩
  have HC := rcheck_any V A c L w2 HA2.out hm
  rw [hE] at HC
  have HCK := Lib.hid HC; have HE := Lib.hid hE; clear HC hE
  go_enter Tryz.func14, Tryz.ntmps14
  go_wp2_with fail
  rw [← HW.out]
  refine HCK.out.mono ?_
  rintro e w3 ⟨rfl, hb3⟩
  have hs3 := hb3.size
  have HB3 := Lib.hid (HB2.out.trans (hb3.mono HB2.out.size))
  have HX3 := Lib.hid ((hb3.block _ (by omega)).trans HX2.out)
  have HR3 := Lib.hid ((hb3.block _ (by omega)).trans HR2.out)
  clear hb3
  obtain ⟨x0, x1, hxs⟩ := Bx.cells HX3.out
  obtain ⟨r0, r1, hrs⟩ := Bx.cells HR3.out
  have rf := Gx.cells HR3.out
  by_cases hE0 : E = 0
  · subst hE0
    obtain ⟨v1, v2, v3, v4, v5⟩ := (chk_zero V L).1 HE.out
    clear v4 v5
    obtain ⟨w4, hw4⟩ : ∃ w4, w4 = w3.alloc (.cells #[.int .i64 V, .slice none 0 0] 24) := ⟨_, rfl⟩
    have hb4 : Below w3.heap.size w3 w4 := by rw [hw4]; exact (Below.refl _ w3).alloc (Nat.le_refl _) _
    have HT4 : Hid (Tb w w4 V A c L w3.heap.size (.slice none 0 0) []) := Lib.hid ⟨HB3.out.trans (hb4.mono (by omega)), (hb4.block _ (by omega)).trans HX3.out, (hb4.block _ (by omega)).trans HR3.out, by rw [hw4]; exact heap_alloc_new w3 _, EOwn.none_ _ _, hL.out, by omega⟩
    have HW4 := Lib.hid hw4
    clear hw4 hb4
    obtain ⟨K, hK⟩ : ∃ K : Nat, (K : Int) = V := ⟨V.toNat, by omega⟩
    go_upto_region 5 with fail
    rw [← HW4.out]
    clear x0 x1 r0 r1 rf
    go_wp2
    go_loopg [6] K (fun gk v6 wr => TrOut w V A c L w3.heap.size K gk v6 wr)
    case atStart => exact ⟨0, _, rfl, by omega, HT4⟩
    case round =>
      obtain ⟨k, v, rfl, hk, HT⟩ := hrel
      obtain ⟨x0, x1, hxs⟩ := Bx.cells HT.out.bx
      obtain ⟨t0, t1, hts⟩ := Bx.cells HT.out.bt
      by_cases hlt : k < K
      · have hltz : (k : Int) < V := by omega
        have HBK := Lib.hid (rback_any V (k : Int) A c L wr HT.out.at_ (by omega))
        go_wp2_with fail
        refine HBK.out.mono ?_
        rintro e w5 ⟨v7, rfl, ho7, hb5⟩
        have HT5 := Lib.hid (HT.out.step hb5)
        obtain ⟨A7, c7, rfl, hA7, hA7b, _⟩ := ho7.form
        have HA7 := Lib.hid hA7
        have HFar : Hid (Far A7 w3.heap.size v) := Lib.hid (by
          rcases hA7b with h | ⟨g, h, hb, _⟩
          · exact Or.inl h
          · have := lt_of_block HT.out.bt
            refine Or.inr ⟨g, h, by omega, fun e => ?_⟩
            obtain ⟨_, cs, hc⟩ := own_lt HT.out.own g e
            have := lt_of_block hc
            omega)
        have hA7s : ∀ g, A7 = some ⟨g, 0, none⟩ → g < w5.heap.size := fun g e => by
          rcases hA7b with h | ⟨g', h, _, hb, _⟩
          · rw [e] at h; cases h
          · rw [e] at h; cases h; exact hb
        have HA7S := Lib.hid hA7s
        clear hA7b hA7s
        obtain ⟨M, hM⟩ : ∃ M, (L.filter fun e => decide (e.2.1 = (k : Int))) = M := ⟨_, rfl⟩
        rw [hM] at HA7 ⊢
        have HMt : Hid (M = toV L k) := Lib.hid hM.symm
        clear hb5 ho7 hA7 hM x0 x1 t0 t1
        obtain ⟨m, hm7⟩ : ∃ m, m = M.length := ⟨_, rfl⟩
        rw [← hm7]
        have HM7 := Lib.hid hm7; clear hm7
        have hmb : m ≤ 8192 := by
          have h3 : M.length ≤ L.length := by rw [HMt.out]; exact List.length_filter_le _ _
          rw [HM7.out]; omega
        obtain ⟨G, rfl⟩ : ∃ G : Nat, G = gk := ⟨_, rfl⟩
        obtain ⟨wo, rfl⟩ : ∃ wo : World, wo = wr := ⟨_, rfl⟩
        go_wp2
        go_loopg [8] m (fun gk v8 wr => TrIn w V A c L w3.heap.size k M A7 gk v8 wr)
        case atStart => exact ⟨0, v, rfl, by rw [← HM7.out]; omega, HA7, HFar, Lib.hid (by rw [List.take_zero, List.map_nil, List.append_nil]; exact HT5.out), HA7S.out⟩
        case round =>
          obtain ⟨i, v, rfl, hi, HAi, HFi, HTi, hAs⟩ := hrel
          have HAs := Lib.hid hAs; clear hAs
          rw [← HM7.out] at hi
          obtain ⟨t0, t1, hts⟩ := Bx.cells HTi.out.bt
          have tf := Gx.cells HTi.out.bt
          by_cases hil : i < m
          · obtain ⟨⟨y0, y1, y2⟩, hy⟩ := at_lt M i (by rw [← HM7.out]; exact hil)
            obtain ⟨g, o, rfl, c0, c1, c2⟩ := eat_edge HAi.out hy
            have HY := Lib.hid hy; clear hy
            have hgs := HAs.out g
            obtain rfl : o = 0 := by
              rcases HFi.out with h | ⟨g', h, _⟩
              · cases h
              · cases h; rfl
            rw [Nat.zero_add] at c0 c1 c2
            have hgs := HAs.out g rfl
            have hb5 : Below wr.heap.size wr ((wr.alloc (.cells #[.int .i64 (k : Int), .int .i64 y0, .int .i64 y2] 42)).drew) := ((Below.refl _ wr).alloc (Nat.le_refl _) _).drew
            have HT6 := Lib.hid (HTi.out.step hb5)
            have HA6 := Lib.hid (HAi.out.below hb5)
            have HN6 : Hid (((wr.alloc (.cells #[.int .i64 (k : Int), .int .i64 y0, .int .i64 y2] 42)).drew).heap[wr.heap.size]? = some (.cells #[.int .i64 (k : Int), .int .i64 y0, .int .i64 y2] 42 (0, 0))) := Lib.hid (heap_alloc_new wr _)
            have hs6 : ((wr.alloc (.cells #[.int .i64 (k : Int), .int .i64 y0, .int .i64 y2] 42)).drew).heap.size = wr.heap.size + 1 := by show (wr.alloc _).heap.size = _; simp
            have q1 := alloc_c (o := .cells #[.int .i64 (k : Int), .int .i64 y0, .int .i64 y2] 42) t1
            have hlen : (tur L k ++ List.map trn (M.take i)).length < 1000000000 := by
              have h1 := (tur_perm L k).length_eq
              rw [List.length_map] at h1
              have h2 := List.length_filter_le (fun e => decide (0 ≤ e.2.1) && decide (e.2.1 < (k : Int))) L
              have h3 : M.length ≤ L.length := by rw [HMt.out]; exact List.length_filter_le _ _
              rw [List.length_append, List.length_map, List.length_take]; omega
            have HLen := Lib.hid hlen
            clear hb5 hlen
            go_wp2_with fail
            go_region_law (refine step_l rfl (.tmp 34) (.tmp 47) rfl (w3.heap.size + 1) _ _ (k : Int) y0 y2 (by simp [Act.eval]) HT6.out.own wr.heap.size (by simp [Act.eval]) HN6.out HLen.out (by have := HT6.out.lt; omega) ?_; intro g5 n5 c5 w5 ho5 hg5 hat; have hd5 := (hg5.block w3.heap.size (lt_of_block HT6.out.bt) (fun e => by have := (own_lt HT6.out.own _ e.symm).1; omega)).trans HT6.out.bt; have f0 := (Bx.cells hd5).2.1; have f1 := Gx.cells hd5)
            all_goals
              have hy1 : y1 = (k : Int) := by
                have hmem := List.mem_of_getElem? HY.out
                rw [HMt.out] at hmem
                have := (List.mem_filter.1 hmem).2
                simpa using this
              have HTP : Hid (Tb w (w5.setCell ⟨w3.heap.size, 1, none⟩ (.slice (some ⟨g5, 0, none⟩) n5 c5)) V A c L w3.heap.size (.slice (some ⟨g5, 0, none⟩) n5 c5) (tur L k ++ List.map trn (M.take (i + 1)))) := Lib.hid (by
                have h := HT6.out.put hg5 ho5
                rw [List.append_assoc] at h
                rw [take_at HY.out, List.map_append, show List.map trn [(y0, y1, y2)] = [((k : Int), y0, y2)] by rw [hy1]; rfl]
                exact h)
              have HAP := Lib.hid (eat_far (v' := .slice (some ⟨g5, 0, none⟩) n5 c5) HA6.out HFi.out hg5)
              have HFP : Hid (Far (some ⟨g, 0, none⟩) w3.heap.size (.slice (some ⟨g5, 0, none⟩) n5 c5)) := Lib.hid (by
                rcases HFi.out with h | ⟨g', h, hT, hne⟩
                · cases h
                · cases h
                  refine Or.inr ⟨g, rfl, hT, fun e => ?_⟩
                  have e' : g5 = g := Option.some.inj e
                  rcases hat with hat | hat
                  · rw [e'] at hat; exact hne hat
                  · omega)
              have hs5 := hg5.size
              have HSP : Hid (g < (w5.setCell ⟨w3.heap.size, 1, none⟩ (.slice (some ⟨g5, 0, none⟩) n5 c5)).heap.size) := Lib.hid (by simp; omega)
              clear hg5 ho5 hat hd5 f0 f1 hy1
              go_wp2
              go_roundg (gk - 1)
              case measure => omega
              case rel => exact ⟨i + 1, _, by go_num, by rw [← HM7.out]; omega, HAP, HFP, HTP, fun g' e => by cases e; exact HSP.out⟩
          · have him : i = m := by omega
            have HTe : Hid (Tb w wr V A c L w3.heap.size v (tur L (k + 1))) := Lib.hid (by
              have := HTi.out
              rw [him, HM7.out, List.take_length, HMt.out] at this
              exact this)
            go_wp2
            go_roundg (G - 1)
            case measure => omega
            case rel => exact ⟨k + 1, v, by go_num, by omega, HTe⟩
      · have hltz : ¬ ((k : Int) < V) := by omega
        have hkK : k = V.toNat := by omega
        have HO := Lib.hid HT.out.own
        obtain ⟨A5, n5, c5, hv⟩ : ∃ A n c, v = .slice A n c := by obtain ⟨A, c, h, _⟩ := HT.out.own.form; exact ⟨_, _, _, h⟩
        subst hv
        obtain ⟨r0, r1, hrs⟩ := Bx.cells HT.out.br
        have rf := Gx.cells HT.out.br
        have hlt' := HT.out.lt
        go_wp2
        obtain ⟨q0, q1⟩ := gx_put HT.out.br (.int .i64 V) (.slice A5 n5 c5)
        refine bodyPost_ret (v := .tuple #[.agg #[.int .i64 V, .slice A5 n5 c5], .int .i64 0]) (by simp [results, Tryz.results14, go_sem, q0, q1]) rfl ⟨⟨fun h => absurd HE.out h, fun _ => ⟨_, rfl, Lib.hid ?_⟩⟩, Lib.hid ?_⟩
        · show EOwn _ _ _ (tur L V.toNat)
          rw [← hkK]
          exact own_mono (ownsRow_setCell_below (ownsRow_setCell_below HO.out (a := ⟨w.heap.size + 1, 0, none⟩) (by show w.heap.size + 1 < _; omega) _) (a := ⟨w.heap.size + 1, 1, none⟩) (by show w.heap.size + 1 < _; omega) _) (by omega)
        · exact (HT.out.below.setCell (p := ⟨w.heap.size + 1, 0, none⟩) (by show w.heap.size ≤ w.heap.size + 1; omega) _).setCell (p := ⟨w.heap.size + 1, 1, none⟩) (by show w.heap.size ≤ w.heap.size + 1; omega) _
  · obtain ⟨q0, q1⟩ := gx_put HR3.out (.int .i64 0) (.slice none 0 0)
    go_wp2
    refine bodyPost_ret (v := .tuple #[.agg #[.int .i64 0, .slice none 0 0], .int .i64 E]) (by simp [results, Tryz.results14, go_sem, q0, q1]) rfl ⟨⟨fun _ => by rw [HE.out], fun h => absurd (HE.out.symm.trans h) hE0⟩, Lib.hid ?_⟩
    exact (HB3.out.setCell (p := ⟨w.heap.size + 1, 0, none⟩) (by show w.heap.size ≤ w.heap.size + 1; omega) _).setCell (p := ⟨w.heap.size + 1, 1, none⟩) (by show w.heap.size ≤ w.heap.size + 1; omega) _

end Go.Proofs.YtmcmpjcijbeilaaGreatDoor.Gr
