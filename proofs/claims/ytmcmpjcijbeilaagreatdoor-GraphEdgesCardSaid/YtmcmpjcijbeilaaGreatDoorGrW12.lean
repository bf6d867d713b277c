/-
  What is proved here: the contract of graph's (*draft).add: an edge more, if it has room and is not there yet. Conditions: numbers fit an int; the draft is one that the call has made.
-/
import Derived.Test.YtmcmpjcijbeilaaGreatDoorGrKey
import Derived.Test.YtmcmpjcijbeilaaGreatDoorGrW2
import Derived.Deep.RegionLaw
import Derived.RegionTactic
namespace Go.Proofs.YtmcmpjcijbeilaaGreatDoor.Gr
open Go.RowKit Wd Ws

/- Texts stay, whatever is done to the draft. -/
def Kp (w w' : World) : Prop := ∀ (k : Nat) (c : Array Value) (fz : Nat × Nat), w.heap[k]? = some (.cells c 9 fz) → w'.heap[k]? = w.heap[k]?
theorem Kp.refl (w : World) : Kp w w := fun _ _ _ _ => rfl
theorem Kp.trans {a b c : World} (h : Kp a b) (k : Kp b c) : Kp a c := fun i cs fz hi => (k i cs fz ((h i cs fz hi).trans hi)).trans (h i cs fz hi)
theorem Kp.of_below {w w' : World} (h : Below w.heap.size w w') : Kp w w' := fun k _ _ hk => h.block k (lt_of_block hk)
/- What a text says so far, in block D. -/
def Dr (w : World) (B D : Nat) (V : Int) (L : List Ed) : Prop :=
  ∃ (v : Value) (M : Nat), w.heap[D]? = some (.cells #[.int .i64 V, v, .map (some M)] 59 (0, 0)) ∧ EOwn w B v L ∧ PM w M L ∧ B ≤ D ∧ B ≤ M
theorem Dr.below {w w' : World} {B D : Nat} {V : Int} {L : List Ed} (h : Dr w B D V L) (hb : Below w.heap.size w w') : Dr w' B D V L := by
  obtain ⟨v, M, h1, h2, h3, h4, h5⟩ := h
  exact ⟨v, M, (hb.block D (lt_of_block h1)).trans h1, h2.below hb, h3.below hb, h4, h5⟩
theorem Dr.cells {w : World} {D : Nat} {V : Int} {v m : Value} (h : w.heap[D]? = some (.cells #[.int .i64 V, v, m] 59 (0, 0))) :
    w.cell? ⟨D, 0, none⟩ = some (.int .i64 V) ∧ w.cell? ⟨D, 1, none⟩ = some v ∧ w.cell? ⟨D, 2, none⟩ = some m ∧ D < w.heap.size ∧ ∀ j, w.frozen? ⟨D, j, none⟩ = false :=
  ⟨by rw [Lib.cell_of_heap h]; rfl, by rw [Lib.cell_of_heap h]; rfl, by rw [Lib.cell_of_heap h]; rfl, lt_of_block h, fun j => Lib.frozen_of_heap h j⟩
theorem alloc_c {w : World} {o : Obj} {a : Addr} {v : Value} (h : w.cell? a = some v) : (w.alloc o).cell? a = some v := by
  rw [Sort.alloc_eq_grow, Sort.cell?_grow _ _ _ (block_lt_of_cell h)]; exact h
theorem pb_cells {w : World} {b : Nat} {x y : Int} (h : w.heap[b]? = some (.cells #[.int .i64 x, .int .i64 y] 131 (0, 0))) :
    w.cell? ⟨b, 0, none⟩ = some (.int .i64 x) ∧ w.cell? ⟨b, 1, none⟩ = some (.int .i64 y) ∧ b < w.heap.size :=
  ⟨by rw [Lib.cell_of_heap h]; rfl, by rw [Lib.cell_of_heap h]; rfl, lt_of_block h⟩

theorem same_any0 (L : List Ed) (a b c : Int) : L.any (same (a, b, c)) = L.any (same (a, b, 0)) := rfl
theorem step_e {ops : Array Oper} {o : Oper} {a : Act} {w : World} {K : Act → World → Prop} {Q : Exit → Act → World → Prop} {E : Prop} (hgd : o.guard = none) (s x : Operand)
    (ho : o.op = .call { callee := .builtin .append, args := #[s, x], argTypes := #[22, 22] }) (B : Nat) (v : Value) (L : List Ed) (e0 e1 e2 : Int) (hs : a.eval s = v) (hown : EOwn w B v L)
    (g : Nat) (hx : a.eval x = .slice (some ⟨g, 0, none⟩) 1 1) (hg : w.heap[g]? = some (.cells #[.int .i64 e0, .int .i64 e1, .int .i64 e2] 42 (0, 0))) (hn : L.length < 1000000000) (hB : B ≤ w.heap.size)
    (h : ∀ v' w', EOwn w' B v' (L ++ [(e0, e1, e2)]) → w.grownBy w' v.ownBlock → K (a.put o.dst v') w') : if Region.wanted o (yielded ops a.tmps) = true then Oper.wp Tryz.prog o a w K Q else E := by
  have hw : Region.wanted o (yielded ops a.tmps) = true := by simp [Region.wanted, hgd]
  rw [if_pos hw]
  obtain ⟨i0, hi, hz0, hz1, hz2⟩ := info_parts infoE
  refine wp_append_own w s x 22 ho B 42 i0 _ 3 24 Tryz.underlying22 hi hz0 hz1 hz2 rfl (by decide) v L.length (ecs L) hs hown ⟨g, 0, none⟩ 1 1 (ec (e0, e1, e2)) hx rfl ?_ ?_ ?_ ?_ hB ?_
  · intro j u hu
    rw [add_plain, Lib.cell_of_heap hg]
    rcases j with _ | _ | _ | j
    · simpa [ec] using hu
    · simpa [ec] using hu
    · simpa [ec] using hu
    · simp [ec] at hu
  · intro u hu
    simp only [ec, List.mem_cons, List.not_mem_nil, or_false] at hu
    rcases hu with rfl | rfl | rfl <;> rfl
  · unfold maxLen; omega
  · omega
  · intro v' w' h1 h2 _
    refine h v' w' ?_ h2
    unfold EOwn
    rw [ecs_append, List.length_append]
    have : ecs [(e0, e1, e2)] = ec (e0, e1, e2) := by simp [ecs]
    rw [this]; exact h1

theorem keepD {w w' : World} {B D : Nat} {V : Int} {v x m : Value} {L : List Ed} (hD : w.heap[D]? = some (.cells #[.int .i64 V, x, m] 59 (0, 0))) (ho : EOwn w B v L) (hg : w.grownBy w' v.ownBlock) :
    w'.heap[D]? = some (.cells #[.int .i64 V, x, m] 59 (0, 0)) := by
  refine (hg.block D (lt_of_block hD) fun e => ?_).trans hD
  obtain ⟨_, cs, hc⟩ := own_lt ho D e.symm
  rw [hD] at hc
  simp at hc
theorem mid {w W3 W4 : World} {B D M b : Nat} {V : Int} {v : Value} {L : List Ed} {x y z : Int} (hD : W3.heap[D]? = some (.cells #[.int .i64 V, v, .map (some M)] 59 (0, 0))) (hE : EOwn W3 B v L) (hM : PM W3 M L)
    (hY : W3.heap[b]? = some (.cells #[.int .i64 x, .int .i64 y, .int .i64 z] 42 (0, 0))) (hg : W3.drew.grownBy W4 (some M)) (hB : Below B w W3) (hBM : B ≤ M) (hs : B ≤ W3.heap.size) (hK : Kp w W3) :
    W4.heap[D]? = some (.cells #[.int .i64 V, v, .map (some M)] 59 (0, 0)) ∧ EOwn W4 B v L ∧ W4.heap[b]? = some (.cells #[.int .i64 x, .int .i64 y, .int .i64 z] 42 (0, 0)) ∧ Below B w W4 ∧ Kp w W4 := by
  obtain ⟨es, clock, hm⟩ := hM.isMap
  have key : ∀ (k : Nat) (c : Array Value) (t : TypeId) (fz : Nat × Nat), W3.heap[k]? = some (.cells c t fz) → W4.heap[k]? = W3.heap[k]? := fun k c t fz hk =>
    hg.block k (lt_of_block (w := W3) hk) fun e => by
      obtain rfl := Option.some.inj e
      rw [hm] at hk; cases hk
  refine ⟨(key D _ _ _ hD).trans hD, own_kept hE fun g c fz _ hc => key g _ _ _ hc, (key b _ _ _ hY).trans hY, Below.grown hB.drew hg hs (fun k e => by cases e; exact hBM), ?_⟩
  exact fun k c fz hk => (key k c _ fz ((hK k c fz hk).trans hk)).trans (hK k c fz hk)
theorem addFin {w W5 w5 : World} {B D M : Nat} {V : Int} {v v' : Value} {L L' : List Ed} (hD : W5.heap[D]? = some (.cells #[.int .i64 V, v, .map (some M)] 59 (0, 0))) (hE : EOwn W5 B v L) (hM : PM W5 M L')
    (hg : W5.grownBy w5 v.ownBlock) (ho : EOwn w5 B v' L') (hB : Below B w W5) (hBD : B ≤ D) (hBM : B ≤ M) (hs : B ≤ W5.heap.size) (hK : Kp w W5) :
    Dr (w5.setCell ⟨D, 1, none⟩ v') B D V L' ∧ Below B w (w5.setCell ⟨D, 1, none⟩ v') ∧ Kp w (w5.setCell ⟨D, 1, none⟩ v') := by
  have hD5 := keepD hD hE hg
  have oth : ∀ (k : Nat) (c : Array Value) (t : TypeId) (fz : Nat × Nat), w5.heap[k]? = some (.cells c t fz) → t ≠ 59 → (w5.setCell ⟨D, 1, none⟩ v').heap[k]? = w5.heap[k]? := fun k c t fz hk hn =>
    heap_setCell_other w5 ⟨D, 1, none⟩ k v' (fun e => by
      have e' : k = D := e
      rw [e', hD5] at hk; simp at hk; exact hn hk.2.1.symm)
  obtain ⟨es, clock, hm⟩ := hM.isMap
  have hMD : M ≠ D := fun e => by rw [e, hD] at hm; cases hm
  have hm5 : w5.heap[M]? = W5.heap[M]? := hg.block M (lt_of_block hm) fun e => by
    obtain ⟨_, cs, hc⟩ := own_lt hE M e.symm
    rw [hm] at hc; cases hc
  refine ⟨⟨v', M, heap_setCell_same w5 D 1 _ _ v' hD5, own_kept ho fun g c fz _ hc => oth g _ _ _ hc (by decide), hM.kept ((heap_setCell_other w5 ⟨D, 1, none⟩ M v' hMD).trans hm5), hBD, hBM⟩, ?_, ?_⟩
  · exact (Below.grown hB hg hs fun k e => (own_lt hE k e).1).setCell (p := ⟨D, 1, none⟩) hBD _
  · intro k c fz hk
    have h1 := hK k c fz hk
    have h2 : w5.heap[k]? = W5.heap[k]? := hg.block k (lt_of_block (h1.trans hk)) fun e => by
      obtain ⟨_, cs, hc⟩ := own_lt hE k e.symm
      rw [h1.trans hk] at hc; simp at hc
    exact (oth k c _ fz (h2.trans (h1.trans hk)) (by decide)).trans (h2.trans h1)

/- All but the draft's own blocks stay. -/
def Kq (D : Nat) (V : Int) (w w' : World) : Prop := ∀ (v : Value) (M : Nat), w.heap[D]? = some (.cells #[.int .i64 V, v, .map (some M)] 59 (0, 0)) → ∀ (k : Nat) (o : Obj), w.heap[k]? = some o → k ≠ D → k ≠ M → v.ownBlock ≠ some k → w'.heap[k]? = some o
theorem Kq.of_below {D : Nat} {V : Int} {w w' : World} (h : Below w.heap.size w w') : Kq D V w w' := fun _ _ _ k _ hk _ _ _ => (h.block k (lt_of_block hk)).trans hk
theorem kqFin {w W3 W4 W5 w5 : World} {D M : Nat} {V : Int} {v v' : Value} (hD : w.heap[D]? = some (.cells #[.int .i64 V, v, .map (some M)] 59 (0, 0))) (h3 : Below w.heap.size w W3) (hg4 : W3.drew.grownBy W4 (some M)) (h5 : Below W4.heap.size W4 W5) (hg5 : W5.grownBy w5 v.ownBlock) :
    Kq D V w (w5.setCell ⟨D, 1, none⟩ v') := by
  intro v2 M2 h2 k o hk k1 k2 k3
  rw [hD] at h2
  simp at h2
  obtain ⟨rfl, rfl⟩ := h2
  have a3 := (h3.block k (lt_of_block hk)).trans hk
  have a4 : W4.heap[k]? = some o := (hg4.block k (lt_of_block (w := W3) a3) fun e => k2 (Option.some.inj e)).trans a3
  have a5 := (h5.block k (lt_of_block a4)).trans a4
  have a6 := (hg5.block k (lt_of_block a5) fun e => k3 e.symm).trans a5
  exact (heap_setCell_other w5 ⟨D, 1, none⟩ k v' k1).trans a6

set_option maxRecDepth 100000 in
set_option maxHeartbeats 600000 in
theorem add_any (B D : Nat) (V : Int) (L : List Ed) (a b c : Int) (w : World) (h : Hid (Dr w B D V L)) (ha : -9223372036854775808 ≤ a ∧ a ≤ 9223372036854775807) (hb : -9223372036854775808 ≤ b ∧ b ≤ 9223372036854775807) (hl : L.length ≤ 8192) (hB : B ≤ w.heap.size) (r : Option (List Ed)) (hr : Hid (addP L (a, b, c) = r)) :
    Calls Tryz.prog 79 #[.pointer (some ⟨D, 0, none⟩), .agg #[.int .i64 a, .int .i64 b, .int .i64 c]] w fun e w' => e = .returned (.bool r.isSome) ∧ Hid (Dr w' B D V (r.getD L)) ∧ Hid (Below B w w') ∧ Hid (Kp w w') ∧ Hid (Kq D V w w') := by
  have mixed := mixedO
  obtain ⟨v, M, hD, hE, hM, hBD, hBM⟩ := h.out
  have HV0 := Lib.hid hD
  obtain ⟨d0, d1, d2, hDs, dfz⟩ := Dr.cells hD
  go_enter Tryz.func79, Tryz.ntmps79
  have hy := heap_alloc_new w (.cells #[.int .i64 a, .int .i64 b, .int .i64 c] 42)
  obtain ⟨W1, hW1⟩ : ∃ W1, W1 = w.alloc (.cells #[.int .i64 a, .int .i64 b, .int .i64 c] 42) := ⟨_, rfl⟩
  have hp := heap_alloc_new W1 (.cells #[.int .i64 a, .int .i64 b] 131)
  have hs1 : W1.heap.size = w.heap.size + 1 := by rw [hW1]; simp
  have hb1 : Below w.heap.size w W1 := by rw [hW1]; exact (Below.refl _ w).alloc (Nat.le_refl _) _
  obtain ⟨W2, hW2⟩ : ∃ W2, W2 = W1.alloc (.cells #[.int .i64 a, .int .i64 b] 131) := ⟨_, rfl⟩
  have hb2 : Below w.heap.size w W2 := by rw [hW2]; exact hb1.alloc (by omega) _
  rw [← hW1] at hy
  rw [← hW2, hs1] at hp
  have hs2 : W2.heap.size = w.heap.size + 2 := by rw [hW2]; simp; omega
  have hy2 : W2.heap[w.heap.size]? = some (.cells #[.int .i64 a, .int .i64 b, .int .i64 c] 42 (0, 0)) := by
    rw [hW2, Lib.alloc_old _ _ _ (by omega)]; exact hy
  have HW : Hid (W2 = (w.alloc (.cells #[.int .i64 a, .int .i64 b, .int .i64 c] 42)).alloc (.cells #[.int .i64 a, .int .i64 b] 131)) := Lib.hid (by rw [hW2, hW1])
  clear hW1 hW2 hy hb1
  have HDD := Lib.hid ((hb2.block _ hDs).trans hD)
  have HEE := Lib.hid (hE.below hb2)
  have HMM := Lib.hid (hM.below hb2)
  have HP := Lib.hid hp; have HY := Lib.hid hy2; have HB2 := Lib.hid hb2
  clear hD hE hM d0 d1 d2 dfz hp hy2 hb2 hs1
  go_wp2
  rw [← HW.out]
  obtain ⟨d0, d1, d2, hDs2, dfz⟩ := Dr.cells HDD.out
  obtain ⟨p0, p1, hps⟩ := pb_cells HP.out
  have lk1 := (HMM.out.below ((Below.refl _ W2).drew)).look a b ha hb
  have lk2 := (HMM.out.below (((Below.refl _ W2).alloc (Nat.le_refl _) (.cells #[] 132)).drew)).look a b ha hb
  have q2 := alloc_c (o := .cells #[] 132) d2
  have q3 := alloc_c (o := .cells #[] 132) p0
  have q4 := alloc_c (o := .cells #[] 132) p1
  unfold pk at lk1 lk2
  obtain ⟨q, hq⟩ : ∃ q, L.any (same (a, b, 0)) = q := ⟨_, rfl⟩
  rw [hq] at lk1 lk2
  have HQ := Lib.hid hq; clear hq
  go_region
  all_goals
    generalize hW3 : (W2.alloc (.cells #[] 132)).drew = W3
    have hb3 : Below W2.heap.size W2 W3 := by rw [← hW3]; exact ((Below.refl _ W2).alloc (Nat.le_refl _) _).drew
    clear hW3 lk1 lk2 q2 q3 q4 d0 d1 d2 p0 p1 dfz
    have hD3 := (hb3.block _ hDs2).trans HDD.out
    have hY3 := (hb3.block _ (by omega)).trans HY.out
    have hP3 := (hb3.block _ hps).trans HP.out
    have hE3 := HEE.out.below hb3
    have hM3 := HMM.out.below hb3
    have hB3 := HB2.out.trans (hb3.mono (by omega))
    obtain ⟨A, cc, rfl, _, _, _⟩ := hE3.form
    obtain ⟨d0, d1, d2, hDs3, dfz⟩ := Dr.cells hD3
    obtain ⟨p0, p1, hps3⟩ := pb_cells hP3
    obtain ⟨y0, y1, y2, hys3⟩ := eb_cells hY3
    have HD3 := Lib.hid hD3; have HE3 := Lib.hid hE3; have HM3 := Lib.hid hM3; have HB3 := Lib.hid hB3; have HY3 := Lib.hid hY3
    clear hb3 hD3 hE3 hM3 hB3 hY3 hP3
    cases q with
    | true =>
      have hrn : r = none := by rw [← hr.out]; unfold addP; rw [same_any0, if_pos (Or.inl HQ.out)]
      subst hrn
      go_wp2
      go_ret
      exact ⟨rfl, Lib.hid ⟨_, M, HD3.out, HE3.out, HM3.out, hBD, hBM⟩, Lib.hid (HB3.out.mono hB), Lib.hid (Kp.of_below HB3.out), Lib.hid (Kq.of_below HB3.out)⟩
    | false =>
      by_cases h8 : L.length = 8192
      · have hrn : r = none := by rw [← hr.out]; unfold addP; rw [if_pos (Or.inr h8)]
        subst hrn
        have h8' : (L.length : Int) = 8192 := by omega
        go_wp2
        all_goals (try (exfalso; omega))
        go_ret
        exact ⟨rfl, Lib.hid ⟨_, M, HD3.out, HE3.out, HM3.out, hBD, hBM⟩, Lib.hid (HB3.out.mono hB), Lib.hid (Kp.of_below HB3.out), Lib.hid (Kq.of_below HB3.out)⟩
      · have hrs : r = some (L ++ [(a, b, c)]) := by
          rw [← hr.out]; unfold addP; rw [same_any0, if_neg]; intro hh; rcases hh with hh | hh
          · rw [HQ.out] at hh; cases hh
          · exact h8 hh
        subst hrs
        have h8' : ¬ (L.length : Int) = 8192 := by omega
        go_wp2
        all_goals (try (exfalso; omega))
        obtain ⟨W4, hrun, hM4, hg4⟩ := (HM3.out.below ((Below.refl _ W3).drew)).store a b c ha hb (by omega)
        unfold pk at hrun
        have HM4 := Lib.hid hM4; have HG4 := Lib.hid hg4; clear hM4 hg4
        go_region
        all_goals
          obtain ⟨hD4, hE4, hY4, hB4, hK4⟩ := mid HD3.out HE3.out HM3.out HY3.out HG4.out (HB3.out.mono hB) hBM (by omega) (Kp.of_below HB3.out)
          clear d0 d1 d2 dfz y0 y1 y2 p0 p1 hrun
          obtain ⟨d0, d1, d2, hDs4, dfz⟩ := Dr.cells hD4
          obtain ⟨y0, y1, y2, hys4⟩ := eb_cells hY4
          have e1 := alloc_c (o := .cells #[.int .i64 a, .int .i64 b, .int .i64 c] 42) d1
          have HN5 := Lib.hid (heap_alloc_new W4 (.cells #[.int .i64 a, .int .i64 b, .int .i64 c] 42))
          have hb5 : Below W4.heap.size W4 ((W4.alloc (.cells #[.int .i64 a, .int .i64 b, .int .i64 c] 42)).drew) := ((Below.refl _ W4).alloc (Nat.le_refl _) _).drew
          have HO5 := Lib.hid (hE4.below hb5)
          have HD5 := Lib.hid ((hb5.block _ hDs4).trans hD4)
          have HM5 := Lib.hid (HM4.out.below hb5)
          have hsz4 : B ≤ W4.heap.size := by have := hB4.size; omega
          have HB5 := Lib.hid (hB4.trans (hb5.mono hsz4))
          have HK5 := Lib.hid (hK4.trans (Kp.of_below hb5))
          have hsz5 : B ≤ ((W4.alloc (.cells #[.int .i64 a, .int .i64 b, .int .i64 c] 42)).drew).heap.size := Nat.le_trans hsz4 hb5.size
          have HB45 := Lib.hid hb5
          clear hD4 hE4 hY4 hB4 hK4 hb5
          go_wp2
          go_region_law (refine step_e rfl (.tmp 41) (.tmp 43) rfl B _ L a b c (by simp [Act.eval]) HO5.out W4.heap.size (by simp [Act.eval]) HN5.out (by omega) hsz5 ?_; intro v' w5 ho5 hg5; obtain ⟨A6, c6, rfl, _, _, _⟩ := ho5.form; have hd5 := keepD HD5.out HO5.out hg5; have f0 := (Dr.cells hd5).2.1; have f1 := (Dr.cells hd5).2.2.2.2)
          all_goals
            obtain ⟨g1, g2, g3⟩ := addFin HD5.out HO5.out HM5.out hg5 ho5 HB5.out hBD hBM hsz5 HK5.out
            have g4 : Kq D V w (w5.setCell ⟨D, 1, none⟩ (.slice A6 (L ++ [(a, b, c)]).length c6)) := kqFin HV0.out HB3.out HG4.out HB45.out hg5
            rw [show (L ++ [(a, b, c)]).length = L.length + 1 by simp] at g1 g2 g3 g4
            have HG1 := Lib.hid g1; have HG2 := Lib.hid g2; have HG3 := Lib.hid g3; have HG4' := Lib.hid g4
            clear g1 g2 g3 g4 hg5 ho5 hd5 f0 f1
            go_wp2
            go_ret
            exact ⟨rfl, HG1, HG2, HG3, HG4'⟩

end Go.Proofs.YtmcmpjcijbeilaaGreatDoor.Gr
