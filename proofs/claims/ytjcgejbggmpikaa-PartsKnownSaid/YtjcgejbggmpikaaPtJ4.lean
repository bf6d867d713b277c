/-
  What is proved here: the contract of parts.Join. Conditions: the list can be read; counts fit an int.
-/
import Derived.Test.YtjcgejbggmpikaaPtJ3
namespace Go.Proofs.Ytjcgejbggmpikaa.Pt
open Go.RowKit Go.Shelf Gr Wd Ws
attribute [local go_sem] Oper.semAt_some

/- Every cell stays. -/
def Ck (w w' : World) : Prop := ∀ (p : Addr) (v : Value), w.cell? p = some v → w'.cell? p = some v
theorem EAt.ck {w w' : World} {A : Option Addr} {L : List Ed} (h : EAt w A L) (k : Ck w w') : EAt w' A L := by
  intro i e hi
  obtain ⟨bk, o, hA, c0, c1, c2⟩ := h i e hi
  exact ⟨bk, o, hA, k _ _ c0, k _ _ c1, k _ _ c2⟩
theorem IAt.ck {w w' : World} {A : Option Addr} {L : List Int} (h : IAt w A L) (k : Ck w w') : IAt w' A L := by
  intro i e hi
  obtain ⟨bk, o, hA, c0⟩ := h i e hi
  exact ⟨bk, o, hA, k _ _ c0⟩
theorem RAt.ck {w w' : World} {A : Option Addr} {L : List (List Ed)} (h : RAt w A L) (k : Ck w w') : RAt w' A L := by
  intro i e hi
  obtain ⟨bk, o, A', c', hA, c0, h2⟩ := h i e hi
  exact ⟨bk, o, A', c', hA, k _ _ c0, EAt.ck h2 k⟩
theorem PtV.ck {w w' : World} {x : Value} {P : Pt} (h : PtV w x P) (k : Ck w w') : PtV w' x P := by
  obtain ⟨A1, c1, A2, c2, A3, c3, e, h1, h2, h3⟩ := h
  exact ⟨A1, c1, A2, c2, A3, c3, e, h1.ck k, h2.ck k, h3.ck k⟩
theorem RA.ck {w w' : World} {x : Al} (h : RA x w) (k : Ck w w') : RA x w' := ⟨h.m.ck k, h.g.ck k, h.sm, h.sg⟩
theorem ck_below {w w' : World} (h : Below w.heap.size w w') : Ck w w' := fun _ _ hp => (h.cell (block_lt_of_cell hp)).trans hp
theorem ck_put (W : World) (l : Nat) (o o' : Obj) (h : W.heap[l]? = some o) (ho : o.isCells = false) : Ck W (W.putObj l o') :=
  fun _ _ hp => cell_kept hp (grownBy_putObj' W l o') (fun r e => by cases e; exact ⟨o, h, ho⟩)

theorem side_any (V : Int) (AE : Option Addr) (n ce : Nat) (A : Option Addr) (k c : Nat) (w : World) :
    Calls Try.prog 38 #[.agg #[.int .i64 V, .slice AE n ce], .slice A k c] w fun e w' => e = .returned (.func (.func 51) #[] #[.pointer (some ⟨w.heap.size + 1, 0, none⟩), .pointer (some ⟨w.heap.size, 0, none⟩)]) ∧ w' = (w.alloc (.cells #[.int .i64 V, .slice AE n ce] 30)).alloc (.cells #[.slice A k c] 47) := by
  go_enter Try.func38, Try.ntmps38
  go_wp2
  go_ret
  exact ⟨rfl, rfl⟩

/- The two results, each in its box. -/
set_option maxRecDepth 100000 in
theorem res_j (fn : Func) (c d : Nat) (tmps : Array Value) (w : World) (b b' : Nat) (a0 a1 u : Value) (hr : fn.results = #[.cell c 30, .cell d 35]) (ht : tmps.getD c undef = .pointer (some ⟨b, 0, none⟩)) (hd : tmps.getD d undef = .pointer (some ⟨b', 0, none⟩))
    (f0 : w.cell? ⟨b, 0, none⟩ = some a0) (f1 : w.cell? ⟨b, 1, none⟩ = some a1) (f2 : w.cell? ⟨b', 0, none⟩ = some u) :
    (results fn tmps).run Try.prog w = .ok (.tuple #[.agg #[a0, a1], u]) w := by
  have ht' : tmps[c]?.getD undef = .pointer (some ⟨b, 0, none⟩) := by simpa using ht
  have hd' : tmps[d]?.getD undef = .pointer (some ⟨b', 0, none⟩) := by simpa using hd
  simp [results, hr, ht', hd', go_sem, f0, f1, f2]
def put3 (w : World) (b : Nat) (u0 u1 u2 : Value) : World := ((w.setCell ⟨b, 0, none⟩ u0).setCell ⟨b, 1, none⟩ u1).setCell ⟨b + 1, 0, none⟩ u2
theorem put3_cells {w : World} {b : Nat} {T T' : TypeId} {a0 a1 a2 : Value} (h : w.heap[b]? = some (.cells #[a0, a1] T (0, 0))) (h' : w.heap[b + 1]? = some (.cells #[a2] T' (0, 0))) (u0 u1 u2 : Value) :
    (put3 w b u0 u1 u2).cell? ⟨b, 0, none⟩ = some u0 ∧ (put3 w b u0 u1 u2).cell? ⟨b, 1, none⟩ = some u1 ∧ (put3 w b u0 u1 u2).cell? ⟨b + 1, 0, none⟩ = some u2 := by
  have e1 := put2_heap h u0 u1
  have e2 : (put2 w b u0 u1).heap[b + 1]? = some (.cells #[a2] T' (0, 0)) := by
    have k1 := Below.heap_setCell (w.setCell ⟨b, 0, none⟩ u0) ⟨b, 1, none⟩ u1 (b + 1) (by show b + 1 ≠ b; omega)
    have k2 := Below.heap_setCell w ⟨b, 0, none⟩ u0 (b + 1) (by show b + 1 ≠ b; omega)
    exact (k1.trans k2).trans h'
  have e3 := heap_setCell_same _ (b + 1) 0 _ _ u2 e2
  have e4 : (put3 w b u0 u1 u2).heap[b]? = some (.cells #[u0, u1] T (0, 0)) := (Below.heap_setCell _ ⟨b + 1, 0, none⟩ u2 b (by show b ≠ b + 1; omega)).trans e1
  have e5 : (put3 w b u0 u1 u2).heap[b + 1]? = some (.cells #[u2] T' (0, 0)) := e3
  obtain ⟨f0, f1, _⟩ := two e4
  exact ⟨f0, f1, (one e5).1⟩
theorem put3_below {B : Nat} {a w : World} (h : Below B a w) {b : Nat} (hb : B ≤ b) (u0 u1 u2 : Value) : Below B a (put3 w b u0 u1 u2) := (put2_below h hb u0 u1).setCell (p := ⟨b + 1, 0, none⟩) (by show B ≤ b + 1; omega) u2
theorem EOwn.put3 {w : World} {B : Nat} {v : Value} {L : List Ed} (h : EOwn w B v L) {b : Nat} (hb : b + 1 < B) (u0 u1 u2 : Value) : EOwn (put3 w b u0 u1 u2) B v L :=
  ownsRow_setCell_below (EOwn.put2 h (b := b) (by omega) u0 u1) (a := ⟨b + 1, 0, none⟩) hb u2
theorem cell_alloc_k {w : World} {p : Addr} {v : Value} (h : w.cell? p = some v) (o : Obj) : (w.alloc o).cell? p = some v := ((Below.refl w.heap.size w).alloc (Nat.le_refl _) o).cell (block_lt_of_cell h) |>.trans h

theorem gGo_len {l : List Pt} {es : List Ed} : ∀ (m v : Nat) (t : List Nat) (L : List Ed), L.length ≤ 8192 → gGo l m v t L = some es → es.length ≤ 8192
  | 0, v, t, L, h, e => by rw [gGo] at e; cases e; exact h
  | m + 1, v, t, L, h, e => by
    rw [gGo] at e
    split at e
    · cases e
    · rename_i s hs
      refine gGo_len m (v + 1) s.1 s.2 ?_ e
      unfold gStep at hs
      split at hs
      · cases hs
      · split at hs
        · cases hs
        · split at hs
          · cases hs
          · cases hs
            simp only [List.length_append]; omega
theorem gath_len {l : List Pt} {es : List Ed} (h : gath l = some es) : es.length ≤ 8192 := by
  unfold gath at h
  split at h
  · exact gGo_len _ _ _ _ (by simp) h
  · cases h
theorem cutP_sm (V : Int) (L : List Ed) (k x : Int) (h : L.length ≤ 100000) : Sm (cutP V L k x) := by
  have ho := owned_len V k x
  refine ⟨by show (owned V k x).length ≤ _; omega, by show ((owned V k x).map _).length ≤ _; rw [List.length_map]; omega, by show ((owned V k x).map _).length ≤ _; rw [List.length_map]; omega, fun r hr => ?_, fun r hr => ?_⟩
  · obtain ⟨v, _, rfl⟩ := List.mem_map.1 hr
    have := List.length_filter_le (fun e : Ed => decide (e.1 = v)) L
    unfold frm; omega
  · obtain ⟨v, _, rfl⟩ := List.mem_map.1 hr
    have := List.length_filter_le (fun e : Ed => decide (e.2.1 = v)) L
    unfold tow; omega

/- A part's box. -/
def BxP (W : World) (b : Nat) (v : Value) : Prop := ∃ a0 a1 a2 a3 a4 a5, v = .agg #[a0, a1, a2, a3, a4, a5] ∧ W.cell? ⟨b, 0, none⟩ = some a0 ∧ W.cell? ⟨b, 1, none⟩ = some a1 ∧ W.cell? ⟨b, 2, none⟩ = some a2 ∧ W.cell? ⟨b, 3, none⟩ = some a3 ∧ W.cell? ⟨b, 4, none⟩ = some a4 ∧ W.cell? ⟨b, 5, none⟩ = some a5
theorem BxP.ck {W W' : World} {b : Nat} {v : Value} (h : BxP W b v) (k : Ck W W') : BxP W' b v := by
  obtain ⟨a0, a1, a2, a3, a4, a5, e, h0, h1, h2, h3, h4, h5⟩ := h
  exact ⟨a0, a1, a2, a3, a4, a5, e, k _ _ h0, k _ _ h1, k _ _ h2, k _ _ h3, k _ _ h4, k _ _ h5⟩
theorem BxP.of {W : World} {b : Nat} {T : TypeId} {a0 a1 a2 a3 a4 a5 : Value} (h : W.heap[b]? = some (.cells #[a0, a1, a2, a3, a4, a5] T (0, 0))) : BxP W b (.agg #[a0, a1, a2, a3, a4, a5]) := by
  obtain ⟨p0, p1, p2, p3, p4, p5, _⟩ := six h
  exact ⟨_, _, _, _, _, _, rfl, p0, p1, p2, p3, p4, p5⟩
theorem keeps_below {W W' : World} (h : Below W.heap.size W W') : KeepsOthers W W' := ⟨h.size, fun k _ hk _ => (h.block k (lt_of_block hk)).trans hk⟩

theorem eown_shut {W : World} {B D : Nat} {v : Value} {L : List Ed} {ds : Option (List Deferred)} (h : EOwn W B v L) (hK : W.heap[D]? = some (.deferred ds)) (o : Obj) : EOwn (W.putObj D o) B v L :=
  own_kept h fun g c fz _ hc => World.putObj_heap_other (fun e => by rw [e, hK] at hc; cases hc)
theorem shut_below {w W : World} {D : Nat} {ds : Option (List Deferred)} (h : Below w.heap.size w W) (hD : w.heap.size ≤ D) (hK : W.heap[D]? = some (.deferred ds)) (o : Obj) : Below w.heap.size w (W.putObj D o) :=
  h.trans (belowK_b (w := w) (Nat.le_refl _) W D _ o hD hK rfl rfl)
theorem shut_cell {W : World} {D : Nat} {ds : Option (List Deferred)} {p : Addr} {v : Value} (h : W.cell? p = some v) (hK : W.heap[D]? = some (.deferred ds)) (o : Obj) : (W.putObj D o).cell? p = some v :=
  cell_kept h (grownBy_putObj' W D o) (fun r e => by cases e; exact ⟨_, hK, rfl⟩)

/- What Join answers. -/
def JoRes (w w' : World) (a : Int × List Ed × Int) (e : Ending) : Prop := ∃ v, e = .returned (.tuple #[.agg #[.int .i64 a.1, v], .int .i64 a.2.2]) ∧ EOwn w' w.heap.size v a.2.1

set_option maxRecDepth 100000 in
set_option maxHeartbeats 4000000 in
theorem join_any (A : Option Addr) (c : Nat) (l : List Pt) (w : World) (hA : LAt w A l) (hm : l.length ≤ 9223372036854775807) (hs2 : ∀ Q ∈ l, Sm Q) :
    Calls Try.prog 21 #[.slice A l.length c] w fun e w' => JoRes w w' (joinA l) e ∧ Below w.heap.size w w' := by
  have h21 : Fence.wide.fn 21 := trivial
  have h37 : Fence.wide.fn 37 := trivial
  have h31 : Fence.wide.fn 31 := trivial
  have h38 : Fence.wide.fn 38 := trivial
  have h39 : Fence.wide.fn 39 := trivial
  have HA := Lib.hid hA; have HS2 := Lib.hid hs2; clear hA hs2
  obtain ⟨k, hk⟩ : ∃ k, k = l.length := ⟨_, rfl⟩
  have HK := Lib.hid hk
  rw [← hk] at hm ⊢
  clear hk
  obtain ⟨w2, hw2⟩ : ∃ w2, w2 = (w.alloc (.cells #[.int .i64 0, .slice none 0 0] 30)).alloc (.cells #[.int .i64 0] 35) := ⟨_, rfl⟩
  have hs2 : w2.heap.size = w.heap.size + 2 := by rw [hw2]; simp
  have HB2 : Hid (Below w.heap.size w w2) := Lib.hid (by rw [hw2]; exact two_part w _ _)
  have HR2 : Hid (w2.heap[w.heap.size]? = some (.cells #[.int .i64 0, .slice none 0 0] 30 (0, 0))) := Lib.hid (by rw [hw2]; exact heap_alloc2_old w _ _)
  have HT2 : Hid (w2.heap[w.heap.size + 1]? = some (.cells #[.int .i64 0] 35 (0, 0))) := Lib.hid (by rw [hw2]; exact heap_alloc2_new w _ _)
  have HW2 := Lib.hid hw2; clear hw2
  have HGA : Hid (Calls Try.prog 37 #[.slice A k c] w2 fun e w' => GaRes w2 w' (hd l) (gath l) e ∧ Below w2.heap.size w2 w') := Lib.hid (by
    have := gather_any A c l w2 (HA.out.below HB2.out) (by rw [← HK.out]; exact hm)
    rw [← HK.out] at this; exact this)
  refine (callsIn_wide (n := 6)).1 (callsIn_of_wp_marks Try.func21 rfl h21 ?_ rfl)
  simp only [Try.ntmps21, List.size_toArray, List.length_cons, List.length_nil, Nat.reduceAdd, Nat.reduceSub, Array.replicate_succ, Array.replicate_zero, List.push_toArray, List.append_toArray, List.nil_append, List.cons_append]
  cases hg : gath l with
  | none =>
    have hj : joinA l = (0, [], 2) := by unfold joinA; rw [hg]
    have HJ := Lib.hid hj; have HG := Lib.hid hg; clear hj hg
    gi_wp2
    rw [← HW2.out]
    refine (callsIn_wide.2 HGA.out).mono ?_
    rintro e w3 ⟨hres, hb3⟩
    have hres2 := hres.1 HG.out
    subst hres2
    have HB3 := Lib.hid (HB2.out.trans (hb3.mono HB2.out.size))
    have HR3 := Lib.hid ((hb3.block _ (by omega)).trans HR2.out)
    have HT3 := Lib.hid ((hb3.block _ (by omega)).trans HT2.out)
    have hs3 := hb3.size
    clear hres hb3
    obtain ⟨r0, r1, r2, r3, r4⟩ := two HR3.out
    obtain ⟨t0, t1, t2⟩ := one HT3.out
    gi_wp2
    obtain ⟨f0, f1, f2⟩ := put3_cells HR3.out HT3.out (.int .i64 0) (.slice none 0 0) (.int .i64 2)
    have h3 := (put3_below HB3.out (b := w.heap.size) (Nat.le_refl _) (.int .i64 0) (.slice none 0 0) (.int .i64 2)).alloc (put3_below HB3.out (b := w.heap.size) (Nat.le_refl _) (.int .i64 0) (.slice none 0 0) (.int .i64 2)).size (.cells #[.int .i64 0, .slice none 0 0] 30)
    have g0 := cell_alloc_k f0 (.cells #[.int .i64 0, .slice none 0 0] 30)
    have g1 := cell_alloc_k f1 (.cells #[.int .i64 0, .slice none 0 0] 30)
    have g2 := cell_alloc_k f2 (.cells #[.int .i64 0, .slice none 0 0] 30)
    unfold put3 at g0 g1 g2 h3
    exact ⟨_, res_j _ _ _ _ _ _ _ _ _ _ Try.results21 rfl rfl g0 g1 g2, by rw [HJ.out]; exact ⟨_, rfl, EOwn.none_ _ _⟩, h3⟩
  | some es =>
    have HG := Lib.hid hg
    obtain ⟨V, hV⟩ : ∃ V, hd l = V := ⟨_, rfl⟩
    rw [hV] at HGA
    obtain ⟨E, hE⟩ : ∃ E, chk V es = E := ⟨_, rfl⟩
    have HE := Lib.hid hE; have HV := Lib.hid hV; clear hE hV hg
    gi_wp2
    rw [← HW2.out]
    refine (callsIn_wide.2 HGA.out).mono ?_
    rintro e w3 ⟨hres, hb3⟩
    obtain ⟨v, rfl, hv⟩ := hres.2 es HG.out
    have HB3 := Lib.hid (HB2.out.trans (hb3.mono HB2.out.size))
    have HR3 := Lib.hid ((hb3.block _ (by omega)).trans HR2.out)
    have HT3 := Lib.hid ((hb3.block _ (by omega)).trans HT2.out)
    have hs3 := hb3.size
    have HV3 : Hid (EOwn w3 (w.heap.size + 2) v es) := Lib.hid (by rw [← hs2]; exact hv)
    obtain ⟨AE, ce, rfl, _⟩ := hv.form
    obtain ⟨z, hz⟩ : ∃ z, z = es.length := ⟨_, rfl⟩
    rw [← hz] at HV3 ⊢
    have HZ := Lib.hid hz
    clear hres hb3 hv hz
    obtain ⟨w4, hw4⟩ : ∃ w4, w4 = w3.alloc (.cells #[.int .i64 V, .slice AE z ce] 30) := ⟨_, rfl⟩
    have hb4 : Below w3.heap.size w3 w4 := by rw [hw4]; exact (Below.refl _ w3).alloc (Nat.le_refl _) _
    have HB4 := Lib.hid (HB3.out.trans (hb4.mono HB3.out.size))
    have HR4 := Lib.hid ((hb4.block _ (by omega)).trans HR3.out)
    have HT4 := Lib.hid ((hb4.block _ (by omega)).trans HT3.out)
    have HV4 := Lib.hid (HV3.out.below hb4)
    have HN4 : Hid (w4.heap[w3.heap.size]? = some (.cells #[.int .i64 V, .slice AE z ce] 30 (0, 0))) := Lib.hid (by rw [hw4]; exact heap_alloc_new w3 _)
    have hs4 : w3.heap.size < w4.heap.size := by rw [hw4]; simp
    have HW4 := Lib.hid hw4
    have HCK : Hid (Calls Try.prog 31 #[.agg #[.int .i64 V, .slice AE z ce]] w4 fun e w' => e = .returned (.int .i64 E) ∧ Below w4.heap.size w4 w') := Lib.hid (by
      obtain ⟨A', c', e', hE', _⟩ := HV4.out.form
      rw [HZ.out] at e'
      cases e'
      have := check_any V AE ce es w4 hE' (by have := gath_len HG.out; omega)
      rw [HE.out, ← HZ.out] at this
      exact this)
    clear hw4 hb4
    gi_wp2
    rw [← HW4.out]
    refine (callsIn_wide.2 HCK.out).mono ?_
    rintro e w5 ⟨rfl, hb5⟩
    have hs5 := hb5.size
    have HB5 := Lib.hid (HB4.out.trans (hb5.mono HB4.out.size))
    have HR5 := Lib.hid ((hb5.block _ (by omega)).trans HR4.out)
    have HT5 := Lib.hid ((hb5.block _ (by omega)).trans HT4.out)
    have HV5 := Lib.hid (HV4.out.below hb5)
    have HN5 := Lib.hid ((hb5.block _ hs4).trans HN4.out)
    clear hb5
    by_cases hE0 : E = 0
    · subst hE0
      have hel := gath_len HG.out
      obtain ⟨g0, g1, gl⟩ := Bx.cells HN5.out
      obtain ⟨w6, hw6⟩ : ∃ w6, w6 = (w5.alloc (.cells #[.int .i64 V, .slice AE z ce] 30)).alloc (.cells #[.slice A k c] 47) := ⟨_, rfl⟩
      have HS := Lib.hid (side_any V AE z ce A k c w5)
      have hb6 : Below w5.heap.size w5 w6 := by rw [hw6]; exact two_part w5 _ _
      have hs6 : w6.heap.size = w5.heap.size + 2 := by rw [hw6]; simp
      have HB6 := Lib.hid (HB5.out.trans (hb6.mono HB5.out.size))
      have HR6 := Lib.hid ((hb6.block _ (by omega)).trans HR5.out)
      have HT6 := Lib.hid ((hb6.block _ (by omega)).trans HT5.out)
      have HV6 := Lib.hid (HV5.out.below hb6)
      have HN6 := Lib.hid ((hb6.block _ (by omega)).trans HN5.out)
      have HI6 : Hid (ItB w6 (w5.heap.size + 1) w5.heap.size A c l V AE ce es) := Lib.hid (by
        refine ⟨?_, ?_, HA.out.below HB6.out, ?_⟩
        · rw [← HK.out, hw6]; exact heap_alloc2_new w5 _ _
        · rw [← HZ.out, hw6]; exact heap_alloc2_old w5 _ _
        · obtain ⟨A', c', e', hE', _⟩ := HV6.out.form
          rw [HZ.out] at e'
          cases e'
          exact hE')
      have HW6 := Lib.hid hw6
      clear hb6 hw6
      gi_wp2
      refine (callsIn_wide.2 HS.out).mono ?_
      rintro e w7 ⟨rfl, hw7⟩
      rw [← HW6.out] at hw7
      subst hw7
      clear HS g0 g1 gl
      gi_wp2
      refine wp_told (n := 6) (R' := fun (x : Al) a' W => RA x W ∧ ∃ b1 b2 : Nat, a' = Act.mk #[Value.slice A k c, undef, Value.pointer (some { block := w.heap.size, off := 0 }), Value.pointer (some { block := w.heap.size + 1, off := 0 }), Value.pointer (some { block := w3.heap.size, off := 0 }), Value.bool true, Value.pointer (some { block := b1, off := 0 }), Value.pointer (some { block := b2, off := 0 }), Value.tuple #[Value.agg #[Value.int IntKind.i64 V, Value.slice AE z ce], Value.bool true], Value.slice A k c, Value.tuple #[Value.agg #[Value.int IntKind.i64 V, Value.slice AE z ce], Value.bool true], Value.agg #[Value.int IntKind.i64 V, Value.slice AE z ce], Value.bool true, Value.bool true, Value.bool false, Value.bool false, Value.agg #[Value.int IntKind.i64 V, Value.slice AE z ce], Value.int IntKind.i64 0, Value.bool false, Value.bool false, undef, Value.agg #[Value.int IntKind.i64 V, Value.slice AE z ce], Value.slice A k c, Value.func (Fn.func 51) #[] #[Value.pointer (some { block := w5.heap.size + 1, off := 0 }), Value.pointer (some { block := w5.heap.size, off := 0 })], x.mv, x.gv, undef, undef, undef, undef, undef, undef] [] ∧ BxP W b1 x.mv ∧ BxP W b2 x.gv) rfl (by omega) (gf := 51) (lb := #[.pointer (some ⟨w5.heap.size + 1, 0, none⟩), .pointer (some ⟨w5.heap.size, 0, none⟩)]) rfl trivial (enters_of Try.func51 (by kernel_rfl) rfl)
        (side_told 5 (by omega) _ _ A c l V AE ce es w7 HI6.out (by omega) (by rw [← HK.out]; exact hm) (fun i => cutP_sm V es _ _ (by omega)) HS2.out) belowK_t (belowK_b (Nat.le_refl _)) (Below.refl _ _) (fun _ => rfl)
        ?hRk
        (fun pre W => (∀ x ∈ pre, x.P = x.Q) ∧ Below w7.heap.size w7 W)
        (fun cd pre W => (cd = .ret ∧ (∃ x ∈ pre, x.P ≠ x.Q) ∧ W.cell? ⟨w.heap.size, 0, none⟩ = some (.int .i64 0) ∧ W.cell? ⟨w.heap.size, 1, none⟩ = some (.slice none 0 0) ∧ W.cell? ⟨w.heap.size + 1, 0, none⟩ = some (.int .i64 2)) ∧ Below w.heap.size w W)
        (OwnFrom.and (Own.from (fun s A B row hs hg hr => hs) _) (ownFrom_below (Nat.le_refl _) (Nat.le_refl _)))
        (fun cd => OwnFrom.and (Own.from (fun s A B row hs hg hr => ⟨hs.1, hs.2.1, cell_kept hs.2.2.1 hg hr, cell_kept hs.2.2.2.1 hg hr, cell_kept hs.2.2.2.2 hg hr⟩) _) (ownFrom_below (Nat.le_refl _) HB6.out.size))
        ⟨by simp, Below.refl _ _⟩ ?assign ?body ?done ?stop
      case hRk =>
        rintro x a' W lp o o' h ho ⟨h1, b1, b2, h2, h3, h4⟩
        exact ⟨h1.ck (ck_put W lp o o' h ho), b1, b2, h2, h3.ck (ck_put W lp o o' h ho), h4.ck (ck_put W lp o o' h ho)⟩
      case assign =>
        intro lp pre x W K hI hR hK
        obtain ⟨mv, gv, P, Q⟩ := x
        obtain ⟨A1, c1, A2, c2, A3, c3, hmv, h1, h2, h3⟩ := hR.m
        obtain ⟨B1, d1, B2, d2, B3, d3, hgv, h4, h5, h6⟩ := hR.g
        simp only at hmv hgv
        subst hmv; subst hgv
        dsimp only [encsA]
        have hb := two_part W (.cells #[.int .i64 P.w, .int .i64 P.k, .int .i64 P.n, .slice A1 P.own.length c1, .slice A2 P.out.length c2, .slice A3 P.back.length c3] 34) (.cells #[.int .i64 Q.w, .int .i64 Q.k, .int .i64 Q.n, .slice B1 Q.own.length d1, .slice B2 Q.out.length d2, .slice B3 Q.back.length d3] 34)
        have hx1 := BxP.of (heap_alloc2_old W (.cells #[.int .i64 P.w, .int .i64 P.k, .int .i64 P.n, .slice A1 P.own.length c1, .slice A2 P.out.length c2, .slice A3 P.back.length c3] 34) (.cells #[.int .i64 Q.w, .int .i64 Q.k, .int .i64 Q.n, .slice B1 Q.own.length d1, .slice B2 Q.out.length d2, .slice B3 Q.back.length d3] 34))
        have hx2 := BxP.of (heap_alloc2_new W (.cells #[.int .i64 P.w, .int .i64 P.k, .int .i64 P.n, .slice A1 P.own.length c1, .slice A2 P.out.length c2, .slice A3 P.back.length c3] 34) (.cells #[.int .i64 Q.w, .int .i64 Q.k, .int .i64 Q.n, .slice B1 Q.own.length d1, .slice B2 Q.out.length d2, .slice B3 Q.back.length d3] 34))
        have HH := Lib.hid (hK _ _ (keeps_below hb) (hb.mono hI.2.size) ⟨hI.1, hI.2.trans (hb.mono hI.2.size)⟩ ⟨hR.ck (ck_below hb), _, _, rfl, hx1, hx2⟩)
        clear hK hb hx1 hx2 hR hI h1 h2 h3 h4 h5 h6
        gi_wp2
        exact HH.out
      case body =>
        rintro lp pre x a' W ⟨hI1, hIB⟩ ⟨hR, b1, b2, rfl, hb1, hb2⟩ hlen
        obtain ⟨a0, a1, a2, a3, a4, a5, e1, p0, p1, p2, p3, p4, p5⟩ := hb1
        obtain ⟨u0, u1, u2, u3, u4, u5, e2, q0, q1, q2, q3, q4, q5⟩ := hb2
        obtain ⟨b, hb⟩ : ∃ b, decide (x.P = x.Q) = b := ⟨_, rfl⟩
        have HS := Lib.hid (sameP_any x.mv x.gv x.P x.Q W hR.m hR.g hR.sm hR.sg)
        rw [e1, e2, hb] at HS
        have HIB := Lib.hid hIB; have HI1 := Lib.hid hI1; have HBB := Lib.hid hb
        clear hR hIB hI1 hb
        gi_wp2
        refine (callsIn_wide.2 HS.out).mono ?_
        rintro e w8 ⟨rfl, hb8⟩
        have HB8 := Lib.hid hb8
        clear hb8 p0 p1 p2 p3 p4 p5 q0 q1 q2 q3 q4 q5 HS
        cases b with
        | true =>
          gi_wp2
          refine ⟨keeps_below HB8.out, HB8.out.mono HIB.out.size, ⟨fun y hy => ?_, HIB.out.trans (HB8.out.mono HIB.out.size)⟩⟩
          rcases List.mem_append.1 hy with hy | hy
          · exact HI1.out y hy
          · simp at hy; subst hy; exact of_decide_eq_true HBB.out
        | false =>
          have hB8 := HIB.out.trans (HB8.out.mono HIB.out.size)
          have hR8 := (hB8.block _ (by omega)).trans HR6.out
          have hT8 := (hB8.block _ (by omega)).trans HT6.out
          have HR8 := Lib.hid hR8; have HT8 := Lib.hid hT8
          have HBW := Lib.hid (HB6.out.trans (hB8.mono HB6.out.size))
          clear hB8 hR8 hT8
          obtain ⟨r0, r1, r2, r3, r4⟩ := two HR8.out
          obtain ⟨t0, t1, t2⟩ := one HT8.out
          gi_wp2
          obtain ⟨f0, f1, f2⟩ := put3_cells HR8.out HT8.out (.int .i64 0) (.slice none 0 0) (.int .i64 2)
          have h3 := put3_below HBW.out (b := w.heap.size) (Nat.le_refl _) (.int .i64 0) (.slice none 0 0) (.int .i64 2)
          unfold put3 at f0 f1 f2 h3
          exact ⟨(((keeps_below HB8.out).trans (KeepsOthers.setCell _ _ _)).trans (KeepsOthers.setCell _ _ _)).trans (KeepsOthers.setCell _ _ _), ⟨rfl, ⟨x, by simp, fun h => by rw [h] at HBB; have := HBB.out; simp at this⟩, f0, f1, f2⟩, h3⟩
      case done =>
        rintro D xs W hD hS ⟨hI1, hIB⟩ hK
        have hcuts : Cuts l V es l.length := by
          intro i hi
          obtain ⟨Q, hQ⟩ := at_lt l i hi
          have hp := prs_at (V := V) (es := es) hQ
          rw [← hS, List.getElem?_map] at hp
          cases hx : xs[i]? with
          | none => rw [hx] at hp; cases hp
          | some x =>
            rw [hx] at hp
            have hpq : x.pq = (cutP V es l.length i, Q) := by simpa using hp
            have h1 : x.P = cutP V es l.length i := congrArg Prod.fst hpq
            have h2 : x.Q = Q := congrArg Prod.snd hpq
            rw [hQ, ← h1, ← h2, hI1 x (List.mem_of_getElem? hx)]
        have hj : joinA l = (V, es, 0) := by
          unfold joinA
          rw [HG.out]
          simp only []
          rw [HV.out, if_pos ⟨HE.out, hcuts⟩]
        have HJ := Lib.hid hj; have HIB := Lib.hid hIB; have HKD := Lib.hid hK
        clear hj hcuts hI1 hIB hS hK
        have HRW := Lib.hid ((HIB.out.block _ (by omega)).trans HR6.out)
        have HTW := Lib.hid ((HIB.out.block _ (by omega)).trans HT6.out)
        have HNW := Lib.hid ((HIB.out.block _ (by omega)).trans HN6.out)
        have HVW := Lib.hid (HV6.out.below HIB.out)
        have HBW := Lib.hid (HB6.out.trans (HIB.out.mono HB6.out.size))
        obtain ⟨r0, r1, r2, r3, r4⟩ := two HRW.out
        obtain ⟨t0, t1, t2⟩ := one HTW.out
        obtain ⟨g0, g1, gl⟩ := Bx.cells HNW.out
        gi_wp2
        obtain ⟨f0, f1, f2⟩ := put3_cells HRW.out HTW.out (.int .i64 V) (.slice AE z ce) (.int .i64 0)
        have h3 := put3_below HBW.out (b := w.heap.size) (Nat.le_refl _) (.int .i64 V) (.slice AE z ce) (.int .i64 0)
        have h4 := EOwn.put3 HVW.out (b := w.heap.size) (by omega) (.int .i64 V) (.slice AE z ce) (.int .i64 0)
        have hK' : (put3 W w.heap.size (.int .i64 V) (.slice AE z ce) (.int .i64 0)).heap[D]? = some (.deferred (some [])) :=
          (((KeepsOthers.setCell _ _ _).trans (KeepsOthers.setCell _ _ _)).trans (KeepsOthers.setCell _ _ _)).same D _ HKD.out rfl
        have hle : w.heap.size ≤ D := by have := HB6.out.size; omega
        have k0 := shut_cell f0 hK' (.deferred none)
        have k1 := shut_cell f1 hK' (.deferred none)
        have k2 := shut_cell f2 hK' (.deferred none)
        have k3 := shut_below h3 hle hK' (.deferred none)
        have k4 := eown_shut h4 hK' (.deferred none)
        unfold put3 at hK' k0 k1 k2 k3 k4
        exact ⟨by simp, .inl ⟨_, _, rfl, run_takeDeferred hK', _, res_j _ _ _ _ _ _ _ _ _ _ Try.results21 rfl rfl k0 k1 k2, by rw [HJ.out]; exact ⟨_, rfl, own_mono k4 (by omega)⟩, k3⟩⟩
      case stop =>
        rintro D cd pre W hD ⟨jj, hpre⟩ ⟨⟨rfl, ⟨x, hx, hne⟩, f0, f1, f2⟩, hB⟩ hK
        have hj : joinA l = (0, [], 2) := by
          unfold joinA
          rw [HG.out]
          simp only []
          rw [if_neg]
          rintro ⟨_, hc⟩
          have hm1 : x.pq ∈ (prs V es l).take jj := by rw [← hpre]; exact List.mem_map_of_mem hx
          obtain ⟨i, hi⟩ := List.mem_iff_getElem?.1 (List.mem_of_mem_take hm1)
          have hil : i < l.length := by have := lt_at hi; rw [prs_len] at this; exact this
          obtain ⟨Q, hQ⟩ := at_lt l i hil
          have hp := prs_at (V := V) (es := es) hQ
          rw [hi] at hp
          have hpq : x.pq = (cutP V es l.length i, Q) := by simpa using hp
          have h1 : x.P = cutP V es l.length i := congrArg Prod.fst hpq
          have h2 : x.Q = Q := congrArg Prod.snd hpq
          have h3 := hc i hil
          rw [HV.out, hQ] at h3
          exact hne (by rw [h1, h2]; exact (Option.some.inj h3).symm)
        have HJ := Lib.hid hj; clear hj
        gi_wp2
        have hle : w.heap.size ≤ D := by have := HB6.out.size; omega
        exact ⟨by simp, .inl ⟨_, _, rfl, run_takeDeferred hK, _, res_j _ _ _ _ _ _ _ _ _ _ Try.results21 rfl rfl (shut_cell f0 hK _) (shut_cell f1 hK _) (shut_cell f2 hK _), by rw [HJ.out]; exact ⟨_, rfl, EOwn.none_ _ _⟩, shut_below hB hle hK _⟩⟩
    · have hj : joinA l = (0, [], 2) := by
        unfold joinA
        rw [HG.out]
        simp only []
        rw [if_neg (fun h => hE0 (by rw [← HE.out, ← HV.out]; exact h.1))]
      have HJ := Lib.hid hj; clear hj
      obtain ⟨r0, r1, r2, r3, r4⟩ := two HR5.out
      obtain ⟨t0, t1, t2⟩ := one HT5.out
      gi_wp2
      obtain ⟨f0, f1, f2⟩ := put3_cells HR5.out HT5.out (.int .i64 0) (.slice none 0 0) (.int .i64 2)
      have h3 := put3_below HB5.out (b := w.heap.size) (Nat.le_refl _) (.int .i64 0) (.slice none 0 0) (.int .i64 2)
      unfold put3 at f0 f1 f2 h3
      exact ⟨_, res_j _ _ _ _ _ _ _ _ _ _ Try.results21 rfl rfl f0 f1 f2, by rw [HJ.out]; exact ⟨_, rfl, EOwn.none_ _ _⟩, h3⟩

end Go.Proofs.Ytjcgejbggmpikaa.Pt
