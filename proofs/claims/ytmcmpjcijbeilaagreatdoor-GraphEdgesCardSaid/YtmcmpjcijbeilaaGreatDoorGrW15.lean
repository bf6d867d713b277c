/-
  What is proved here: the contract of graph.Parse: the graph that a text is, or the first line with which it is none. Conditions: at most 262144 bytes, lines of at most 100000; what order does to so many edges is known; the package variables lie as their texts lay them.
-/
import Derived.Test.YtmcmpjcijbeilaaGreatDoorGrW14
import Derived.ScopeJumps
import Derived.WalkMore
namespace Go.Proofs.YtmcmpjcijbeilaaGreatDoor.Gr
open Go.RowKit Wd Ws

/- What order does to at most N edges that the call has made. -/
def OrderOK (N : Nat) : Prop := ∀ (B : Nat) (v : Value) (L : List Ed) (w : World), Hid (EOwn w B v L) → L.length ≤ N → B ≤ w.heap.size →
  Calls Tryz.prog 32 #[v] w fun e w' => e = .returned (.tuple #[]) ∧ ∃ L', L'.Perm L ∧ L'.Pairwise (fun a b => ahd b a = false) ∧ Hid (EOwn w' B v L') ∧ Hid (w.grownBy w' v.ownBlock)
def ParseRes (B : Nat) (w' : World) (e : Ending) : Nat × Option (Int × List Ed) → Prop
  | (n, none) => e = .returned (.tuple #[.agg #[.int .i64 0, .slice none 0 0], .int .i64 (n : Int), .int .i64 41])
  | (_, some (V, L)) => ∃ (v : Value) (L' : List Ed), e = .returned (.tuple #[.agg #[.int .i64 V, v], .int .i64 0, .int .i64 0]) ∧ Hid (EOwn w' B v L') ∧ L'.Perm L ∧ Rise L'
def JP (w : World) (n : Nat) (a' : Act) (w' : World) : Prop := Below w.heap.size w w' ∧ w'.heap[w.heap.size]? = some (.cells #[.int .i64 0, .slice none 0 0] 24 (0, 0)) ∧
  ∃ u0 u1 u3 u4 u5 u7 u8 u9 u10 u11 u12 u13 u14 u15 u16 u17 u18 u19 u20 u21 u22 u23 u24 u25 u26 u27 u28 u29 u30 u31 u32 u33 u34 u35 u36 u37 u38 u39 u40 u41 u42 : Value, a' = { tmps := #[u0, u1, .pointer (some ⟨w.heap.size, 0, none⟩), u3, u4, u5, .int .i64 (n : Int), u7, u8, u9, u10, u11, u12, u13, u14, u15, u16, u17, u18, u19, u20, u21, u22, u23, u24, u25, u26, u27, u28, u29, u30, u31, u32, u33, u34, u35, u36, u37, u38, u39, u40, u41, u42], defers := [] }
def JT (w : World) (T : Nat × Option (Int × List Ed)) (a' : Act) (w' : World) : Prop := ∃ n, Hid (T = (n, none)) ∧ JP w n a' w'

def PsRel (w w0 w1 : World) (D : Nat) (T : Nat × Option (Int × List Ed)) (xs : List (List UInt8)) (g : Nat) (m i : Value) (wr : World) : Prop :=
  ∃ (k : Nat) (V : Int) (L : List Ed), k + g = xs.length ∧ m = .int .i64 (k : Int) ∧ i = .int .i64 (k : Int) ∧ Dr wr (w.heap.size + 1) D V L ∧ Sd V L ∧ Below (w.heap.size + 1) w0 wr ∧ Kp w1 wr ∧ T = through V L k (xs.drop k)
theorem gx_put {w : World} {b : Nat} {V : Int} {s : Value} (h : w.heap[b]? = some (.cells #[.int .i64 V, s] 24 (0, 0))) (x y : Value) :
    ((w.setCell ⟨b, 0, none⟩ x).setCell ⟨b, 1, none⟩ y).cell? ⟨b, 0, none⟩ = some x ∧ ((w.setCell ⟨b, 0, none⟩ x).setCell ⟨b, 1, none⟩ y).cell? ⟨b, 1, none⟩ = some y := by
  have e1 := heap_setCell_same w b 0 _ _ x h
  have e2 := heap_setCell_same _ b 1 _ _ y e1
  exact ⟨by rw [Lib.cell_of_heap e2]; rfl, by rw [Lib.cell_of_heap e2]; rfl⟩
noncomputable def tr2 (k : Nat) (xs : List (List UInt8)) : Option (Int × List Ed) → Nat × Option (Int × List Ed)
  | none => (k + 1, none)
  | some s => through s.1 s.2 (k + 1) xs
theorem through_cons (V : Int) (L : List Ed) (k : Nat) (x : List UInt8) (xs : List (List UInt8)) : through V L k (x :: xs) = tr2 k xs (step V L x) := by
  rw [through]; cases step V L x <;> rfl
theorem own_any {w : World} {B : Nat} {v : Value} {L : List (List UInt8)} (h : Own w B v L) : ∃ A cap, v = .slice A L.length cap ∧ ∀ k y, L[k]? = some y → ∃ g, A = some ⟨g, 0, none⟩ ∧ ∃ cur, w.heap[g]? = some (.cells cur 9 (0, 0)) ∧ w.cell? ⟨g, k, none⟩ = some (.string (sb y)) := by
  obtain ⟨h0, h1 | ⟨g, cap, cur, h1, h2, h3, h4, h5, h6, h7⟩⟩ := h
  · have : L = [] := List.eq_nil_of_length_eq_zero h1.2
    subst this
    exact ⟨none, 0, h1.1, fun k y hy => by simp at hy⟩
  · refine ⟨some ⟨g, 0, none⟩, cap, h1, fun k y hy => ⟨g, rfl, cur, h3, ?_⟩⟩
    have hk := lt_at hy
    rw [cell_of_row w g k _ 9 (0, 0) h3]
    have e1 : cur[k]? = (cur.toList.take (L.length * 1))[k]? := by
      rw [List.getElem?_take, if_pos (by omega), Array.getElem?_toList]
    rw [e1, h7, strs_at, hy]; rfl
theorem Gx.cells {w : World} {b : Nat} {V : Int} {s : Value} (h : w.heap[b]? = some (.cells #[.int .i64 V, s] 24 (0, 0))) : ∀ j, w.frozen? ⟨b, j, none⟩ = false := fun j => Lib.frozen_of_heap h j

set_option maxRecDepth 100000 in
set_option maxHeartbeats 1000000 in
theorem parse_any (N : Nat) (hO : Hid (OrderOK N)) (l : List UInt8) (w : World) (hl : l.length ≤ 262144) (hll : Hid (∀ x ∈ ln [] l, x.length ≤ 100000)) (hLd : Hid (Laid w)) (T : Nat × Option (Int × List Ed)) (hT : Hid (through 0 [] 0 (ln [] l) = T)) (hN : Hid (∀ s, T.2 = some s → s.2.length ≤ N)) :
    Calls Tryz.prog 18 #[.string (sb l)] w fun e w' => ParseRes w.heap.size w' e T ∧ Hid (Below w.heap.size w w') := by
  have hsz := sb_size l
  have hmm := @run_makeMap Tryz.prog
  obtain ⟨w0, hw0⟩ : ∃ w0, w0 = w.alloc (.cells #[.int .i64 0, .slice none 0 0] 24) := ⟨_, rfl⟩
  have hb0 : Below w.heap.size w w0 := by rw [hw0]; exact (Below.refl _ w).alloc (Nat.le_refl _) _
  have hx0 : w0.heap[w.heap.size]? = some (.cells #[.int .i64 0, .slice none 0 0] 24 (0, 0)) := by rw [hw0]; exact heap_alloc_new w _
  have hs0 : w0.heap.size = w.heap.size + 1 := by rw [hw0]; simp
  have hLd0 : Hid (∀ w', Below (w.heap.size + 1) w0 w' → Laid w') := Lib.hid fun w' h => by rw [← hs0] at h; exact (hLd.out.bel hb0).bel h
  have HW0 := Lib.hid hw0; have HB0 := Lib.hid hb0; have HX0 := Lib.hid hx0
  clear hw0 hb0 hx0
  obtain ⟨xs, hxs⟩ : ∃ xs, ln [] l = xs := ⟨_, rfl⟩
  have HXS := Lib.hid hxs
  rw [hxs] at hT hll
  clear hxs
  go_enter Tryz.func18, Tryz.ntmps18
  go_wp2_with fail
  rw [← HW0.out]
  refine wp_scope_jumps 0 (JT w T) (fun _ _ => 0) rfl ?_ ?_
  · go_wp2_with fail
    all_goals (try (exfalso; omega))
    obtain ⟨w2, hw2⟩ : ∃ w2, w2 = (w0.alloc (.map #[] 0)).alloc (.cells #[.int .i64 0, .slice none 0 0, .map (some (w.heap.size + 1))] 59) := ⟨_, rfl⟩
    have hb2 : Below (w.heap.size + 1) w0 w2 := by rw [hw2, ← hs0]; exact ((Below.refl _ w0).alloc (Nat.le_refl _) _).alloc (by simp) _
    have hs2 : w2.heap.size = w.heap.size + 3 := by rw [hw2]; simp; omega
    have hpm : PM (w0.alloc (.map #[] 0)) (w.heap.size + 1) [] := by rw [← hs0]; exact PM.made w0
    have hdr : Dr w2 (w.heap.size + 1) (w.heap.size + 2) 0 [] := by
      refine ⟨.slice none 0 0, w.heap.size + 1, ?_, EOwn.none_ _ _, ?_, by omega, by omega⟩
      · rw [hw2]
        have := heap_alloc_new (w0.alloc (.map #[] 0)) (.cells #[.int .i64 0, .slice none 0 0, .map (some (w.heap.size + 1))] 59)
        rw [show (w0.alloc (.map #[] 0)).heap.size = w.heap.size + 2 by simp; omega] at this
        exact this
      · rw [hw2]; exact hpm.below ((Below.refl _ _).alloc (Nat.le_refl _) _)
    rw [← hw2]
    have HB2 := Lib.hid hb2; have HD2 := Lib.hid hdr
    clear hw2 hb2 hpm hdr
    refine (lines_hid _ l xs _ rfl (by omega) HXS).mono ?_
    rintro e w3 ⟨v, rfl, HO3, HB3⟩
    have hs3 := HB3.out.size
    have HB03 := Lib.hid (HB2.out.trans (HB3.out.mono (by omega)))
    have HD3 := Lib.hid (HD2.out.below HB3.out)
    obtain ⟨A, cv, rfl, hcell⟩ := own_any HO3.out
    have HCELL := Lib.hid hcell; clear hcell
    obtain ⟨n, hn⟩ : ∃ n, n = xs.length := ⟨_, rfl⟩
    rw [← hn]
    have hnl : n ≤ 300000 := by
      have h1 := lns_len xs
      have h2 := ln_total l []
      rw [HXS.out] at h2
      simp only [List.length_nil] at h2; omega
    have HN2 := Lib.hid hn; clear hn
    go_wp2
    go_loopg [6, 18] n (fun g m i wr => PsRel w w0 w3 (w.heap.size + 2) T xs g m i wr)
    case atStart => exact ⟨0, 0, [], by rw [← HN2.out]; omega, rfl, rfl, HD3.out, Sd.nil, HB03.out, Kp.refl _, by rw [List.drop_zero]; exact hT.out.symm⟩
    case round =>
      obtain ⟨k, V, L, hk, rfl, rfl, hd, hsd, hb, hkp, hth⟩ := hrel
      rw [← HN2.out] at hk
      have hsr := hb.size
      have hV := hsd.v
      have hLl := hsd.len
      by_cases hlt : k < n
      · obtain ⟨x, hx⟩ := at_lt xs k (by rw [← HN2.out]; exact hlt)
        obtain ⟨g, rfl, cur, hcb, hcc⟩ := HCELL.out k x hx
        have hc : wr.cell? ⟨g, k, none⟩ = some (.string (sb x)) := by
          rw [World.cell?, (hkp g cur (0, 0) hcb)]; exact hcc
        rw [drop_at hx] at hth
        obtain ⟨r, hr⟩ : ∃ r, step V L x = r := ⟨_, rfl⟩
        have hth2 : T = tr2 k (xs.drop (k + 1)) r := by rw [hth, through_cons, hr]
        have HTH := Lib.hid hth2; have HR := Lib.hid hr; have HD := Lib.hid hd; have HSD := Lib.hid hsd; have HB := Lib.hid hb; have HKP := Lib.hid hkp
        have hxl := hll.out x (List.mem_of_getElem? hx)
        clear hth hth2 hr hd hsd hb hkp hcb hcc hx
        go_wp2_with fail
        refine (take_any (w.heap.size + 1) (w.heap.size + 2) V L x wr HD (Lib.hid fun w' h => hLd0.out w' (HB.out.trans h)) hxl (by omega) (by omega) hLl r HR).mono ?_
        rintro e w4 ⟨rfl, hD4, HB4, HK4⟩
        have HB5 := Lib.hid (HB.out.trans HB4.out)
        cases r with
        | some s =>
          have HD4 := hD4 s rfl
          have hSD := HSD.out.step HR.out
          clear hD4
          have HSD4 := Lib.hid hSD.1; clear hSD
          go_wp2
          go_roundg (gk - 1)
          case measure => omega
          case rel => exact ⟨k + 1, s.1, s.2, by rw [← HN2.out]; omega, by go_num, by go_num, HD4.out, HSD4.out, HB5.out, HKP.out.trans HK4.out, HTH.out⟩
        | none =>
          have HTN : Hid (T = (k + 1, none)) := HTH
          clear hD4
          have hx4 := (HB5.out.block w.heap.size (by omega)).trans HX0.out
          have HX4 := Lib.hid hx4; have HBW := Lib.hid (HB0.out.trans (HB5.out.mono (by omega : w.heap.size ≤ w.heap.size + 1)))
          clear hx4
          go_wp2
          go_step3
          exact ⟨rfl, k + 1, HTN, HBW.out, HX4.out, _, _, _, _, _, _, _, _, _, _, _, _, _, _, _, _, _, _, _, _, _, _, _, _, _, _, _, _, _, _, _, _, _, _, _, _, _, _, _, _, _, rfl⟩
      · have hkn : k = n := by omega
        have hte : T = if V = 0 then (n + 1, none) else (0, some (V, L)) := by
          rw [hth, hkn, HN2.out, List.drop_length, through]
        obtain ⟨vD, MD, hDb, hE0, _, _, _⟩ := hd
        obtain ⟨d0, d1, _, _, _⟩ := Dr.cells hDb
        obtain ⟨AD, cD, rfl, _, hAD, _⟩ := hE0.form
        have hx4 := (hb.block w.heap.size (by omega)).trans HX0.out
        have HE0 := Lib.hid hE0; have HB := Lib.hid hb; have HX4 := Lib.hid hx4; have HSD := Lib.hid hsd; have HAD := Lib.hid hAD; have HDB := Lib.hid hDb
        have HBW := Lib.hid (HB0.out.trans (hb.mono (by omega : w.heap.size ≤ w.heap.size + 1)))
        obtain ⟨x0, x1, hxs⟩ := Bx.cells hx4
        have xf := Gx.cells hx4
        clear hth hb hx4 hsd hAD hDb hkp hE0
        by_cases hV0 : V = 0
        · subst hV0
          have HTE : Hid (T = (n + 1, none)) := Lib.hid (by rw [hte, if_pos rfl])
          clear hte
          go_wp2
          go_step3
          go_wp2
          simp only [Exit.jump]
          obtain ⟨k0, k1⟩ := gx_put HX4.out (.int .i64 0) (.slice none 0 0)
          refine bodyPost_ret (v := .tuple #[.agg #[.int .i64 0, .slice none 0 0], .int .i64 ((n + 1 : Nat) : Int), .int .i64 41]) (by simp [results, Tryz.results18, go_sem, k0, k1]) rfl ⟨(by rw [HTE.out]; rfl), Lib.hid ?_⟩
          exact (HBW.out.setCell (p := ⟨w.heap.size, 0, none⟩) (Nat.le_refl _) _).setCell (p := ⟨w.heap.size, 1, none⟩) (Nat.le_refl _) _
        · have HTE : Hid (T = (0, some (V, L))) := Lib.hid (by rw [hte, if_neg hV0])
          have hV1 : 0 < V := by omega
          have hLN := hN.out (V, L) (by rw [HTE.out])
          clear hte
          go_wp2_with fail
          refine (hO.out (w.heap.size + 1) _ L wr HE0 hLN (by omega)).mono ?_
          rintro e w5 ⟨rfl, L', hp, hpw, HE5, HG5⟩
          have hD5 := keepD HDB.out HE0.out HG5.out
          have hx5 := (HG5.out.block w.heap.size (lt_of_block HX4.out) (fun e => by have := (own_lt HE0.out _ e.symm).1; omega)).trans HX4.out
          have hb5 : Below w.heap.size w w5 := Below.grown HBW.out HG5.out (by omega) (fun g e => by have := (own_lt HE0.out g e).1; omega)
          have HRise := Lib.hid (rise_of (apart_perm HSD.out.apart hp.symm) hpw)
          have HP := Lib.hid hp; have HB5 := Lib.hid hb5
          clear d0 d1 x0 x1 xf hp hpw hb5
          obtain ⟨d0, d1, _, _, _⟩ := Dr.cells hD5
          obtain ⟨x0, x1, hxs5⟩ := Bx.cells hx5
          have xf := Gx.cells hx5
          have HX5 := Lib.hid hx5
          clear hD5 hx5
          go_wp2
          simp only [Exit.jump]
          obtain ⟨k0, k1⟩ := gx_put HX5.out (.int .i64 V) (.slice AD L.length cD)
          refine bodyPost_ret (v := .tuple #[.agg #[.int .i64 V, .slice AD L.length cD], .int .i64 0, .int .i64 0]) (by simp [results, Tryz.results18, go_sem, k0, k1]) rfl ⟨(by
            rw [HTE.out]
            refine ⟨_, L', rfl, Lib.hid ?_, HP.out, HRise.out⟩
            exact own_mono (ownsRow_setCell_below (ownsRow_setCell_below HE5.out (a := ⟨w.heap.size, 0, none⟩) (by show w.heap.size < _; omega) _) (a := ⟨w.heap.size, 1, none⟩) (by show w.heap.size < _; omega) _) (by omega)), Lib.hid ?_⟩
          exact (HB5.out.setCell (p := ⟨w.heap.size, 0, none⟩) (Nat.le_refl _) _).setCell (p := ⟨w.heap.size, 1, none⟩) (Nat.le_refl _) _
  · rintro a' w' ⟨n, HTN, hb, hx, u0, u1, u3, u4, u5, u7, u8, u9, u10, u11, u12, u13, u14, u15, u16, u17, u18, u19, u20, u21, u22, u23, u24, u25, u26, u27, u28, u29, u30, u31, u32, u33, u34, u35, u36, u37, u38, u39, u40, u41, u42, rfl⟩
    obtain ⟨x0, x1, hxs⟩ := Bx.cells hx
    have xf := Gx.cells hx
    have HB := Lib.hid hb; have HX := Lib.hid hx; clear hb hx
    go_wp2
    simp only [Exit.jump]
    obtain ⟨k0, k1⟩ := gx_put HX.out (.int .i64 0) (.slice none 0 0)
    refine bodyPost_ret (v := .tuple #[.agg #[.int .i64 0, .slice none 0 0], .int .i64 (n : Int), .int .i64 41]) (by simp [results, Tryz.results18, go_sem, k0, k1]) rfl ⟨(by rw [HTN.out]; rfl), Lib.hid ?_⟩
    exact (HB.out.setCell (p := ⟨w.heap.size, 0, none⟩) (Nat.le_refl _) _).setCell (p := ⟨w.heap.size, 1, none⟩) (Nat.le_refl _) _

end Go.Proofs.YtmcmpjcijbeilaaGreatDoor.Gr
