/-
  What is proved here: the texts GrRef6 GrPdq1 GrPdq2 of this seat, laid together (each says itself what it proves; no condition beyond theirs).
-/
import Derived.Test.YtmcmpjcijbeilaaGreatDoorGmB
import Derived.Test.YtmcmpjcijbeilaaGreatDoorGmJ
import Derived.Shelf.SlSortFuncK.PdqK
/-
  What is proved here: the contract of treadwheelref04's Parse: the graph that a text is, or the first line with which it is none. Conditions: at most 262144 bytes, lines of at most 100000.
-/
namespace Go.Proofs.YtmcmpjcijbeilaaGreatDoor.Gr
open Go.RowKit Wd Ws

/- What stays while the lines are gone through: all but the graph's own box. -/
def Kg (G : Nat) (w w' : World) : Prop := ∀ (k : Nat) (o : Obj), w.heap[k]? = some o → k ≠ G → w'.heap[k]? = some o
theorem Kg.refl (G : Nat) (w : World) : Kg G w w := fun _ _ h _ => h
theorem Kg.below {G : Nat} {w a b : World} (h : Kg G w a) (k : Below a.heap.size a b) : Kg G w b := fun i o hi hn => (k.block i (lt_of_block (h i o hi hn))).trans (h i o hi hn)
theorem Kg.set {G : Nat} {w a : World} (h : Kg G w a) (j : Nat) (v : Value) : Kg G w (a.setCell ⟨G, j, none⟩ v) := fun i o hi hn => (heap_setCell_other a ⟨G, j, none⟩ i v hn).trans (h i o hi hn)
/- Where the lines have come to: the graph so far, in its box. -/
structure Rp (w wr : World) (V : Int) (L R : List Ed) (v : Value) : Prop where
  below : Below w.heap.size w wr
  box : wr.heap[w.heap.size + 1]? = some (.cells #[.int .i64 V, v] 24 (0, 0))
  ret : wr.heap[w.heap.size]? = some (.cells #[.int .i64 0, .slice none 0 0] 24 (0, 0))
  own : EOwn wr (w.heap.size + 2) v R
  perm : R.Perm L
  rise : Rise R
  sd : Sd V L
theorem Rp.step {w a b : World} {V : Int} {L R : List Ed} {v : Value} (h : Rp w a V L R v) (k : Below a.heap.size a b) : Rp w b V L R v :=
  ⟨h.below.trans (k.mono h.below.size), (k.block _ (lt_of_block h.box)).trans h.box, (k.block _ (lt_of_block h.ret)).trans h.ret, h.own.below k, h.perm, h.rise, h.sd⟩
def RpRel (w w3 : World) (T : Nat × Option (Int × List Ed)) (xs : List (List UInt8)) (gk : Nat) (v7 : Value) (wr : World) : Prop :=
  ∃ (k : Nat) (V : Int) (L R : List Ed) (v : Value), k + gk = xs.length ∧ v7 = .int .i64 (k : Int) ∧ Hid (Rp w wr V L R v) ∧ Hid (Kg (w.heap.size + 1) w3 wr) ∧ Hid (T = through V L k (xs.drop k))
theorem nums_sole (y : List UInt8) (m : Nat) (E : Int) (h : numB y = (m, E)) : numsOf [y] = if E = 0 then some [m] else none := by
  rw [numsOf, h]
  by_cases hE : E = 0
  · rw [if_pos hE, if_pos hE, numsOf]
  · rw [if_neg hE, if_neg hE]
theorem step_first (L : List Ed) (x0 : List UInt8) (t : List (List UInt8)) (h : ¬ (t.length = 1 ∧ x0 = vertB)) : stepW 0 L (x0 :: t) = none := by
  rw [stepW_cons]
  cases hn : numsOf t with
  | none => rfl
  | some ns =>
    show stepN 0 L x0 ns = none
    by_cases hx : x0 = vertB
    · have hl := numsOf_len t ns hn
      subst hx
      rw [stepN_vert L ns (vertP ns) rfl]
      match ns, hl with
      | [], _ => rfl
      | [a], hl => exact absurd ⟨by rw [← hl]; rfl, rfl⟩ h
      | a :: b :: l, _ => rfl
    · exact stepN_novert L x0 ns hx
theorem step_vert (L : List Ed) (y : List UInt8) (m : Nat) (E : Int) (h : numB y = (m, E)) : stepW 0 L [vertB, y] = if E = 0 ∧ 1 ≤ m ∧ m ≤ 512 then some ((m : Int), L) else none := by
  rw [stepW_cons, nums_sole y m E h]
  by_cases hE : E = 0
  · rw [if_pos hE]
    show stepN 0 L vertB [m] = _
    rw [stepN_vert L [m] (vertP [m]) rfl]
    show vr L (if 1 ≤ m ∧ m ≤ 512 then some (m : Int) else none) = _
    by_cases hm : 1 ≤ m ∧ m ≤ 512
    · rw [if_pos hm, if_pos ⟨hE, hm⟩]; rfl
    · rw [if_neg hm, if_neg (fun h => hm h.2)]; rfl
  · rw [if_neg hE, if_neg (fun h => hE h.1)]; rfl
theorem step_words {V : Int} {L : List Ed} {x : List UInt8} {ws : List (List UInt8)} {E : Int} (h : wordsB x = (ws, E)) : step V L x = if E = 0 then stepW V L ws else none := by
  unfold step; rw [h]

set_option maxRecDepth 100000 in
set_option maxHeartbeats 4000000 in
theorem rparse_any (l : List UInt8) (w : World) (hl : l.length ≤ 262144) (hll : Hid (∀ x ∈ ln [] l, x.length ≤ 100000)) (T : Nat × Option (Int × List Ed)) (hT : Hid (through 0 [] 0 (ln [] l) = T)) :
    Calls Tryz.prog 19 #[.string (sb l)] w fun e w' => ParseRes w.heap.size w' e T ∧ Hid (Below w.heap.size w w') := by
  have hsz := sb_size l
  obtain ⟨w1, hw1⟩ : ∃ w1, w1 = w.alloc (.cells #[.int .i64 0, .slice none 0 0] 24) := ⟨_, rfl⟩
  obtain ⟨w2, hw2⟩ : ∃ w2, w2 = w1.alloc (.cells #[.int .i64 0, .slice none 0 0] 24) := ⟨_, rfl⟩
  have s1 : w1.heap.size = w.heap.size + 1 := by rw [hw1]; simp
  have s2 : w2.heap.size = w.heap.size + 2 := by rw [hw2]; simp; omega
  have b1 : Below w.heap.size w w1 := by rw [hw1]; exact (Below.refl _ w).alloc (Nat.le_refl _) _
  have b2 : Below w1.heap.size w1 w2 := by rw [hw2]; exact (Below.refl _ w1).alloc (Nat.le_refl _) _
  have e1 : w1.heap[w.heap.size]? = some (.cells #[.int .i64 0, .slice none 0 0] 24 (0, 0)) := by rw [hw1]; exact heap_alloc_new w _
  have e2 : w2.heap[w.heap.size + 1]? = some (.cells #[.int .i64 0, .slice none 0 0] 24 (0, 0)) := by rw [hw2, ← s1]; exact heap_alloc_new w1 _
  have HP2 : Hid (Rp w w2 0 [] [] (.slice none 0 0)) := Lib.hid ⟨b1.trans (b2.mono (by omega)), e2, (b2.block _ (by omega)).trans e1, EOwn.none_ _ _, List.Perm.refl _, List.Pairwise.nil, Sd.nil⟩
  have HW : Hid (w2 = (w.alloc (.cells #[.int .i64 0, .slice none 0 0] 24)).alloc (.cells #[.int .i64 0, .slice none 0 0] 24)) := Lib.hid (by rw [hw2, hw1])
  clear hw1 hw2 b1 b2 e1 e2 s1
  obtain ⟨xs, hxs⟩ : ∃ xs, ln [] l = xs := ⟨_, rfl⟩
  have HXS := Lib.hid hxs
  rw [hxs] at hT hll
  clear hxs
  go_enter Tryz.func19, Tryz.ntmps19
  go_wp2_with fail
  all_goals (try (exfalso; omega))
  rw [← HW.out]
  refine (rlines_at _ l xs _ rfl (by omega) HXS).mono ?_
  rintro e w3 ⟨v, rfl, HO3, HB3⟩
  have HP3 := Lib.hid (HP2.out.step HB3.out)
  obtain ⟨A, cv, rfl, hcell⟩ := own_any HO3.out
  have HCELL := Lib.hid hcell; clear hcell
  obtain ⟨n, hn⟩ : ∃ n, n = xs.length := ⟨_, rfl⟩
  rw [← hn]
  have hnl : n ≤ 300000 := by
    have h1 := lns_len xs
    have h2 := ln_total l []
    rw [HXS.out] at h2
    simp only [List.length_nil] at h2; omega
  have HN2 := Lib.hid hn; clear hn
  go_wp2
  go_loopg [7] n (fun gk v7 wr => RpRel w w3 T xs gk v7 wr)
  case atStart => exact ⟨0, 0, [], [], _, by rw [← HN2.out]; omega, rfl, HP3, Lib.hid (Kg.refl _ _), Lib.hid (by rw [List.drop_zero]; exact hT.out.symm)⟩
  case round =>
    obtain ⟨k, V, L, R, vg, hk, rfl, HP, HK, HTH0⟩ := hrel
    rw [← HN2.out] at hk
    obtain ⟨g0, g1, hgs⟩ := Bx.cells HP.out.box
    obtain ⟨r0, r1, hrs⟩ := Bx.cells HP.out.ret
    have gf := Gx.cells HP.out.box
    have rf := Gx.cells HP.out.ret
    obtain ⟨Ag, cg, rfl, hRc, _⟩ := HP.out.own.room
    by_cases hlt : k < n
    · obtain ⟨x, hx⟩ := at_lt xs k (by rw [← HN2.out]; exact hlt)
      obtain ⟨g, rfl, cur, hcb, hcc⟩ := HCELL.out k x hx
      have hgne : g ≠ w.heap.size + 1 := fun e => by
        rw [e, HP3.out.box] at hcb; simp at hcb
      have hc : wr.cell? ⟨g, k, none⟩ = some (.string (sb x)) := by
        rw [World.cell?, HK.out g _ hcb hgne, ← hcb]; exact hcc
      obtain ⟨r, hr⟩ : ∃ r, step V L x = r := ⟨_, rfl⟩
      have HTH : Hid (T = tr2 k (xs.drop (k + 1)) r) := Lib.hid (by rw [HTH0.out, drop_at hx, through_cons, hr])
      have HR := Lib.hid hr
      have hxl := hll.out x (List.mem_of_getElem? hx)
      obtain ⟨ws, E, hws⟩ : ∃ ws E, wordsB x = (ws, E) := ⟨_, _, rfl⟩
      have HWS := Lib.hid hws
      have hwc : ws.length ≤ 200000 := by have := words_count x; rw [hws] at this; simp only at this; omega
      have HWL : Hid (∀ y ∈ ws, y.length ≤ 300000) := Lib.hid fun y hy => by
        have := words_len x y (by rw [hws]; exact hy); omega
      clear hr hcb hcc hx hws hgne
      go_wp2_with fail
      refine (rwords_hid _ x (chOf x) ws E wr rfl (Lib.hid (chOf_rg x)) (by omega) HWS).mono ?_
      rintro e w4 ⟨v8, rfl, HO4, HB4⟩
      have HP4 := Lib.hid (HP.out.step HB4.out)
      have HK4 := Lib.hid (HK.out.below HB4.out)
      have hs4 := HB4.out.size
      clear g0 g1 r0 r1 gf rf hc
      obtain ⟨g0, g1, hgs4⟩ := Bx.cells HP4.out.box
      obtain ⟨r0, r1, hrs4⟩ := Bx.cells HP4.out.ret
      have gf := Gx.cells HP4.out.box
      have rf := Gx.cells HP4.out.ret
      by_cases hE : E = 0
      · subst hE
        have hr2 : r = stepW V L ws := by rw [← HR.out, step_words HWS.out, if_pos rfl]
        have HR2 := Lib.hid hr2; clear hr2
        match ws, HWS, hwc, HWL, HO4, HR2 with
        | [], HWS, hwc, HWL, HO4, HR2 =>
          obtain ⟨A8, c8, rfl⟩ := own_nil HO4.out
          have HRS : Hid (T = through V L (k + 1) (xs.drop (k + 1))) := Lib.hid (by rw [HTH.out, HR2.out]; rfl)
          go_wp2
          go_roundg (gk - 1)
          case measure => omega
          case rel => exact ⟨k + 1, V, L, R, _, by rw [← HN2.out]; omega, by go_num, HP4, HK4, HRS⟩
        | x0 :: t, HWS, hwc, HWL, HO4, HR2 =>
          obtain ⟨g8, c8, n8, rfl, hn8, hnc8, hB8, hg8, hc8⟩ := own_str HO4.out
          have HN8 := Lib.hid hn8; have HC8 := Lib.hid hc8
          have c0 := hc8 0 x0 rfl
          have hn81 : 1 ≤ n8 := by omega
          have hn82 : n8 ≤ 1000000 := by simp only [List.length_cons] at hwc; omega
          clear hn8 hc8
          by_cases hV0 : V = 0
          · subst hV0
            by_cases h1 : t.length = 1 ∧ x0 = vertB
            · obtain ⟨h2, hxv⟩ := h1
              obtain ⟨y, rfl⟩ : ∃ y, t = [y] := by
                match t, h2 with
                | [y], _ => exact ⟨y, rfl⟩
              obtain rfl : n8 = 2 := by have := HN8.out; simpa using this
              have hxl : ((sb x0).toList == [118, 101, 114, 116, 105, 99, 101, 115]) = true := by rw [sb_toList, hxv]; rfl
              have c1 := HC8.out 1 y rfl
              obtain ⟨m, E1, hm⟩ : ∃ m E1, numB y = (m, E1) := ⟨_, _, rfl⟩
              have HM := Lib.hid hm
              have hst := step_vert L y m E1 hm
              rw [← hxv, ← HR2.out] at hst
              have HST := Lib.hid hst
              have hyl := HWL.out y (by simp)
              clear hm hst hxv h2
              go_wp2_with fail
              all_goals (try (exfalso; omega))
              refine (rnumber_hid _ y (chOf y) m E1 w4 rfl (Lib.hid (chOf_rg y)) hyl HM).mono ?_
              rintro e w5 ⟨rfl, HB5⟩
              have HP5 := Lib.hid (HP4.out.step HB5.out)
              have HK5 := Lib.hid (HK4.out.below HB5.out)
              clear g0 g1 r0 r1 gf rf c0 c1 hxl
              obtain ⟨g0, g1, hgs5⟩ := Bx.cells HP5.out.box
              obtain ⟨r0, r1, hrs5⟩ := Bx.cells HP5.out.ret
              have gf := Gx.cells HP5.out.box
              have rf := Gx.cells HP5.out.ret
              by_cases hE1 : E1 = 0
              · subst hE1
                by_cases hm1 : 1 ≤ m
                · by_cases hm2 : m ≤ 512
                  · have hr5 : r = some ((m : Int), L) := by rw [HST.out, if_pos ⟨rfl, hm1, hm2⟩]
                    subst hr5
                    have hSD := (HP5.out.sd.step HR.out).1
                    have HSD := Lib.hid hSD
                    have HTS : Hid (T = through (m : Int) L (k + 1) (xs.drop (k + 1))) := HTH
                    go_wp2
                    all_goals (try (exfalso; omega))
                    go_roundg (gk - 1)
                    case measure => omega
                    case rel =>
                      have hbx := heap_setCell_same w5 (w.heap.size + 1) 0 _ _ (.int .i64 (m : Int)) HP5.out.box
                      refine ⟨k + 1, (m : Int), L, R, _, by rw [← HN2.out]; omega, by go_num, Lib.hid ⟨HP5.out.below.setCell (p := ⟨w.heap.size + 1, 0, none⟩) (by show w.heap.size ≤ w.heap.size + 1; omega) _, hbx, (heap_setCell_other w5 ⟨w.heap.size + 1, 0, none⟩ _ _ (by show w.heap.size ≠ w.heap.size + 1; omega)).trans HP5.out.ret, ownsRow_setCell_below HP5.out.own (a := ⟨w.heap.size + 1, 0, none⟩) (by show w.heap.size + 1 < _; omega) _, HP5.out.perm, HP5.out.rise, HSD.out⟩, Lib.hid (HK5.out.set 0 _), HTS⟩
                  · have HTE : Hid (T = (k + 1, none)) := Lib.hid (by rw [HTH.out, HST.out, if_neg (fun h => hm2 h.2.2)]; rfl)
                    have hm2z : ¬ ((m : Int) ≤ 512) := by omega
                    go_wp2
                    all_goals (try (exfalso; (first | omega | (rename_i hh; simp at hh; omega))))
                    obtain ⟨k0, k1⟩ := gx_put HP5.out.ret (.int .i64 0) (.slice none 0 0)
                    refine bodyPost_ret (v := .tuple #[.agg #[.int .i64 0, .slice none 0 0], .int .i64 ((k + 1 : Nat) : Int), .int .i64 41]) (by simp [results, Tryz.results19, go_sem, k0, k1]) rfl ⟨(by rw [HTE.out]; rfl), Lib.hid ?_⟩
                    exact (HP5.out.below.setCell (p := ⟨w.heap.size, 0, none⟩) (Nat.le_refl _) _).setCell (p := ⟨w.heap.size, 1, none⟩) (Nat.le_refl _) _
                · have HTE : Hid (T = (k + 1, none)) := Lib.hid (by rw [HTH.out, HST.out, if_neg (fun h => hm1 h.2.1)]; rfl)
                  have hm1z : ¬ ((1 : Int) ≤ (m : Int)) := by omega
                  go_wp2
                  all_goals (try (exfalso; omega))
                  obtain ⟨k0, k1⟩ := gx_put HP5.out.ret (.int .i64 0) (.slice none 0 0)
                  refine bodyPost_ret (v := .tuple #[.agg #[.int .i64 0, .slice none 0 0], .int .i64 ((k + 1 : Nat) : Int), .int .i64 41]) (by simp [results, Tryz.results19, go_sem, k0, k1]) rfl ⟨(by rw [HTE.out]; rfl), Lib.hid ?_⟩
                  exact (HP5.out.below.setCell (p := ⟨w.heap.size, 0, none⟩) (Nat.le_refl _) _).setCell (p := ⟨w.heap.size, 1, none⟩) (Nat.le_refl _) _
              · have HTE : Hid (T = (k + 1, none)) := Lib.hid (by rw [HTH.out, HST.out, if_neg (fun h => hE1 h.1)]; rfl)
                go_wp2
                all_goals (try (exfalso; omega))
                obtain ⟨k0, k1⟩ := gx_put HP5.out.ret (.int .i64 0) (.slice none 0 0)
                refine bodyPost_ret (v := .tuple #[.agg #[.int .i64 0, .slice none 0 0], .int .i64 ((k + 1 : Nat) : Int), .int .i64 41]) (by simp [results, Tryz.results19, go_sem, k0, k1]) rfl ⟨(by rw [HTE.out]; rfl), Lib.hid ?_⟩
                exact (HP5.out.below.setCell (p := ⟨w.heap.size, 0, none⟩) (Nat.le_refl _) _).setCell (p := ⟨w.heap.size, 1, none⟩) (Nat.le_refl _) _
            · have HTE : Hid (T = (k + 1, none)) := Lib.hid (by rw [HTH.out, HR2.out, step_first L x0 t h1]; rfl)
              by_cases hx : x0 = vertB
              · have hn2' : ¬ ((n8 : Int) = 2) := fun hh => h1 ⟨by have := HN8.out; omega, hx⟩
                clear hx h1
                go_wp2
                all_goals (try (exfalso; omega))
                obtain ⟨k0, k1⟩ := gx_put HP4.out.ret (.int .i64 0) (.slice none 0 0)
                refine bodyPost_ret (v := .tuple #[.agg #[.int .i64 0, .slice none 0 0], .int .i64 ((k + 1 : Nat) : Int), .int .i64 41]) (by simp [results, Tryz.results19, go_sem, k0, k1]) rfl ⟨(by rw [HTE.out]; rfl), Lib.hid ?_⟩
                exact (HP4.out.below.setCell (p := ⟨w.heap.size, 0, none⟩) (Nat.le_refl _) _).setCell (p := ⟨w.heap.size, 1, none⟩) (Nat.le_refl _) _
              · have hxl : ((sb x0).toList == [118, 101, 114, 116, 105, 99, 101, 115]) = false := by rw [sb_toList]; exact beq_false_of_ne hx
                clear hx h1
                by_cases hn2 : n8 = 2
                · subst hn2
                  go_wp2
                  all_goals (try (exfalso; omega))
                  obtain ⟨k0, k1⟩ := gx_put HP4.out.ret (.int .i64 0) (.slice none 0 0)
                  refine bodyPost_ret (v := .tuple #[.agg #[.int .i64 0, .slice none 0 0], .int .i64 ((k + 1 : Nat) : Int), .int .i64 41]) (by simp [results, Tryz.results19, go_sem, k0, k1]) rfl ⟨(by rw [HTE.out]; rfl), Lib.hid ?_⟩
                  exact (HP4.out.below.setCell (p := ⟨w.heap.size, 0, none⟩) (Nat.le_refl _) _).setCell (p := ⟨w.heap.size, 1, none⟩) (Nat.le_refl _) _
                · have hn2' : ¬ ((n8 : Int) = 2) := by omega
                  go_wp2
                  all_goals (try (exfalso; omega))
                  obtain ⟨k0, k1⟩ := gx_put HP4.out.ret (.int .i64 0) (.slice none 0 0)
                  refine bodyPost_ret (v := .tuple #[.agg #[.int .i64 0, .slice none 0 0], .int .i64 ((k + 1 : Nat) : Int), .int .i64 41]) (by simp [results, Tryz.results19, go_sem, k0, k1]) rfl ⟨(by rw [HTE.out]; rfl), Lib.hid ?_⟩
                  exact (HP4.out.below.setCell (p := ⟨w.heap.size, 0, none⟩) (Nat.le_refl _) _).setCell (p := ⟨w.heap.size, 1, none⟩) (Nat.le_refl _) _
          · obtain ⟨q, hq⟩ : ∃ q, lineR V R x0 t = q := ⟨_, rfl⟩
            have hal := line_alike HP4.out.sd hV0 HP4.out.perm HP4.out.rise x0 t
            rw [hq, ← HR2.out] at hal
            have HAL := Lib.hid hal
            have HQ := Lib.hid hq
            clear hal hq
            have hRl : R.length ≤ 8192 := by rw [HP4.out.perm.length_eq]; exact HP4.out.sd.len
            have hff : EAt w4 Ag R ∧ (Ag = none ∨ ∃ g, Ag = some ⟨g, 0, none⟩) := by
              obtain ⟨A', c', h1, h2, h3, _⟩ := HP4.out.own.form
              cases h1
              refine ⟨h2, ?_⟩
              rcases h3 with h3 | ⟨g, h3, _⟩
              · exact Or.inl h3
              · exact Or.inr ⟨g, h3⟩
            have HLC := Lib.hid (rline_any V R Ag cg x0 t g8 n8 c8 w4 (Lib.hid hff.1) (Lib.hid hff.2) hRc hRl (Lib.hid HP4.out.rise) HN8.out hn82 HC8 HWL q HQ)
            clear hff
            go_wp2_with fail
            all_goals (try (exfalso; omega))
            refine HLC.out.mono ?_
            rintro e w5 ⟨hLi, HB5⟩
            have HP5 := Lib.hid (HP4.out.step HB5.out)
            have HK5 := Lib.hid (HK4.out.below HB5.out)
            have hs5 := HB5.out.size
            clear g0 g1 r0 r1 gf rf c0
            obtain ⟨g0, g1, hgs5⟩ := Bx.cells HP5.out.box
            obtain ⟨r0, r1, hrs5⟩ := Bx.cells HP5.out.ret
            have gf := Gx.cells HP5.out.box
            have rf := Gx.cells HP5.out.ret
            cases q with
            | none =>
              have hrn : r = none := by
                cases r with
                | none => rfl
                | some s => obtain ⟨S, h, _⟩ := HAL.out.2 s rfl; cases h
              have HTE : Hid (T = (k + 1, none)) := Lib.hid (by rw [HTH.out, hrn]; rfl)
              clear hrn
              obtain ⟨A', n', c', rfl⟩ := hLi
              go_wp2
              all_goals (try (exfalso; omega))
              have hret := (heap_setCell_other _ ⟨w.heap.size + 1, 1, none⟩ w.heap.size (.slice A' n' c') (by show w.heap.size ≠ w.heap.size + 1; omega)).trans ((heap_setCell_other w5 ⟨w.heap.size + 1, 0, none⟩ w.heap.size (.int .i64 V) (by show w.heap.size ≠ w.heap.size + 1; omega)).trans HP5.out.ret)
              have hbel := (HP5.out.below.setCell (p := ⟨w.heap.size + 1, 0, none⟩) (by show w.heap.size ≤ w.heap.size + 1; omega) (.int .i64 V)).setCell (p := ⟨w.heap.size + 1, 1, none⟩) (by show w.heap.size ≤ w.heap.size + 1; omega) (.slice A' n' c')
              obtain ⟨k0, k1⟩ := gx_put hret (.int .i64 0) (.slice none 0 0)
              refine bodyPost_ret (v := .tuple #[.agg #[.int .i64 0, .slice none 0 0], .int .i64 ((k + 1 : Nat) : Int), .int .i64 41]) (by simp [results, Tryz.results19, go_sem, k0, k1]) rfl ⟨(by rw [HTE.out]; rfl), Lib.hid ?_⟩
              exact (hbel.setCell (p := ⟨w.heap.size, 0, none⟩) (Nat.le_refl _) _).setCell (p := ⟨w.heap.size, 1, none⟩) (Nat.le_refl _) _
            | some S =>
              obtain ⟨v5, rfl, HO5⟩ := hLi
              obtain ⟨s, hrs⟩ : ∃ s, r = some s := by
                cases r with
                | none => have := HAL.out.1 rfl; cases this
                | some s => exact ⟨s, rfl⟩
              subst hrs
              obtain ⟨S', hS', hs1, hp1, hri1⟩ := HAL.out.2 s rfl
              obtain rfl := Option.some.inj hS'
              have hSD := (HP5.out.sd.step HR.out).1
              rw [hs1] at hSD
              have HTS : Hid (T = through V s.2 (k + 1) (xs.drop (k + 1))) := Lib.hid (by rw [HTH.out, ← hs1]; rfl)
              have HSD := Lib.hid hSD; have HPM := Lib.hid hp1; have HRI := Lib.hid hri1
              clear hS' hs1 hp1 hri1 hSD
              obtain ⟨A5, c5, hv5, hc5, _⟩ := HO5.out.room
              subst hv5
              obtain ⟨n5, hn5⟩ : ∃ n5, n5 = S.length := ⟨_, rfl⟩
              go_wp2
              all_goals (try (exfalso; omega))
              go_roundg (gk - 1)
              case measure => omega
              case rel =>
                have hbx := heap_setCell_same _ (w.heap.size + 1) 1 _ _ (.slice A5 S.length c5) (heap_setCell_same w5 (w.heap.size + 1) 0 _ _ (.int .i64 V) HP5.out.box)
                have hret := (heap_setCell_other _ ⟨w.heap.size + 1, 1, none⟩ w.heap.size (.slice A5 S.length c5) (by show w.heap.size ≠ w.heap.size + 1; omega)).trans ((heap_setCell_other w5 ⟨w.heap.size + 1, 0, none⟩ w.heap.size (.int .i64 V) (by show w.heap.size ≠ w.heap.size + 1; omega)).trans HP5.out.ret)
                have hbel := (HP5.out.below.setCell (p := ⟨w.heap.size + 1, 0, none⟩) (by show w.heap.size ≤ w.heap.size + 1; omega) (.int .i64 V)).setCell (p := ⟨w.heap.size + 1, 1, none⟩) (by show w.heap.size ≤ w.heap.size + 1; omega) (.slice A5 S.length c5)
                have hown := own_mono (ownsRow_setCell_below (ownsRow_setCell_below HO5.out (a := ⟨w.heap.size + 1, 0, none⟩) (by show w.heap.size + 1 < _; omega) (.int .i64 V)) (a := ⟨w.heap.size + 1, 1, none⟩) (by show w.heap.size + 1 < _; omega) (.slice A5 S.length c5)) (by omega : w.heap.size + 2 ≤ w4.heap.size)
                exact ⟨k + 1, V, s.2, S, _, by rw [← HN2.out]; omega, by go_num, Lib.hid ⟨hbel, hbx, hret, hown, HPM.out, HRI.out, HSD.out⟩, Lib.hid ((HK5.out.set 0 _).set 1 _), HTS⟩
      · have HTE : Hid (T = (k + 1, none)) := Lib.hid (by rw [HTH.out, ← HR.out, step_words HWS.out, if_neg hE]; rfl)
        go_wp2
        all_goals (try (exfalso; omega))
        obtain ⟨k0, k1⟩ := gx_put HP4.out.ret (.int .i64 0) (.slice none 0 0)
        refine bodyPost_ret (v := .tuple #[.agg #[.int .i64 0, .slice none 0 0], .int .i64 ((k + 1 : Nat) : Int), .int .i64 41]) (by simp [results, Tryz.results19, go_sem, k0, k1]) rfl ⟨(by rw [HTE.out]; rfl), Lib.hid ?_⟩
        exact (HP4.out.below.setCell (p := ⟨w.heap.size, 0, none⟩) (Nat.le_refl _) _).setCell (p := ⟨w.heap.size, 1, none⟩) (Nat.le_refl _) _
    · have hkn : k = n := by omega
      have hte : T = if V = 0 then (n + 1, none) else (0, some (V, L)) := by
        rw [HTH0.out, hkn, HN2.out, List.drop_length, through]
      by_cases hV0 : V = 0
      · subst hV0
        have HTE : Hid (T = (n + 1, none)) := Lib.hid (by rw [hte, if_pos rfl])
        clear hte
        go_wp2
        all_goals (try (exfalso; omega))
        obtain ⟨k0, k1⟩ := gx_put HP.out.ret (.int .i64 0) (.slice none 0 0)
        refine bodyPost_ret (v := .tuple #[.agg #[.int .i64 0, .slice none 0 0], .int .i64 ((n + 1 : Nat) : Int), .int .i64 41]) (by simp [results, Tryz.results19, go_sem, k0, k1]) rfl ⟨(by rw [HTE.out]; rfl), Lib.hid ?_⟩
        exact (HP.out.below.setCell (p := ⟨w.heap.size, 0, none⟩) (Nat.le_refl _) _).setCell (p := ⟨w.heap.size, 1, none⟩) (Nat.le_refl _) _
      · have HTE : Hid (T = (0, some (V, L))) := Lib.hid (by rw [hte, if_neg hV0])
        clear hte
        go_wp2
        all_goals (try (exfalso; omega))
        obtain ⟨k0, k1⟩ := gx_put HP.out.ret (.int .i64 V) (.slice Ag R.length cg)
        refine bodyPost_ret (v := .tuple #[.agg #[.int .i64 V, .slice Ag R.length cg], .int .i64 0, .int .i64 0]) (by simp [results, Tryz.results19, go_sem, k0, k1]) rfl ⟨(by
          rw [HTE.out]
          refine ⟨_, R, rfl, Lib.hid ?_, HP.out.perm, HP.out.rise⟩
          exact own_mono (ownsRow_setCell_below (ownsRow_setCell_below HP.out.own (a := ⟨w.heap.size, 0, none⟩) (by show w.heap.size < _; omega) _) (a := ⟨w.heap.size, 1, none⟩) (by show w.heap.size < _; omega) _) (by omega)), Lib.hid ?_⟩
        exact (HP.out.below.setCell (p := ⟨w.heap.size, 0, none⟩) (Nat.le_refl _) _).setCell (p := ⟨w.heap.size, 1, none⟩) (Nat.le_refl _) _

end Go.Proofs.YtmcmpjcijbeilaaGreatDoor.Gr

/-
  What is proved here: words for a walk over a row of edges that is being sorted, and the contract of the library's siftDown_func over graph.order's closure. Conditions: the row is one that the call has made.
-/
namespace Go.Proofs.YtmcmpjcijbeilaaGreatDoor.Gr
open Go.RowKit Wd Ws Go.Sort

/- What a callee finds behind its entry: the two functions in a box of its own. -/
theorem ent {w : World} {g N Bs n c : Nat} {d : Array Ed} {th : Value} (h : SWd w w g N d) (hB : Bes w g Bs n c) :
    ∃ w1, Hid (w1 = w.alloc (.cells #[.func (.func 51) #[] #[.pointer (some ⟨Bs, 0, none⟩)], .func (.func 92) #[] #[.slice (some ⟨g, 0, none⟩) n c, th]] 105)) ∧ Hid (SWd w w1 g N d) ∧ Hid (SWd w1 w1 g N d) ∧ Hid (Bes w1 g Bs n c) ∧ Hid (Fx w1 w.heap.size Bs g n c th) := by
  have hb1 : Below w.heap.size w (w.alloc (.cells #[.func (.func 51) #[] #[.pointer (some ⟨Bs, 0, none⟩)], .func (.func 92) #[] #[.slice (some ⟨g, 0, none⟩) n c, th]] 105)) := (Below.refl _ w).alloc (Nat.le_refl _) _
  have HS1 := h.below hb1
  exact ⟨_, Lib.hid rfl, Lib.hid HS1, Lib.hid HS1.start, Lib.hid (hB.on HS1), Lib.hid ⟨heap_alloc_new w _, by have := h.lt; omega⟩⟩
/- A swap. -/
theorem swap_at {w1 wr : World} {g N n c : Nat} {dj : Array Ed} {th : Value} (hth : Hid (th = typeHandle Tryz.prog 42)) (h : Hid (SWd w1 wr g N dj)) (hd : Hid (dj.size = n)) (i j : Nat) (I J : Int) (hi : i < n) (hj : j < n) (hI : I = (i : Int)) (hJ : J = (j : Int)) :
    ∃ W5, Hid ((callFunc 92 #[.int .i64 I, .int .i64 J, .slice (some ⟨g, 0, none⟩) n c, th]).run Tryz.prog wr = .ok (.value (.tuple #[])) W5) ∧ Hid (SWd w1 W5 g N (swp dj i j)) := by
  have hsr := swap_run g n c wr dj h.out.holds hd.out i j hi hj I J hI hJ
  rw [← hth.out] at hsr
  exact ⟨_, Lib.hid hsr, Lib.hid (h.out.swap i j (by rw [hd.out]; exact hi) (by rw [hd.out]; exact hj))⟩

def SdRel (w1 : World) (g N n hi first lo : Nat) (d : Array Ed) (gk : Nat) (vr : Value) (wr : World) : Prop :=
  ∃ (root : Nat) (dk : Array Ed), vr = .int .i64 (root : Int) ∧ root ≤ hi ∧ hi - root ≤ gk ∧ dk.size = n ∧ SWd w1 wr g N dk ∧ siftDown ahd hi first root dk = siftDown ahd hi first lo d

set_option maxRecDepth 100000 in
set_option maxHeartbeats 600000 in
theorem siftDown_any (w : World) (g N Bs n c lo hi first : Nat) (d : Array Ed) (th : Value) (hth : Hid (th = typeHandle Tryz.prog 42)) (h : Hid (SWd w w g N d)) (hB : Hid (Bes w g Bs n c)) (hd : Hid (d.size = n)) (hlo : lo ≤ hi) (hb : first + hi ≤ n) (hn : n < 4611686018427387904) :
    Calls Tryz.prog 113 #[.agg #[.func (.func 51) #[] #[.pointer (some ⟨Bs, 0, none⟩)], .func (.func 92) #[] #[.slice (some ⟨g, 0, none⟩) n c, th]], .int .i64 (lo : Int), .int .i64 (hi : Int), .int .i64 (first : Int)] w fun e w' => e = .returned (.tuple #[]) ∧ Hid (SWd w w' g N (siftDown ahd hi first lo d)) := by
  obtain ⟨w1, HW, HS1, HS, HBe, HF⟩ := ent (th := th) h.out hB.out
  go_enter Tryz.func113, Tryz.ntmps113
  go_wp2
  rw [← HW.out]
  go_loopg [8] (hi - lo) (fun gk vi wr => SdRel w1 g N n hi first lo d gk vi wr)
  case atStart => exact ⟨lo, d, rfl, hlo, Nat.le_refl _, hd.out, HS.out, rfl⟩
  case round =>
    obtain ⟨root, dk, rfl, hr, hgk, hdk, hsw, ho⟩ := hrel
    obtain ⟨k0, k1, hks⟩ := HF.out.on hsw
    have HO := Lib.hid ho; have HSW := Lib.hid hsw; have HDK := Lib.hid hdk; have HG := Lib.hid hgk; clear ho hsw hdk hgk
    by_cases h0 : hi ≤ 2 * root + 1
    · have h0z : (hi : Int) ≤ 2 * (root : Int) + 1 := by omega
      go_wp2
      go_end0
      exact ⟨rfl, Lib.hid (HS1.out.on (by rw [← HO.out, sd_end ahd dk h0]; exact HSW.out))⟩
    · have h0z : ¬ ((hi : Int) ≤ 2 * (root : Int) + 1) := by omega
      by_cases h1 : 2 * root + 2 < hi
      · have h1z : 2 * (root : Int) + 1 + 1 < (hi : Int) := by omega
        obtain ⟨r, hr1⟩ : ∃ r, ahd dk[first + (2 * root + 1)]! dk[first + (2 * root + 2)]! = r := ⟨_, rfl⟩
        have HR := Lib.hid hr1; clear hr1
        have HC := Lib.hid (less_any w1 wr g N Bs n c dk (first + (2 * root + 1)) (first + (2 * root + 2)) ((first : Int) + (2 * (root : Int) + 1)) ((first : Int) + (2 * (root : Int) + 1) + 1) (by omega) (by omega) r HSW HDK HBe (by omega) (by omega) HR)
        go_wp2_with fail
        refine HC.out.mono ?_
        rintro e w2 ⟨rfl, HS2⟩
        obtain ⟨k0', k1', hks'⟩ := HF.out.on HS2.out
        clear k0 k1
        cases r with
        | true =>
          obtain ⟨r2, hr2⟩ : ∃ r2, ahd dk[first + root]! dk[first + (2 * root + 2)]! = r2 := ⟨_, rfl⟩
          have HR2 := Lib.hid hr2; clear hr2
          have HC2 := Lib.hid (less_any w1 w2 g N Bs n c dk (first + root) (first + (2 * root + 2)) ((first : Int) + (root : Int)) ((first : Int) + (2 * (root : Int) + 1 + 1)) (by omega) (by omega) r2 HS2 HDK HBe (by omega) (by omega) HR2)
          go_wp2_with fail
          refine HC2.out.mono ?_
          rintro e w3 ⟨rfl, HS3⟩
          cases r2 with
          | true =>
            obtain ⟨k0'', k1'', hks''⟩ := HF.out.on HS3.out
            clear k0' k1'
            obtain ⟨W5, HSR, HS5⟩ := swap_at (c := c) hth HS3 HDK (first + root) (first + (2 * root + 2)) ((first : Int) + (root : Int)) ((first : Int) + (2 * (root : Int) + 1 + 1)) (by omega) (by omega) (by omega) (by omega)
            go_wp2
            rw [HSR.out, Oper.upon_value]
            go_wp2
            go_roundg (hi - (2 * root + 2))
            case measure => have := HG.out; omega
            case rel => exact ⟨2 * root + 2, swp dk (first + root) (first + (2 * root + 2)), by go_num, by omega, Nat.le_refl _, by rw [size_swp]; exact HDK.out, HS5.out, by rw [← HO.out, sd_right_go ahd dk h1 HR.out HR2.out]⟩
          | false =>
            go_wp2
            (try simp only [Exit.inBlock, Exit.then]); refine bodyPost_ret (results_none rfl _ _ _) rfl ?_
            exact ⟨rfl, Lib.hid (HS1.out.on (by rw [← HO.out, sd_right_stop ahd dk h1 HR.out HR2.out]; exact HS3.out))⟩
        | false =>
          obtain ⟨r2, hr2⟩ : ∃ r2, ahd dk[first + root]! dk[first + (2 * root + 1)]! = r2 := ⟨_, rfl⟩
          have HR2 := Lib.hid hr2; clear hr2
          have HC2 := Lib.hid (less_any w1 w2 g N Bs n c dk (first + root) (first + (2 * root + 1)) ((first : Int) + (root : Int)) ((first : Int) + (2 * (root : Int) + 1)) (by omega) (by omega) r2 HS2 HDK HBe (by omega) (by omega) HR2)
          go_wp2_with fail
          refine HC2.out.mono ?_
          rintro e w3 ⟨rfl, HS3⟩
          cases r2 with
          | true =>
            obtain ⟨k0'', k1'', hks''⟩ := HF.out.on HS3.out
            clear k0' k1'
            obtain ⟨W5, HSR, HS5⟩ := swap_at (c := c) hth HS3 HDK (first + root) (first + (2 * root + 1)) ((first : Int) + (root : Int)) ((first : Int) + (2 * (root : Int) + 1)) (by omega) (by omega) (by omega) (by omega)
            go_wp2
            rw [HSR.out, Oper.upon_value]
            go_wp2
            go_roundg (hi - (2 * root + 1))
            case measure => have := HG.out; omega
            case rel => exact ⟨2 * root + 1, swp dk (first + root) (first + (2 * root + 1)), by go_num, by omega, Nat.le_refl _, by rw [size_swp]; exact HDK.out, HS5.out, by rw [← HO.out, sd_left_go ahd dk (by omega) (fun _ => HR.out) HR2.out]⟩
          | false =>
            go_wp2
            (try simp only [Exit.inBlock, Exit.then]); refine bodyPost_ret (results_none rfl _ _ _) rfl ?_
            exact ⟨rfl, Lib.hid (HS1.out.on (by rw [← HO.out, sd_left_stop ahd dk (by omega) (fun _ => HR.out) HR2.out]; exact HS3.out))⟩
      · have h1z : ¬ (2 * (root : Int) + 1 + 1 < (hi : Int)) := by omega
        have HS2 : Hid (SWd w1 wr g N dk) := HSW
        obtain ⟨r2, hr2⟩ : ∃ r2, ahd dk[first + root]! dk[first + (2 * root + 1)]! = r2 := ⟨_, rfl⟩
        have HR2 := Lib.hid hr2; clear hr2
        have HC2 := Lib.hid (less_any w1 wr g N Bs n c dk (first + root) (first + (2 * root + 1)) ((first : Int) + (root : Int)) ((first : Int) + (2 * (root : Int) + 1)) (by omega) (by omega) r2 HS2 HDK HBe (by omega) (by omega) HR2)
        go_wp2_with fail
        refine HC2.out.mono ?_
        rintro e w3 ⟨rfl, HS3⟩
        cases r2 with
        | true =>
          obtain ⟨k0'', k1'', hks''⟩ := HF.out.on HS3.out
          clear k0 k1
          obtain ⟨W5, HSR, HS5⟩ := swap_at (c := c) hth HS3 HDK (first + root) (first + (2 * root + 1)) ((first : Int) + (root : Int)) ((first : Int) + (2 * (root : Int) + 1)) (by omega) (by omega) (by omega) (by omega)
          go_wp2
          rw [HSR.out, Oper.upon_value]
          go_wp2
          go_roundg (hi - (2 * root + 1))
          case measure => have := HG.out; omega
          case rel => exact ⟨2 * root + 1, swp dk (first + root) (first + (2 * root + 1)), by go_num, by omega, Nat.le_refl _, by rw [size_swp]; exact HDK.out, HS5.out, by rw [← HO.out, sd_left_go ahd dk (by omega) (fun h => absurd h h1) HR2.out]⟩
        | false =>
          go_wp2
          (try simp only [Exit.inBlock, Exit.then]); refine bodyPost_ret (results_none rfl _ _ _) rfl ?_
          exact ⟨rfl, Lib.hid (HS1.out.on (by rw [← HO.out, sd_left_stop ahd dk (by omega) (fun h => absurd h h1) HR2.out]; exact HS3.out))⟩
end Go.Proofs.YtmcmpjcijbeilaaGreatDoor.Gr

/-
  What is proved here: the contract of the library's heapSort_func over graph.order's closure. Conditions: the row is one that the call has made.
-/
namespace Go.Proofs.YtmcmpjcijbeilaaGreatDoor.Gr
open Go.RowKit Wd Ws Go.Sort

def HbRel (w1 : World) (g N n a b : Nat) (d : Array Ed) (gk : Nat) (vi : Value) (wr : World) : Prop :=
  ∃ (dk : Array Ed), vi = .int .i64 ((gk : Int) - 1) ∧ gk ≤ (b - a - 1) / 2 + 1 ∧ dk.size = n ∧ SWd w1 wr g N dk ∧ heapBuild ahd (b - a) a gk dk = heapBuild ahd (b - a) a ((b - a - 1) / 2 + 1) d
def HpRel (w1 : World) (g N n a b : Nat) (dk : Array Ed) (gk : Nat) (vi : Value) (wr : World) : Prop :=
  ∃ (dj : Array Ed), vi = .int .i64 ((gk : Int) - 1) ∧ gk ≤ b - a ∧ dj.size = n ∧ SWd w1 wr g N dj ∧ heapPop ahd a gk dj = heapPop ahd a (b - a) dk

set_option maxRecDepth 100000 in
set_option maxHeartbeats 600000 in
theorem heapSort_any (w : World) (g N Bs n c a b : Nat) (d : Array Ed) (th : Value) (hth : Hid (th = typeHandle Tryz.prog 42)) (h : Hid (SWd w w g N d)) (hB : Hid (Bes w g Bs n c)) (hd : Hid (d.size = n)) (hab : a ≤ b) (hbn : b ≤ n) (hn : n < 4611686018427387904) :
    Calls Tryz.prog 96 #[.agg #[.func (.func 51) #[] #[.pointer (some ⟨Bs, 0, none⟩)], .func (.func 92) #[] #[.slice (some ⟨g, 0, none⟩) n c, th]], .int .i64 (a : Int), .int .i64 (b : Int)] w fun e w' => e = .returned (.tuple #[]) ∧ Hid (SWd w w' g N (heapSort ahd d a b)) := by
  obtain ⟨w1, HW, HS1, HS, HBe, HF⟩ := ent (th := th) h.out hB.out
  have ecast : ((b - a : Nat) : Int) = (b : Int) - (a : Int) := by omega
  go_enter Tryz.func96, Tryz.ntmps96
  go_wp2
  rw [← HW.out]
  go_loopg [9] ((b - a - 1) / 2 + 1) (fun gk vi wr => HbRel w1 g N n a b d gk vi wr)
  case atStart => exact ⟨d, by rw [half_start hab], Nat.le_refl _, hd.out, HS.out, rfl⟩
  case round =>
    obtain ⟨dk, rfl, hgk, hdk, hsw, ho⟩ := hrel
    obtain ⟨k0, k1, hks⟩ := HF.out.on hsw
    have HO := Lib.hid ho; have HSW := Lib.hid hsw; have HDK := Lib.hid hdk; clear ho hsw hdk
    cases gk with
    | zero =>
      clear k0 k1
      have HB : Hid (dk = heapBuild ahd (b - a) a ((b - a - 1) / 2 + 1) d) := Lib.hid HO.out
      clear HO hgk
      go_wp2
      obtain ⟨wo, rfl⟩ : ∃ wo : World, wo = wr := ⟨_, rfl⟩
      go_loopg [10] (b - a) (fun gk vi wr => HpRel w1 g N n a b dk gk vi wr)
      case atStart => exact ⟨dk, by rw [ecast], Nat.le_refl _, HDK.out, HSW.out, rfl⟩
      case round =>
        obtain ⟨dj, rfl, hgk, hdj, hsj, ho⟩ := hrel
        obtain ⟨k0, k1, hks'⟩ := HF.out.on hsj
        have HO := Lib.hid ho; have HSJ := Lib.hid hsj; have HDJ := Lib.hid hdj; clear ho hsj hdj
        cases gk with
        | zero =>
          go_wp2
          go_end0
          refine ⟨rfl, Lib.hid (HS1.out.on ?_)⟩
          have e : dj = heapSort ahd d a b := by rw [heapSort, ← HB.out, ← HO.out]; rfl
          rw [← e]; exact HSJ.out
        | succ kx =>
          obtain ⟨W5, HSR, HS5⟩ := swap_at (c := c) hth HSJ HDJ a (a + kx) (a : Int) ((a : Int) + (kx : Int)) (by omega) (by omega) rfl (by omega)
          obtain ⟨k0', k1', hks''⟩ := HF.out.on HS5.out
          have HD5 : Hid ((swp dj a (a + kx)).size = n) := Lib.hid (by rw [size_swp]; exact HDJ.out)
          have HC := Lib.hid (siftDown_any W5 g N Bs n c 0 kx a (swp dj a (a + kx)) th hth (Lib.hid HS5.out.start) (Lib.hid (HBe.out.on HS5.out)) HD5 (Nat.zero_le _) (by omega) hn)
          go_wp2
          rw [HSR.out, Oper.upon_value]
          go_wp2_with fail
          refine HC.out.mono ?_
          rintro e w2 ⟨rfl, HS2⟩
          go_wp2
          go_roundg kx
          case measure => omega
          case rel =>
            exact ⟨siftDown ahd kx a 0 (swp dj a (a + kx)), by simp, by omega, by rw [size_siftDown ahd _ _ _ _ _ (Nat.le_refl _)]; exact HD5.out, HS5.out.on HS2.out, HO.out⟩
    | succ kx =>
      have HC := siftDown_any wr g N Bs n c kx (b - a) a dk th hth (Lib.hid HSW.out.start) (Lib.hid (HBe.out.on HSW.out)) HDK (by omega) (by omega) hn
      rw [ecast] at HC
      replace HC := Lib.hid HC
      go_wp2_with fail
      refine HC.out.mono ?_
      rintro e w2 ⟨rfl, HS2⟩
      go_wp2
      go_roundg kx
      case measure => omega
      case rel =>
        exact ⟨siftDown ahd (b - a) a kx dk, by simp, by omega, by rw [size_siftDown ahd _ _ _ _ _ (Nat.le_refl _)]; exact HDK.out, HSW.out.on HS2.out, HO.out⟩

/- The two scans of a partition. -/
def PupRel (w1 : World) (g N i j : Nat) (p : Ed → Bool) (dk : Array Ed) (gk : Nat) (vi : Value) (wr : World) : Prop :=
  ∃ (i' : Nat), vi = .int .i64 (i' : Int) ∧ i ≤ i' ∧ i' ≤ j + 1 ∧ j + 1 - i' ≤ gk ∧ SWd w1 wr g N dk ∧ scanUp p dk j i' = scanUp p dk j i
def PdnRel (w1 : World) (g N i' j : Nat) (p : Ed → Bool) (dk : Array Ed) (gk : Nat) (vj : Value) (wr : World) : Prop :=
  ∃ (j' : Nat), vj = .int .i64 (j' : Int) ∧ j' ≤ j ∧ i' ≤ j' + 1 ∧ j' ≤ gk ∧ SWd w1 wr g N dk ∧ scanDown p dk i' j' = scanDown p dk i' j

end Go.Proofs.YtmcmpjcijbeilaaGreatDoor.Gr
