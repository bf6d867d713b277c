/-
  What is proved here: the contract of graph's (*draft).take: a line more. Conditions: at most 300000 bytes; the draft is one that the call has made; the package variables lie as their texts lay them.
-/
import Derived.Test.YtmcmpjcijbeilaaGreatDoorGrW13
namespace Go.Proofs.YtmcmpjcijbeilaaGreatDoor.Gr
open Go.RowKit Wd Ws

theorem own_str {w : World} {B : Nat} {v : Value} {x : List UInt8} {t : List (List UInt8)} (h : Own w B v (x :: t)) : ∃ g cap n, v = .slice (some ⟨g, 0, none⟩) n cap ∧ n = t.length + 1 ∧ n ≤ cap ∧ B ≤ g ∧ g < w.heap.size ∧ ∀ k y, (x :: t)[k]? = some y → w.cell? ⟨g, k, none⟩ = some (.string (sb y)) := by
  obtain ⟨h0, h1 | ⟨g, cap, cur, h1, h2, h3, h4, h5, h6, h7⟩⟩ := h
  · simp at h1
  · refine ⟨g, cap, t.length + 1, h1, rfl, h4, h2, lt_of_block h3, fun k y hy => ?_⟩
    have hk := lt_at hy
    rw [cell_of_row w g k _ 9 (0, 0) h3]
    have e1 : cur[k]? = (cur.toList.take ((x :: t).length * 1))[k]? := by
      rw [List.getElem?_take, if_pos (by omega), Array.getElem?_toList]
    rw [e1, h7, strs_at, hy]; rfl
theorem own_nil {w : World} {B : Nat} {v : Value} (h : Own w B v []) : ∃ A cap, v = .slice A 0 cap := by
  obtain ⟨h0, h1 | ⟨g, cap, cur, h1, _⟩⟩ := h
  · exact ⟨none, 0, h1.1⟩
  · exact ⟨_, cap, h1⟩
theorem words_len (l x : List UInt8) (h : x ∈ (wordsB l).1) : x.length ≤ 2 * l.length := by
  obtain ⟨M, E, h1, h2⟩ := wds_of l (chOf l) (chOf_rg l)
  unfold wordsB at h
  rw [h1] at h
  simp only [List.mem_map] at h
  obtain ⟨y, hy, rfl⟩ := h
  obtain ⟨k, hk⟩ := List.getElem?_of_mem hy
  have := tot_mem M k y hk
  have := h2.tots
  omega
theorem words_count (l : List UInt8) : (wordsB l).1.length ≤ 2 * l.length := by
  obtain ⟨M, E, h1, h2⟩ := wds_of l (chOf l) (chOf_rg l)
  unfold wordsB
  rw [h1]
  simp only [List.length_map]
  have := h2.tots
  omega

noncomputable def afterN (V : Int) (L : List Ed) (x : List UInt8) : Option (List Nat) → Option (Int × List Ed)
  | none => none
  | some ns => stepN V L x ns
theorem stepW_cons (V : Int) (L : List Ed) (x : List UInt8) (t : List (List UInt8)) : stepW V L (x :: t) = afterN V L x (numsOf t) := by
  show (match numsOf t with | none => none | some ns => stepN V L x ns) = _
  cases numsOf t <;> rfl
def vr (L : List Ed) : Option Int → Option (Int × List Ed)
  | none => none
  | some n => some (n, L)
def er (V : Int) : Option (List Ed) → Option (Int × List Ed)
  | none => none
  | some M => some (V, M)
theorem stepN_vert (L : List Ed) (ns : List Nat) (rv : Option Int) (h : vertP ns = rv) : stepN 0 L vertB ns = vr L rv := by
  unfold stepN; rw [if_pos rfl, if_pos rfl, h]; cases rv <;> rfl
theorem stepN_novert (L : List Ed) (x : List UInt8) (ns : List Nat) (h : ¬ x = vertB) : stepN 0 L x ns = none := by
  unfold stepN; rw [if_pos rfl, if_neg h]
theorem stepN_edge (V : Int) (hV : ¬ V = 0) (L : List Ed) (ns : List Nat) (ro : Option (List Ed)) (h : oneP V L ns = ro) : stepN V L edgeB ns = er V ro := by
  unfold stepN; rw [if_neg hV, if_pos rfl, ← h]; unfold oneP
  cases edgeP V ns with
  | none => rfl
  | some e => simp only; cases addP L e <;> rfl
theorem stepN_both (V : Int) (hV : ¬ V = 0) (L : List Ed) (ns : List Nat) (ro : Option (List Ed)) (h : twoP V L ns = ro) : stepN V L bothB ns = er V ro := by
  unfold stepN; rw [if_neg hV, if_neg (by decide), if_pos rfl, ← h]; unfold twoP
  cases edgeP V ns with
  | none => rfl
  | some e => simp only; cases bothP L e <;> rfl
theorem stepN_else (V : Int) (hV : ¬ V = 0) (L : List Ed) (x : List UInt8) (ns : List Nat) (h1 : ¬ x = edgeB) (h2 : ¬ x = bothB) : stepN V L x ns = none := by
  unfold stepN; rw [if_neg hV, if_neg h1, if_neg h2]
/- What a line leads to. -/
def TakeRes (B D : Nat) (w w' : World) (e : Ending) (r : Option (Int × List Ed)) : Prop :=
  e = .returned (.bool r.isSome) ∧ (∀ s, r = some s → Hid (Dr w' B D s.1 s.2)) ∧ Hid (Below B w w') ∧ Hid (Kp w w')

set_option maxRecDepth 100000 in
set_option maxHeartbeats 2000000 in
theorem take_any (B D : Nat) (V : Int) (L : List Ed) (l : List UInt8) (w : World) (h : Hid (Dr w B D V L)) (hLd : Hid (∀ w', Below B w w' → Laid w')) (hl : l.length ≤ 100000) (hB : B ≤ w.heap.size) (hV : V ≤ 512) (hL : L.length ≤ 8192) (r : Option (Int × List Ed)) (hr : Hid (step V L l = r)) :
    Calls Tryz.prog 38 #[.pointer (some ⟨D, 0, none⟩), .string (sb l)] w fun e w' => TakeRes B D w w' e r := by
  obtain ⟨ws, E, hw⟩ : ∃ ws E, wordsB l = (ws, E) := ⟨_, _, rfl⟩
  have hst : step V L l = if E = 0 then stepW V L ws else none := by unfold step; rw [hw]
  have HST := Lib.hid hst; clear hst
  have HWL : Hid (∀ x ∈ ws, x.length ≤ 300000) := Lib.hid fun x hx => by
    have := words_len l x (by rw [hw]; exact hx); omega
  have hwc : ws.length ≤ 200000 := by have := words_count l; rw [hw] at this; simp only at this; omega
  have HWO : Hid (wordsOf (chOf l) = (ws, E)) := Lib.hid hw
  have HRG := Lib.hid (chOf_rg l)
  clear hw
  go_enter Tryz.func38, Tryz.ntmps38
  go_wp2_with fail
  refine (words_hid _ l (chOf l) ws E _ rfl HRG (by omega) HWO).mono ?_
  rintro e w1 ⟨v, rfl, HO1, HB1⟩
  have HB1' := Lib.hid (HB1.out.mono hB)
  have HK1 := Lib.hid (Kp.of_below HB1.out)
  have HD1 := Lib.hid (h.out.below HB1.out)
  have hs1 := HB1.out.size
  by_cases hE : E = 0
  · subst hE
    rcases ws with _ | ⟨x, t⟩
    · have hrs : r = some (V, L) := by rw [← hr.out, HST.out, if_pos rfl]; rfl
      subst hrs
      obtain ⟨A, cap, rfl⟩ := own_nil HO1.out
      go_wp2
      go_ret
      exact ⟨rfl, fun s hs => by cases hs; exact HD1, HB1', HK1⟩
    · obtain ⟨g, cap, n, rfl, hn, hnc, hBg, hgl, hc⟩ := own_str HO1.out
      obtain ⟨rn, hrn⟩ : ∃ rn, numsOf t = rn := ⟨_, rfl⟩
      have hrs : r = afterN V L x rn := by
        rw [← hr.out, HST.out, if_pos rfl, stepW_cons, hrn]
      have HRS := Lib.hid hrs; clear hrs
      have HRN := Lib.hid hrn; clear hrn
      have HN := Lib.hid hn
      have HC := Lib.hid hc
      have c0 := hc 0 x rfl
      have hn1 : 1 ≤ n := by omega
      have hn2 : n ≤ 200000 := by simp at hwc; omega
      clear hn hc
      have HNG : Hid (∀ A' c', (∃ o, A' = some ⟨g, o, none⟩ ∧ (o = 1 ∨ t = [])) → Calls Tryz.prog 55 #[.slice A' (n - 1) c'] w1 fun e w' => NumRes w1.heap.size w' e rn ∧ Hid (Below w1.heap.size w1 w')) := Lib.hid fun A' c' hA' => by
        obtain ⟨o, rfl, ho⟩ := hA'
        refine numbersOf_any (some ⟨g, o, none⟩) c' (n - 1) t w1 (by have := HN.out; omega) (Lib.hid fun k y hy => ⟨g, o, rfl, ?_⟩) (Lib.hid (hLd.out _ HB1'.out)) (Lib.hid fun y hy => HWL.out y (List.mem_cons_of_mem _ hy)) (by omega) rn HRN
        rcases ho with rfl | rfl
        · rw [Nat.add_comm]; exact HC.out (k + 1) y hy
        · simp at hy
      have HTN : Hid (n ≤ 1 → t = []) := Lib.hid fun h => List.eq_nil_of_length_eq_zero (by have := HN.out; omega)
      go_wp2_with fail
      all_goals
        refine (HNG.out _ _ (by first | exact ⟨1, rfl, Or.inl rfl⟩ | exact ⟨0, rfl, Or.inr (HTN.out (by omega))⟩)).mono ?_
        rintro e w2 ⟨hN, HB2⟩
        have hs2 := HB2.out.size
        have HB12 := Lib.hid (HB1'.out.trans (HB2.out.mono (by omega)))
        have HK12 := Lib.hid (HK1.out.trans (Kp.of_below HB2.out))
        cases rn with
        | none =>
          have he' : e = .returned (.tuple #[.slice none 0 0, .bool false]) := hN
          subst he'
          have hrn : r = none := HRS.out
          subst hrn
          clear hN c0
          go_wp2
          go_ret
          exact ⟨rfl, fun s hs => (by cases hs), HB12, HK12⟩
        | some ns =>
          obtain ⟨vn, rfl, HNO⟩ := hN
          obtain ⟨A2, cn, rfl, hnat⟩ := HNO.out.nat
          have HNA := Lib.hid hnat
          have HD2 := Lib.hid (HD1.out.below HB2.out)
          obtain ⟨vD, MD, hDb, _, _, _, _⟩ := HD2.out
          obtain ⟨d0, _, _, _, _⟩ := Dr.cells hDb
          have q0 := (HB2.out.cell (block_lt_of_cell c0)).trans c0
          obtain ⟨m, hm⟩ : ∃ m, ns.length = m := ⟨_, rfl⟩
          rw [hm]
          have HM := Lib.hid hm
          clear hDb hnat c0 hm
          have HRS' : Hid (stepN V L x ns = r) := Lib.hid HRS.out.symm
          have hsB : B ≤ w2.heap.size := by omega
          by_cases hV0 : V = 0
          · subst hV0
            by_cases hx : x = vertB
            · have hxl : (sb x).toList = [118, 101, 114, 116, 105, 99, 101, 115] := by rw [sb_toList, hx]; rfl
              obtain ⟨rv, hrv⟩ : ∃ rv, vertP ns = rv := ⟨_, rfl⟩
              have HRV := Lib.hid hrv
              have hr2 : r = vr L rv := by rw [← HRS'.out, hx]; exact stepN_vert L ns rv hrv
              subst hr2
              have HX := Lib.hid hx
              clear hrv hx
              go_wp2_with fail
              refine (takeVertices_any B D 0 L A2 cn m ns w2 HM.out HD2 HNA rv HRV).mono ?_
              rintro e w3 ⟨rfl, HD3, HB3, HK3⟩
              clear d0 q0
              go_wp2
              go_ret
              refine ⟨ret_b (by cases rv <;> rfl), fun s hs => ?_, Lib.hid (HB12.out.trans HB3.out), Lib.hid (HK12.out.trans HK3.out)⟩
              cases rv with
              | none => cases hs
              | some n => cases hs; exact HD3
            · have hxl : ¬ (sb x).toList = [118, 101, 114, 116, 105, 99, 101, 115] := by rw [sb_toList]; exact hx
              have hr2 : r = none := by rw [← HRS'.out]; exact stepN_novert L x ns hx
              subst hr2
              clear hx
              go_wp2
              go_ret
              exact ⟨rfl, fun s hs => (by cases hs), HB12, HK12⟩
          · by_cases hx : x = edgeB
            · have hxl : (sb x).toList = [101, 100, 103, 101] := by rw [sb_toList, hx]; rfl
              obtain ⟨rv, hrv⟩ : ∃ rv, oneP V L ns = rv := ⟨_, rfl⟩
              have HRV := Lib.hid hrv
              have hr2 : r = er V rv := by rw [← HRS'.out, hx]; exact stepN_edge V hV0 L ns rv hrv
              subst hr2
              have HX := Lib.hid hx
              clear hrv hx
              go_wp2_with fail
              refine (takeEdge_any B D V L A2 cn m ns w2 HM.out HD2 HNA hsB hV hL rv HRV).mono ?_
              rintro e w3 ⟨rfl, HD3, HB3, HK3⟩
              clear d0 q0
              go_wp2
              go_ret
              refine ⟨ret_b (by cases rv <;> rfl), fun s hs => ?_, Lib.hid (HB12.out.trans HB3.out), Lib.hid (HK12.out.trans HK3.out)⟩
              cases rv with
              | none => cases hs
              | some n => cases hs; exact HD3
            · have hxn : ¬ (sb x).toList = [101, 100, 103, 101] := by rw [sb_toList]; exact hx
              by_cases hy : x = bothB
              · have hxl : (sb x).toList = [98, 111, 116, 104] := by rw [sb_toList, hy]; rfl
                have hxn' : ¬ ([98, 111, 116, 104] : List UInt8) = [101, 100, 103, 101] := by decide
                obtain ⟨rv, hrv⟩ : ∃ rv, twoP V L ns = rv := ⟨_, rfl⟩
                have HRV := Lib.hid hrv
                have hr2 : r = er V rv := by rw [← HRS'.out, hy]; exact stepN_both V hV0 L ns rv hrv
                subst hr2
                have HX := Lib.hid hx; have HY := Lib.hid hy
                clear hrv hx hy hxn
                go_wp2_with fail
                refine (takeBoth_any B D V L A2 cn m ns w2 HM.out HD2 HNA hsB hV hL rv HRV).mono ?_
                rintro e w3 ⟨rfl, ⟨L', HD3, HL'⟩, HB3, HK3⟩
                clear d0 q0
                have HLL := Lib.hid HL'; clear HL'
                go_wp2
                go_ret
                refine ⟨ret_b (by cases rv <;> rfl), fun s hs => ?_, Lib.hid (HB12.out.trans HB3.out), Lib.hid (HK12.out.trans HK3.out)⟩
                cases rv with
                | none => cases hs
                | some n => cases hs; have := HLL.out rfl; cases this; exact HD3
              · have hyn : ¬ (sb x).toList = [98, 111, 116, 104] := by rw [sb_toList]; exact hy
                have hr2 : r = none := by rw [← HRS'.out]; exact stepN_else V hV0 L x ns hx hy
                subst hr2
                have hxb : ((sb x).toList == [101, 100, 103, 101]) = false := by rw [sb_toList]; exact beq_false_of_ne hx
                have hyb : ((sb x).toList == [98, 111, 116, 104]) = false := by rw [sb_toList]; exact beq_false_of_ne hy
                clear hx hy hxn hyn
                go_wp2
                go_ret
                exact ⟨rfl, fun s hs => (by cases hs), HB12, HK12⟩
  · have hrn : r = none := by rw [← hr.out, HST.out, if_neg hE]
    subst hrn
    go_wp2
    all_goals (try (exfalso; omega))
    go_ret
    exact ⟨rfl, fun s hs => (by cases hs), HB1', HK1⟩

end Go.Proofs.YtmcmpjcijbeilaaGreatDoor.Gr
