/-
  What is proved here: the contract of parts.gather. Conditions: the list can be read; its length fits an int.
-/
import Derived.Test.YtjcgejbggmpikaaPtJ1
namespace Go.Proofs.Ytjcgejbggmpikaa.Pt
open Go.RowKit Gr Wd Ws

/- A graph's two cells. -/
theorem two {w : World} {b : Nat} {T : TypeId} {a0 a1 : Value} (h : w.heap[b]? = some (.cells #[a0, a1] T (0, 0))) :
    w.cell? ⟨b, 0, none⟩ = some a0 ∧ w.cell? ⟨b, 1, none⟩ = some a1 ∧ w.frozen? ⟨b, 0, none⟩ = false ∧ w.frozen? ⟨b, 1, none⟩ = false ∧ b < w.heap.size :=
  ⟨by rw [Lib.cell_of_heap h]; rfl, by rw [Lib.cell_of_heap h]; rfl, Lib.frozen_of_heap h _, Lib.frozen_of_heap h _, lt_of_block h⟩
def put2 (w : World) (b : Nat) (u0 u1 : Value) : World := (w.setCell ⟨b, 0, none⟩ u0).setCell ⟨b, 1, none⟩ u1
theorem put2_heap {w : World} {b : Nat} {T : TypeId} {a0 a1 : Value} (h : w.heap[b]? = some (.cells #[a0, a1] T (0, 0))) (u0 u1 : Value) : (put2 w b u0 u1).heap[b]? = some (.cells #[u0, u1] T (0, 0)) := by
  have e0 := heap_setCell_same w b 0 _ _ u0 h
  have e1 := heap_setCell_same _ b 1 _ _ u1 e0
  exact e1
theorem put2_below {B : Nat} {a w : World} (h : Below B a w) {b : Nat} (hb : B ≤ b) (u0 u1 : Value) : Below B a (put2 w b u0 u1) := (h.setCell (p := ⟨b, 0, none⟩) hb u0).setCell (p := ⟨b, 1, none⟩) hb u1
theorem EOwn.put2 {w : World} {B : Nat} {v : Value} {L : List Ed} (h : EOwn w B v L) {b : Nat} (hb : b < B) (u0 u1 : Value) : EOwn (put2 w b u0 u1) B v L :=
  ownsRow_setCell_below (ownsRow_setCell_below h (a := ⟨b, 0, none⟩) hb u0) (a := ⟨b, 1, none⟩) hb u1
set_option maxRecDepth 100000 in
theorem res2_g (fn : Func) (c d : Nat) (tmps : Array Value) (w : World) (b : Nat) (a0 a1 u : Value) (hr : fn.results = #[.cell c 30, .tmp d]) (ht : tmps.getD c undef = .pointer (some ⟨b, 0, none⟩)) (hd : tmps.getD d undef = u) (hh : w.heap[b]? = some (.cells #[a0, a1] 30 (0, 0))) :
    (results fn tmps).run Try.prog w = .ok (.tuple #[.agg #[a0, a1], u]) w := by
  obtain ⟨f0, f1, _⟩ := two hh
  have ht' : tmps[c]?.getD undef = .pointer (some ⟨b, 0, none⟩) := by simpa using ht
  have hd' : tmps[d]?.getD undef = u := by simpa using hd
  simp [results, hr, ht', hd', go_sem, f0, f1]

def GaRes (w w' : World) (V : Int) (a : Option (List Ed)) (e : Ending) : Prop :=
  (a = none → e = .returned (.tuple #[.agg #[.int .i64 0, .slice none 0 0], .bool false])) ∧ ∀ es, a = some es → ∃ v, e = .returned (.tuple #[.agg #[.int .i64 V, v], .bool true]) ∧ EOwn w' w.heap.size v es
def GaRel (w : World) (V : Int) (l : List Pt) (g : Nat) (i : Value) (wr : World) : Prop :=
  ∃ (j : Nat) (t : List Nat) (es : List Ed) (s : Value), j + g = V.toNat ∧ i = .int .i64 (j : Int) ∧ t.length = 64 ∧ es.length ≤ 8192 ∧ Hid (GtB w wr V s t es) ∧ Hid (∀ q P, l[q]? = some P → t.getD q 0 ≤ P.out.length) ∧ Hid (∀ q, t.getD q 0 ≤ j) ∧ Hid (gath l = gGo l g j t es)

theorem app_more' {w : World} {ops : Array Oper} {rest : List Oper} {o : Oper} {a : Act} {Q : Exit → Act → World → Prop} (hgd : o.guard = none) (s x : Operand)
    (ho : o.op = .call { callee := .builtin .append, args := #[s, x], argTypes := #[28, 28] }) (B : Nat) (v : Value) (M L : List Ed) (z : Nat) (hz : L.length = z) (hs : a.eval s = v) (hown : EOwn w B v M)
    (A : Option Addr) (c : Nat) (hx : a.eval x = .slice A z c) (hL : EAt w A L) (hn : M.length + z < 1000000000) (hB : B ≤ w.heap.size)
    (h : ∀ v' w', EOwn w' B v' (M ++ L) → w.grownBy w' v.ownBlock → wpList Try.prog ops Q rest (a.put o.dst v') w') : wpList Try.prog ops Q (o :: rest) a w := by
  subst hz
  exact app_more hgd s x ho B v M L hs hown A c hx hL hn hB h
theorem GtB.mid {w wr w' : World} {V : Int} {s : Value} {t : List Nat} {es : List Ed} (h : GtB w wr V s t es) (hg : wr.grownBy w' s.ownBlock) : w'.heap[w.heap.size + 1]? = some (.cells #[.int .i64 V, s] 30 (0, 0)) ∧ (∀ k, k < t.length → w'.cell? ⟨w.heap.size + 2, k, none⟩ = some (.int .i64 ((t.getD k 0 : Nat) : Int))) ∧ (∀ k, w'.frozen? ⟨w.heap.size + 2, k, none⟩ = false) := by
  have hb := own_lt h.own
  have keep : ∀ (b : Nat) (o : Obj), wr.heap[b]? = some o → b < w.heap.size + 3 → w'.heap[b]? = some o := fun b o hh hT =>
    (hg.block b (lt_of_block hh) (fun e => by have := (hb b e.symm).1; omega)).trans hh
  have htk := keep _ _ h.tk (by omega)
  refine ⟨keep _ _ h.box (by omega), fun k hk => ?_, fun k => Lib.frozen_of_heap htk k⟩
  rw [cell_of_row w' _ k _ 82 (0, 0) htk, List.getElem?_toArray]
  unfold cnts
  rw [List.getElem?_map, List.getD_eq_getElem?_getD, List.getElem?_eq_getElem hk]; rfl
theorem ga_set {t : List Nat} {q m : Nat} {l : List Pt} {P : Pt} (ht : q < t.length) (h : ∀ q P, l[q]? = some P → t.getD q 0 ≤ P.out.length) (hP : l[q]? = some P) (hm : m + 1 ≤ P.out.length) : ∀ q' P', l[q']? = some P' → (t.set q (m + 1)).getD q' 0 ≤ P'.out.length := by
  intro q' P' hP'
  by_cases e : q = q'
  · subst e
    rw [hP] at hP'; cases hP'
    rw [List.getD_eq_getElem?_getD, List.getElem?_set_self ht]; exact hm
  · rw [List.getD_eq_getElem?_getD, List.getElem?_set_ne e, ← List.getD_eq_getElem?_getD]; exact h q' P' hP'
theorem ga_set2 {t : List Nat} {q m j : Nat} (ht : q < t.length) (h : ∀ q, t.getD q 0 ≤ j) (hm : m ≤ j) : ∀ q', (t.set q (m + 1)).getD q' 0 ≤ j + 1 := by
  intro q'
  by_cases e : q = q'
  · subst e
    rw [List.getD_eq_getElem?_getD, List.getElem?_set_self ht]; show m + 1 ≤ j + 1; omega
  · rw [List.getD_eq_getElem?_getD, List.getElem?_set_ne e, ← List.getD_eq_getElem?_getD]; have := h q'; omega

theorem gt_start (w : World) (V : Int) : GtB w (((w.alloc (.cells #[.int .i64 0, .slice none 0 0] 30)).alloc (.cells #[.int .i64 V, .slice none 0 0] 30)).alloc (.cells (cnts (List.replicate 64 0)).toArray 82)) V (.slice none 0 0) (List.replicate 64 0) [] := by
  have s1 : (w.alloc (.cells #[.int .i64 0, .slice none 0 0] 30)).heap.size = w.heap.size + 1 := by simp
  have s2 : ((w.alloc (.cells #[.int .i64 0, .slice none 0 0] 30)).alloc (.cells #[.int .i64 V, .slice none 0 0] 30)).heap.size = w.heap.size + 2 := by simp
  refine ⟨(((Below.refl _ w).alloc (Nat.le_refl _) _).alloc (by simp) _).alloc (by simp; omega) _, ?_, ?_, ?_, EOwn.none_ _ _⟩
  · rw [Below.heap_alloc _ _ _ (by rw [s2]; omega)]; exact heap_alloc2_old w _ _
  · rw [Below.heap_alloc _ _ _ (by rw [s2]; omega)]; exact heap_alloc2_new w _ _
  · have := heap_alloc_new ((w.alloc (.cells #[.int .i64 0, .slice none 0 0] 30)).alloc (.cells #[.int .i64 V, .slice none 0 0] 30)) (.cells (cnts (List.replicate 64 0)).toArray 82)
    rw [s2] at this; exact this

set_option maxRecDepth 100000 in
set_option maxHeartbeats 2000000 in
theorem gather_any (A : Option Addr) (c : Nat) (l : List Pt) (w : World) (hA : LAt w A l) (hm : l.length ≤ 9223372036854775807) :
    Calls Try.prog 37 #[.slice A l.length c] w fun e w' => GaRes w w' (hd l) (gath l) e ∧ Below w.heap.size w w' := by
  have HA := Lib.hid hA; clear hA
  obtain ⟨k, hk⟩ : ∃ k, k = l.length := ⟨_, rfl⟩
  rw [← hk] at hm ⊢
  have HK := Lib.hid hk; clear hk
  obtain ⟨r, hr⟩ : ∃ r, (decide (1 ≤ (k : Int)) && decide ((k : Int) ≤ 64)) = r := ⟨_, rfl⟩
  have HM := Lib.hid (fun W => may_at (k : Int) r W (Lib.hid hr))
  have hz : Below w.heap.size w (w.alloc (.cells #[.int .i64 0, .slice none 0 0] 30)) := (Below.refl _ w).alloc (Nat.le_refl _) _
  have HZ := Lib.hid hz; clear hz
  have HN0 := Lib.hid (heap_alloc_new w (.cells #[.int .i64 0, .slice none 0 0] 30))
  have HNG : Hid (∀ W, Below w.heap.size w W → (W.heap[w.heap.size]? = some (.cells #[.int .i64 0, .slice none 0 0] 30 (0, 0))) → gath l = none → GaRes w W (hd l) (gath l) (.returned (.tuple #[.agg #[.int .i64 0, .slice none 0 0], .bool false])) ∧ Below w.heap.size w W) :=
    Lib.hid fun W h _ hn => ⟨⟨fun _ => rfl, fun es he => by rw [hn] at he; cases he⟩, h⟩
  cases r with
  | false =>
    have hn : gath l = none := by
      unfold gath
      rw [if_neg]
      rintro ⟨h1, h2, _⟩
      have := HK.out
      simp at hr
      omega
    have HNN := Lib.hid hn; clear hn hr
    go_enter Try.func37, Try.ntmps37
    go_wp2_with fail
    refine (HM.out _).mono ?_
    rintro e w' ⟨rfl, rfl⟩
    go_wp2_with fail
    exact bodyPost_ret (v := .tuple #[.agg #[.int .i64 0, .slice none 0 0], .bool false]) (res2_g _ _ _ _ _ _ _ _ _ Try.results37 rfl rfl HN0.out) rfl (HNG.out _ HZ.out HN0.out HNN.out)
  | true =>
    have hk1 : 1 ≤ k ∧ k ≤ 64 := by simp at hr; omega
    clear hr
    obtain ⟨P0, hP0⟩ := at_lt l 0 (by rw [← HK.out]; omega)
    obtain ⟨bk, o, A1, A2, A3, c1, c2, c3, rfl, hP⟩ := HA.out 0 P0 hP0
    rw [Nat.zero_mul, Nat.add_zero] at hP
    have hhd : hd l = P0.n := by unfold hd; rw [hP0]
    obtain ⟨V, hV⟩ : ∃ V, P0.n = V := ⟨_, rfl⟩
    rw [hV] at hhd
    have f2 := (HZ.out.cell (block_lt_of_cell hP.f2)).trans hP.f2
    rw [hV] at f2
    have f2w := hP.f2
    rw [hV] at f2w
    have HH := Lib.hid hhd
    clear hP hhd hV hP0
    by_cases hV5 : 512 < V
    · have hn : gath l = none := by
        unfold gath
        rw [if_neg]
        rintro ⟨_, _, h3⟩
        rw [HH.out] at h3; omega
      have HNN := Lib.hid hn; clear hn
      go_enter Try.func37, Try.ntmps37
      go_wp2_with fail
      refine (HM.out _).mono ?_
      rintro e w' ⟨rfl, rfl⟩
      go_wp2_with fail
      exact bodyPost_ret (v := .tuple #[.agg #[.int .i64 0, .slice none 0 0], .bool false]) (res2_g _ _ _ _ _ _ _ _ _ Try.results37 rfl rfl HN0.out) rfl (HNG.out _ HZ.out HN0.out HNN.out)
    · have hg0 : gath l = gGo l V.toNat 0 (List.replicate 64 0) [] := by
        unfold gath
        rw [if_pos ⟨by rw [← HK.out]; exact hk1.1, by rw [← HK.out]; exact hk1.2, by rw [HH.out]; omega⟩, HH.out]
      have HG0 := Lib.hid hg0; clear hg0
      go_enter Try.func37, Try.ntmps37
      go_wp2_with fail
      refine (HM.out _).mono ?_
      rintro e w' ⟨rfl, rfl⟩
      go_wp2_with fail
      go_loopg [28] V.toNat (fun g i wr => GaRel w V l g i wr)
      case atStart => exact ⟨0, List.replicate 64 0, [], _, by omega, rfl, by simp, by simp, Lib.hid (gt_start w V), Lib.hid (fun q P hq => by rw [List.getD_eq_getElem?_getD, List.getElem?_replicate]; split <;> simp), Lib.hid (fun q => by rw [List.getD_eq_getElem?_getD, List.getElem?_replicate]; split <;> simp), HG0⟩
      case round =>
        clear f2 f2w HG0
        obtain ⟨j, t, es, s, hj, rfl, ht, hes, HB, HT, HJ, HG⟩ := hrel
        obtain ⟨b0, b1, b2, b3, b4⟩ := two HB.out.box
        obtain ⟨r0, r1, r2, r3, r4⟩ := two HB.out.res
        by_cases hlt : (j : Int) < V
        · obtain ⟨q, hq⟩ : ∃ q : Nat, ofI (j : Int) (k : Int) = (q : Int) := ⟨(ofI j k).toNat, by have := (ofI_range (v := j) (k := k) (by omega) (by omega) (by omega) (by omega)).1; omega⟩
          have hqk : q < k := by have := (ofI_range (v := j) (k := k) (by omega) (by omega) (by omega) (by omega)).2; omega
          have hq64 : q < 64 := by omega
          have HO := Lib.hid (fun W => of_at (j : Int) (k : Int) (q : Int) W (Lib.hid hq))
          obtain ⟨P, hP⟩ := at_lt l q (by rw [← HK.out]; exact hqk)
          obtain ⟨bk', o', A1, A2, A3, c1, c2, c3, e1, hC⟩ := (HA.out.below HB.out.bel) q P hP
          obtain ⟨rfl, rfl⟩ : bk = bk' ∧ o = o' := by simpa using e1
          have p4 := hC.f4
          have HR := Lib.hid hC.out
          have tq := HB.out.count (k := q) (by omega)
          have hle := HT.out q P hP
          have hmj := HJ.out q
          obtain ⟨m, hm1⟩ : ∃ m, t.getD q 0 = m := ⟨_, rfl⟩
          obtain ⟨n, hn1⟩ : ∃ n, P.out.length = n := ⟨_, rfl⟩
          rw [hm1] at tq hle hmj
          rw [hn1] at p4 hle
          obtain ⟨G, hG⟩ : ∃ G, gk = G + 1 := ⟨gk - 1, by omega⟩
          have hstep : gath l = (match gStep l j t es with | none => none | some s => gGo l G (j + 1) s.1 s.2) := by rw [HG.out, hG]; rfl
          have hgs : gStep l j t es = (match P.out[m]? with | none => none | some row => if 8192 < row.length + es.length then none else some (t.set q (m + 1), es ++ row)) := by
            unfold gStep
            rw [← HK.out, hq, Int.toNat_natCast, hP]
            simp only []
            rw [hm1]; rfl
          have HS := Lib.hid hstep; have HGS := Lib.hid hgs; have HPQ := Lib.hid hP
          have HM1 := Lib.hid hm1; have HN1 := Lib.hid hn1
          clear hC e1 hP hstep hgs hm1 hn1 hq
          by_cases hmn : m = n
          · subst hmn
            have hnone : gath l = none := by
              rw [HS.out, HGS.out, List.getElem?_eq_none (by rw [HN1.out]; exact Nat.le_refl _)]
            have HNN := Lib.hid hnone; clear hnone
            go_wp2_with fail
            refine (HO.out _).mono ?_
            rintro e w' ⟨rfl, rfl⟩
            go_wp2_with fail
            go_quiet (fail)
            go_wp2_with fail
            have HBq := Lib.hid (HB.out.quiet (below_drewN (Below.refl _ wr) nq))
            have h1 := put2_heap HBq.out.res (.int .i64 0) (.slice none 0 0)
            have h3 := put2_below HBq.out.bel (b := w.heap.size) (Nat.le_refl _) (.int .i64 0) (.slice none 0 0)
            unfold put2 at h1 h3
            exact bodyPost_ret (v := .tuple #[.agg #[.int .i64 0, .slice none 0 0], .bool false]) (res2_g _ _ _ _ _ _ _ _ _ Try.results37 rfl rfl h1) rfl ⟨⟨fun _ => rfl, fun es he => by rw [HNN.out] at he; cases he⟩, h3⟩
          · obtain ⟨row, hrow⟩ := at_lt P.out m (by rw [HN1.out]; omega)
            obtain ⟨bk2, o2, X, cx, rfl, hrc, hre⟩ := HR.out m row hrow
            obtain ⟨z, hz⟩ : ∃ z, row.length = z := ⟨_, rfl⟩
            rw [hz] at hrc
            have HRE := Lib.hid hre; have HRW := Lib.hid hrow; have HZL := Lib.hid hz
            clear hre hrow hz
            obtain ⟨A5, c5, rfl, _⟩ := HB.out.own.form
            obtain ⟨ne, hne⟩ : ∃ n, es.length = n := ⟨_, rfl⟩
            rw [hne] at HB b1 hes
            have HNE := Lib.hid hne; clear hne
            have hmlt : m < n := by omega
            by_cases hbig : 8192 < z + ne
            · have hnone : gath l = none := by
                rw [HS.out, HGS.out, HRW.out]
                simp only []
                rw [if_pos (by rw [HZL.out, HNE.out]; exact hbig)]
              have HNN := Lib.hid hnone; clear hnone
              have hbi : (8192 : Int) - (ne : Int) < (z : Int) := by omega
              go_wp2_with fail
              refine (HO.out _).mono ?_
              rintro e w' ⟨rfl, rfl⟩
              go_wp2_with fail
              go_quiet (fail)
              revert nq; intro nq0
              go_wp2_with fail
              go_quiet (fail)
              go_wp2_with fail
              have HBq := Lib.hid (HB.out.quiet (below_drewN (Below.refl _ wr) (nq0 + nq)))
              have h1 := put2_heap HBq.out.res (.int .i64 0) (.slice none 0 0)
              have h3 := put2_below HBq.out.bel (b := w.heap.size) (Nat.le_refl _) (.int .i64 0) (.slice none 0 0)
              unfold put2 at h1 h3
              exact bodyPost_ret (v := .tuple #[.agg #[.int .i64 0, .slice none 0 0], .bool false]) (res2_g _ _ _ _ _ _ _ _ _ Try.results37 rfl rfl h1) rfl ⟨⟨fun _ => rfl, fun es he => by rw [HNN.out] at he; cases he⟩, h3⟩
            · have hbi : ¬ ((8192 : Int) - (ne : Int) < (z : Int)) := by omega
              go_wp2_with fail
              refine (HO.out _).mono ?_
              rintro e w' ⟨rfl, rfl⟩
              go_wp2_with fail
              go_quiet (fail)
              revert nq; intro nq0
              go_wp2_with fail
              go_quiet (fail)
              obtain ⟨wq, hwq⟩ : ∃ wq, wq = (wr.drewN nq0).drewN nq := ⟨_, rfl⟩
              have HBq : Hid (GtB w wq V (.slice A5 ne c5) t es) := Lib.hid (by rw [hwq]; exact HB.out.quiet (below_drewN (below_drewN (Below.refl _ wr) nq0) nq))
              have HRq : Hid (EAt wq X row) := Lib.hid (by rw [hwq]; exact HRE.out.below (below_drewN (below_drewN (Below.refl _ wr) nq0) nq))
              rw [← hwq]
              clear hwq b0 b1 b2 b3 b4 r0 r1 r2 r3 r4 p4 hrc tq
              obtain ⟨b0, b1, b2, b3, b4⟩ := two HBq.out.box
              go_wp2_with (at_builtin; refine app_more' rfl (.tmp 65) (.tmp 66) rfl (w.heap.size + 3) _ es row z HZL.out rfl HBq.out.own X cx rfl HRq.out ?c1 ?c2 ?_)
              case c1 => rw [HNE.out]; omega
              case c2 => have := lt_of_block HBq.out.tk; omega
              intro v' w2 ho2 hg2
              obtain ⟨m1, m2, m3⟩ := HBq.out.mid hg2
              have HFIN := Lib.hid ((HBq.out.app ho2 hg2).count_set q (m + 1))
              obtain ⟨A6, c6, rfl, _⟩ := ho2.form
              obtain ⟨z2, hz2⟩ : ∃ z2, (es ++ row).length = z2 := ⟨_, rfl⟩
              rw [hz2] at HFIN ⊢
              have tq := m2 q (by omega)
              rw [HM1.out] at tq
              have fq := m3 q
              clear b0 b1 b2 b3 b4 m2 m3
              obtain ⟨b0, b1, b2, b3, b4⟩ := two m1
              have hwrap : IntKind.i64.wrap ((m : Int) + 1) = ((m + 1 : Nat) : Int) := by rw [IntWalk.i64_in _ (by omega)]; omega
              clear m1 ho2 hg2
              go_wp2_with fail
              go_roundg (gk - 1)
              case measure => omega
              case rel =>
                refine ⟨j + 1, t.set q (m + 1), es ++ row, .slice A6 z2 c6, by omega, by go_num, by simp [ht], by rw [List.length_append, HZL.out, HNE.out]; omega, ?_, Lib.hid (ga_set (by omega) HT.out HPQ.out (by rw [HN1.out]; omega)), Lib.hid (ga_set2 (by omega) HJ.out hmj), Lib.hid ?_⟩
                · exact HFIN
                · rw [HS.out, HGS.out, HRW.out]
                  simp only []
                  rw [if_neg (by rw [HZL.out, HNE.out]; exact hbig), show gk - 1 = G by omega]
        · have hjV : V.toNat = j := by omega
          have hsome : gath l = some es := by rw [HG.out, show gk = 0 by omega]; rfl
          have HSM := Lib.hid hsome
          obtain ⟨A5, c5, rfl, _⟩ := HB.out.own.form
          have HOW : Hid (EOwn wr (w.heap.size + 3) _ es) := Lib.hid HB.out.own
          obtain ⟨ne, hne⟩ : ∃ n, es.length = n := ⟨_, rfl⟩
          rw [hne] at HB b1 HOW
          clear hsome hne
          go_wp2_with fail
          have h1 := put2_heap HB.out.res (.int .i64 V) (.slice A5 ne c5)
          have h2 := EOwn.put2 HOW.out (b := w.heap.size) (by omega) (.int .i64 V) (.slice A5 ne c5)
          have h3 := put2_below HB.out.bel (b := w.heap.size) (Nat.le_refl _) (.int .i64 V) (.slice A5 ne c5)
          unfold put2 at h1 h2 h3
          exact bodyPost_ret (v := .tuple #[.agg #[.int .i64 V, .slice A5 ne c5], .bool true]) (res2_g _ _ _ _ _ _ _ _ _ Try.results37 rfl rfl h1) rfl ⟨⟨fun hn => (by rw [HSM.out] at hn; cases hn), fun es' he => (by rw [HSM.out] at he; cases he; rw [HH.out]; exact ⟨_, rfl, own_mono h2 (by omega)⟩)⟩, h3⟩

end Go.Proofs.Ytjcgejbggmpikaa.Pt
