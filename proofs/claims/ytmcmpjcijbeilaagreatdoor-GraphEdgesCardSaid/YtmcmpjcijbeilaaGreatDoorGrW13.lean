/-
  What is proved here: contracts of graph's (*draft).takeVertices, takeEdge, takeBoth: what a line's numbers say. Conditions: the draft is one that the call has made.
-/
import Derived.Test.YtmcmpjcijbeilaaGreatDoorGrW11
import Derived.Test.YtmcmpjcijbeilaaGreatDoorGrW12
namespace Go.Proofs.YtmcmpjcijbeilaaGreatDoor.Gr
open Go.RowKit Wd Ws

theorem nat_i64 (n : Nat) (h : n ≤ 4611686018427387904) : -9223372036854775808 ≤ (n : Int) ∧ (n : Int) ≤ 9223372036854775807 := by omega
/- A draft whose number of vertices is told. -/
theorem Dr.vert {w : World} {B D : Nat} {V : Int} {L : List Ed} (h : Dr w B D V L) (n : Int) : Dr (w.setCell ⟨D, 0, none⟩ (.int .i64 n)) B D n L ∧ (∀ {a : World}, Below B a w → Below B a (w.setCell ⟨D, 0, none⟩ (.int .i64 n))) ∧ Kp w (w.setCell ⟨D, 0, none⟩ (.int .i64 n)) := by
  obtain ⟨v, M, hD, hE, hM, hBD, hBM⟩ := h
  have oth : ∀ (k : Nat) (c : Array Value) (t : TypeId) (fz : Nat × Nat), w.heap[k]? = some (.cells c t fz) → t ≠ 59 → (w.setCell ⟨D, 0, none⟩ (.int .i64 n)).heap[k]? = w.heap[k]? := fun k c t fz hk hn =>
    heap_setCell_other w ⟨D, 0, none⟩ k _ (fun e => by
      have e' : k = D := e
      rw [e', hD] at hk; simp at hk; exact hn hk.2.1.symm)
  obtain ⟨es, clock, hm⟩ := hM.isMap
  have hMD : M ≠ D := fun e => by rw [e, hD] at hm; cases hm
  exact ⟨⟨v, M, heap_setCell_same w D 0 _ _ _ hD, own_kept hE fun g c fz _ hc => oth g _ _ _ hc (by decide), hM.kept (heap_setCell_other w ⟨D, 0, none⟩ M _ hMD), hBD, hBM⟩, fun hb => hb.setCell (p := ⟨D, 0, none⟩) hBD _, fun k c fz hk => oth k c _ fz hk (by decide)⟩

theorem vertP_not (ns : List Nat) (h : ns.length ≠ 1) : vertP ns = none := by
  rcases ns with _ | ⟨a, _ | ⟨b, t⟩⟩
  · rfl
  · simp at h
  · rfl

set_option maxRecDepth 100000 in
set_option maxHeartbeats 600000 in
theorem takeVertices_any (B D : Nat) (V : Int) (L : List Ed) (A : Option Addr) (c n : Nat) (ns : List Nat) (w : World) (hn : ns.length = n) (h : Hid (Dr w B D V L)) (hA : Hid (NAt w A ns)) (r : Option Int) (hr : Hid (vertP ns = r)) :
    Calls Tryz.prog 56 #[.pointer (some ⟨D, 0, none⟩), .slice A n c] w fun e w' => e = .returned (.bool r.isSome) ∧ Hid (Dr w' B D (r.getD V) L) ∧ Hid (Below B w w') ∧ Hid (Kp w w') := by
  obtain ⟨v, M, hD, _, _, _, _⟩ := h.out
  obtain ⟨d0, d1, d2, hDs, dfz⟩ := Dr.cells hD
  clear hD
  by_cases h1 : n = 1
  · subst h1
    rcases ns with _ | ⟨a, _ | ⟨b, t⟩⟩
    · simp at hn
    · clear hn
      obtain ⟨g, rfl, c0⟩ := hA.out 0 a rfl
      by_cases hv : 1 ≤ a ∧ a ≤ 512
      · have hrs : r = some (a : Int) := by rw [← hr.out]; show (if _ then _ else _) = _; rw [if_pos hv]
        subst hrs
        have HG := Lib.hid (h.out.vert (a : Int))
        go_enter Tryz.func56, Tryz.ntmps56
        go_wp2
        all_goals (try (exfalso; omega))
        go_ret
        exact ⟨rfl, Lib.hid HG.out.1, Lib.hid (HG.out.2.1 (Below.refl _ w)), Lib.hid HG.out.2.2⟩
      · have hrn : r = none := by rw [← hr.out]; show (if _ then _ else _) = _; rw [if_neg hv]
        subst hrn
        by_cases hv1 : (a : Int) < 1
        · go_enter Tryz.func56, Tryz.ntmps56
          go_wp2
          all_goals (try (exfalso; omega))
          go_ret
          exact ⟨rfl, h, Lib.hid (Below.refl _ w), Lib.hid (Kp.refl w)⟩
        · have hv2 : 512 < (a : Int) := by omega
          go_enter Tryz.func56, Tryz.ntmps56
          go_wp2
          all_goals (try (exfalso; omega))
          go_ret
          exact ⟨rfl, h, Lib.hid (Below.refl _ w), Lib.hid (Kp.refl w)⟩
    · simp at hn
  · have hrn : r = none := by rw [← hr.out]; exact vertP_not ns (by omega)
    subst hrn
    have h1' : ¬ (n : Int) = 1 := by omega
    go_enter Tryz.func56, Tryz.ntmps56
    go_wp2
    all_goals (try (exfalso; omega))
    go_ret
    exact ⟨rfl, h, Lib.hid (Below.refl _ w), Lib.hid (Kp.refl w)⟩

def oneP (V : Int) (L : List Ed) (ns : List Nat) : Option (List Ed) := match edgeP V ns with
  | none => none
  | some e => addP L e
def twoP (V : Int) (L : List Ed) (ns : List Nat) : Option (List Ed) := match edgeP V ns with
  | none => none
  | some e => bothP L e
theorem edgeP_in {V : Int} {ns : List Nat} {e : Ed} (hV : V ≤ 512) (h : edgeP V ns = some e) : (-9223372036854775808 ≤ e.1 ∧ e.1 ≤ 9223372036854775807) ∧ (-9223372036854775808 ≤ e.2.1 ∧ e.2.1 ≤ 9223372036854775807) := by
  have := edgeP_fit h
  rw [fitE_iff] at this; omega

set_option maxRecDepth 100000 in
set_option maxHeartbeats 600000 in
theorem takeEdge_any (B D : Nat) (V : Int) (L : List Ed) (A : Option Addr) (c n : Nat) (ns : List Nat) (w : World) (hn : ns.length = n) (h : Hid (Dr w B D V L)) (hA : Hid (NAt w A ns)) (hB : B ≤ w.heap.size) (hV : V ≤ 512) (hl : L.length ≤ 8192) (r : Option (List Ed)) (hr : Hid (oneP V L ns = r)) :
    Calls Tryz.prog 57 #[.pointer (some ⟨D, 0, none⟩), .slice A n c] w fun e w' => e = .returned (.bool r.isSome) ∧ Hid (Dr w' B D V (r.getD L)) ∧ Hid (Below B w w') ∧ Hid (Kp w w') := by
  obtain ⟨v, M, hD, _, _, _, _⟩ := h.out
  obtain ⟨d0, _, _, _, _⟩ := Dr.cells hD
  clear hD
  obtain ⟨re, hre⟩ : ∃ re, edgeP V ns = re := ⟨_, rfl⟩
  have HC := Lib.hid (edgeOf_any D V A c n ns w hn d0 hA re (Lib.hid hre))
  cases re with
  | none =>
    have hrn : r = none := by rw [← hr.out]; unfold oneP; rw [hre]
    subst hrn
    clear hre d0
    go_enter Tryz.func57, Tryz.ntmps57
    go_wp2_with fail
    refine HC.out.mono ?_
    rintro e w1 ⟨he, HB1⟩
    have he' : e = .returned (.tuple #[.agg #[.int .i64 0, .int .i64 0, .int .i64 0], .bool false]) := he
    subst he'
    have hb2 : Below w.heap.size w (w1.alloc (.cells #[.int .i64 0, .int .i64 0, .int .i64 0] 42)) := HB1.out.alloc HB1.out.size _
    have HR := Lib.hid (h.out.below hb2); have HB2 := Lib.hid (hb2.mono hB); have HK := Lib.hid (Kp.of_below hb2)
    clear hb2 he
    go_wp2_with fail
    go_ret
    exact ⟨rfl, HR, HB2, HK⟩
  | some e =>
    obtain ⟨i1, i2⟩ := edgeP_in hV hre
    have hrs : addP L e = r := by rw [← hr.out]; unfold oneP; rw [hre]
    obtain ⟨e0, e1, e2⟩ := e
    have HRS := Lib.hid hrs
    clear hre d0 hrs
    go_enter Tryz.func57, Tryz.ntmps57
    go_wp2_with fail
    refine HC.out.mono ?_
    rintro e w1 ⟨he, HB1⟩
    have he' : e = .returned (.tuple #[.agg #[.int .i64 e0, .int .i64 e1, .int .i64 e2], .bool true]) := he
    subst he'
    have hb2 : Below w.heap.size w (w1.alloc (.cells #[.int .i64 e0, .int .i64 e1, .int .i64 e2] 42)) := HB1.out.alloc HB1.out.size _
    have HD2 := Lib.hid (h.out.below hb2); have HB2 := Lib.hid (hb2.mono hB); have HK := Lib.hid (Kp.of_below hb2)
    have hs2 : B ≤ (w1.alloc (.cells #[.int .i64 e0, .int .i64 e1, .int .i64 e2] 42)).heap.size := Nat.le_trans hB hb2.size
    clear hb2 he
    go_wp2_with fail
    refine (add_any B D V L e0 e1 e2 _ HD2 i1 i2 hl hs2 r HRS).mono ?_
    rintro e w3 ⟨rfl, HD3, HB3, HK3, _⟩
    go_wp2_with fail
    go_ret
    exact ⟨rfl, HD3, Lib.hid (HB2.out.trans HB3.out), Lib.hid (HK.out.trans HK3.out)⟩

set_option maxRecDepth 100000 in
set_option maxHeartbeats 600000 in
theorem takeBoth_any (B D : Nat) (V : Int) (L : List Ed) (A : Option Addr) (c n : Nat) (ns : List Nat) (w : World) (hn : ns.length = n) (h : Hid (Dr w B D V L)) (hA : Hid (NAt w A ns)) (hB : B ≤ w.heap.size) (hV : V ≤ 512) (hl : L.length ≤ 8192) (r : Option (List Ed)) (hr : Hid (twoP V L ns = r)) :
    Calls Tryz.prog 58 #[.pointer (some ⟨D, 0, none⟩), .slice A n c] w fun e w' => e = .returned (.bool r.isSome) ∧ (∃ L', Hid (Dr w' B D V L') ∧ (r.isSome = true → r = some L')) ∧ Hid (Below B w w') ∧ Hid (Kp w w') := by
  obtain ⟨v, M, hD, hE0, hM0, _, _⟩ := h.out
  obtain ⟨d0, _, _, hDs, _⟩ := Dr.cells hD
  obtain ⟨re, hre⟩ : ∃ re, edgeP V ns = re := ⟨_, rfl⟩
  have HC := Lib.hid (edgeOf_any D V A c n ns w hn d0 hA re (Lib.hid hre))
  have HV := Lib.hid hD; have HE0 := Lib.hid hE0; have HM0 := Lib.hid hM0
  clear hD hE0 hM0
  cases re with
  | none =>
    have hrn : r = none := by rw [← hr.out]; unfold twoP; rw [hre]
    subst hrn
    clear hre d0
    go_enter Tryz.func58, Tryz.ntmps58
    go_wp2_with fail
    refine HC.out.mono ?_
    rintro e w1 ⟨he, HB1⟩
    have he' : e = .returned (.tuple #[.agg #[.int .i64 0, .int .i64 0, .int .i64 0], .bool false]) := he
    subst he'
    have hb2 : Below w.heap.size w (w1.alloc (.cells #[.int .i64 0, .int .i64 0, .int .i64 0] 42)) := HB1.out.alloc HB1.out.size _
    have HR := Lib.hid (h.out.below hb2); have HB2 := Lib.hid (hb2.mono hB); have HK := Lib.hid (Kp.of_below hb2)
    clear hb2 he
    go_wp2_with fail
    go_ret
    exact ⟨rfl, ⟨L, HR, fun h => by cases h⟩, HB2, HK⟩
  | some e =>
    obtain ⟨i1, i2⟩ := edgeP_in hV hre
    have hrs : bothP L e = r := by rw [← hr.out]; unfold twoP; rw [hre]
    obtain ⟨e0, e1, e2⟩ := e
    obtain ⟨ra, hra⟩ : ∃ ra, addP L (e0, e1, e2) = ra := ⟨_, rfl⟩
    have HRA := Lib.hid hra
    have HRS := Lib.hid hrs
    clear hre d0 hrs hra
    go_enter Tryz.func58, Tryz.ntmps58
    go_wp2_with fail
    refine HC.out.mono ?_
    rintro e w1 ⟨he, HB1⟩
    have he' : e = .returned (.tuple #[.agg #[.int .i64 e0, .int .i64 e1, .int .i64 e2], .bool true]) := he
    subst he'
    have hb2 : Below w.heap.size w (w1.alloc (.cells #[.int .i64 e0, .int .i64 e1, .int .i64 e2] 42)) := HB1.out.alloc HB1.out.size _
    have HY2 := Lib.hid (heap_alloc_new w1 (.cells #[.int .i64 e0, .int .i64 e1, .int .i64 e2] 42))
    have HV2 := Lib.hid ((hb2.block _ hDs).trans HV.out)
    have HD2 := Lib.hid (h.out.below hb2); have HB2 := Lib.hid (hb2.mono hB); have HK := Lib.hid (Kp.of_below hb2)
    have hs2 : B ≤ (w1.alloc (.cells #[.int .i64 e0, .int .i64 e1, .int .i64 e2] 42)).heap.size := Nat.le_trans hB hb2.size
    have hw1 := HB1.out.size
    clear hb2 he
    go_wp2_with fail
    refine (add_any B D V L e0 e1 e2 _ HD2 i1 i2 hl hs2 ra HRA).mono ?_
    rintro e w3 ⟨rfl, HD3, HB3, HK3, HQ3⟩
    have hmlt := HM0.out.lt
    have hy3 := HQ3.out v M HV2.out w1.heap.size _ HY2.out (by omega) (by omega) (fun e => by have := (World.ownsRow.lt HE0.out) _ e; omega)
    cases ra with
    | none =>
      have hrn : r = none := by rw [← HRS.out]; unfold bothP; rw [HRA.out]
      subst hrn
      clear hy3
      go_wp2_with fail
      go_ret
      exact ⟨rfl, ⟨L, HD3, fun h => by cases h⟩, Lib.hid (HB2.out.trans HB3.out), Lib.hid (HK.out.trans HK3.out)⟩
    | some L1 =>
      obtain ⟨y0, y1, y2, hys⟩ := eb_cells hy3
      have HD3' : Hid (Dr w3 B D V L1) := HD3
      have hL1 : L1.length ≤ 8192 := by
        obtain ⟨h1, _, h3⟩ := addP_some HRA.out
        rw [h1, List.length_append, List.length_singleton]; omega
      clear hy3 HD3
      by_cases he : e0 = e1
      · have hrs : r = some L1 := by rw [← HRS.out]; unfold bothP; rw [HRA.out]; simp only; rw [if_pos he]
        subst hrs
        subst he
        go_wp2_with fail
        go_ret
        exact ⟨rfl, ⟨L1, HD3', fun _ => rfl⟩, Lib.hid (HB2.out.trans HB3.out), Lib.hid (HK.out.trans HK3.out)⟩
      · have hrs : addP L1 (e1, e0, e2) = r := by rw [← HRS.out]; unfold bothP; rw [HRA.out]; simp only; rw [if_neg he]; rfl
        have HR2 := Lib.hid hrs
        clear hrs
        go_wp2_with fail
        refine (turned_any e0 e1 e2 _).mono ?_
        rintro e w4 ⟨rfl, hg4⟩
        have hb4 := hg4.below
        have HD4 := Lib.hid (HD3'.out.below hb4)
        have hs3 : B ≤ w3.heap.size := Nat.le_trans hs2 HB3.out.size
        have HB4 := Lib.hid (hb4.mono hs3)
        have HK4 := Lib.hid (Kp.of_below hb4)
        have hs4 : B ≤ w4.heap.size := Nat.le_trans hs3 hb4.size
        clear hb4 hg4 y0 y1 y2
        go_wp2_with fail
        refine (add_any B D V L1 e1 e0 e2 _ HD4 i2 i1 hL1 hs4 r HR2).mono ?_
        rintro e w5 ⟨rfl, HD5, HB5, HK5, _⟩
        go_wp2_with fail
        go_ret
        refine ⟨ret_b (by simp [he]), ⟨_, HD5, fun h => ?_⟩, Lib.hid (HB2.out.trans (HB3.out.trans (HB4.out.trans HB5.out))), Lib.hid (HK.out.trans (HK3.out.trans (HK4.out.trans HK5.out)))⟩
        cases r with
        | none => cases h
        | some x => rfl

end Go.Proofs.YtmcmpjcijbeilaaGreatDoor.Gr
