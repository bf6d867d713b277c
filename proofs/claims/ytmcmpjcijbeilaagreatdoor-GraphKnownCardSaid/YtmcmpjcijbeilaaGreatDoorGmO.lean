/-
  What is proved here: the texts GrPdq6 GrPdq7 GrPdq8 of this seat, laid together (each says itself what it proves; no condition beyond theirs).
-/
import Derived.Test.YtmcmpjcijbeilaaGreatDoorGmB
import Derived.Test.YtmcmpjcijbeilaaGreatDoorGmK
/-
  What is proved here: the contracts of the library's order2_func, median_func, medianAdjacent_func over graph.order's closure. Conditions: the row is one that the call has made.
-/
namespace Go.Proofs.YtmcmpjcijbeilaaGreatDoor.Gr
open Go.RowKit Wd Ws Go.Sort

/- The counter of swaps: a block of its own; all else is as it was. -/
def Cb (w : World) (cb s : Nat) : Prop := w.heap[cb]? = some (.cells #[.int .i64 (s : Int)] 3 (0, 0))
def Cw (W w : World) (cb s : Nat) : Prop := W.grownBy w (some cb) ∧ Cb w cb s
theorem Cb.cell {w : World} {cb s : Nat} (h : Cb w cb s) : w.cell? ⟨cb, 0, none⟩ = some (.int .i64 (s : Int)) ∧ w.frozen? ⟨cb, 0, none⟩ = false ∧ cb < w.heap.size := ⟨by rw [Lib.cell_of_heap h]; rfl, Lib.frozen_of_heap h _, lt_of_block h⟩
theorem Cb.below {w w' : World} {cb s : Nat} (h : Cb w cb s) (k : Below w.heap.size w w') : Cb w' cb s := (k.block cb (lt_of_block h)).trans h
theorem Cw.of_below {w w' : World} {cb s : Nat} (h : Cb w cb s) (k : Below w.heap.size w w') : Cw w w' cb s := ⟨grown_below k _, h.below k⟩
theorem Cw.trans {a b c : World} {cb s t : Nat} (h : Cw a b cb s) (k : Cw b c cb t) : Cw a c cb t := ⟨h.1.trans k.1, k.2⟩
theorem Cw.set {W w : World} {cb s : Nat} (h : Cw W w cb s) (t : Nat) : Cw W (w.setCell ⟨cb, 0, none⟩ (.int .i64 (t : Int))) cb t :=
  ⟨h.1.trans (grown_set _ _ _), heap_setCell_same w cb 0 _ _ _ h.2⟩
theorem Cw.swd {W w : World} {g N cb s : Nat} {d : Array Ed} (h : Cw W w cb s) (k : SWd W W g N d) (hne : cb ≠ g) : SWd w w g N d := by
  have e := h.1.block g k.lt (fun e => hne (Option.some.inj e).symm)
  obtain ⟨cur, h1, h2⟩ := k.row
  exact ⟨holdsK_heap k.holds e, ⟨rfl, rfl, rfl, Nat.le_refl _, fun _ _ _ => rfl⟩, ⟨cur, e.trans h1, h2⟩, Nat.lt_of_lt_of_le k.lt h.1.size⟩
theorem Cw.bes {W w : World} {g Bs n c cb s : Nat} (h : Cw W w cb s) (k : Bes W g Bs n c) (hne : cb ≠ Bs) : Bes w g Bs n c :=
  ⟨(h.1.block Bs (lt_of_block k.at_) (fun e => hne (Option.some.inj e).symm)).trans k.at_, k.ne⟩
theorem Cw.fx {W w : World} {b Bs g n c cb s : Nat} {th : Value} (h : Cw W w cb s) (k : Fx W b Bs g n c th) (hne : cb ≠ b) :
    w.cell? ⟨b, 0, none⟩ = some (.func (.func 51) #[] #[.pointer (some ⟨Bs, 0, none⟩)]) ∧ w.cell? ⟨b, 1, none⟩ = some (.func (.func 92) #[] #[.slice (some ⟨g, 0, none⟩) n c, th]) ∧ b < w.heap.size := by
  have e := (h.1.block b (lt_of_block k.at_) (fun e => hne (Option.some.inj e).symm)).trans k.at_
  exact ⟨by rw [Lib.cell_of_heap e]; rfl, by rw [Lib.cell_of_heap e]; rfl, lt_of_block e⟩
/- All that the median's callees need of a world. -/
structure Mw (w : World) (g N Bs n c cb s : Nat) (d : Array Ed) : Prop where
  row : SWd w w g N d
  bes : Bes w g Bs n c
  cnt : Cb w cb s
  ng : cb ≠ g
  nb : cb ≠ Bs
theorem Mw.on {W w : World} {g N Bs n c cb s t : Nat} {d : Array Ed} (h : Mw W g N Bs n c cb s d) (k : Cw W w cb t) : Mw w g N Bs n c cb t d :=
  ⟨k.swd h.row h.ng, k.bes h.bes h.nb, k.2, h.ng, h.nb⟩
theorem Mw.below {W w : World} {g N Bs n c cb s : Nat} {d : Array Ed} (h : Mw W g N Bs n c cb s d) (k : Below W.heap.size W w) : Mw w g N Bs n c cb s d := h.on (Cw.of_below h.cnt k)
theorem ent_m {w : World} {g N Bs n c cb s : Nat} {d : Array Ed} {th : Value} (h : Mw w g N Bs n c cb s d) :
    ∃ w1, Hid (w1 = w.alloc (.cells #[.func (.func 51) #[] #[.pointer (some ⟨Bs, 0, none⟩)], .func (.func 92) #[] #[.slice (some ⟨g, 0, none⟩) n c, th]] 105)) ∧ Hid (Cw w w1 cb s) ∧ Hid (Mw w1 g N Bs n c cb s d) ∧ Hid (Fx w1 w.heap.size Bs g n c th) ∧ cb ≠ w.heap.size := by
  have hb1 : Below w.heap.size w (w.alloc (.cells #[.func (.func 51) #[] #[.pointer (some ⟨Bs, 0, none⟩)], .func (.func 92) #[] #[.slice (some ⟨g, 0, none⟩) n c, th]] 105)) := (Below.refl _ w).alloc (Nat.le_refl _) _
  exact ⟨_, Lib.hid rfl, Lib.hid (Cw.of_below h.cnt hb1), Lib.hid (h.below hb1), Lib.hid ⟨heap_alloc_new w _, by have := h.row.lt; omega⟩, by have := lt_of_block h.cnt; omega⟩

set_option maxRecDepth 100000 in
set_option maxHeartbeats 600000 in
theorem order2_any (w : World) (g N Bs n c a b cb s : Nat) (d : Array Ed) (th : Value) (h : Hid (Mw w g N Bs n c cb s d)) (hd : Hid (d.size = n)) (ha : a < n) (hb : b < n) (hs : s < 4611686018427387904) (x y t : Nat) (hr : Hid (order2 ahd d a b s = (x, y, t))) :
    Calls Tryz.prog 123 #[.agg #[.func (.func 51) #[] #[.pointer (some ⟨Bs, 0, none⟩)], .func (.func 92) #[] #[.slice (some ⟨g, 0, none⟩) n c, th]], .int .i64 (a : Int), .int .i64 (b : Int), .pointer (some ⟨cb, 0, none⟩)] w fun e w' => e = .returned (.tuple #[.int .i64 (x : Int), .int .i64 (y : Int)]) ∧ Hid (Cw w w' cb t) := by
  obtain ⟨w1, HW, HC1, HM, HF, hcb⟩ := ent_m (th := th) h.out
  obtain ⟨k0, k1, hks⟩ := (Cw.of_below HM.out.cnt (Below.refl _ w1)).fx HF.out hcb
  obtain ⟨r, hr1⟩ : ∃ r, ahd d[b]! d[a]! = r := ⟨_, rfl⟩
  have HR := Lib.hid hr1; clear hr1
  have HC := Lib.hid (less_b w1 w1 g N Bs n c d b a (b : Int) (a : Int) rfl rfl r (Lib.hid HM.out.row) hd (Lib.hid HM.out.bes) hb ha HR)
  go_enter Tryz.func123, Tryz.ntmps123
  go_wp2_with fail
  rw [← HW.out]
  refine HC.out.mono ?_
  rintro e w2 ⟨rfl, HB2⟩
  have HC2 := Lib.hid (Cw.of_below HM.out.cnt HB2.out)
  obtain ⟨c0, cf, hcs⟩ := HC2.out.2.cell
  cases r with
  | true =>
    have hx : x = b ∧ y = a ∧ t = s + 1 := by
      have := hr.out; unfold order2 at this; rw [HR.out, if_pos rfl] at this
      simp only [Prod.mk.injEq] at this; omega
    obtain ⟨rfl, rfl, rfl⟩ := hx
    go_wp2
    go_ret2
    exact ⟨rfl, Lib.hid (HC1.out.trans (by have := HC2.out.set (s + 1); simpa using this))⟩
  | false =>
    have hx : x = a ∧ y = b ∧ t = s := by
      have := hr.out; unfold order2 at this; rw [HR.out, if_neg (by simp)] at this
      simp only [Prod.mk.injEq] at this; omega
    obtain ⟨rfl, rfl, rfl⟩ := hx
    go_wp2
    go_ret2
    exact ⟨rfl, Lib.hid (HC1.out.trans HC2.out)⟩

theorem order2_in {d : Array Ed} {a b s x y t : Nat} (h : order2 ahd d a b s = (x, y, t)) : ((x = a ∧ y = b) ∨ (x = b ∧ y = a)) ∧ t ≤ s + 1 := by
  have h1 := order2_mem ahd d a b s
  have h2 := order2_count ahd d a b s
  rw [h] at h1 h2
  exact ⟨h1, h2⟩

set_option maxRecDepth 100000 in
set_option maxHeartbeats 600000 in
theorem median_any (w : World) (g N Bs n c a b z cb s : Nat) (d : Array Ed) (th : Value) (h : Hid (Mw w g N Bs n c cb s d)) (hd : Hid (d.size = n)) (ha : a < n) (hb : b < n) (hz : z < n) (hs : s + 3 < 4611686018427387904) (x t : Nat) (hr : Hid (median ahd d a b z s = (x, t))) :
    Calls Tryz.prog 117 #[.agg #[.func (.func 51) #[] #[.pointer (some ⟨Bs, 0, none⟩)], .func (.func 92) #[] #[.slice (some ⟨g, 0, none⟩) n c, th]], .int .i64 (a : Int), .int .i64 (b : Int), .int .i64 (z : Int), .pointer (some ⟨cb, 0, none⟩)] w fun e w' => e = .returned (.int .i64 (x : Int)) ∧ Hid (Cw w w' cb t) := by
  obtain ⟨w1, HW, HC1, HM, HF, hcb⟩ := ent_m (th := th) h.out
  obtain ⟨k0, k1, hks⟩ := (Cw.of_below HM.out.cnt (Below.refl _ w1)).fx HF.out hcb
  obtain ⟨x1, y1, s1, e1⟩ : ∃ x1 y1 s1, order2 ahd d a b s = (x1, y1, s1) := ⟨_, _, _, rfl⟩
  obtain ⟨x2, y2, s2, e2⟩ : ∃ x2 y2 s2, order2 ahd d y1 z s1 = (x2, y2, s2) := ⟨_, _, _, rfl⟩
  obtain ⟨x3, y3, s3, e3⟩ : ∃ x3 y3 s3, order2 ahd d x1 x2 s2 = (x3, y3, s3) := ⟨_, _, _, rfl⟩
  have hx : x = y3 ∧ t = s3 := by
    have := hr.out; unfold median at this; simp only [e1, e2, e3, Prod.mk.injEq] at this; omega
  obtain ⟨rfl, rfl⟩ := hx
  obtain ⟨m1, n1⟩ := order2_in e1
  obtain ⟨m2, n2⟩ := order2_in e2
  have b1 : x1 < n ∧ y1 < n := by omega
  have b2 : x2 < n ∧ y2 < n := by omega
  have E1 := Lib.hid e1; have E2 := Lib.hid e2; have E3 := Lib.hid e3; clear e1 e2 e3 m1 m2
  have HA := Lib.hid (order2_any w1 g N Bs n c a b cb s d th HM hd ha hb (by omega) x1 y1 s1 E1)
  go_enter Tryz.func117, Tryz.ntmps117
  go_wp2_with fail
  rw [← HW.out]
  refine HA.out.mono ?_
  rintro e w2 ⟨rfl, HC2⟩
  have HM2 := Lib.hid (HM.out.on HC2.out)
  obtain ⟨k0', k1', hks'⟩ := HC2.out.fx HF.out hcb
  clear k0 k1
  have HA2 := Lib.hid (order2_any w2 g N Bs n c y1 z cb s1 d th HM2 hd b1.2 hz (by omega) x2 y2 s2 E2)
  go_wp2_with fail
  refine HA2.out.mono ?_
  rintro e w3 ⟨rfl, HC3⟩
  have HM3 := Lib.hid (HM2.out.on HC3.out)
  obtain ⟨k0, k1, hks''⟩ := (HC2.out.trans HC3.out).fx HF.out hcb
  clear k0' k1'
  have HA3 := Lib.hid (order2_any w3 g N Bs n c x1 x2 cb s2 d th HM3 hd b1.1 b2.1 (by omega) x3 x t E3)
  go_wp2_with fail
  refine HA3.out.mono ?_
  rintro e w4 ⟨rfl, HC4⟩
  go_wp2
  go_ret
  exact ⟨rfl, Lib.hid (HC1.out.trans (HC2.out.trans (HC3.out.trans HC4.out)))⟩

set_option maxRecDepth 100000 in
set_option maxHeartbeats 600000 in
theorem medianAdj_any (w : World) (g N Bs n c a cb s : Nat) (d : Array Ed) (th : Value) (h : Hid (Mw w g N Bs n c cb s d)) (hd : Hid (d.size = n)) (ha1 : 1 ≤ a) (ha : a + 1 < n) (hn : n < 4611686018427387904) (hs : s + 3 < 4611686018427387904) (x t : Nat) (hr : Hid (medianAdjacent ahd d a s = (x, t))) :
    Calls Tryz.prog 116 #[.agg #[.func (.func 51) #[] #[.pointer (some ⟨Bs, 0, none⟩)], .func (.func 92) #[] #[.slice (some ⟨g, 0, none⟩) n c, th]], .int .i64 (a : Int), .pointer (some ⟨cb, 0, none⟩)] w fun e w' => e = .returned (.int .i64 (x : Int)) ∧ Hid (Cw w w' cb t) := by
  obtain ⟨w1, HW, HC1, HM, HF, hcb⟩ := ent_m (th := th) h.out
  obtain ⟨k0, k1, hks⟩ := (Cw.of_below HM.out.cnt (Below.refl _ w1)).fx HF.out hcb
  have HA := median_any w1 g N Bs n c (a - 1) a (a + 1) cb s d th HM hd (by omega) (by omega) ha hs x t hr
  rw [show ((a - 1 : Nat) : Int) = (a : Int) - 1 by omega, show ((a + 1 : Nat) : Int) = (a : Int) + 1 by omega] at HA
  replace HA := Lib.hid HA
  go_enter Tryz.func116, Tryz.ntmps116
  go_wp2_with fail
  rw [← HW.out]
  refine HA.out.mono ?_
  rintro e w2 ⟨rfl, HC2⟩
  go_wp2
  go_ret
  exact ⟨rfl, Lib.hid (HC1.out.trans HC2.out)⟩

end Go.Proofs.YtmcmpjcijbeilaaGreatDoor.Gr

/-
  What is proved here: the contract of the library's choosePivot_func over graph.order's closure. Conditions: the row is one that the call has made.
-/
namespace Go.Proofs.YtmcmpjcijbeilaaGreatDoor.Gr
open Go.RowKit Wd Ws Go.Sort

/- The counter is new: of what was there nothing has changed. -/
theorem Cw.bel {w w2 w' : World} {cb s : Nat} (h : Below w.heap.size w w2) (hc : w.heap.size ≤ cb) (k : Cw w2 w' cb s) : Below w.heap.size w w' :=
  h.trans { size := k.1.size, os := k.1.os, tape := k.1.tape, output := k.1.output, block := fun i hi => k.1.block i (Nat.lt_of_lt_of_le hi h.size) (fun e => by have := Option.some.inj e; omega) }

set_option maxRecDepth 100000 in
set_option maxHeartbeats 800000 in
theorem choosePivot_any (w : World) (g N Bs n c a b : Nat) (d : Array Ed) (th : Value) (h : Hid (SWd w w g N d)) (hB : Hid (Bes w g Bs n c)) (hd : Hid (d.size = n)) (hab : a < b) (hbn : b ≤ n) (hn : n < 4611686018427387904) :
    Calls Tryz.prog 98 #[.agg #[.func (.func 51) #[] #[.pointer (some ⟨Bs, 0, none⟩)], .func (.func 92) #[] #[.slice (some ⟨g, 0, none⟩) n c, th]], .int .i64 (a : Int), .int .i64 (b : Int)] w fun e w' => e = .returned (.tuple #[.int .i64 ((choosePivot ahd d a b).1 : Int), .int .i64 (hintCode (choosePivot ahd d a b).2)]) ∧ Hid (Below w.heap.size w w') := by
  obtain ⟨w1, hw1⟩ : ∃ w1, w1 = w.alloc (.cells #[.func (.func 51) #[] #[.pointer (some ⟨Bs, 0, none⟩)], .func (.func 92) #[] #[.slice (some ⟨g, 0, none⟩) n c, th]] 105) := ⟨_, rfl⟩
  obtain ⟨w2, hw2⟩ : ∃ w2, w2 = w1.alloc (.cells #[.int .i64 0] 3) := ⟨_, rfl⟩
  obtain ⟨cb, hcb⟩ : ∃ cb, cb = w1.heap.size := ⟨_, rfl⟩
  have hb1 : Below w.heap.size w w1 := by rw [hw1]; exact (Below.refl _ w).alloc (Nat.le_refl _) _
  have hb2 : Below w.heap.size w w2 := by rw [hw2]; exact hb1.alloc hb1.size _
  have hb12 : Below w1.heap.size w1 w2 := by rw [hw2]; exact (Below.refl _ w1).alloc (Nat.le_refl _) _
  have hle : w.heap.size < cb := by rw [hcb, hw1]; simp
  have hF : Fx w1 w.heap.size Bs g n c th := ⟨by rw [hw1]; exact heap_alloc_new w _, by have := h.out.lt; omega⟩
  have HF : Hid (Fx w2 w.heap.size Bs g n c th) := Lib.hid ⟨(hb12.block _ (lt_of_block hF.at_)).trans hF.at_, hF.ne⟩
  have hC : Cb w2 cb 0 := by rw [hcb, hw2]; exact heap_alloc_new w1 _
  have HM : Hid (Mw w2 g N Bs n c cb 0 d) := Lib.hid ⟨(h.out.below hb2).start, hB.out.on (h.out.below hb2), hC, by have := h.out.lt; omega, by have := lt_of_block hB.out.at_; omega⟩
  obtain ⟨k0, k1, hks⟩ := (Cw.of_below hC (Below.refl _ w2)).fx HF.out (by omega : cb ≠ w.heap.size)
  have hwne : cb ≠ w.heap.size := by omega
  obtain ⟨c0, cf, hcs⟩ := hC.cell
  have HW : Hid (w2 = (w.alloc (.cells #[.func (.func 51) #[] #[.pointer (some ⟨Bs, 0, none⟩)], .func (.func 92) #[] #[.slice (some ⟨g, 0, none⟩) n c, th]] 105)).alloc (.cells #[.int .i64 0] 3)) := Lib.hid (by rw [hw2, hw1])
  have HCB : Hid (cb = w.heap.size + 1) := Lib.hid (by rw [hcb, hw1]; simp)
  have HB2 := Lib.hid hb2
  have hlt := hle
  clear hw1 hw2 hcb hb1 hb2 hb12 hle hF hC
  rw [choosePivot_eq]
  obtain ⟨I, hI⟩ : ∃ I : Nat, I = a + (b - a) / 4 * 1 := ⟨_, rfl⟩
  obtain ⟨J, hJ⟩ : ∃ J : Nat, J = a + (b - a) / 4 * 2 := ⟨_, rfl⟩
  obtain ⟨K, hK⟩ : ∃ K : Nat, K = a + (b - a) / 4 * 3 := ⟨_, rfl⟩
  have eI : ((a : Int) + ((b : Int) - (a : Int)) / 4) = (I : Int) := by omega
  have eJ : ((a : Int) + ((b : Int) - (a : Int)) / 4 * 2) = (J : Int) := by omega
  have eK : ((a : Int) + ((b : Int) - (a : Int)) / 4 * 3) = (K : Int) := by omega
  by_cases h8 : b - a ≥ 8
  · by_cases h50 : b - a ≥ 50
    · obtain ⟨i1, s1, h1⟩ : ∃ i1 s1, medianAdjacent ahd d I 0 = (i1, s1) := ⟨_, _, rfl⟩
      obtain ⟨j1, s2, h2⟩ : ∃ j1 s2, medianAdjacent ahd d J s1 = (j1, s2) := ⟨_, _, rfl⟩
      obtain ⟨k3, s3, h3⟩ : ∃ k1 s3, medianAdjacent ahd d K s2 = (k1, s3) := ⟨_, _, rfl⟩
      obtain ⟨p, s, h4⟩ : ∃ p s, median ahd d i1 j1 k3 s3 = (p, s) := ⟨_, _, rfl⟩
      have hraw : rawPivot ahd d a b = (p, s) := by simp only [rawPivot, if_pos h8, if_pos h50, ← hI, ← hJ, ← hK, h1, h2, h3, h4]
      have m1 := medianAdjacent_mem ahd d I 0; rw [h1] at m1
      have m2 := medianAdjacent_mem ahd d J s1; rw [h2] at m2
      have m3 := medianAdjacent_mem ahd d K s2; rw [h3] at m3
      have n1 := medianAdjacent_count ahd d I 0; rw [h1] at n1
      have n2 := medianAdjacent_count ahd d J s1; rw [h2] at n2
      have n3 := medianAdjacent_count ahd d K s2; rw [h3] at n3
      have n4 := median_count ahd d i1 j1 k3 s3; rw [h4] at n4
      simp only [] at m1 m2 m3 n1 n2 n3 n4
      rw [hraw]
      have hi1 : i1 < n := by omega
      have hj1 : j1 < n := by omega
      have hk1 : k3 < n := by omega
      have H1 := Lib.hid h1; have H2 := Lib.hid h2; have H3 := Lib.hid h3; have H4 := Lib.hid h4
      have HA := Lib.hid (medianAdj_any w2 g N Bs n c I cb 0 d th HM hd (by omega) (by omega) hn (by omega) i1 s1 H1)
      clear hraw h1 h2 h3 h4 m1 m2 m3
      have hIJK : 1 ≤ I ∧ I + 1 < n ∧ 1 ≤ J ∧ J + 1 < n ∧ 1 ≤ K ∧ K + 1 < n := by omega
      clear hI hJ hK
      go_enter Tryz.func98, Tryz.ntmps98
      go_wp2_with fail
      rw [← HW.out, ← HCB.out]
      refine HA.out.mono ?_
      rintro e w3 ⟨rfl, HC3⟩
      have HM3 := Lib.hid (HM.out.on HC3.out)
      obtain ⟨k0', k1', hks'⟩ := HC3.out.fx HF.out hwne
      clear k0 k1
      have HA2 := Lib.hid (medianAdj_any w3 g N Bs n c J cb s1 d th HM3 hd (by omega) (by omega) hn (by omega) j1 s2 H2)
      go_wp2_with fail
      refine HA2.out.mono ?_
      rintro e w4 ⟨rfl, HC4⟩
      have HM4 := Lib.hid (HM3.out.on HC4.out)
      have HCC := Lib.hid (HC3.out.trans HC4.out)
      obtain ⟨k0, k1, hks''⟩ := HCC.out.fx HF.out hwne
      clear k0' k1'
      have HA3 := Lib.hid (medianAdj_any w4 g N Bs n c K cb s2 d th HM4 hd (by omega) (by omega) hn (by omega) k3 s3 H3)
      go_wp2_with fail
      refine HA3.out.mono ?_
      rintro e w5 ⟨rfl, HC5⟩
      have HM5 := Lib.hid (HM4.out.on HC5.out)
      have HCD := Lib.hid (HCC.out.trans HC5.out)
      obtain ⟨k0', k1', hks3⟩ := HCD.out.fx HF.out hwne
      clear k0 k1
      have HA4 := Lib.hid (median_any w5 g N Bs n c i1 j1 k3 cb s3 d th HM5 hd hi1 hj1 hk1 (by omega) p s H4)
      go_wp2_with fail
      refine HA4.out.mono ?_
      rintro e w6 ⟨rfl, HC6⟩
      have HCE := Lib.hid (HCD.out.trans HC6.out)
      obtain ⟨c0', cf', hcs'⟩ := HCE.out.2.cell
      clear k0' k1' c0 cf
      by_cases hs0 : s = 0
      · subst hs0
        go_wp2
        go_ret2
        exact ⟨rfl, Lib.hid (Cw.bel HB2.out (by omega) HCE.out)⟩
      · by_cases hs12 : s = 12
        · subst hs12
          go_wp2
          go_ret2
          exact ⟨rfl, Lib.hid (Cw.bel HB2.out (by omega) HCE.out)⟩
        · have e0 : ((s : Int) == 0) = false := beq_eq_false_iff_ne.2 (by omega)
          have e12 : ((s : Int) == 12) = false := beq_eq_false_iff_ne.2 (by omega)
          have hh : hintOf s = .unknown := by unfold hintOf; rw [if_neg hs0, if_neg hs12]
          go_wp2
          go_ret2
          refine ⟨?_, Lib.hid (Cw.bel HB2.out (by omega) HCE.out)⟩
          show _ = Ending.returned (.tuple #[.int .i64 (p : Int), .int .i64 (hintCode (hintOf s))])
          rw [hh]; rfl
    · obtain ⟨p, s, h4⟩ : ∃ p s, median ahd d I J K 0 = (p, s) := ⟨_, _, rfl⟩
      have hraw : rawPivot ahd d a b = (p, s) := by simp only [rawPivot, if_pos h8, if_neg h50, ← hI, ← hJ, ← hK, h4]
      have n4 := median_count ahd d I J K 0; rw [h4] at n4
      simp only [] at n4
      rw [hraw]
      have H4 := Lib.hid h4
      have HA4 := Lib.hid (median_any w2 g N Bs n c I J K cb 0 d th HM hd (by omega) (by omega) (by omega) (by omega) p s H4)
      clear hraw h4 hI hJ hK
      go_enter Tryz.func98, Tryz.ntmps98
      go_wp2_with fail
      rw [← HW.out, ← HCB.out]
      refine HA4.out.mono ?_
      rintro e w6 ⟨rfl, HC6⟩
      have HCE := Lib.hid HC6.out
      obtain ⟨c0', cf', hcs'⟩ := HCE.out.2.cell
      clear k0 k1 c0 cf
      by_cases hs0 : s = 0
      · subst hs0
        go_wp2
        go_ret2
        exact ⟨rfl, Lib.hid (Cw.bel HB2.out (by omega) HCE.out)⟩
      · by_cases hs12 : s = 12
        · subst hs12
          go_wp2
          go_ret2
          exact ⟨rfl, Lib.hid (Cw.bel HB2.out (by omega) HCE.out)⟩
        · have e0 : ((s : Int) == 0) = false := beq_eq_false_iff_ne.2 (by omega)
          have e12 : ((s : Int) == 12) = false := beq_eq_false_iff_ne.2 (by omega)
          have hh : hintOf s = .unknown := by unfold hintOf; rw [if_neg hs0, if_neg hs12]
          go_wp2
          go_ret2
          refine ⟨?_, Lib.hid (Cw.bel HB2.out (by omega) HCE.out)⟩
          show _ = Ending.returned (.tuple #[.int .i64 (p : Int), .int .i64 (hintCode (hintOf s))])
          rw [hh]; rfl
  · have hraw : rawPivot ahd d a b = (J, 0) := by simp only [rawPivot, if_neg h8, ← hJ]
    rw [hraw]
    clear hraw hI hJ hK
    go_enter Tryz.func98, Tryz.ntmps98
    go_wp2
    go_ret2
    refine ⟨rfl, ?_⟩
    rw [← HW.out]; exact HB2

end Go.Proofs.YtmcmpjcijbeilaaGreatDoor.Gr

/-
  What is proved here: the contracts of the library's breakPatterns_func and reverseRange_func (they compare nothing: the library's own theorems), in the words for a row of edges. Conditions: the row is one that the call has made.
-/
namespace Go.Proofs.YtmcmpjcijbeilaaGreatDoor.Gr
open Go.RowKit Wd Ws Go.Sort

theorem below_grown (w : World) (os : Array Obj) : RowKit.Below w.heap.size w (Sort.grow w os) := { size := by simp [Sort.grow], os := rfl, tape := rfl, output := rfl, block := fun i hi => by simp [Sort.grow, Array.getElem?_append_left hi] }
/- What the library's contracts say of the world behind, in the words for edges. -/
theorem swd_sorted {w : World} {g N n : Nat} {d dk : Array Ed} {os : Array Obj} (h : SWd w w g N d) (hs : dk.size = d.size) : SWd w (sortWorldK ec 3 w g 0 n dk os) g N dk := by
  refine ⟨holdsK_sortWorldK ec 3 w g 0 n d dk os h.lt h.holds hs, ?_, ?_, h.lt⟩
  · have h1 : w.grownBy (Sort.ahead w n) (some g) := grown_below (by have := (grw_at w n #[]).below; rwa [Sort.grow_empty] at this) _
    have h2 : (Sort.ahead w n).grownBy (putRowK ec 3 (Sort.ahead w n) g 0 dk) (some g) :=
      ⟨rfl, rfl, rfl, by rw [size_putRowK]; exact Nat.le_refl _, fun i _ hne => by
        show ((Sort.ahead w n).heap.modify g _)[i]? = _
        rw [Array.getElem?_modify, if_neg (fun e => hne (by rw [e]))]⟩
    exact h1.trans (h2.trans (grown_below (below_grown _ os) _))
  · obtain ⟨cur, e1, e2⟩ := h.row
    refine ⟨putCells id 0 (flatK ec 3 dk) cur, ?_, by unfold putCells; rw [Array.size_mapIdx]; exact e2⟩
    have hg : g < (putRowK ec 3 (Sort.ahead w n) g 0 dk).heap.size := by rw [size_putRowK]; exact h.lt
    show (Sort.grow (putRowK ec 3 (Sort.ahead w n) g 0 dk) os).heap[g]? = _
    rw [(below_grown _ os).block g hg]
    show ((Sort.ahead w n).heap.modify g _)[g]? = _
    rw [Array.getElem?_modify, if_pos rfl]
    show (w.heap[g]?).map _ = _
    rw [e1]; rfl
theorem swaps (g n c : Nat) (th : Value) (hth : th = typeHandle Tryz.prog 42) : SwapSwapsK Tryz.prog 92 #[.slice (some ⟨g, 0, none⟩) n c, th] ec 3 g 0 n := by
  intro W dk h hd i j hi hj
  have := swap_run g n c W dk h hd i j hi hj (i : Int) (j : Int) rfl rfl
  rw [← hth] at this
  exact this
theorem breakPat_any (w : World) (g N Bs n c a b : Nat) (d : Array Ed) (th : Value) (hth : Hid (th = typeHandle Tryz.prog 42)) (h : Hid (SWd w w g N d)) (hd : Hid (d.size = n)) (hab : a ≤ b) (hbn : b ≤ n) (hn : n < 4611686018427387904) :
    Calls Tryz.prog 97 #[.agg #[.func (.func 51) #[] #[.pointer (some ⟨Bs, 0, none⟩)], .func (.func 92) #[] #[.slice (some ⟨g, 0, none⟩) n c, th]], .int .i64 (a : Int), .int .i64 (b : Int)] w fun e w' => e = .returned (.tuple #[]) ∧ Hid (SWd w w' g N (breakPatterns d a b)) := by
  refine (Any.breakPatterns_func_cells_w (ρ := Tryz.laysGg6_ren) { Tryz.laysGg6 with } ec 3 ec_len (.func 51) #[] #[.pointer (some ⟨Bs, 0, none⟩)] 92 #[.slice (some ⟨g, 0, none⟩) n c, th] g 0 a b d w (by rw [hd.out]; exact swaps g n c th hth.out) h.out.holds h.out.lt hab (by rw [hd.out]; exact hbn) (by rw [hd.out]; exact hn)).mono ?_
  rintro e w' ⟨rfl, m, os, rfl⟩
  exact ⟨rfl, Lib.hid (swd_sorted h.out (breakPatterns_holds d a b hab (by rw [hd.out]; exact hbn)).1)⟩
theorem reverse_any (w : World) (g N Bs n c a b : Nat) (d : Array Ed) (th : Value) (hth : Hid (th = typeHandle Tryz.prog 42)) (h : Hid (SWd w w g N d)) (hd : Hid (d.size = n)) (hab : a ≤ b) (hbn : b ≤ n) (hn : n < 4611686018427387904) :
    Calls Tryz.prog 99 #[.agg #[.func (.func 51) #[] #[.pointer (some ⟨Bs, 0, none⟩)], .func (.func 92) #[] #[.slice (some ⟨g, 0, none⟩) n c, th]], .int .i64 (a : Int), .int .i64 (b : Int)] w fun e w' => e = .returned (.tuple #[]) ∧ Hid (SWd w w' g N (reverseRange d a b)) := by
  refine (Any.reverseRange_func_cells_w (ρ := Tryz.laysGg6_ren) { Tryz.laysGg6 with } ec 3 ec_len (.func 51) #[] #[.pointer (some ⟨Bs, 0, none⟩)] 92 #[.slice (some ⟨g, 0, none⟩) n c, th] g 0 a b d w (by rw [hd.out]; exact swaps g n c th hth.out) h.out.holds h.out.lt hab (by rw [hd.out]; exact hbn) (by rw [hd.out]; exact hn)).mono ?_
  rintro e w' ⟨rfl, m, os, rfl⟩
  exact ⟨rfl, Lib.hid (swd_sorted h.out (reverseRange_holds d a b hab (by rw [hd.out]; exact hbn)).1)⟩

end Go.Proofs.YtmcmpjcijbeilaaGreatDoor.Gr
