/-
  What is proved here: the contract of parts.cut. Conditions: at most 100000 edges.
-/
import Derived.Test.YtjcgejbggmpikaaPtW5
import Derived.Deep.RegionHeld3
namespace Go.Proofs.Ytjcgejbggmpikaa.Pt
open Go.RowKit Gr Wd Ws

/- A part that a call has made, from block B on. -/
def POwnV (w : World) (B : Nat) (x : Value) (P : Pt) : Prop := ∃ s1 s2 s3, x = .agg #[.int .i64 P.w, .int .i64 P.k, .int .i64 P.n, s1, s2, s3] ∧ IOwn w B s1 P.own ∧ ROwn w B s2 P.out ∧ ROwn w B s3 P.back
theorem POwnV.below {w w' : World} {B : Nat} {x : Value} {P : Pt} (h : POwnV w B x P) (hb : Below w.heap.size w w') : POwnV w' B x P := by
  obtain ⟨s1, s2, s3, e, h1, h2, h3⟩ := h
  exact ⟨s1, s2, s3, e, h1.below hb, h2.below hb, h3.below hb⟩
theorem each_mono {w : World} {B C : Nat} {xs : List Value} {Ls : List (List Ed)} (h : Each w B xs Ls) (hc : C ≤ B) : Each w C xs Ls :=
  ⟨h.1, fun k L hk => by obtain ⟨x, h1, h2⟩ := h.2 k L hk; exact ⟨x, h1, eown_mono h2 hc⟩⟩
theorem rown_mono {w : World} {B C : Nat} {v : Value} {Ls : List (List Ed)} (h : ROwn w B v Ls) (hc : C ≤ B) : ROwn w C v Ls := by
  obtain ⟨xs, h1, h2⟩ := h
  exact ⟨xs, own_mono h1 hc, each_mono h2 hc⟩
theorem POwnV.mono {w : World} {B C : Nat} {x : Value} {P : Pt} (h : POwnV w B x P) (hc : C ≤ B) : POwnV w C x P := by
  obtain ⟨s1, s2, s3, e, h1, h2, h3⟩ := h
  exact ⟨s1, s2, s3, e, own_mono h1 hc, rown_mono h2 hc, rown_mono h3 hc⟩
/- A part that can be read. -/
def PtV (w : World) (x : Value) (P : Pt) : Prop := ∃ A1 c1 A2 c2 A3 c3, x = .agg #[.int .i64 P.w, .int .i64 P.k, .int .i64 P.n, .slice A1 P.own.length c1, .slice A2 P.out.length c2, .slice A3 P.back.length c3] ∧ IAt w A1 P.own ∧ RAt w A2 P.out ∧ RAt w A3 P.back
theorem POwnV.ptv {w : World} {B : Nat} {x : Value} {P : Pt} (h : POwnV w B x P) : PtV w x P := by
  obtain ⟨s1, s2, s3, e, h1, h2, h3⟩ := h
  obtain ⟨A1, c1, rfl, g1⟩ := h1.form
  obtain ⟨A2, c2, rfl, g2⟩ := h2.form
  obtain ⟨A3, c3, rfl, g3⟩ := h3.form
  exact ⟨A1, c1, A2, c2, A3, c3, e, g1, g2, g3⟩
theorem PtV.below {w w' : World} {x : Value} {P : Pt} (h : PtV w x P) (hb : Below w.heap.size w w') : PtV w' x P := by
  obtain ⟨A1, c1, A2, c2, A3, c3, e, h1, h2, h3⟩ := h
  exact ⟨A1, c1, A2, c2, A3, c3, e, h1.below hb, h2.below hb, h3.below hb⟩

theorem out_map (V : Int) (L : List Ed) (k x : Int) : (cutP V L k x).out = (owned V k x).map (frm L) := rfl
/- A part's six cells. -/
theorem six {w : World} {b : Nat} {T : TypeId} {a0 a1 a2 a3 a4 a5 : Value} (h : w.heap[b]? = some (.cells #[a0, a1, a2, a3, a4, a5] T (0, 0))) :
    w.cell? ⟨b, 0, none⟩ = some a0 ∧ w.cell? ⟨b, 1, none⟩ = some a1 ∧ w.cell? ⟨b, 2, none⟩ = some a2 ∧ w.cell? ⟨b, 3, none⟩ = some a3 ∧ w.cell? ⟨b, 4, none⟩ = some a4 ∧ w.cell? ⟨b, 5, none⟩ = some a5 ∧
    w.frozen? ⟨b, 0, none⟩ = false ∧ w.frozen? ⟨b, 1, none⟩ = false ∧ w.frozen? ⟨b, 2, none⟩ = false ∧ w.frozen? ⟨b, 3, none⟩ = false ∧ w.frozen? ⟨b, 4, none⟩ = false ∧ w.frozen? ⟨b, 5, none⟩ = false ∧ b < w.heap.size :=
  ⟨by rw [Lib.cell_of_heap h]; rfl, by rw [Lib.cell_of_heap h]; rfl, by rw [Lib.cell_of_heap h]; rfl, by rw [Lib.cell_of_heap h]; rfl, by rw [Lib.cell_of_heap h]; rfl, by rw [Lib.cell_of_heap h]; rfl,
    Lib.frozen_of_heap h _, Lib.frozen_of_heap h _, Lib.frozen_of_heap h _, Lib.frozen_of_heap h _, Lib.frozen_of_heap h _, Lib.frozen_of_heap h _, lt_of_block h⟩
theorem mixedP : Try.prog.follows .mixedOrders = true := by kernel_rfl

set_option maxRecDepth 100000 in
theorem res_p (fn : Func) (c : Nat) (tmps : Array Value) (w : World) (b : Nat) (a0 a1 a2 a3 a4 a5 : Value) (hr : fn.results = #[.cell c 34]) (ht : tmps.getD c undef = .pointer (some ⟨b, 0, none⟩)) (hh : w.heap[b]? = some (.cells #[a0, a1, a2, a3, a4, a5] 34 (0, 0))) :
    (results fn tmps).run Try.prog w = .ok (.agg #[a0, a1, a2, a3, a4, a5]) w := by
  obtain ⟨f0, f1, f2, f3, f4, f5, _⟩ := six hh
  have ht' : tmps[c]?.getD undef = .pointer (some ⟨b, 0, none⟩) := by simpa using ht
  simp [results, hr, ht', go_sem, f0, f1, f2, f3, f4, f5]
set_option maxRecDepth 100000 in
theorem res2_p (fn : Func) (c d : Nat) (tmps : Array Value) (w : World) (b : Nat) (a0 a1 a2 a3 a4 a5 u : Value) (hr : fn.results = #[.cell c 34, .tmp d]) (ht : tmps.getD c undef = .pointer (some ⟨b, 0, none⟩)) (hd : tmps.getD d undef = u) (hh : w.heap[b]? = some (.cells #[a0, a1, a2, a3, a4, a5] 34 (0, 0))) :
    (results fn tmps).run Try.prog w = .ok (.tuple #[.agg #[a0, a1, a2, a3, a4, a5], u]) w := by
  obtain ⟨f0, f1, f2, f3, f4, f5, _⟩ := six hh
  have ht' : tmps[c]?.getD undef = .pointer (some ⟨b, 0, none⟩) := by simpa using ht
  have hd' : tmps[d]?.getD undef = u := by simpa using hd
  simp [results, hr, ht', hd', go_sem, f0, f1, f2, f3, f4, f5]
set_option maxRecDepth 100000 in
theorem res_q (fn : Func) (c : Nat) (tmps : Array Value) (w : World) (b : Nat) (a0 a1 a2 a3 a4 a5 : Value) (hr : fn.results = #[.cell c 38]) (ht : tmps.getD c undef = .pointer (some ⟨b, 0, none⟩)) (hh : w.heap[b]? = some (.cells #[a0, a1, a2, a3, a4, a5] 38 (0, 0))) :
    (results fn tmps).run Try.prog w = .ok (.agg #[a0, a1, a2, a3, a4, a5]) w := by
  obtain ⟨f0, f1, f2, f3, f4, f5, _⟩ := six hh
  have ht' : tmps[c]?.getD undef = .pointer (some ⟨b, 0, none⟩) := by simpa using ht
  simp [results, hr, ht', go_sem, f0, f1, f2, f3, f4, f5]
set_option maxRecDepth 100000 in
theorem res2_q (fn : Func) (c d : Nat) (tmps : Array Value) (w : World) (b : Nat) (a0 a1 a2 a3 a4 a5 u : Value) (hr : fn.results = #[.cell c 38, .tmp d]) (ht : tmps.getD c undef = .pointer (some ⟨b, 0, none⟩)) (hd : tmps.getD d undef = u) (hh : w.heap[b]? = some (.cells #[a0, a1, a2, a3, a4, a5] 38 (0, 0))) :
    (results fn tmps).run Try.prog w = .ok (.tuple #[.agg #[a0, a1, a2, a3, a4, a5], u]) w := by
  obtain ⟨f0, f1, f2, f3, f4, f5, _⟩ := six hh
  have ht' : tmps[c]?.getD undef = .pointer (some ⟨b, 0, none⟩) := by simpa using ht
  have hd' : tmps[d]?.getD undef = u := by simpa using hd
  simp [results, hr, ht', hd', go_sem, f0, f1, f2, f3, f4, f5]
/- What a store below leaves. -/
theorem IOwn.set {w : World} {B : Nat} {v : Value} {l : List Int} (h : IOwn w B v l) {b : Nat} (hb : b < B) (j : Nat) (u : Value) : IOwn (w.setCell ⟨b, j, none⟩ u) B v l := ownsRow_setCell_below h (a := ⟨b, j, none⟩) hb u
theorem ROwn.set {w : World} {B : Nat} {v : Value} {Ls : List (List Ed)} (h : ROwn w B v Ls) {b : Nat} (hb : b < B) (j : Nat) (u : Value) : ROwn (w.setCell ⟨b, j, none⟩ u) B v Ls := by
  obtain ⟨xs, h1, h2⟩ := h
  exact ⟨xs, ownsRow_setCell_below h1 (a := ⟨b, j, none⟩) hb u, h2.1, fun k L hk => by
    obtain ⟨x, h3, h4⟩ := h2.2 k L hk
    exact ⟨x, h3, ownsRow_setCell_below h4 (a := ⟨b, j, none⟩) hb u⟩⟩
def put6 (w : World) (b : Nat) (u0 u1 u2 u3 u4 u5 : Value) : World :=
  (((((w.setCell ⟨b, 0, none⟩ u0).setCell ⟨b, 1, none⟩ u1).setCell ⟨b, 2, none⟩ u2).setCell ⟨b, 3, none⟩ u3).setCell ⟨b, 4, none⟩ u4).setCell ⟨b, 5, none⟩ u5
theorem put6_heap {w : World} {b : Nat} {T : TypeId} {a0 a1 a2 a3 a4 a5 : Value} (h : w.heap[b]? = some (.cells #[a0, a1, a2, a3, a4, a5] T (0, 0))) (u0 u1 u2 u3 u4 u5 : Value) :
    (put6 w b u0 u1 u2 u3 u4 u5).heap[b]? = some (.cells #[u0, u1, u2, u3, u4, u5] T (0, 0)) := by
  have e0 := heap_setCell_same w b 0 _ _ u0 h
  have e1 := heap_setCell_same _ b 1 _ _ u1 e0
  have e2 := heap_setCell_same _ b 2 _ _ u2 e1
  have e3 := heap_setCell_same _ b 3 _ _ u3 e2
  have e4 := heap_setCell_same _ b 4 _ _ u4 e3
  have e5 := heap_setCell_same _ b 5 _ _ u5 e4
  exact e5
theorem put6_below {B : Nat} {a w : World} (h : Below B a w) {b : Nat} (hb : B ≤ b) (u0 u1 u2 u3 u4 u5 : Value) : Below B a (put6 w b u0 u1 u2 u3 u4 u5) :=
  (((((h.setCell (p := ⟨b, 0, none⟩) hb u0).setCell (p := ⟨b, 1, none⟩) hb u1).setCell (p := ⟨b, 2, none⟩) hb u2).setCell (p := ⟨b, 3, none⟩) hb u3).setCell (p := ⟨b, 4, none⟩) hb u4).setCell (p := ⟨b, 5, none⟩) hb u5
theorem IOwn.put6 {w : World} {B : Nat} {v : Value} {l : List Int} (h : IOwn w B v l) {b : Nat} (hb : b < B) (u0 u1 u2 u3 u4 u5 : Value) : IOwn (put6 w b u0 u1 u2 u3 u4 u5) B v l :=
  (((((h.set hb 0 u0).set hb 1 u1).set hb 2 u2).set hb 3 u3).set hb 4 u4).set hb 5 u5
theorem ROwn.put6 {w : World} {B : Nat} {v : Value} {Ls : List (List Ed)} (h : ROwn w B v Ls) {b : Nat} (hb : b < B) (u0 u1 u2 u3 u4 u5 : Value) : ROwn (put6 w b u0 u1 u2 u3 u4 u5) B v Ls :=
  (((((h.set hb 0 u0).set hb 1 u1).set hb 2 u2).set hb 3 u3).set hb 4 u4).set hb 5 u5

/- Where all orders meet. -/
def CutEnd (w : World) (x k V : Int) (l : List Int) (f g : List (List Ed)) (s1 s2 s3 : Value) (W : World) : Prop :=
  W.heap[w.heap.size + 1]? = some (.cells #[.int .i64 x, .int .i64 k, .int .i64 V, s1, s2, s3] 34 (0, 0)) ∧ POwnV W w.heap.size (.agg #[.int .i64 x, .int .i64 k, .int .i64 V, s1, s2, s3]) ⟨x, k, V, l, f, g⟩ ∧ Below w.heap.size w W
theorem cut_end {w w3 wz : World} {x k V : Int} {l : List Int} {f g : List (List Ed)} {s1 s2 s3 a0 a1 a2 a3 a4 a5 : Value} (hb3 : Below w.heap.size w w3) (hs3 : w.heap.size + 2 ≤ w3.heap.size) (h1 : IOwn w3 (w.heap.size + 2) s1 l)
    (hbz : Below w3.heap.size w3 wz) (h2 : ROwn wz w3.heap.size s2 f) (h3 : ROwn wz w3.heap.size s3 g) (hc : w3.heap[w.heap.size + 1]? = some (.cells #[a0, a1, a2, a3, a4, a5] 34 (0, 0))) :
    CutEnd w x k V l f g s1 s2 s3 (put6 wz (w.heap.size + 1) (.int .i64 x) (.int .i64 k) (.int .i64 V) s1 s2 s3) := by
  refine ⟨put6_heap ((hbz.block _ (by omega)).trans hc) _ _ _ _ _ _, ⟨s1, s2, s3, rfl, ?_, ?_, ?_⟩, put6_below (hb3.trans (hbz.mono (by omega))) (by omega) _ _ _ _ _ _⟩
  · exact own_mono ((h1.below hbz).put6 (by omega) _ _ _ _ _ _) (by omega)
  · exact rown_mono (h2.put6 (by omega) _ _ _ _ _ _) (by omega)
  · exact rown_mono (h3.put6 (by omega) _ _ _ _ _ _) (by omega)

attribute [local irreducible] Calls in
set_option maxRecDepth 100000 in
set_option maxHeartbeats 6000000 in
theorem cut_any (V k x : Int) (A : Option Addr) (c : Nat) (L : List Ed) (w : World) (hL : EAt w A L) (hm : L.length ≤ 100000) :
    Calls Try.prog 32 #[.agg #[.int .i64 V, .slice A L.length c], .int .i64 k, .int .i64 x] w fun e w' => ∃ v, e = .returned v ∧ POwnV w' w.heap.size v (cutP V L k x) ∧ Below w.heap.size w w' := by
  have mixed := mixedP
  have hlo := owned_len V k x
  obtain ⟨l, hl⟩ : ∃ l, owned V k x = l := ⟨_, rfl⟩
  have hcp : cutP V L k x = ⟨x, k, V, l, l.map (frm L), l.map (tow L)⟩ := by unfold cutP; rw [hl]
  rw [hcp]
  have H1 := Lib.hid (fun W => owned_any V k x W)
  rw [hl] at H1 hlo
  clear hl hcp
  obtain ⟨w1, hw1⟩ : ∃ w1, w1 = w.alloc (.cells #[.int .i64 V, .slice A L.length c] 30) := ⟨_, rfl⟩
  obtain ⟨w2, hw2⟩ : ∃ w2, w2 = w1.alloc (.cells #[.int .i64 0, .int .i64 0, .int .i64 0, .slice none 0 0, .slice none 0 0, .slice none 0 0] 34) := ⟨_, rfl⟩
  have s1 : w1.heap.size = w.heap.size + 1 := by rw [hw1]; simp
  have s2 : w2.heap.size = w.heap.size + 2 := by rw [hw2]; simp; omega
  have b1 : Below w.heap.size w w1 := by rw [hw1]; exact (Below.refl _ w).alloc (Nat.le_refl _) _
  have b2 : Below w1.heap.size w1 w2 := by rw [hw2]; exact (Below.refl _ w1).alloc (Nat.le_refl _) _
  have b12 := b1.trans (b2.mono (by omega))
  have e1 : w1.heap[w.heap.size]? = some (.cells #[.int .i64 V, .slice A L.length c] 30 (0, 0)) := by rw [hw1]; exact heap_alloc_new w _
  have e2 : w2.heap[w.heap.size + 1]? = some (.cells #[.int .i64 0, .int .i64 0, .int .i64 0, .slice none 0 0, .slice none 0 0, .slice none 0 0] 34 (0, 0)) := by rw [hw2, ← s1]; exact heap_alloc_new w1 _
  have HG2 : Hid (GBox w2 w.heap.size V A c L) := Lib.hid ⟨(b2.block _ (by omega)).trans e1, hL.below b12⟩
  have HR2 := Lib.hid e2
  have HB2 := Lib.hid b12
  have HW : Hid (w2 = (w.alloc (.cells #[.int .i64 V, .slice A L.length c] 30)).alloc (.cells #[.int .i64 0, .int .i64 0, .int .i64 0, .slice none 0 0, .slice none 0 0, .slice none 0 0] 34)) := Lib.hid (by rw [hw2, hw1])
  clear hw1 hw2 b1 b2 b12 e1 e2 s1 hL
  go_enter Try.func32, Try.ntmps32
  go_wp2_with fail
  rw [← HW.out]
  obtain ⟨x0, x1, hxs⟩ := Bx.cells HG2.out.1
  go_wp2_with fail
  refine (H1.out _).mono ?_
  rintro e w3 ⟨v3, rfl, hv3, hb3⟩
  have hs3 := hb3.size
  have HG3 := Lib.hid (HG2.out.below hb3)
  have HR3 := Lib.hid ((hb3.block _ (by omega)).trans HR2.out)
  have HB3 := Lib.hid (HB2.out.trans (hb3.mono HB2.out.size))
  have HV3 := Lib.hid (show IOwn w3 (w.heap.size + 2) v3 l by rw [← s2]; exact hv3)
  obtain ⟨A1, c1, rfl, hA1⟩ := hv3.form
  have HA1 := Lib.hid hA1
  clear hv3 hb3 hA1 x0 x1 hxs
  have HQ : Hid (∀ W, Below w3.heap.size w3 W → Calls Try.prog 46 #[.slice A1 l.length c1, .func (.func 47) #[] #[.pointer (some ⟨w.heap.size, 0, none⟩)]] W fun e w' => ∃ v, e = .returned v ∧ Hid (ROwn w' W.heap.size v (l.map (frm L)) ∧ Below W.heap.size W w')) :=
    Lib.hid fun W h => (rows_any A1 c1 l _ _ (frm L) W (enters_of Try.func47 (by kernel_rfl) rfl) (HA1.out.below h) (by omega) (frm_closure _ V A c L W (HG3.out.below h) hm)).mono fun _ _ ⟨x, h1, h2, h3⟩ => ⟨x, h1, Lib.hid ⟨h2, h3⟩⟩
  have HP : Hid (∀ W, Below w3.heap.size w3 W → Calls Try.prog 46 #[.slice A1 l.length c1, .func (.func 49) #[] #[.pointer (some ⟨w.heap.size, 0, none⟩)]] W fun e w' => ∃ v, e = .returned v ∧ Hid (ROwn w' W.heap.size v (l.map (tow L)) ∧ Below W.heap.size W w')) :=
    Lib.hid fun W h => (rows_any A1 c1 l _ _ (tow L) W (enters_of Try.func49 (by kernel_rfl) rfl) (HA1.out.below h) (by omega) (tow_closure _ V A c L W (HG3.out.below h) hm)).mono fun _ _ ⟨x, h1, h2, h3⟩ => ⟨x, h1, Lib.hid ⟨h2, h3⟩⟩
  have B3 : Hid (Below w3.heap.size w3 w3.drew) := Lib.hid ((Below.refl _ w3).drew)
  obtain ⟨x0, x1, hxs⟩ := Bx.cells HG3.out.1
  go_wp2_with fail
  go_region_held3 (fun w' => w'.cell? ⟨w.heap.size, 0, none⟩ = some (.int .i64 V)) (first | (with_reducible assumption) | go_keep) (first
    | (go_at_call 46; refine (HQ.out _ B5.out).mono ?_; rintro e w4 ⟨x4, rfl, H4⟩; obtain ⟨X4, d4, rfl, _⟩ := H4.out.1.form; have B4 := Lib.hid (B5.out.trans (H4.out.2.mono B5.out.size)); obtain ⟨k4, l4, m4⟩ := Bx.cells (HG3.out.below B4.out).1; obtain ⟨p0, p1, p2, p3, p4, p5, q0, q1, q2, q3, q4, q5, q6⟩ := six ((B4.out.block _ (by omega)).trans HR3.out); have HE := Lib.hid (cut_end (x := x) (k := k) (V := V) HB3.out (by omega) HV3.out B4.out (rown_mono H4.out.1 B5.out.size) (rown_mono (H5.out.1.below H4.out.2) (Nat.le_of_eq (by simp))) HR3.out))
    | (go_at_call 46; refine (HQ.out _ B3.out).mono ?_; rintro e w4 ⟨x4, rfl, H4⟩; obtain ⟨X4, d4, rfl, _⟩ := H4.out.1.form; have B4 := Lib.hid (B3.out.trans H4.out.2); obtain ⟨k4, l4, m4⟩ := Bx.cells (HG3.out.below B4.out).1)
    | (go_at_call 46; refine (HP.out _ B4.out).mono ?_; rintro e w5 ⟨x5, rfl, H5⟩; obtain ⟨X5, d5, rfl, _⟩ := H5.out.1.form; have B5 := Lib.hid (B4.out.trans (H5.out.2.mono B4.out.size)); obtain ⟨k5, l5, m5⟩ := Bx.cells (HG3.out.below B5.out).1; obtain ⟨p0, p1, p2, p3, p4, p5, q0, q1, q2, q3, q4, q5, q6⟩ := six ((B5.out.block _ (by omega)).trans HR3.out); have HE := Lib.hid (cut_end (x := x) (k := k) (V := V) HB3.out (by omega) HV3.out B5.out (rown_mono (H4.out.1.below H5.out.2) (Nat.le_of_eq (by simp))) (rown_mono H5.out.1 B4.out.size) HR3.out))
    | (go_at_call 46; refine (HP.out _ B3.out).mono ?_; rintro e w5 ⟨x5, rfl, H5⟩; obtain ⟨X5, d5, rfl, _⟩ := H5.out.1.form; have B5 := Lib.hid (B3.out.trans H5.out.2); obtain ⟨k5, l5, m5⟩ := Bx.cells (HG3.out.below B5.out).1))
  all_goals
    rename Hid (CutEnd _ _ _ _ _ _ _ _ _ _ _) => HE
    clear p0 p1 p2 p3 p4 p5 q0 q1 q2 q3 q4 q5 q6 k4 l4 m4 k5 l5 m5 x0 x1 hxs B3 B4 B5 H4 H5 HQ HP
    go_wp2
    have h := HE.out
    simp only [List.length_map] at h
    obtain ⟨h1, h2, h3⟩ := h
    unfold put6 at h1 h2 h3
    refine bodyPost_ret (v := .agg #[.int .i64 x, .int .i64 k, .int .i64 V, .slice A1 l.length c1, .slice X4 l.length d4, .slice X5 l.length d5]) (res_p _ _ _ _ _ _ _ _ _ _ _ Try.results32 rfl h1) rfl ⟨_, rfl, h2, h3⟩

end Go.Proofs.Ytjcgejbggmpikaa.Pt
