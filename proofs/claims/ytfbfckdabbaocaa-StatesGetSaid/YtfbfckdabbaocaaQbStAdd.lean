/-
  What is proved here: what append to a part's rows, and a store into its box, keep; a contract of (*Part).add. Condition: fewer than 10^9 vertices.
-/
import Derived.Test.YtfbfckdabbaocaaQbStW2x
import Derived.Test.YtfbfckdabbaocaaQbStTl
import Derived.Test.YtfbfckdabbaocaaQbSqErx
namespace Go.Proofs.Ytfbfckdabbaocaa.St
open Go.RowKit Gr Wd Ws Fx Rk Lb Al In
open Sq (BAt BOwn QOwn bls own_other box_other own_grown app_q app_b own_moved set_other)
def R4 (w : World) (B : Nat) (vo vv vc vi : Value) (p : Pr) : Prop := IOwn w B vo p.own ∧ QOwn w B vv p.vals ∧ BOwn w B vc p.chg ∧ KOwn w B vi p.inb
theorem R4.alloc {w : World} {B : Nat} {vo vv vc vi : Value} {p : Pr} (h : R4 w B vo vv vc vi p) (o : Obj) : R4 (w.alloc o) B vo vv vc vi p := ⟨h.1.alloc o, World.ownsRow.alloc h.2.1 o, World.ownsRow.alloc h.2.2.1 o, h.2.2.2.alloc o⟩
theorem R4.below {w w' : World} {B : Nat} {vo vv vc vi : Value} {p : Pr} (h : R4 w B vo vv vc vi p) (hb : Below w.heap.size w w') : R4 w' B vo vv vc vi p := ⟨h.1.below hb, h.2.1.below hb, h.2.2.1.below hb, h.2.2.2.below hb⟩
def Off (T : TypeId) : Prop := 3 ≠ T ∧ 2 ≠ T ∧ 4 ≠ T ∧ 61 ≠ T
structure Bx4 (T : TypeId) (B0 w0B : Nat) (w0 w : World) (b B : Nat) (cs : Array Value) (vo vv vc vi : Value) (p : Pr) : Prop where
  box : w.heap[b]? = some (.cells cs T (0, 0))
  rows : R4 w B vo vv vc vi p
  below : Below B0 w0 w
  lo : B0 ≤ b ∧ B0 ≤ B ∧ B0 ≤ w.heap.size ∧ B ≤ w.heap.size ∧ w0B = w0B
  kept : ∀ k, k < B → k ≠ b → w.heap[k]? = w0.heap[k]?
section
variable {T : TypeId} {B0 z : Nat} {w0 w w2 : World} {b B : Nat} {cs : Array Value} {vo vv vc vi v' : Value} {p : Pr}
theorem Bx4.alloc (h : Bx4 T B0 z w0 w b B cs vo vv vc vi p) (o : Obj) : Bx4 T B0 z w0 (w.alloc o) b B cs vo vv vc vi p :=
  ⟨(Below.heap_alloc w o b (by have := lt_of_block h.box; omega)).trans h.box, h.rows.alloc o, h.below.alloc h.lo.2.2.1 o, ⟨h.lo.1, h.lo.2.1, by have := h.lo.2.2.1; simp; omega, by have := h.lo.2.2.2.1; simp; omega, rfl⟩, fun k hk hb => (Below.heap_alloc w o k (by have := h.lo.2.2.2.1; omega)).trans (h.kept k hk hb)⟩
theorem Bx4.step (h : Bx4 T B0 z w0 w b B cs vo vv vc vi p) (hb : Below w.heap.size w w2) : Bx4 T B0 z w0 w2 b B cs vo vv vc vi p :=
  ⟨keep h.box hb, h.rows.below hb, step_below h.below h.lo.2.2.1 hb, ⟨h.lo.1, h.lo.2.1, Nat.le_trans h.lo.2.2.1 hb.size, Nat.le_trans h.lo.2.2.2.1 hb.size, rfl⟩, fun k hk hn => (hb.block k (by have := h.lo.2.2.2.1; omega)).trans (h.kept k hk hn)⟩
theorem Bx4.put (hT : Off T) (h : Bx4 T B0 z w0 w b B cs vo vv vc vi p) (i : Nat) (u : Value) : Bx4 T B0 z w0 (w.setCell ⟨b, i, none⟩ u) b B (cs.setIfInBounds i u) vo vv vc vi p := by
  have ho : ∀ k, k ≠ b → (w.setCell ⟨b, i, none⟩ u).heap[k]? = w.heap[k]? := fun _ hk => set_other _ _ _ _ _ hk
  have hz : (w.setCell ⟨b, i, none⟩ u).heap.size = w.heap.size := by simp
  exact ⟨heap_setCell_same w b i cs T u h.box, ⟨own_moved h.rows.1 h.box hT.1 ho, own_moved h.rows.2.1 h.box hT.2.1 ho, own_moved h.rows.2.2.1 h.box hT.2.2.1 ho, own_moved h.rows.2.2.2 h.box hT.2.2.2 ho⟩, h.below.setCell (p := ⟨b, i, none⟩) h.lo.1 u, ⟨h.lo.1, h.lo.2.1, by rw [hz]; exact h.lo.2.2.1, by rw [hz]; exact h.lo.2.2.2.1, rfl⟩, fun k hk hn => (ho k hn).trans (h.kept k hk hn)⟩
theorem Bx4.appI (hT : Off T) (h : Bx4 T B0 z w0 w b B cs vo vv vc vi p) {x : Int} (ho : IOwn w2 B v' (p.own ++ [x])) (hg : w.grownBy w2 vo.ownBlock) : Bx4 T B0 z w0 w2 b B cs v' vv vc vi { p with own := p.own ++ [x] } :=
  ⟨box_other h.box h.rows.1 hT.1.symm hg, ⟨ho, own_other h.rows.2.1 h.rows.1 (by decide) hg, own_other h.rows.2.2.1 h.rows.1 (by decide) hg, own_other h.rows.2.2.2 h.rows.1 (by decide) hg⟩, h.below.trans (own_grown h.rows.1 hg h.lo.2.1 h.lo.2.2.1), ⟨h.lo.1, h.lo.2.1, Nat.le_trans h.lo.2.2.1 hg.size, Nat.le_trans h.lo.2.2.2.1 hg.size, rfl⟩, fun k hk hn => (hg.block k (by have := h.lo.2.2.2.1; omega) fun e => by have := (own_lt h.rows.1 k e.symm).1; omega).trans (h.kept k hk hn)⟩
theorem Bx4.appQ (hT : Off T) (h : Bx4 T B0 z w0 w b B cs vo vv vc vi p) {x : Int} (ho : QOwn w2 B v' (p.vals ++ [x])) (hg : w.grownBy w2 vv.ownBlock) : Bx4 T B0 z w0 w2 b B cs vo v' vc vi { p with vals := p.vals ++ [x] } :=
  ⟨box_other h.box h.rows.2.1 hT.2.1.symm hg, ⟨own_other h.rows.1 h.rows.2.1 (by decide) hg, ho, own_other h.rows.2.2.1 h.rows.2.1 (by decide) hg, own_other h.rows.2.2.2 h.rows.2.1 (by decide) hg⟩, h.below.trans (own_grown h.rows.2.1 hg h.lo.2.1 h.lo.2.2.1), ⟨h.lo.1, h.lo.2.1, Nat.le_trans h.lo.2.2.1 hg.size, Nat.le_trans h.lo.2.2.2.1 hg.size, rfl⟩, fun k hk hn => (hg.block k (by have := h.lo.2.2.2.1; omega) fun e => by have := (own_lt h.rows.2.1 k e.symm).1; omega).trans (h.kept k hk hn)⟩
theorem Bx4.appB (hT : Off T) (h : Bx4 T B0 z w0 w b B cs vo vv vc vi p) {x : Bool} (ho : BOwn w2 B v' (p.chg ++ [x])) (hg : w.grownBy w2 vc.ownBlock) : Bx4 T B0 z w0 w2 b B cs vo vv v' vi { p with chg := p.chg ++ [x] } :=
  ⟨box_other h.box h.rows.2.2.1 hT.2.2.1.symm hg, ⟨own_other h.rows.1 h.rows.2.2.1 (by decide) hg, own_other h.rows.2.1 h.rows.2.2.1 (by decide) hg, ho, own_other h.rows.2.2.2 h.rows.2.2.1 (by decide) hg⟩, h.below.trans (own_grown h.rows.2.2.1 hg h.lo.2.1 h.lo.2.2.1), ⟨h.lo.1, h.lo.2.1, Nat.le_trans h.lo.2.2.1 hg.size, Nat.le_trans h.lo.2.2.2.1 hg.size, rfl⟩, fun k hk hn => (hg.block k (by have := h.lo.2.2.2.1; omega) fun e => by have := (own_lt h.rows.2.2.1 k e.symm).1; omega).trans (h.kept k hk hn)⟩
theorem Bx4.appK (hT : Off T) (h : Bx4 T B0 z w0 w b B cs vo vv vc vi p) {x : Ml} (ho : KOwn w2 B v' (p.inb ++ [x])) (hg : w.grownBy w2 vi.ownBlock) : Bx4 T B0 z w0 w2 b B cs vo vv vc v' { p with inb := p.inb ++ [x] } :=
  ⟨box_other h.box h.rows.2.2.2 hT.2.2.2.symm hg, ⟨own_other h.rows.1 h.rows.2.2.2 (by decide) hg, own_other h.rows.2.1 h.rows.2.2.2 (by decide) hg, own_other h.rows.2.2.1 h.rows.2.2.2 (by decide) hg, ho⟩, h.below.trans (own_grown h.rows.2.2.2 hg h.lo.2.1 h.lo.2.2.1), ⟨h.lo.1, h.lo.2.1, Nat.le_trans h.lo.2.2.1 hg.size, Nat.le_trans h.lo.2.2.2.1 hg.size, rfl⟩, fun k hk hn => (hg.block k (by have := h.lo.2.2.2.1; omega) fun e => by have := (own_lt h.rows.2.2.2 k e.symm).1; omega).trans (h.kept k hk hn)⟩
theorem kept_app {T' e : TypeId} {s n B1 : Nat} {v : Value} {xs : List Value} {k : Nat} {c : Array Value} (hc : w.heap[k]? = some (.cells c T' (0, 0))) (hv : w.ownsRow B1 e s v n xs) (hT : e ≠ T') (hg : w.grownBy w2 v.ownBlock) : w2.heap[k]? = some (.cells c T' (0, 0)) := box_other hc hv hT.symm hg
theorem kept_put {T' : TypeId} {k i : Nat} {u : Value} {c c' : Array Value} (hc : w.heap[k]? = some (.cells c T' (0, 0))) (hb : w.heap[b]? = some (.cells c' T (0, 0))) (hT : T' ≠ T) : (w.setCell ⟨b, i, none⟩ u).heap[k]? = some (.cells c T' (0, 0)) :=
  (set_other _ _ _ _ _ fun e => by subst e; rw [hb] at hc; injection hc with hc; injection hc with _ hc _; exact hT hc.symm).trans hc
end
theorem offP : Off 27 := ⟨by decide, by decide, by decide, by decide⟩
set_option maxRecDepth 100000 in
set_option maxHeartbeats 4000000 in
theorem add_any (b B B0 : Nat) (p : Pr) (v x : Int) (c h : Bool) (y : Int) (w : World) (hp : PBx 27 w b B p) (h0 : B0 ≤ b) (h1 : B0 ≤ B) (h2 : B ≤ w.heap.size) (n1 : p.own.length < 1000000000) (n2 : p.vals.length < 1000000000) (n3 : p.chg.length < 1000000000) (n4 : p.inb.length < 1000000000) :
    Calls Try.prog 45 #[.pointer (some ⟨b, 0, none⟩), .int .i64 v, .int .i64 x, .bool c, .agg #[.bool h, .int .i64 y]] w fun e w' => e = .returned (.tuple #[]) ∧ Hid (PBx 27 w' b B (addE p ⟨v, x, c, (h, y)⟩) ∧ Below B0 w w' ∧ B ≤ w'.heap.size ∧ ∀ k, k < B → k ≠ b → w'.heap[k]? = w.heap[k]?) := by
  have mixed := mixedI
  obtain ⟨vo, vv, vc, vi, hb, r1, r2, r3, r4⟩ := hp
  obtain ⟨st, hst⟩ : ∃ st, p.st = st := ⟨_, rfl⟩
  rw [hst] at hb
  have X0 : Bx4 27 B0 0 w w b B #[.int .i64 st, vo, vv, vc, vi] vo vv vc vi p := ⟨hb, ⟨r1, r2, r3, r4⟩, Below.refl _ _, ⟨h0, h1, by omega, h2, rfl⟩, fun _ _ _ => rfl⟩
  have X1 := X0.alloc (.cells #[.bool h, .int .i64 y] 61)
  have m1 := heap_alloc_new w (.cells #[.bool h, .int .i64 y] 61)
  obtain ⟨W1, hW1⟩ : ∃ W1, W1 = w.alloc (.cells #[.bool h, .int .i64 y] 61) := ⟨_, rfl⟩
  obtain ⟨bm, hbm⟩ : ∃ bm, bm = w.heap.size := ⟨_, rfl⟩
  rw [← hW1] at X1 m1
  rw [← hbm] at m1
  have HX1 := Lib.hid X1; have HM1 := Lib.hid m1
  have HST := Lib.hid hst
  have HVB : Hid (∀ g, vi.ownBlock = some g → g = bm → False) := Lib.hid (by
    intro g hg e
    obtain ⟨_, c1, hc1⟩ := own_lt r4 g hg
    have := lt_of_block hc1
    omega)
  clear X0 X1 m1 hb r1 r2 r3 r4 hst h0 h1 h2
  obtain ⟨c0, c1, c2, c3, c4, _⟩ := five HX1.out.box
  go_enter Try.func45, Try.ntmps45
  go_upto_region 1 with fail
  rw [← hW1, show w.heap.size = bm from hbm.symm]
  clear hW1 hbm
  have HA := Lib.hid (HX1.out.alloc (.cells #[.int .i64 v] 3))
  have HN := Lib.hid (heap_alloc_new W1 (.cells #[.int .i64 v] 3))
  have HMA := Lib.hid ((Below.heap_alloc W1 (.cells #[.int .i64 v] 3) bm (by have := lt_of_block HM1.out; omega)).trans HM1.out)
  go_wp2_with (at_builtin; refine app_i rfl (.tmp 14) (.tmp 16) rfl B _ _ v rfl HA.out.rows.1 _ rfl HN.out n1 HA.out.lo.2.2.2.1 ?_)
  intro vo' w2 ho2 hg2
  have hx2 := HA.out.appI offP ho2 hg2
  have hm2 := kept_app HMA.out HA.out.rows.1 (by decide) hg2
  obtain ⟨F0, N0, f0, rfl⟩ : ∃ F N f, vo' = .slice F N f := by
    obtain ⟨F, f, e, _⟩ := IOwn.form ho2
    exact ⟨F, _, f, e⟩
  have HXt := Lib.hid hx2
  have HMt := Lib.hid hm2
  clear ho2 hg2 hx2 hm2 HX1 HA HN HM1 HMA c0 c1 c2 c3 c4
  obtain ⟨c0, c1, c2, c3, c4, _⟩ := five HXt.out.box
  have fz : w2.frozen? ⟨b, 1, none⟩ = false := Lib.frozen_of_heap HXt.out.box _
  obtain ⟨w3, hw3⟩ : ∃ W, W = w2.setCell ⟨b, 1, none⟩ (.slice F0 N0 f0) := ⟨_, rfl⟩
  have HX2 := Lib.hid (HXt.out.put offP 1 (.slice F0 N0 f0))
  have HM2 := Lib.hid (kept_put (i := 1) (u := .slice F0 N0 f0) HMt.out HXt.out.box (by decide))
  rw [← hw3] at HX2 HM2
  go_upto_region 2 with fail
  rw [← hw3]
  clear hw3 HXt HMt fz c0 c1 c2 c3 c4
  obtain ⟨c0, c1, c2, c3, c4, _⟩ := five HX2.out.box
  have HA := Lib.hid (HX2.out.alloc (.cells #[.int .i64 x] 2))
  have HN := Lib.hid (heap_alloc_new w3 (.cells #[.int .i64 x] 2))
  have HMA := Lib.hid ((Below.heap_alloc w3 (.cells #[.int .i64 x] 2) bm (by have := lt_of_block HM2.out; omega)).trans HM2.out)
  go_wp2_with (at_builtin; refine app_q rfl (.tmp 24) (.tmp 26) rfl B _ _ x rfl HA.out.rows.2.1 _ rfl HN.out n2 HA.out.lo.2.2.2.1 ?_)
  intro vv' w2 ho2 hg2
  have hx2 := HA.out.appQ offP ho2 hg2
  have hm2 := kept_app HMA.out HA.out.rows.2.1 (by decide) hg2
  obtain ⟨F1, N1, f1, rfl⟩ : ∃ F N f, vv' = .slice F N f := by
    obtain ⟨F, f, e, _⟩ := Sq.QOwn.form ho2
    exact ⟨F, _, f, e⟩
  have HXt := Lib.hid hx2
  have HMt := Lib.hid hm2
  clear ho2 hg2 hx2 hm2 HX2 HA HN HM2 HMA c0 c1 c2 c3 c4
  obtain ⟨c0, c1, c2, c3, c4, _⟩ := five HXt.out.box
  have fz : w2.frozen? ⟨b, 2, none⟩ = false := Lib.frozen_of_heap HXt.out.box _
  obtain ⟨w5, hw5⟩ : ∃ W, W = w2.setCell ⟨b, 2, none⟩ (.slice F1 N1 f1) := ⟨_, rfl⟩
  have HX3 := Lib.hid (HXt.out.put offP 2 (.slice F1 N1 f1))
  have HM3 := Lib.hid (kept_put (i := 2) (u := .slice F1 N1 f1) HMt.out HXt.out.box (by decide))
  rw [← hw5] at HX3 HM3
  go_upto_region 3 with fail
  rw [← hw5]
  clear hw5 HXt HMt fz c0 c1 c2 c3 c4
  obtain ⟨c0, c1, c2, c3, c4, _⟩ := five HX3.out.box
  have HA := Lib.hid (HX3.out.alloc (.cells #[.bool c] 4))
  have HN := Lib.hid (heap_alloc_new w5 (.cells #[.bool c] 4))
  have HMA := Lib.hid ((Below.heap_alloc w5 (.cells #[.bool c] 4) bm (by have := lt_of_block HM3.out; omega)).trans HM3.out)
  go_wp2_with (at_builtin; refine app_b rfl (.tmp 34) (.tmp 36) rfl B _ _ c rfl HA.out.rows.2.2.1 _ rfl HN.out n3 HA.out.lo.2.2.2.1 ?_)
  intro vc' w2 ho2 hg2
  have hx2 := HA.out.appB offP ho2 hg2
  have hm2 := kept_app HMA.out HA.out.rows.2.2.1 (by decide) hg2
  obtain ⟨F2, N2, f2, rfl⟩ : ∃ F N f, vc' = .slice F N f := by
    obtain ⟨F, f, e, _⟩ := Sq.BOwn.form ho2
    exact ⟨F, _, f, e⟩
  have HXt := Lib.hid hx2
  have HMt := Lib.hid hm2
  clear ho2 hg2 hx2 hm2 HX3 HA HN HM3 HMA c0 c1 c2 c3 c4
  obtain ⟨c0, c1, c2, c3, c4, _⟩ := five HXt.out.box
  have fz : w2.frozen? ⟨b, 3, none⟩ = false := Lib.frozen_of_heap HXt.out.box _
  obtain ⟨w7, hw7⟩ : ∃ W, W = w2.setCell ⟨b, 3, none⟩ (.slice F2 N2 f2) := ⟨_, rfl⟩
  have HX4 := Lib.hid (HXt.out.put offP 3 (.slice F2 N2 f2))
  have HM4 := Lib.hid (kept_put (i := 3) (u := .slice F2 N2 f2) HMt.out HXt.out.box (by decide))
  rw [← hw7] at HX4 HM4
  go_upto_region 4 with fail
  rw [← hw7]
  clear hw7 c0 c1 c2 c3 c4 fz
  obtain ⟨c0, c1, c2, c3, c4, _⟩ := five HX4.out.box
  obtain ⟨m0, m1, _⟩ := ml_cells HM4.out
  have hbd : Below w7.heap.size w7 w7.drew := (Below.refl _ w7).drew
  have HXd := Lib.hid (HX4.out.step hbd)
  have HMd := Lib.hid (keep HM4.out hbd)
  have HC : Hid (Calls Try.prog 69 #[.agg #[.bool h, .int .i64 y]] w7.drew fun e w' => ∃ r, e = .returned r ∧ (r = .agg #[.bool (nrmL (h, y)).1, .int .i64 (nrmL (h, y)).2] ∧ Below w7.drew.heap.size w7.drew w')) := Lib.hid ((told_any h y w7.drew).mono (by rintro e w' ⟨rfl, hb⟩; exact ⟨_, rfl, rfl, hb.out⟩))
  obtain ⟨r1, hr1⟩ : ∃ r1, (nrmL (h, y)).1 = r1 := ⟨_, rfl⟩
  obtain ⟨r2, hr2⟩ : ∃ r2, (nrmL (h, y)).2 = r2 := ⟨_, rfl⟩
  have HNR : Hid (nrmL (h, y) = (r1, r2)) := Lib.hid (by rw [← hr1, ← hr2])
  rw [hr1, hr2] at HC
  have HSW : Hid (∀ W : World, Below w7.drew.heap.size w7.drew W → (W.cell? ⟨b, 4, none⟩ = some vi ∧ W.cell? ⟨bm, 0, none⟩ = some (.bool h) ∧ W.cell? ⟨bm, 1, none⟩ = some (.int .i64 y))) := Lib.hid (by
    intro W hb
    obtain ⟨_, _, _, _, e4, _⟩ := five (HXd.out.step hb).box
    obtain ⟨e5, e6, _⟩ := ml_cells (keep HMd.out hb)
    exact ⟨e4, e5, e6⟩)
  clear hr1 hr2 m0 m1 hbd c0 c1 c2 c3 c4
  have hS := HSW.out _ (Below.refl _ w7.drew)
  refine Tl.headX_region (S := (fun W : World => W.cell? ⟨b, 4, none⟩ = some vi ∧ W.cell? ⟨bm, 0, none⟩ = some (.bool h) ∧ W.cell? ⟨bm, 1, none⟩ = some (.int .i64 y))) 10 mixed (by decide) ?_
  try dsimp only
  refine Tl.headX_tk 0 ?v0_1 rfl (by kernel_rfl) (by decide) (by kernel_rfl) (by kernel_rfl) (by kernel_rfl) (fun _ _ _ h => h) (by rfl) (fun W hSw => ?hy0_1) hS ?_
  case hy0_1 => ((try dsimp only at hSw); go_simp; try with_reducible rfl)
  simp only [Act.put, List.setIfInBounds_toArray, List.set_cons_zero, List.set_cons_succ]
  refine Tl.headX_tk 1 ?v1_2 rfl (by kernel_rfl) (by decide) (by kernel_rfl) (by kernel_rfl) (by kernel_rfl) (fun _ _ _ h => h) (by rfl) (fun W hSw => ?hy1_2) hS ?_
  case hy1_2 => ((try dsimp only at hSw); go_simp; try with_reducible rfl)
  simp only [Act.put, List.setIfInBounds_toArray, List.set_cons_zero, List.set_cons_succ]
  refine Tl.headX_tk 2 ?v2_3 rfl (by kernel_rfl) (by decide) (by kernel_rfl) (by kernel_rfl) (by kernel_rfl) (fun _ _ _ h => h) (by rfl) (fun W hSw => ?hy2_3) hS ?_
  case hy2_3 => ((try dsimp only at hSw); go_simp; try with_reducible rfl)
  simp only [Act.put, List.setIfInBounds_toArray, List.set_cons_zero, List.set_cons_succ]
  refine Tl.headX_tk 3 ?v3_4 rfl (by kernel_rfl) (by decide) (by kernel_rfl) (by kernel_rfl) (by kernel_rfl) (fun _ _ _ h => h) (by rfl) (fun W hSw => ?hy3_4) hS ?_
  case hy3_4 => ((try dsimp only at hSw); go_simp; try with_reducible rfl)
  simp only [Act.put, List.setIfInBounds_toArray, List.set_cons_zero, List.set_cons_succ]
  refine Tl.headX_tk 4 ?v4_5 rfl (by kernel_rfl) (by decide) (by kernel_rfl) (by kernel_rfl) (by kernel_rfl) (fun _ _ _ h => h) (by rfl) (fun W hSw => ?hy4_5) hS ?_
  case hy4_5 => ((try dsimp only at hSw); go_simp; try with_reducible rfl)
  simp only [Act.put, List.setIfInBounds_toArray, List.set_cons_zero, List.set_cons_succ]
  refine Tl.headX_tk 5 ?v5_6 rfl (by kernel_rfl) (by decide) (by kernel_rfl) (by kernel_rfl) (by kernel_rfl) (fun _ _ _ h => h) (by rfl) (fun W hSw => ?hy5_6) hS ?_
  case hy5_6 => ((try dsimp only at hSw); go_simp; try with_reducible rfl)
  simp only [Act.put, List.setIfInBounds_toArray, List.set_cons_zero, List.set_cons_succ]
  refine Tl.headX_cl 6 _ _ rfl (by decide) (by kernel_rfl) (by rfl) ?he6 HC.out ?_
  case he6 => (go_simp; try with_reducible rfl)
  rintro r w8 ⟨rfl, hb8⟩
  have HX8 := Lib.hid (HXd.out.step hb8)
  have HS8 := Lib.hid (HSW.out _ hb8)
  have HS9 := Lib.hid (HSW.out _ (hb8.alloc hb8.size (.cells #[.bool r1, .int .i64 r2] 61)))
  have HB8 := Lib.hid hb8
  clear hS hb8
  have hS := HS8.out
  refine ⟨hS, ?_⟩
  simp only [Act.put, List.setIfInBounds_toArray, List.set_cons_zero, List.set_cons_succ]
  have HA := Lib.hid (HX8.out.alloc (.cells #[.bool r1, .int .i64 r2] 61))
  have HN := Lib.hid (heap_alloc_new w8 (.cells #[.bool r1, .int .i64 r2] 61))
  refine Tl.headX_vl 7 ?v7_8 ?w7_8 rfl (by decide) (by kernel_rfl) (by rfl) ?hy7_8 ?hs7_8 ?_
  case hy7_8 => (go_simp; first | (constructor <;> with_reducible rfl) | with_reducible rfl)
  case hs7_8 => exact HS9.out
  simp only [Act.put, List.setIfInBounds_toArray, List.set_cons_zero, List.set_cons_succ]
  refine Tl.headX_one (i := 8) (by rfl) (by decide) (by kernel_rfl) (by rfl) fun K hK => ?_
  refine xapp_k (.tmp 44) (.tmp 47) rfl B _ _ r1 r2 rfl HA.out.rows.2.2.2 _ rfl HN.out n4 HA.out.lo.2.2.2.1 ?_
  intro vi' w9 ho9 hg9
  have hx9 := HA.out.appK offP ho9 hg9
  have hm8 := keep (keep HMd.out HB8.out) ((Below.refl _ w8).alloc (Nat.le_refl _) (.cells #[.bool r1, .int .i64 r2] 61))
  have hm9 := (hg9.block bm (lt_of_block hm8) fun e => HVB.out bm e.symm rfl).trans hm8
  obtain ⟨F3, N3, f3, rfl⟩ : ∃ F N f, vi' = .slice F N f := by
    obtain ⟨F, f, e, _⟩ := KOwn.room ho9
    exact ⟨F, _, f, e⟩
  have HX9 := Lib.hid hx9
  obtain ⟨_, _, _, _, g4, _⟩ := five hx9.box
  obtain ⟨g5, g6, _⟩ := ml_cells hm9
  clear hS
  have hS : (fun W : World => W.cell? ⟨b, 4, none⟩ = some vi ∧ W.cell? ⟨bm, 0, none⟩ = some (.bool h) ∧ W.cell? ⟨bm, 1, none⟩ = some (.int .i64 y)) w9 := ⟨g4, g5, g6⟩
  refine hK (Act.put _ (some 48) _) _ hS ?_
  simp only [Act.put, List.setIfInBounds_toArray, List.set_cons_zero, List.set_cons_succ]
  refine Tl.headX_tk 9 ?v9_7 rfl (by kernel_rfl) (by decide) (by kernel_rfl) (by kernel_rfl) (by kernel_rfl) (fun _ _ _ h => h) (by rfl) (fun W hSw => ?hy9_7) hS ?_
  case hy9_7 => ((try dsimp only at hSw); go_simp; try with_reducible rfl)
  simp only [Act.put, List.setIfInBounds_toArray, List.set_cons_zero, List.set_cons_succ]
  refine Tl.headX_rest (by kernel_rfl) ?_
  simp only [List.drop_succ_cons, List.drop_zero]
  have hx10 := HX9.out.put offP 4 (.slice F3 N3 f3)
  have HP : Hid (PBx 27 (w9.setCell ⟨b, 4, none⟩ (.slice F3 N3 f3)) b B (addE p ⟨v, x, c, (h, y)⟩) ∧ Below B0 w (w9.setCell ⟨b, 4, none⟩ (.slice F3 N3 f3)) ∧ B ≤ (w9.setCell ⟨b, 4, none⟩ (.slice F3 N3 f3)).heap.size ∧ ∀ k, k < B → k ≠ b → (w9.setCell ⟨b, 4, none⟩ (.slice F3 N3 f3)).heap[k]? = w.heap[k]?) := Lib.hid (by
    refine ⟨⟨.slice F0 N0 f0, .slice F1 N1 f1, .slice F2 N2 f2, .slice F3 N3 f3, ?_, hx10.rows.1, hx10.rows.2.1, hx10.rows.2.2.1, ?_⟩, hx10.below, hx10.lo.2.2.2.1, hx10.kept⟩
    · have h1 := hx10.box
      show _ = some (Obj.cells #[.int .i64 p.st, _, _, _, _] _ (0, 0))
      rw [HST.out]; exact h1
    · have h1 := hx10.rows.2.2.2
      show KOwn _ _ _ (p.inb ++ [nrmL (h, y)])
      rw [HNR.out]; exact h1)
  clear ho9 hg9 hx9 hx10 hS hm8 hm9 g4 g5 g6 HB8 HS8 HS9 HA HN HC HSW HXd HMd HX8 HX4 HM4 HNR HST
  have fz : w9.frozen? ⟨b, 4, none⟩ = false := Lib.frozen_of_heap HX9.out.box _
  obtain ⟨c0, c1, c2, c3, c4, _⟩ := five HX9.out.box
  go_wp2
  go_end0
  exact ⟨rfl, HP⟩
end Go.Proofs.Ytfbfckdabbaocaa.St
