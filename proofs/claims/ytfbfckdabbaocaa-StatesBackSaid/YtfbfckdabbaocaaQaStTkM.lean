/-
  What is proved here: words for a state in memory and for what Take answers; a box of five cells as a result. No condition.
-/
import Derived.Test.YtfbfckdabbaocaaQaStAdd
import Derived.Test.YtfbfckdabbaocaaQaStW2
import Derived.Test.YtfbfckdabbaocaaQaPtMem
import Derived.Test.YtfbfckdabbaocaaQaPtG1x
import Derived.Outline
import Derived.IntWalk
namespace Go.Proofs.Ytfbfckdabbaocaa.St
open Go.RowKit Gr Wd Ws Fx Rk Lb Al In
open Sq (BAt BOwn QOwn bls)
open Pt (ow owned nv vs ofI vs_len ofI_range ow_mem vs_mem)
structure TAt (w : World) (Av Ac Ai : Option Addr) (nv nc ni : Nat) (s : Stt) : Prop where
  v : IAt w Av s.vals
  c : BAt w Ac s.chg
  i : KAt w Ai s.inb
  nv : s.vals.length = nv
  nc : s.chg.length = nc
  ni : s.inb.length = ni
theorem TAt.below {w w' : World} {Av Ac Ai : Option Addr} {nv nc ni : Nat} {s : Stt} (h : TAt w Av Ac Ai nv nc ni s) (hb : Below w.heap.size w w') : TAt w' Av Ac Ai nv nc ni s := ⟨h.v.below hb, h.c.below hb, h.i.below hb, h.nv, h.nc, h.ni⟩
def ResP (w w' : World) (e : Ending) (r : Pr × Int) : Prop := ∃ x, e = .returned (.tuple #[x, .int .i64 r.2]) ∧ Hid (POwn w' w.heap.size x r.1) ∧ Hid (Below w.heap.size w w')
theorem POwn.mono {w : World} {B B' : Nat} {x : Value} {p : Pr} (h : POwn w B x p) (hb : B' ≤ B) : POwn w B' x p := by
  obtain ⟨vo, vv, vc, vi, e, h1, h2, h3, h4⟩ := h
  exact ⟨vo, vv, vc, vi, e, own_mono h1 hb, own_mono h2 hb, own_mono h3 hb, h4.mono hb⟩
def put5 (w : World) (b : Nat) (u0 u1 u2 u3 u4 : Value) : World := ((((w.setCell ⟨b, 0, none⟩ u0).setCell ⟨b, 1, none⟩ u1).setCell ⟨b, 2, none⟩ u2).setCell ⟨b, 3, none⟩ u3).setCell ⟨b, 4, none⟩ u4
theorem put5_heap {w : World} {b : Nat} {T : TypeId} {a0 a1 a2 a3 a4 : Value} (h : w.heap[b]? = some (.cells #[a0, a1, a2, a3, a4] T (0, 0))) (u0 u1 u2 u3 u4 : Value) : (put5 w b u0 u1 u2 u3 u4).heap[b]? = some (.cells #[u0, u1, u2, u3, u4] T (0, 0)) := by
  have h0 := heap_setCell_same w b 0 _ T u0 h
  have h1 := heap_setCell_same _ b 1 _ T u1 h0
  have h2 := heap_setCell_same _ b 2 _ T u2 h1
  have h3 := heap_setCell_same _ b 3 _ T u3 h2
  exact heap_setCell_same _ b 4 _ T u4 h3
theorem put5_other (w : World) (b k : Nat) (u0 u1 u2 u3 u4 : Value) (hk : k ≠ b) : (put5 w b u0 u1 u2 u3 u4).heap[k]? = w.heap[k]? := by
  unfold put5
  rw [Sq.set_other _ _ _ _ _ hk, Sq.set_other _ _ _ _ _ hk, Sq.set_other _ _ _ _ _ hk, Sq.set_other _ _ _ _ _ hk, Sq.set_other _ _ _ _ _ hk]
theorem put5_below {B : Nat} {a w : World} (h : Below B a w) {b : Nat} (hb : B ≤ b) (u0 u1 u2 u3 u4 : Value) : Below B a (put5 w b u0 u1 u2 u3 u4) :=
  ((((h.setCell (p := ⟨b, 0, none⟩) hb u0).setCell (p := ⟨b, 1, none⟩) hb u1).setCell (p := ⟨b, 2, none⟩) hb u2).setCell (p := ⟨b, 3, none⟩) hb u3).setCell (p := ⟨b, 4, none⟩) hb u4
theorem put5_rows {w : World} {b B : Nat} {T : TypeId} {c : Array Value} {x : Value} {p : Pr} (h : POwn w B x p) (hb : w.heap[b]? = some (.cells c T (0, 0))) (hT : Off T) (u0 u1 u2 u3 u4 : Value) : POwn (put5 w b u0 u1 u2 u3 u4) B x p := by
  obtain ⟨vo, vv, vc, vi, e, h1, h2, h3, h4⟩ := h
  have ho : ∀ k, k ≠ b → (put5 w b u0 u1 u2 u3 u4).heap[k]? = w.heap[k]? := fun k hk => put5_other w b k u0 u1 u2 u3 u4 hk
  exact ⟨vo, vv, vc, vi, e, Sq.own_moved h1 hb hT.1 ho, Sq.own_moved h2 hb hT.2.1 ho, Sq.own_moved h3 hb hT.2.2.1 ho, Sq.own_moved h4 hb hT.2.2.2 ho⟩
set_option maxRecDepth 100000 in
theorem res2_p (fn : Func) (c d : Nat) (tmps : Array Value) (w : World) (b : Nat) (a0 a1 a2 a3 a4 u : Value) (hr : fn.results = #[.cell c 27, .tmp d]) (ht : tmps.getD c undef = .pointer (some ⟨b, 0, none⟩)) (hd : tmps.getD d undef = u)
    (f : w.heap[b]? = some (.cells #[a0, a1, a2, a3, a4] 27 (0, 0))) : (results fn tmps).run Try.prog w = .ok (.tuple #[.agg #[a0, a1, a2, a3, a4], u]) w := by
  have ht' : tmps[c]?.getD undef = .pointer (some ⟨b, 0, none⟩) := by simpa using ht
  have hd' : tmps[d]?.getD undef = u := by simpa using hd
  obtain ⟨f0, f1, f2, f3, f4, _⟩ := five f
  simp [results, hr, ht', hd', go_sem, f0, f1, f2, f3, f4]
set_option maxRecDepth 100000 in
theorem res_r (fn : Func) (c : Nat) (tmps : Array Value) (w : World) (b : Nat) (a0 a1 a2 a3 a4 : Value) (hr : fn.results = #[.cell c 35]) (ht : tmps.getD c undef = .pointer (some ⟨b, 0, none⟩))
    (f : w.heap[b]? = some (.cells #[a0, a1, a2, a3, a4] 35 (0, 0))) : (results fn tmps).run Try.prog w = .ok (.agg #[a0, a1, a2, a3, a4]) w := by
  have ht' : tmps[c]?.getD undef = .pointer (some ⟨b, 0, none⟩) := by simpa using ht
  obtain ⟨f0, f1, f2, f3, f4, _⟩ := five f
  simp [results, hr, ht', go_sem, f0, f1, f2, f3, f4]
end Go.Proofs.Ytfbfckdabbaocaa.St
