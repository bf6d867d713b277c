/-
  What is proved here: a contract of what keeps a graph's edges by vertices. Conditions: at most 512 vertices, at most 1000 edges.
-/
import Derived.Test.YtkbmmlombigkmaaGreatQbSqBox
import Derived.Test.YtkbmmlombigkmaaGreatQbTlIn
import Derived.Deep.RegionHeld3
namespace Go.Proofs.YtkbmmlombigkmaaGreat.Sq
open Go.RowKit Gr Wd Ws Fx Rk Lb Al In
structure CoH (w wr : World) (b0 b2 b3 : Nat) (k st so dm ep : Int) (V : Int) (A : Option Addr) (n c : Nat) (Ls : List Eg) (v u : Value) : Prop where
  below : Below w.heap.size w wr
  gb : wr.heap[b0]? = some (.cells #[.int .i64 V, .slice A n c] 24 (0, 0))
  rb : wr.heap[b2]? = some (.cells #[.int .u8 0, .int .i64 0, .int .i64 0, .int .i64 0, .int .i64 0, .slice none 0 0] 71 (0, 0))
  cb : wr.heap[b3]? = some (.cells #[.int .u8 k, .int .i64 st, .int .i64 so, .int .i64 dm, .int .i64 ep, v] 71 (0, 0))
  own : WOwn wr (b3 + 1) u Ls
section
variable {w wr w' : World} {b0 b2 b3 n c : Nat} {k st so dm ep V : Int} {A : Option Addr} {Ls Ls' : List Eg} {v u u' : Value}
theorem CoH.step (h : CoH w wr b0 b2 b3 k st so dm ep V A n c Ls v u) (hb : Below wr.heap.size wr w') : CoH w w' b0 b2 b3 k st so dm ep V A n c Ls v u :=
  ⟨step_below h.below h.below.size hb, keep h.gb hb, keep h.rb hb, keep h.cb hb, h.own.below hb⟩
theorem CoH.grown (h : CoH w wr b0 b2 b3 k st so dm ep V A n c Ls v u) (hg : wr.grownBy w' u.ownBlock) (hl : w.heap.size ≤ b3 + 1) (ho : WOwn w' (b3 + 1) u' Ls') : CoH w w' b0 b2 b3 k st so dm ep V A n c Ls' v u' := by
  obtain ⟨xs, h1, _⟩ := h.own
  exact ⟨h.below.trans (own_grown h1 hg hl h.below.size), box_other h.gb h1 (by decide) hg, box_other h.rb h1 (by decide) hg, box_other h.cb h1 (by decide) hg, ho⟩
theorem CoH.put (h : CoH w wr b0 b2 b3 k st so dm ep V A n c Ls v u) (hl : w.heap.size ≤ b3) (h0 : b0 ≠ b3) (h2 : b2 ≠ b3) : CoH w (wr.setCell ⟨b3, 5, none⟩ u) b0 b2 b3 k st so dm ep V A n c Ls u u :=
  ⟨h.below.setCell (p := ⟨b3, 5, none⟩) hl u, (set_other _ _ _ _ _ h0).trans h.gb, (set_other _ _ _ _ _ h2).trans h.rb, set_heap (i := 5) h.cb u, h.own.moved h.cb (by decide) (by decide) (fun k hk => set_other _ _ _ _ _ hk)⟩
end
end Go.Proofs.YtkbmmlombigkmaaGreat.Sq
