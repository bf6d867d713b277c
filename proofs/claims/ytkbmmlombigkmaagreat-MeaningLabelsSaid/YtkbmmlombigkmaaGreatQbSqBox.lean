/-
  What is proved here: boxes of six cells: what they read, what they hold behind a store of all six, and as a function's result. No condition.
-/
import Derived.Test.YtkbmmlombigkmaaGreatQbSqMem
namespace Go.Proofs.YtkbmmlombigkmaaGreat.Sq
open Go.RowKit Gr Wd Ws Fx Rk Lb Al In
theorem six {w : World} {b : Nat} {T : TypeId} {a0 a1 a2 a3 a4 a5 : Value} (h : w.heap[b]? = some (.cells #[a0, a1, a2, a3, a4, a5] T (0, 0))) :
    w.cell? ⟨b, 0, none⟩ = some a0 ∧ w.cell? ⟨b, 1, none⟩ = some a1 ∧ w.cell? ⟨b, 2, none⟩ = some a2 ∧ w.cell? ⟨b, 3, none⟩ = some a3 ∧ w.cell? ⟨b, 4, none⟩ = some a4 ∧ w.cell? ⟨b, 5, none⟩ = some a5 ∧ b < w.heap.size :=
  ⟨by rw [Lib.cell_of_heap h]; rfl, by rw [Lib.cell_of_heap h]; rfl, by rw [Lib.cell_of_heap h]; rfl, by rw [Lib.cell_of_heap h]; rfl, by rw [Lib.cell_of_heap h]; rfl, by rw [Lib.cell_of_heap h]; rfl, lt_of_block h⟩
theorem set_heap {w : World} {b i : Nat} {T : TypeId} {c : Array Value} (h : w.heap[b]? = some (.cells c T (0, 0))) (u : Value) : (w.setCell ⟨b, i, none⟩ u).heap[b]? = some (.cells (c.setIfInBounds i u) T (0, 0)) := heap_setCell_same w b i c T u h
theorem set_other (w : World) (b i k : Nat) (u : Value) (hk : k ≠ b) : (w.setCell ⟨b, i, none⟩ u).heap[k]? = w.heap[k]? := Below.heap_setCell w ⟨b, i, none⟩ u k hk
theorem own_moved {w w' : World} {b B n s : Nat} {T : TypeId} {v : Value} {xs : List Value} {c : Array Value} {T' : TypeId} (h : w.ownsRow B T s v n xs) (hb : w.heap[b]? = some (.cells c T' (0, 0))) (hT : T ≠ T') (ho : ∀ k, k ≠ b → w'.heap[k]? = w.heap[k]?) : w'.ownsRow B T s v n xs :=
  own_kept h fun g c' fz _ hc => ho g fun e => by
    subst e; rw [hb] at hc; injection hc with hc; injection hc with _ hc _
    exact hT hc.symm
theorem EachM.moved {w w' : World} {b B : Nat} {xs : List Value} {Ls : List (List Ms)} {c : Array Value} {T' : TypeId} (h : EachM w B xs Ls) (hb : w.heap[b]? = some (.cells c T' (0, 0))) (hT : 155 ≠ T') (ho : ∀ k, k ≠ b → w'.heap[k]? = w.heap[k]?) : EachM w' B xs Ls :=
  ⟨h.1, fun k L hk => by obtain ⟨x, h1, h2⟩ := h.2 k L hk; exact ⟨x, h1, own_moved h2 hb hT ho⟩⟩
theorem EachW.moved {w w' : World} {b B : Nat} {xs : List Value} {Ls : List Eg} {c : Array Value} {T' : TypeId} (h : EachW w B xs Ls) (hb : w.heap[b]? = some (.cells c T' (0, 0))) (hT : 33 ≠ T') (ho : ∀ k, k ≠ b → w'.heap[k]? = w.heap[k]?) : EachW w' B xs Ls :=
  ⟨h.1, fun k L hk => by obtain ⟨x, y, h1, h2, h3, h4⟩ := h.2 k L hk; exact ⟨x, y, h1, h2, own_moved h3 hb hT ho, own_moved h4 hb hT ho⟩⟩
theorem WOwn.moved {w w' : World} {b B : Nat} {v : Value} {Ls : List Eg} {c : Array Value} {T' : TypeId} (h : WOwn w B v Ls) (hb : w.heap[b]? = some (.cells c T' (0, 0))) (hT : 103 ≠ T') (hT2 : 33 ≠ T') (ho : ∀ k, k ≠ b → w'.heap[k]? = w.heap[k]?) : WOwn w' B v Ls := by
  obtain ⟨xs, h1, h2⟩ := h
  exact ⟨xs, own_moved h1 hb hT ho, h2.moved hb hT2 ho⟩
theorem ROwn.moved {w w' : World} {b B : Nat} {v : Value} {Ls : List (List Ms)} {c : Array Value} {T' : TypeId} (h : ROwn w B v Ls) (hb : w.heap[b]? = some (.cells c T' (0, 0))) (hT : 133 ≠ T') (hT2 : 155 ≠ T') (ho : ∀ k, k ≠ b → w'.heap[k]? = w.heap[k]?) : ROwn w' B v Ls := by
  obtain ⟨xs, h1, h2⟩ := h
  exact ⟨xs, own_moved h1 hb hT ho, h2.moved hb hT2 ho⟩
end Go.Proofs.YtkbmmlombigkmaaGreat.Sq
