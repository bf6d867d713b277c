/-
  What is proved here: contracts of what tells whether a state may be: the program's and the document's. Conditions: counts fit an int. What is proved here: boxes of six cells: what they read, what they hold behind a store of all six, and as a function's result. No condition.
-/
import Derived.Test.YtfbfckdabbaocaaQaSqMem
namespace Go.Proofs.Ytfbfckdabbaocaa.Sq
open Go.RowKit Gr Wd Ws Fx Rk Lb Al In
def AyRel (w : World) {α : Type} (p : α → Bool) (l : List α) (gk : Nat) (i : Value) (wr : World) : Prop :=
  ∃ q : Nat, q + gk = l.length ∧ i = .int .i64 (q : Int) ∧ Hid (Below w.heap.size w wr) ∧ Hid (l.any p = (l.drop q).any p)
end Go.Proofs.Ytfbfckdabbaocaa.Sq
namespace Go.Proofs.Ytfbfckdabbaocaa.Sq
open Go.RowKit Gr Wd Ws Fx Rk Lb Al In
theorem set_other (w : World) (b i k : Nat) (u : Value) (hk : k ≠ b) : (w.setCell ⟨b, i, none⟩ u).heap[k]? = w.heap[k]? := Below.heap_setCell w ⟨b, i, none⟩ u k hk
theorem own_moved {w w' : World} {b B n s : Nat} {T : TypeId} {v : Value} {xs : List Value} {c : Array Value} {T' : TypeId} (h : w.ownsRow B T s v n xs) (hb : w.heap[b]? = some (.cells c T' (0, 0))) (hT : T ≠ T') (ho : ∀ k, k ≠ b → w'.heap[k]? = w.heap[k]?) : w'.ownsRow B T s v n xs :=
  own_kept h fun g c' fz _ hc => ho g fun e => by
    subst e; rw [hb] at hc; injection hc with hc; injection hc with _ hc _
    exact hT hc.symm
end Go.Proofs.Ytfbfckdabbaocaa.Sq
