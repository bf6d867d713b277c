/-
  What is proved here: contracts of the document's own Combine, and of its Add: a row of messages, rising, with one more. Conditions: the row is one that the call has made, of fewer than 1000000 messages. What is proved here: contracts of algos.Start, Compute, Combine, Part, Join, Done, Check and of the document's own. Conditions: numbers fit an int. What is proved here: plain facts on the supersteps, one behind another: states from the first one on may be; labels and distances never rise; what rests stays so; ranks together are at most One; there is a first state that is done. No program.
-/
import Derived.Test.YtkbmmlombigkmaaGreatQbAlP1
import Derived.Test.YtkbmmlombigkmaaGreatQbAlS2x
import Derived.Deep.CutRange
import Derived.Test.YtkbmmlombigkmaaGreatQbAlLW1x
import Derived.Test.YtkbmmlombigkmaaGreatRows
import Derived.StillTail
import Derived.Deep.QuietTactic
import Derived.BigQuiet
import Derived.Lib.QuietBelow
import Derived.Deep.AppendLies
import Derived.Test.YtkbmmlombigkmaaGreatQbPtG4
import Derived.Test.YtkbmmlombigkmaaGreatQbInMathx
import Derived.Test.YtkbmmlombigkmaaGreatQbPaMath
namespace Go.Proofs.YtkbmmlombigkmaaGreat.Al
open Go.RowKit Go.Sort Gr Wd Ws Fx Rk Lb
def Low (l : List Ms) (t : Int) (q : Nat) : Prop := ∀ (j : Nat) (x : Ms), j < q → l[j]? = some x → x.1 < t
theorem Low.mem {l : List Ms} {t : Int} {q : Nat} (h : Low l t q) : ∀ z ∈ l.take q, z.1 < t := by
  intro z hz
  obtain ⟨j, hj⟩ := List.getElem?_of_mem hz
  rw [List.getElem?_take] at hj
  split at hj
  · rename_i hlt; exact h j z hlt hj
  · cases hj
theorem Low.step {l : List Ms} {t : Int} {q : Nat} {x : Ms} (h : Low l t q) (hx : l[q]? = some x) (e : x.1 < t) : Low l t (q + 1) := by
  intro j z hj hz
  by_cases he : j = q
  · subst he; rw [hx] at hz; cases hz; exact e
  · exact h j z (by omega) hz
end Go.Proofs.YtkbmmlombigkmaaGreat.Al
namespace Go.Proofs.YtkbmmlombigkmaaGreat.Al
open Go.RowKit Gr Wd Ws Fx Rk Lb
def sttM (k V v so : Int) : Int := if k = 1 then giveI 4294967296 V else if k = 2 then v else if k = 3 then Pa.stt v so else 0
def sttB (k v so : Int) : Bool := if k = 1 then true else if k = 2 then true else if k = 3 then decide (v = so) else false
def cmpM (k V dm x : Int) (h : Bool) (m s : Int) : Int := if k = 1 then takeI V dm (gotI h m) s else if k = 2 then takM x h m else if k = 3 then Pa.tkm x h m else 0
def cmpB (k V dm x : Int) (h : Bool) (m s : Int) : Bool := if k = 1 then decide (¬ takeI V dm (gotI h m) s = x) else if k = 2 then takB x h m else if k = 3 then Pa.tkb x h m else false
def prtS (k v : Int) (n : Nat) : Int := if k = 1 then (if n = 0 then max v 0 else 0) else 0
def prtM (k a v : Int) (c : Bool) : Int := if k = 1 then apt a v else if k = 2 ∨ k = 3 then (if c = true then 1 else 0) else 0
def jonS (k a b : Int) : Int := if k = 1 ∨ k = 2 ∨ k = 3 then addI a b else 0
def jonM (k a b : Int) : Int := if k = 1 then max a b else if k = 2 ∨ k = 3 then addI a b else 0
def jobOk (k st so dm ep V : Int) : Bool := decide (0 ≤ st) && decide (st ≤ 2000) && (if k = 1 then decide (0 ≤ dm) && decide (dm ≤ 4294967296) && decide (0 ≤ ep) && decide (ep ≤ 4294967296) && decide (so = 0) else if k = 2 then decide (so = 0) && decide (dm = 0) && decide (ep = 0) else if k = 3 then decide (0 ≤ so) && decide (so < V) && decide (dm = 0) && decide (ep = 0) else false)
def chkJ (k st so dm ep V : Int) (L : List Ed) : Int := if chk V L = 0 then (if jobOk k st so dm ep V = true then 0 else 100) else chk V L
theorem ret_tb {a a' : Int} {b b' : Bool} (h : a = a') (k : b = b') : Ending.returned (.tuple #[.int .i64 a, .bool b]) = .returned (.tuple #[.int .i64 a', .bool b']) := by rw [h, k]
theorem at_alloc {w : World} {i : Nat} {x : Obj} (h : w.heap[i]? = some x) (o : Obj) : (w.alloc o).heap[i]? = some x := (((Below.refl _ w).alloc (Nat.le_refl _) o).block i (lt_of_block h)).trans h
theorem al2 (w : World) (a b : Obj) : ((w.alloc a).alloc b).heap[w.heap.size]? = some a ∧ ((w.alloc a).alloc b).heap[w.heap.size + 1]? = some b ∧ Below w.heap.size w ((w.alloc a).alloc b) := by
  refine ⟨at_alloc (heap_alloc_new w a) b, ?_, ((Below.refl _ w).alloc (Nat.le_refl _) a).alloc (by simp) b⟩
  have := heap_alloc_new (w.alloc a) b
  rw [show (w.alloc a).heap.size = w.heap.size + 1 by simp] at this; exact this
theorem al3 (w : World) (a b c : Obj) : (((w.alloc a).alloc b).alloc c).heap[w.heap.size]? = some a ∧ (((w.alloc a).alloc b).alloc c).heap[w.heap.size + 1]? = some b ∧ (((w.alloc a).alloc b).alloc c).heap[w.heap.size + 2]? = some c ∧ Below w.heap.size w (((w.alloc a).alloc b).alloc c) := by
  obtain ⟨h1, h2, h3⟩ := al2 w a b
  refine ⟨at_alloc h1 c, at_alloc h2 c, ?_, h3.alloc h3.size c⟩
  have := heap_alloc_new ((w.alloc a).alloc b) c
  rw [show ((w.alloc a).alloc b).heap.size = w.heap.size + 2 by simp] at this; exact this
theorem al4 (w : World) (a b c d : Obj) : ((((w.alloc a).alloc b).alloc c).alloc d).heap[w.heap.size]? = some a ∧ ((((w.alloc a).alloc b).alloc c).alloc d).heap[w.heap.size + 1]? = some b ∧ ((((w.alloc a).alloc b).alloc c).alloc d).heap[w.heap.size + 2]? = some c ∧ ((((w.alloc a).alloc b).alloc c).alloc d).heap[w.heap.size + 3]? = some d ∧ Below w.heap.size w ((((w.alloc a).alloc b).alloc c).alloc d) := by
  obtain ⟨h1, h2, h3, h4⟩ := al3 w a b c
  refine ⟨at_alloc h1 d, at_alloc h2 d, at_alloc h3 d, ?_, h4.alloc h4.size d⟩
  have := heap_alloc_new (((w.alloc a).alloc b).alloc c) d
  rw [show (((w.alloc a).alloc b).alloc c).heap.size = w.heap.size + 3 by simp] at this; exact this
theorem keep {w w' : World} {i : Nat} {o : Obj} (h : w.heap[i]? = some o) (hb : Below w.heap.size w w') : w'.heap[i]? = some o := (hb.block i (lt_of_block h)).trans h
theorem jb_cells {W : World} {b : Nat} {k st so dm ep : Int} (h : W.heap[b]? = some (.cells #[.int .u8 k, .int .i64 st, .int .i64 so, .int .i64 dm, .int .i64 ep] 40 (0, 0))) : W.cell? ⟨b, 0, none⟩ = some (.int .u8 k) ∧ W.cell? ⟨b, 1, none⟩ = some (.int .i64 st) ∧ W.cell? ⟨b, 2, none⟩ = some (.int .i64 so) ∧ W.cell? ⟨b, 3, none⟩ = some (.int .i64 dm) ∧ W.cell? ⟨b, 4, none⟩ = some (.int .i64 ep) ∧ b < W.heap.size :=
  ⟨by rw [Lib.cell_of_heap h]; rfl, by rw [Lib.cell_of_heap h]; rfl, by rw [Lib.cell_of_heap h]; rfl, by rw [Lib.cell_of_heap h]; rfl, by rw [Lib.cell_of_heap h]; rfl, lt_of_block h⟩
end Go.Proofs.YtkbmmlombigkmaaGreat.Al
namespace Go.Proofs.YtkbmmlombigkmaaGreat.Sq
open Gr Fx Rk Lb Al Pt In
open Pa (vl bt vl_of vl_at bt_of bt_at vl_ext itr itr_next itr_keep)
def InR (x : Int) : Prop := 0 ≤ x ∧ x ≤ 4611686018427387904
def outE (L : List Ed) (v : Int) : List Ed := L.filter fun e => decide (e.1 = v)
def bckE (L : List Ed) (v : Int) : List Ed := L.filter fun e => decide (e.2.1 = v)
def rowsS (k : Int) (V : Nat) (L : List Ed) (vals : List Int) (chg : List Bool) : List (List Ms) := (List.range V).map fun (v : Nat) => sendM k (v : Int) (vl vals v) (bt chg v) (outE L (v : Int)) (bckE L (v : Int))
def inbS (k : Int) (V : Nat) (L : List Ed) (vals : List Int) (chg : List Bool) : List Ml := mergeM k ((List.range V).map fun (v : Nat) => (v : Int)) (rowsS k V L vals chg)
structure Sq where
  vals : List Int
  chg : List Bool
  inb : List Ml
  sum : Int
  most : Int
def sumS (k : Int) (V : Nat) (L : List Ed) (vals : List Int) : Int := ((List.range V).map fun (v : Nat) => prtS k (vl vals v) (outE L (v : Int)).length).foldl (jonS k) 0
def mosS (k : Int) (V : Nat) (was vals : List Int) (chg : List Bool) : Int := ((List.range V).map fun (v : Nat) => prtM k (vl was v) (vl vals v) (bt chg v)).foldl (jonM k) 0
def toldS (k : Int) (V : Nat) (L : List Ed) (was vals : List Int) (chg : List Bool) : Sq := ⟨vals, chg, inbS k V L vals chg, sumS k V L vals, mosS k V was vals chg⟩
def strV (k so : Int) (V : Nat) : List Int := (List.range V).map fun (v : Nat) => sttM k (V : Int) (v : Int) so
def strC (k so : Int) (V : Nat) : List Bool := (List.range V).map fun (v : Nat) => sttB k (v : Int) so
def strS (k so : Int) (V : Nat) (L : List Ed) : Sq := { toldS k V L (strV k so V) (strV k so V) (strC k so V) with most := 0 }
def ml (l : List Ml) (v : Nat) : Ml := l.getD v (false, 0)
def nxtV (k dm : Int) (V : Nat) (s : Sq) : List Int := (List.range V).map fun (v : Nat) => cmpM k (V : Int) dm (vl s.vals v) (ml s.inb v).1 (ml s.inb v).2 s.sum
def nxtC (k dm : Int) (V : Nat) (s : Sq) : List Bool := (List.range V).map fun (v : Nat) => cmpB k (V : Int) dm (vl s.vals v) (ml s.inb v).1 (ml s.inb v).2 s.sum
def nxtS (k dm : Int) (V : Nat) (L : List Ed) (s : Sq) : Sq := toldS k V L s.vals (nxtV k dm V s) (nxtC k dm V s)
def stS (k so dm : Int) (V : Nat) (L : List Ed) (n : Nat) : Sq := itr (nxtS k dm V L) n (strS k so V L)
end Go.Proofs.YtkbmmlombigkmaaGreat.Sq
