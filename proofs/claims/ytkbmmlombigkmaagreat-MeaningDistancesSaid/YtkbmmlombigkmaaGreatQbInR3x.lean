/-
  What is proved here: contracts of inbox.with and of inbox.together: what came to whom. Conditions: vertices fit an int, fewer than 10^9 messages. What is proved here: a contract of inbox.together: what came to whom of rows of messages. Conditions: vertices fit an int, fewer than 10^9 messages. What is proved here: contracts of the document's own Fold, mail and Same. Conditions: lengths fit an int; fewer than 1000000 messages. What is proved here: a contract of the document's own mail: what comes to a vertex out of rows. Conditions: lengths fit an int. What is proved here: a contract of inbox.Fold: to each vertex what all messages to it come to. Conditions: vertices fit an int, fewer than 1000000 messages. What is proved here: a contract of the document's own Merge. Conditions: fewer than 10^9 messages, fewer than 1000000 vertices asked for.
-/
import Derived.Test.YtkbmmlombigkmaaGreatQbInKx
import Derived.Test.YtkbmmlombigkmaaGreatRows
import Derived.StillTail
import Derived.Deep.QuietTactic
import Derived.BigQuiet
import Derived.Lib.QuietBelow
import Derived.Carry
import Derived.Maps.AppendAt
namespace Go.Proofs.YtkbmmlombigkmaaGreat.In
open Go.RowKit Go.Maps Gr Wd Ws Fx Rk Lb Al
theorem mixedI : Tryz.prog.follows .mixedOrders = true := by kernel_rfl
theorem put_ml {W : World} {b : Nat} {p : Bool} {x : Int} (h : W.heap[b]? = some (.cells #[.bool p, .int .i64 x] 114 (0, 0))) (q : Bool) (y : Int) :
    ((W.setCell ⟨b, 0, none⟩ (.bool q)).setCell ⟨b, 1, none⟩ (.int .i64 y)).heap[b]? = some (.cells #[.bool q, .int .i64 y] 114 (0, 0)) := by
  have h1 := heap_setCell_same W b 0 _ 114 (.bool q) h
  have h2 := heap_setCell_same _ b 1 _ 114 (.int .i64 y) h1
  exact h2
end Go.Proofs.YtkbmmlombigkmaaGreat.In
namespace Go.Proofs.YtkbmmlombigkmaaGreat.In
open Go.RowKit Go.Maps Gr Wd Ws Fx Rk Lb Al
def RMs (w : World) (A : Option Addr) (Ls : List (List Ms)) : Prop := ∀ (k : Nat) (L : List Ms), Ls[k]? = some L → ∃ bk o A' c, A = some ⟨bk, o, none⟩ ∧ w.cell? ⟨bk, o + k, none⟩ = some (.slice A' L.length c) ∧ MAt w A' L
theorem RMs.below {w w' : World} {A : Option Addr} {Ls : List (List Ms)} (h : RMs w A Ls) (hb : Below w.heap.size w w') : RMs w' A Ls := fun k L hk => by
  obtain ⟨bk, o, A', c, e, c0, hm⟩ := h k L hk
  exact ⟨bk, o, A', c, e, (hb.cell (block_lt_of_cell c0)).trans c0, hm.below hb⟩
structure TgH (w wr : World) (b M : Nat) (k st so dm ep : Int) (L : List Ms) : Prop where
  below : Below w.heap.size w wr
  box : wr.heap[b]? = some (.cells #[.int .u8 k, .int .i64 st, .int .i64 so, .int .i64 dm, .int .i64 ep] 40 (0, 0))
  map : CM wr M k L
theorem TgH.step {w w1 w2 : World} {b M : Nat} {k st so dm ep : Int} {L : List Ms} (h : TgH w w1 b M k st so dm ep L) (hb : Below w1.heap.size w1 w2) : TgH w w2 b M k st so dm ep L :=
  ⟨step_below h.below h.below.size hb, keep h.box hb, h.map.below hb⟩
theorem TgH.grown {w w1 w2 : World} {b M : Nat} {k st so dm ep : Int} {L L' : List Ms} (h : TgH w w1 b M k st so dm ep L) (hg : w1.grownBy w2 (some M)) (hm : CM w2 M k L') (hM : w.heap.size ≤ M) (hn : b ≠ M) : TgH w w2 b M k st so dm ep L' :=
  ⟨Below.grown h.below hg h.below.size (fun j e => by cases e; exact hM), (hg.block b (lt_of_block h.box) (fun e => hn (by cases e; rfl))).trans h.box, hm⟩
end Go.Proofs.YtkbmmlombigkmaaGreat.In
namespace Go.Proofs.YtkbmmlombigkmaaGreat.In
open Go.RowKit Go.Maps Gr Wd Ws Fx Rk Lb Al
structure RfH (w wr : World) (b : Nat) (k st so dm ep : Int) (v : Value) (L : List Ms) : Prop where
  below : Below w.heap.size w wr
  box : wr.heap[b]? = some (.cells #[.int .u8 k, .int .i64 st, .int .i64 so, .int .i64 dm, .int .i64 ep] 40 (0, 0))
  row : MOwn wr w.heap.size v (putM k [] L)
end Go.Proofs.YtkbmmlombigkmaaGreat.In
namespace Go.Proofs.YtkbmmlombigkmaaGreat.In
open Go.RowKit Go.Maps Gr Wd Ws Fx Rk Lb Al
structure RmH (w wr : World) (b0 b1 b2 : Nat) (k st so dm ep : Int) (m : Ml) : Prop where
  below : Below w.heap.size w wr
  box : wr.heap[b0]? = some (.cells #[.int .u8 k, .int .i64 st, .int .i64 so, .int .i64 dm, .int .i64 ep] 40 (0, 0))
  res : wr.heap[b1]? = some (.cells #[.bool false, .int .i64 0] 114 (0, 0))
  ml : wr.heap[b2]? = some (.cells #[.bool m.1, .int .i64 m.2] 114 (0, 0))
theorem RmH.step {w w1 w2 : World} {b0 b1 b2 : Nat} {k st so dm ep : Int} {m : Ml} (h : RmH w w1 b0 b1 b2 k st so dm ep m) (hb : Below w1.heap.size w1 w2) : RmH w w2 b0 b1 b2 k st so dm ep m :=
  ⟨step_below h.below h.below.size hb, keep h.box hb, keep h.res hb, keep h.ml hb⟩
theorem set_off {W : World} {b c : Nat} {o : Obj} (h : W.heap[b]? = some o) (hn : b ≠ c) (i : Nat) (u : Value) : (W.setCell ⟨c, i, none⟩ u).heap[b]? = some o := by
  rw [heap_setCell_other W ⟨c, i, none⟩ b u hn]; exact h
theorem RmH.put {w w1 : World} {b0 b1 b2 : Nat} {k st so dm ep : Int} {m : Ml} (h : RmH w w1 b0 b1 b2 k st so dm ep m) (hw : w.heap.size ≤ b2) (h0 : b0 ≠ b2) (h1 : b1 ≠ b2) (p : Bool) (y : Int) :
    RmH w ((w1.setCell ⟨b2, 0, none⟩ (.bool p)).setCell ⟨b2, 1, none⟩ (.int .i64 y)) b0 b1 b2 k st so dm ep (p, y) :=
  ⟨(h.below.setCell (p := ⟨b2, 0, none⟩) hw _).setCell (p := ⟨b2, 1, none⟩) hw _, set_off (set_off h.box h0 _ _) h0 _ _, set_off (set_off h.res h1 _ _) h1 _ _, put_ml h.ml p y⟩
theorem RmH.put1 {w w1 : World} {b0 b1 b2 : Nat} {k st so dm ep : Int} {p : Bool} {x : Int} (h : RmH w w1 b0 b1 b2 k st so dm ep (p, x)) (hw : w.heap.size ≤ b2) (h0 : b0 ≠ b2) (h1 : b1 ≠ b2) (y : Int) :
    RmH w (w1.setCell ⟨b2, 1, none⟩ (.int .i64 y)) b0 b1 b2 k st so dm ep (p, y) :=
  ⟨h.below.setCell (p := ⟨b2, 1, none⟩) hw _, set_off h.box h0 _ _, set_off h.res h1 _ _, by
    have := heap_setCell_same w1 b2 1 _ 114 (.int .i64 y) h.ml
    exact this⟩
end Go.Proofs.YtkbmmlombigkmaaGreat.In
namespace Go.Proofs.YtkbmmlombigkmaaGreat.In
open Go.RowKit Go.Maps Gr Wd Ws Fx Rk Lb Al
def Off (A : Option Addr) (r : Option Nat) : Prop := ∀ a, A = some a → some a.block ≠ r
theorem IAt.grown {w w' : World} {A : Option Addr} {l : List Int} {r : Option Nat} (h : IAt w A l) (hg : w.grownBy w' r) (ho : Off A r) : IAt w' A l := by
  intro k x hx
  obtain ⟨bk, o, hA, c⟩ := h k x hx
  refine ⟨bk, o, hA, ?_⟩
  have := hg.block bk (block_lt_of_cell c) (ho _ hA)
  unfold World.cell? at c ⊢
  simp only at c ⊢
  rw [this]; exact c
theorem MAt.grown {w w' : World} {A : Option Addr} {l : List Ms} {r : Option Nat} (h : MAt w A l) (hg : w.grownBy w' r) (ho : Off A r) : MAt w' A l := by
  intro k x hx
  obtain ⟨bk, o, hA, c, d⟩ := h k x hx
  have := hg.block bk (block_lt_of_cell c) (ho _ hA)
  refine ⟨bk, o, hA, ?_, ?_⟩
  · unfold World.cell? at c ⊢; simp only at c ⊢; rw [this]; exact c
  · unfold World.cell? at d ⊢; simp only at d ⊢; rw [this]; exact d
theorem CM.len {w : World} {M : Nat} {k : Int} {L : List Ms} (h : CM w M k L) : ∃ n : Nat, n ≤ L.length ∧ ∀ ty, (Builtin.len_ #[150] ty #[.map (some M)]).run Tryz.prog w = .ok (.int .i64 (n : Int)) w := by
  obtain ⟨D, h1, h2⟩ := h
  exact ⟨Maps.size D, h1.size_le, fun ty => h1.len Tryz.underlying150 ty⟩
theorem CM.grown {w w' : World} {M : Nat} {k : Int} {L : List Ms} {r : Option Nat} (h : CM w M k L) (hg : w.grownBy w' r) (hr : some M ≠ r) : CM w' M k L := h.kept (hg.block M h.lt hr)
end Go.Proofs.YtkbmmlombigkmaaGreat.In
namespace Go.Proofs.YtkbmmlombigkmaaGreat.In
open Go.RowKit Go.Maps Gr Wd Ws Fx Rk Lb Al
structure RgH (w wr : World) (b : Nat) (k st so dm ep : Int) (Ls : List (List Ms)) (own : List Int) (v : Value) (q : Nat) : Prop where
  below : Below w.heap.size w wr
  box : wr.heap[b]? = some (.cells #[.int .u8 k, .int .i64 st, .int .i64 so, .int .i64 dm, .int .i64 ep] 40 (0, 0))
  row : KOwn wr (b + 1) v (mergeM k (own.take q) Ls)
  size : b + 1 ≤ wr.heap.size
end Go.Proofs.YtkbmmlombigkmaaGreat.In
