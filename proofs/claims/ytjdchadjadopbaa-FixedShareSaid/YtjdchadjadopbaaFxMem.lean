/-
  What is proved here: words for texts and for a block of bytes that a call has made. No condition.
-/
import Derived.Test.YtjdchadjadopbaaFxW1
import Derived.Laws.CopyOwn
import Derived.Deep.OwnRows
namespace Go.Proofs.Ytjdchadjadopbaa.Fx
open Go.RowKit

/- A text by its bytes. -/
def sb (l : List UInt8) : ByteArray := ⟨l.toArray⟩
theorem sb_size (l : List UInt8) : (sb l).size = l.length := by show l.toArray.size = _; simp
theorem sb_append (a b : List UInt8) : sb a ++ sb b = sb (a ++ b) := by
  apply ByteArray.ext; simp [sb]
theorem sb_data (l : List UInt8) : (sb l).data.toList = l := by simp [sb]
theorem sb_inj {a b : List UInt8} (h : sb a = sb b) : a = b := by rw [← sb_data a, h, sb_data]

def vb (l : List UInt8) : List Value := l.map fun x => Value.int .u8 (x.toNat : Int)
theorem vb_length (l : List UInt8) : (vb l).length = l.length := by simp [vb]
theorem vb_at (l : List UInt8) (k : Nat) : (vb l)[k]? = (l[k]?).map fun x => Value.int .u8 (x.toNat : Int) := by simp [vb]
theorem vb_set (l : List UInt8) (k : Nat) (x : UInt8) : (vb l).set k (.int .u8 (x.toNat : Int)) = vb (l.set k x) := by
  unfold vb; rw [List.map_set]
theorem add_plain (g o k : Nat) : (⟨g, o, none⟩ : Addr).add k = ⟨g, o + k, none⟩ := by unfold Addr.add; split <;> simp_all

/- A block that is just these bytes. -/
def Row (T : TypeId) (w : World) (g : Nat) (l : List UInt8) : Prop := w.heap[g]? = some (.cells (vb l).toArray T (0, 0))
theorem Row.lt {T : TypeId} {w : World} {g : Nat} {l : List UInt8} (h : Row T w g l) : g < w.heap.size := lt_of_block h
theorem Row.cell {T : TypeId} {w : World} {g : Nat} {l : List UInt8} (h : Row T w g l) (k : Nat) (x : UInt8) (hx : l[k]? = some x) : w.cell? ⟨g, k, none⟩ = some (.int .u8 (x.toNat : Int)) := by
  rw [cell_of_row w g k _ T (0, 0) h, List.getElem?_toArray, vb_at, hx]; rfl
theorem Row.has {T : TypeId} {w : World} {g : Nat} {l : List UInt8} (h : Row T w g l) (k : Nat) (hk : k < l.length) : ∃ u, w.cell? ⟨g, k, none⟩ = some u :=
  ⟨_, h.cell k l[k] (List.getElem?_eq_getElem hk)⟩
theorem Row.free {T : TypeId} {w : World} {g : Nat} {l : List UInt8} (h : Row T w g l) (k : Nat) : w.frozen? ⟨g, k, none⟩ = false := frozen_of_row w g k _ T h
theorem Row.set {T : TypeId} {w : World} {g : Nat} {l : List UInt8} (h : Row T w g l) (k : Nat) (x : UInt8) : Row T (w.setCell ⟨g, k, none⟩ (.int .u8 (x.toNat : Int))) g (l.set k x) := by
  have := heap_setCell_same w g k _ T (.int .u8 (x.toNat : Int)) h
  unfold Row
  rw [this, List.setIfInBounds_toArray, vb_set]

/- Only one block, and what is new, has changed. -/
theorem only_refl (w : World) (row : Option Nat) : w.grownBy w row := ⟨rfl, rfl, rfl, Nat.le_refl _, fun _ _ _ => rfl⟩
theorem only_trans {a b c : World} {g : Nat} (h : a.grownBy b (some g)) (k : b.grownBy c (some g)) : a.grownBy c (some g) :=
  ⟨k.os.trans h.os, k.tape.trans h.tape, k.output.trans h.output, Nat.le_trans h.size k.size, fun i hi hne => (k.block i (Nat.lt_of_lt_of_le hi h.size) hne).trans (h.block i hi hne)⟩
theorem only_set {a w : World} {g : Nat} (h : a.grownBy w (some g)) (i : Nat) (u : Value) : a.grownBy (w.setCell ⟨g, i, none⟩ u) (some g) :=
  ⟨h.os, h.tape, h.output, by simpa [World.setCell] using h.size, fun k hk hne => (Below.heap_setCell w _ u k (fun e => hne (by rw [e]))).trans (h.block k hk hne)⟩
theorem below_only {B : Nat} {a w w' : World} {g : Nat} (h : Below B a w) (hg : w.grownBy w' (some g)) (hB : B ≤ w.heap.size) (hr : B ≤ g) : Below B a w' :=
  h.grown hg hB (fun k e => by injection e with e; omega)

theorem conv_row {T : TypeId} (w : World) (g o c n : Nat) (l t : List UInt8) (h : Row T w g l) (ht : l.drop o = t) (hn : n = t.length) : (convert 41 9 (.slice (some ⟨g, o, none⟩) n c)).run Try.prog w = .ok (.string (sb t)) w := by
  subst hn
  have hl : (loadCells ⟨g, o, none⟩ t.length).run Try.prog w = .ok ((vb t).toArray) w := by
    have := run_loadCells_list (P := Try.prog) w ⟨g, o, none⟩ (vb t) (fun j u hu => by
      rw [vb_at] at hu
      cases hx : t[j]? with
      | none => rw [hx] at hu; cases hu
      | some x =>
        rw [hx] at hu
        rw [add_plain]
        have := h.cell (o + j) x (by rw [← List.getElem?_drop, ht]; exact hx)
        rw [this]; simpa using hu)
    rwa [vb_length] at this
  rw [run_convert_bytes_string w 41 9 5 _ _ c Try.underlying41 Try.underlying5 Try.underlying9]
  have e : vb t = (t.map fun (x : UInt8) => (x.toNat : Int)).map (Value.int .u8) := by simp [vb]
  rw [e] at hl
  rw [run_bytesToString w ⟨g, o, none⟩ t.length c (t.map fun (x : UInt8) => (x.toNat : Int)) hl, foldl_push_bytes]
  have e2 : ((t.map fun (x : UInt8) => (x.toNat : Int)).map fun n => UInt8.ofNat n.toNat) = t := by
    rw [List.map_map]
    have : ((fun n : Int => UInt8.ofNat n.toNat) ∘ fun x : UInt8 => (x.toNat : Int)) = id := by funext x; simp
    rw [this, List.map_id]
  rw [e2]
  unfold sb
  simp [ByteArray.empty, ByteArray.emptyWithCapacity]
  rfl

end Go.Proofs.Ytjdchadjadopbaa.Fx
