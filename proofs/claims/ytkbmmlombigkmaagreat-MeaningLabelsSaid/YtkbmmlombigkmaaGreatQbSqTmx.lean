/-
  What is proved here: contracts of the function that hands out each vertex with its edges. Conditions: at most 100000 vertices. What is proved here: words for the memory of tell: its boxes and rows, and how they go on. No condition.
-/
import Derived.Test.YtkbmmlombigkmaaGreatQbSqC
import Derived.Test.YtkbmmlombigkmaaGreatQbTlIn
import Derived.RangeFuncNested
import Derived.RangeFuncBound
import Derived.RangeFuncCalls
import Derived.RangeFuncLeaves
import Derived.RangeFuncFrom
import Derived.Shelf.Abstract
import Derived.Shelf.AbstractIn
import Derived.Shelf.RegionOpen
import Derived.WalkKit
import Derived.OwnWalkIn
import Derived.TacticsInMore
import Derived.LoopNIn
import Derived.LoopIn
import Derived.RegionIn
namespace Go.Proofs.YtkbmmlombigkmaaGreat.Sq
open Go.RowKit Go.Shelf Gr Wd Ws Fx Rk Lb Al In
attribute [local go_sem] Oper.semAt_some
theorem WOwn.at {w : World} {B : Nat} {v : Value} {Ls : List Eg} (h : WOwn w B v Ls) : ∃ (A : Option Addr) (c : Nat), v = .slice A Ls.length c ∧ ∀ (k : Nat) (L : Eg), Ls[k]? = some L → ∃ bk o A1 c1 A2 c2, A = some ⟨bk, o, none⟩ ∧ w.cell? ⟨bk, o + k * 2, none⟩ = some (.slice A1 L.1.length c1) ∧ w.cell? ⟨bk, o + k * 2 + 1, none⟩ = some (.slice A2 L.2.length c2) ∧ EOwn w B (.slice A1 L.1.length c1) L.1 ∧ EOwn w B (.slice A2 L.2.length c2) L.2 := by
  obtain ⟨xs, ⟨h0, h1 | ⟨g, cap, cur, h1, h2, h3, h4, h5, h6, h7⟩⟩, he⟩ := h
  · have : Ls = [] := List.eq_nil_of_length_eq_zero h1.2
    subst this
    exact ⟨none, 0, h1.1, fun k L hk => by simp at hk⟩
  · refine ⟨some ⟨g, 0, none⟩, cap, h1, fun k L hx => ?_⟩
    have hk := lt_at hx
    obtain ⟨x, y, hx1, hx2, hx3, hx4⟩ := he.2 k L hx
    obtain ⟨A1, c1, rfl, _⟩ := hx3.form
    obtain ⟨A2, c2, rfl, _⟩ := hx4.form
    have key : ∀ j, j < Ls.length * 2 → w.cell? ⟨g, 0 + j, none⟩ = xs[j]? := fun j hj => by
      rw [Nat.zero_add, cell_of_row w g j _ 103 (0, 0) h3]
      have e1 : cur[j]? = (cur.toList.take (Ls.length * 2))[j]? := by
        rw [List.getElem?_take, if_pos hj, Array.getElem?_toList]
      rw [e1, h7]
    refine ⟨g, 0, A1, c1, A2, c2, rfl, ?_, ?_, hx3, hx4⟩
    · rw [key _ (by omega)]; exact hx1
    · rw [Nat.add_assoc, key _ (by omega)]; exact hx2
def Kq (W W' : World) : Prop := ∀ (i : Nat) (c : Array Value) (T : TypeId) (fz : Nat × Nat), (T = 71 ∨ T = 103 ∨ T = 33) → W.heap[i]? = some (.cells c T fz) → W'.heap[i]? = W.heap[i]?
theorem Kq.refl (W : World) : Kq W W := fun _ _ _ _ _ _ => rfl
theorem Kq.trans {A B C : World} (h : Kq A B) (k : Kq B C) : Kq A C := fun i c T fz hT hi => by
  have h1 := h i c T fz hT hi
  exact (k i c T fz hT (h1.trans hi)).trans h1
theorem Kq.below {A B : World} (h : Below A.heap.size A B) : Kq A B := fun i _ _ _ _ hi => h.block i (lt_of_block hi)
theorem Kq.grown {w w' : World} {B s n : Nat} {T : TypeId} {v : Value} {xs : List Value} (h : w.ownsRow B T s v n xs) (hg : w.grownBy w' v.ownBlock) (h1 : T ≠ 71) (h2 : T ≠ 103) (h3 : T ≠ 33) : Kq w w' := fun i c T' fz hT hi => by
  rw [box_other hi h (by
    rcases hT with rfl | rfl | rfl
    · exact Ne.symm h1
    · exact Ne.symm h2
    · exact Ne.symm h3) hg, hi]
theorem Kq.moved {w w' : World} {b : Nat} {T : TypeId} {c : Array Value} (hb : w.heap[b]? = some (.cells c T (0, 0))) (ho : ∀ k, k ≠ b → w'.heap[k]? = w.heap[k]?) (h1 : T ≠ 71) (h2 : T ≠ 103) (h3 : T ≠ 33) : Kq w w' := fun i c' T' fz hT hi => ho i fun e => by
  subst e; rw [hb] at hi; injection hi with hi; injection hi with _ hi _
  rcases hT with rfl | rfl | rfl
  · exact h1 hi
  · exact h2 hi
  · exact h3 hi
end Go.Proofs.YtkbmmlombigkmaaGreat.Sq
namespace Go.Proofs.YtkbmmlombigkmaaGreat.Sq
open Go.RowKit Go.Shelf Gr Wd Ws Fx Rk Lb Al In
open Pa (vl bt vl_of vl_at bt_of bt_at)
theorem obj_kept {A B : World} {row : Option Nat} (hg : A.grownBy B row) (hr : ∀ r, row = some r → ∃ o, A.heap[r]? = some o ∧ o.isCells = false) {i : Nat} {c : Array Value} {T : TypeId} {fz : Nat × Nat} (h : A.heap[i]? = some (.cells c T fz)) : B.heap[i]? = some (.cells c T fz) :=
  (hg.block i (lt_of_block h) fun e => by
    obtain ⟨o, ho, hc⟩ := hr i e.symm
    rw [h] at ho; injection ho with ho; subst ho; cases hc).trans h
theorem row_kept {A B : World} {row : Option Nat} (hg : A.grownBy B row) (hr : ∀ r, row = some r → ∃ o, A.heap[r]? = some o ∧ o.isCells = false) {B0 s n : Nat} {T : TypeId} {v : Value} {xs : List Value} (h : A.ownsRow B0 T s v n xs) : B.ownsRow B0 T s v n xs :=
  own_kept h fun _ _ _ _ hc => (obj_kept hg hr hc).trans hc.symm
theorem keeps_below {W W' : World} (h : Below W.heap.size W W') : KeepsOthers W W' := ⟨h.size, fun k _ hk _ => (h.block k (lt_of_block hk)).trans hk⟩
theorem keeps_grown {w w' : World} {B s n : Nat} {T : TypeId} {v : Value} {xs : List Value} (h : w.ownsRow B T s v n xs) (hg : w.grownBy w' v.ownBlock) : KeepsOthers w w' :=
  ⟨hg.size, fun k o hk ho => (hg.block k (lt_of_block hk) fun e => by
    obtain ⟨_, c1, hc1⟩ := own_lt h k e.symm
    rw [hc1] at hk; injection hk with hk; subst hk; cases ho).trans hk⟩
def KK (W W' : World) : Prop := KeepsOthers W W' ∧ Kq W W'
theorem KK.trans {A B C : World} (h : KK A B) (k : KK B C) : KK A C := ⟨h.1.trans k.1, h.2.trans k.2⟩
theorem KK.below {A B : World} (h : Below A.heap.size A B) : KK A B := ⟨keeps_below h, Kq.below h⟩
theorem KK.grown {w w' : World} {B s n : Nat} {T : TypeId} {v : Value} {xs : List Value} (h : w.ownsRow B T s v n xs) (hg : w.grownBy w' v.ownBlock) (h1 : T ≠ 71) (h2 : T ≠ 103) (h3 : T ≠ 33) : KK w w' := ⟨keeps_grown h hg, Kq.grown h hg h1 h2 h3⟩
theorem KK.set {w : World} {b i : Nat} {T : TypeId} {c : Array Value} (hb : w.heap[b]? = some (.cells c T (0, 0))) (u : Value) (h1 : T ≠ 71) (h2 : T ≠ 103) (h3 : T ≠ 33) : KK w (w.setCell ⟨b, i, none⟩ u) :=
  ⟨KeepsOthers.setCell _ _ _, Kq.moved hb (fun _ hk => set_other _ _ _ _ _ hk) h1 h2 h3⟩
structure RX (W : World) (b B : Nat) (L : List Ed) (v : Nat) (A1 A2 : Option Addr) (n1 n2 c1 c2 : Nat) : Prop where
  box : W.heap[b]? = some (.cells #[.slice A1 n1 c1, .slice A2 n2 c2] 103 (0, 0))
  o : EOwn W B (.slice A1 n1 c1) (outE L (v : Int))
  k : EOwn W B (.slice A2 n2 c2) (bckE L (v : Int))
theorem RX.below {W W' : World} {b B : Nat} {L : List Ed} {v : Nat} {A1 A2 : Option Addr} {n1 n2 c1 c2 : Nat} (h : RX W b B L v A1 A2 n1 n2 c1 c2) (hb : Below W.heap.size W W') : RX W' b B L v A1 A2 n1 n2 c1 c2 := ⟨keep h.box hb, own_below h.o hb, own_below h.k hb⟩
theorem RX.grown {W W' : World} {b B : Nat} {L : List Ed} {v : Nat} {A1 A2 : Option Addr} {n1 n2 c1 c2 : Nat} {B0 s n : Nat} {T : TypeId} {u : Value} {xs : List Value} (h : RX W b B L v A1 A2 n1 n2 c1 c2) (hv : W.ownsRow B0 T s u n xs) (hg : W.grownBy W' u.ownBlock) (h1 : 103 ≠ T) (h2 : 33 ≠ T) : RX W' b B L v A1 A2 n1 n2 c1 c2 :=
  ⟨box_other h.box hv h1 hg, own_other h.o hv h2 hg, own_other h.k hv h2 hg⟩
theorem RX.set {W : World} {b B : Nat} {L : List Ed} {v : Nat} {A1 A2 : Option Addr} {n1 n2 c1 c2 b' i : Nat} {T : TypeId} {c : Array Value} (h : RX W b B L v A1 A2 n1 n2 c1 c2) (hb : W.heap[b']? = some (.cells c T (0, 0))) (u : Value) (h1 : 103 ≠ T) (h2 : 33 ≠ T) : RX (W.setCell ⟨b', i, none⟩ u) b B L v A1 A2 n1 n2 c1 c2 := by
  have ho : ∀ j, j ≠ b' → (W.setCell ⟨b', i, none⟩ u).heap[j]? = W.heap[j]? := fun _ hj => set_other _ _ _ _ _ hj
  refine ⟨(ho b fun e => ?_).trans h.box, own_moved h.o hb h2 ho, own_moved h.k hb h2 ho⟩
  subst e
  have := h.box
  rw [hb] at this; injection this with this; injection this with _ this _
  exact h1 this.symm
def rowF (k : Int) (L : List Ed) (vals : List Int) (chg : List Bool) (v : Nat) : List Ms := sendM k (v : Int) (vl vals v) (bt chg v) (outE L (v : Int)) (bckE L (v : Int))
def sumF (k : Int) (L : List Ed) (vals : List Int) (ns : List Nat) : Int := (ns.map fun (v : Nat) => prtS k (vl vals v) (outE L (v : Int)).length).foldl (jonS k) 0
def mosF (k : Int) (was vals : List Int) (chg : List Bool) (ns : List Nat) : Int := (ns.map fun (v : Nat) => prtM k (vl was v) (vl vals v) (bt chg v)).foldl (jonM k) 0
structure TlH (w W : World) (n0 b : Nat) (k st so dm ep : Int) (ve : Value) (Aa : Option Addr) (na ca : Nat) (L : List Ed) (was vals : List Int) (chg : List Bool) (l1 l2 l3 : List Nat) (va ua vs us : Value) : Prop where
  below : Below w.heap.size w W
  cb : W.heap[n0]? = some (.cells #[.int .u8 k, .int .i64 st, .int .i64 so, .int .i64 dm, .int .i64 ep, ve] 71 (0, 0))
  pb : W.heap[n0 + 1]? = some (.cells #[.pointer (some ⟨b, 0, none⟩)] 110 (0, 0))
  hb : W.heap[n0 + 1 + 1]? = some (.cells #[.slice Aa na ca] 27 (0, 0))
  ab : W.heap[n0 + 1 + 1 + 1]? = some (.cells #[va] 57 (0, 0))
  sb : W.heap[n0 + 1 + 1 + 1 + 1]? = some (.cells #[vs] 130 (0, 0))
  tb : W.heap[n0 + 1 + 1 + 1 + 1 + 1]? = some (.cells #[.int .i64 (sumF k L vals l3), .int .i64 (mosF k was vals chg l3)] 132 (0, 0))
  ao : IOwn W (n0 + 6) ua (l1.map fun (v : Nat) => (v : Int))
  so : ROwn W (n0 + 6) us (l2.map (rowF k L vals chg))
theorem al6 (w : World) (a b c d e f : Obj) : ((((((w.alloc a).alloc b).alloc c).alloc d).alloc e).alloc f).heap[w.heap.size]? = some a ∧ ((((((w.alloc a).alloc b).alloc c).alloc d).alloc e).alloc f).heap[w.heap.size + 1]? = some b ∧ ((((((w.alloc a).alloc b).alloc c).alloc d).alloc e).alloc f).heap[w.heap.size + 2]? = some c ∧ ((((((w.alloc a).alloc b).alloc c).alloc d).alloc e).alloc f).heap[w.heap.size + 3]? = some d ∧ ((((((w.alloc a).alloc b).alloc c).alloc d).alloc e).alloc f).heap[w.heap.size + 4]? = some e ∧ ((((((w.alloc a).alloc b).alloc c).alloc d).alloc e).alloc f).heap[w.heap.size + 5]? = some f ∧ Below w.heap.size w ((((((w.alloc a).alloc b).alloc c).alloc d).alloc e).alloc f) := by
  obtain ⟨h1, h2, h3, h4, h5⟩ := al4 w a b c d
  have h6 := heap_alloc_new ((((w.alloc a).alloc b).alloc c).alloc d) e
  rw [show ((((w.alloc a).alloc b).alloc c).alloc d).heap.size = w.heap.size + 4 by simp] at h6
  have h7 := heap_alloc_new (((((w.alloc a).alloc b).alloc c).alloc d).alloc e) f
  rw [show (((((w.alloc a).alloc b).alloc c).alloc d).alloc e).heap.size = w.heap.size + 5 by simp] at h7
  have h8 := h5.alloc h5.size e
  exact ⟨at_alloc (at_alloc h1 e) f, at_alloc (at_alloc h2 e) f, at_alloc (at_alloc h3 e) f, at_alloc (at_alloc h4 e) f, at_alloc h6 f, h7, h8.alloc h8.size f⟩
section
variable {w W W' : World} {n0 b na ca : Nat} {k st so dm ep : Int} {ve : Value} {Aa : Option Addr} {L : List Ed} {was vals : List Int} {chg : List Bool} {l1 l2 l3 : List Nat} {va ua vs us u : Value}
theorem TlH.made (w : World) (b na ca : Nat) (k st so dm ep : Int) (ve : Value) (Aa : Option Addr) (L : List Ed) (was vals : List Int) (chg : List Bool) :
    TlH w ((((((w.alloc (.cells #[.int .u8 k, .int .i64 st, .int .i64 so, .int .i64 dm, .int .i64 ep, ve] 71)).alloc (.cells #[.pointer (some ⟨b, 0, none⟩)] 110)).alloc (.cells #[.slice Aa na ca] 27)).alloc (.cells #[.slice none 0 0] 57)).alloc (.cells #[.slice none 0 0] 130)).alloc (.cells #[.int .i64 0, .int .i64 0] 132)) w.heap.size b k st so dm ep ve Aa na ca L was vals chg [] [] [] (.slice none 0 0) (.slice none 0 0) (.slice none 0 0) (.slice none 0 0) := by
  obtain ⟨h1, h2, h3, h4, h5, h6, h7⟩ := al6 w (.cells #[.int .u8 k, .int .i64 st, .int .i64 so, .int .i64 dm, .int .i64 ep, ve] 71) (.cells #[.pointer (some ⟨b, 0, none⟩)] 110) (.cells #[.slice Aa na ca] 27) (.cells #[.slice none 0 0] 57) (.cells #[.slice none 0 0] 130) (.cells #[.int .i64 0, .int .i64 0] 132)
  exact ⟨h7, h1, h2, h3, h4, h5, h6, IOwn.none_ _ _, ROwn.none_ _ _⟩
theorem TlH.step (h : TlH w W n0 b k st so dm ep ve Aa na ca L was vals chg l1 l2 l3 va ua vs us) (hb : Below W.heap.size W W') : TlH w W' n0 b k st so dm ep ve Aa na ca L was vals chg l1 l2 l3 va ua vs us :=
  ⟨step_below h.below h.below.size hb, keep h.cb hb, keep h.pb hb, keep h.hb hb, keep h.ab hb, keep h.sb hb, keep h.tb hb, own_below h.ao hb, h.so.below hb⟩
theorem TlH.kept (h : TlH w W n0 b k st so dm ep ve Aa na ca L was vals chg l1 l2 l3 va ua vs us) {row : Option Nat} (hg : W.grownBy W' row) (hr : ∀ r, row = some r → ∃ o, W.heap[r]? = some o ∧ o.isCells = false) (hn : ∀ r, row = some r → w.heap.size ≤ r) : TlH w W' n0 b k st so dm ep ve Aa na ca L was vals chg l1 l2 l3 va ua vs us := by
  refine ⟨Below.grown h.below hg h.below.size hn, obj_kept hg hr h.cb, obj_kept hg hr h.pb, obj_kept hg hr h.hb, obj_kept hg hr h.ab, obj_kept hg hr h.sb, obj_kept hg hr h.tb, row_kept hg hr h.ao, ?_⟩
  obtain ⟨xs, h1, h2⟩ := h.so
  exact ⟨xs, row_kept hg hr h1, h2.1, fun i M hi => by obtain ⟨x, e1, e2⟩ := h2.2 i M hi; exact ⟨x, e1, row_kept hg hr e2⟩⟩
end
end Go.Proofs.YtkbmmlombigkmaaGreat.Sq
