/-
  What is proved here: plain words for memory that the texts of this seat share: what lies below is left, rows that the call made. No condition. What is proved here: plain facts on graphs: which may be, that ordered edges are one list. No program. What is proved here: plain facts on parts: which worker has a vertex, which vertices a worker has, what a part is, what parts joined are; that the parts of a graph, joined, are it. No program.
-/
import Derived.Test.YtfbfckdabbaocaaRows
import Derived.WalkKit
import Derived.WalkSpells
import Derived.Deep.LoopGhost
import Derived.Lib.Hide
import Derived.Lib.Builder
import Derived.Laws.CopyOwn
import Derived.Deep.OwnRows
import Derived.Deep.QuietTactic
import Derived.BigQuiet
import Derived.Shelf.SlSortCmp.QuietGrown
namespace Go.Proofs.Ytfbfckdabbaocaa.Wd
def base : Unit := ()
end Go.Proofs.Ytfbfckdabbaocaa.Wd
namespace Go.Proofs.Ytfbfckdabbaocaa.Ws
open Go.RowKit
theorem add_plain (g o k : Nat) : (⟨g, o, none⟩ : Addr).add k = ⟨g, o + k, none⟩ := by unfold Addr.add; split <;> simp_all
theorem add_block (a : Addr) (n : Nat) : (a.add n).block = a.block := by unfold Addr.add; split <;> rfl
theorem below_drewN {B : Nat} {a w : World} (h : Below B a w) (n : Nat) : Below B a (w.drewN n) := ⟨h.os, h.tape, h.output, h.size, h.block⟩
theorem below_grow (w : World) (k : Nat) (os : Array Obj) : Below w.heap.size w (Sort.grow (w.drewN k) os) := by
  have h : (w.drewN k).heap = w.heap := by simp
  refine ⟨rfl, rfl, rfl, by simp [Sort.grow], fun i hi => ?_⟩
  show ((w.drewN k).heap ++ os)[i]? = _
  rw [h, Array.getElem?_append_left hi]
theorem own_kept {w w' : World} {B : Nat} {e : TypeId} {s : Nat} {v : Value} {n : Nat} {xs : List Value} (h : w.ownsRow B e s v n xs) (hk : ∀ g c fz, v.ownBlock = some g → w.heap[g]? = some (.cells c e fz) → w'.heap[g]? = w.heap[g]?) : w'.ownsRow B e s v n xs := by
  obtain ⟨h0, h1 | ⟨g, cap, cur, h1, h2, h3, h4⟩⟩ := h
  · exact ⟨h0, Or.inl h1⟩
  · exact ⟨h0, Or.inr ⟨g, cap, cur, h1, h2, (hk g cur (0, 0) (by rw [h1]; rfl) h3).trans h3, h4⟩⟩
theorem own_lt {w : World} {B : Nat} {e : TypeId} {s : Nat} {v : Value} {n : Nat} {xs : List Value} (h : w.ownsRow B e s v n xs) : ∀ g, v.ownBlock = some g → B ≤ g ∧ ∃ c, w.heap[g]? = some (.cells c e (0, 0)) := by
  intro g hg
  obtain ⟨_, h1 | ⟨g', cap, cur, h1, h2, h3, _⟩⟩ := h
  · rw [h1.1] at hg; cases hg
  · rw [h1] at hg
    have : g' = g := by simpa [Value.ownBlock] using hg
    subst this
    exact ⟨h2, cur, h3⟩
theorem own_below {w w' : World} {B : Nat} {e : TypeId} {s : Nat} {v : Value} {n : Nat} {xs : List Value} (h : w.ownsRow B e s v n xs) (hb : Below w.heap.size w w') : w'.ownsRow B e s v n xs :=
  own_kept h fun g _ _ _ hc => hb.block g (lt_of_block hc)
theorem own_mono {w : World} {B B' : Nat} {e : TypeId} {s : Nat} {v : Value} {n : Nat} {xs : List Value} (h : w.ownsRow B e s v n xs) (hb : B' ≤ B) : w.ownsRow B' e s v n xs := by
  obtain ⟨h0, h1 | ⟨g, cap, cur, h1, h2, h3, h4⟩⟩ := h
  · exact ⟨h0, Or.inl h1⟩
  · exact ⟨h0, Or.inr ⟨g, cap, cur, h1, by omega, h3, h4⟩⟩
end Go.Proofs.Ytfbfckdabbaocaa.Ws
namespace Go.Proofs.Ytfbfckdabbaocaa.Gr
open Go Go.Lib Wd
abbrev Ed := Int × Int × Int
def ahd (a b : Ed) : Bool := decide (a.1 < b.1) || (decide (a.1 = b.1) && decide (a.2.1 < b.2.1))
def fitE (V : Int) (e : Ed) : Bool := decide (0 ≤ e.1) && decide (e.1 < V) && decide (0 ≤ e.2.1) && decide (e.2.1 < V) && decide (0 ≤ e.2.2) && decide (e.2.2 < 2147483648)
def Rise (L : List Ed) : Prop := L.Pairwise fun a b => ahd a b = true
def ahdO : Option Ed → Ed → Bool
  | none, _ => true
  | some q, e => ahd q e
def okL (V : Int) : Option Ed → List Ed → Bool
  | _, [] => true
  | p, e :: L => fitE V e && ahdO p e && okL V (some e) L
def chk (V : Int) (L : List Ed) : Int := if 512 < V ∨ 8192 < L.length then 3 else if V < 1 then 40 else if okL V none L then 0 else 40
theorem ahd_iff (a b : Ed) : ahd a b = true ↔ a.1 < b.1 ∨ (a.1 = b.1 ∧ a.2.1 < b.2.1) := by
  unfold ahd; simp
theorem ahd_trans {a b c : Ed} (h : ahd a b = true) (k : ahd b c = true) : ahd a c = true := by
  rw [ahd_iff] at *; omega
theorem okL_iff (V : Int) : ∀ (L : List Ed) (p : Option Ed), okL V p L = true ↔ (∀ e ∈ L, fitE V e = true) ∧ Rise L ∧ ∀ q, p = some q → ∀ e ∈ L, ahd q e = true
  | [], p => by simp [okL, Rise]
  | e :: L, p => by
    rw [okL, Bool.and_eq_true, Bool.and_eq_true, okL_iff V L (some e)]
    constructor
    · rintro ⟨⟨h1, h2⟩, h3, h4, h5⟩
      have h6 := h5 e rfl
      refine ⟨fun x hx => ?_, List.pairwise_cons.2 ⟨h6, h4⟩, fun q hq x hx => ?_⟩
      · rcases List.mem_cons.1 hx with rfl | hx
        · exact h1
        · exact h3 x hx
      · subst hq
        rcases List.mem_cons.1 hx with rfl | hx
        · exact h2
        · exact ahd_trans h2 (h6 x hx)
    · rintro ⟨h1, h2, h3⟩
      obtain ⟨h4, h5⟩ := List.pairwise_cons.1 h2
      refine ⟨⟨h1 e List.mem_cons_self, ?_⟩, fun x hx => h1 x (List.mem_cons_of_mem _ hx), h5, fun q hq => by cases hq; exact h4⟩
      cases p with
      | none => rfl
      | some q => exact h3 q rfl e List.mem_cons_self
theorem chk_zero (V : Int) (L : List Ed) : chk V L = 0 ↔ 1 ≤ V ∧ V ≤ 512 ∧ L.length ≤ 8192 ∧ (∀ e ∈ L, fitE V e = true) ∧ Rise L := by
  unfold chk
  by_cases h1 : 512 < V ∨ 8192 < L.length
  · rw [if_pos h1]; omega
  · rw [if_neg h1]
    by_cases h2 : V < 1
    · rw [if_pos h2]; omega
    · rw [if_neg h2]
      cases h3 : okL V none L with
      | true =>
        obtain ⟨g1, g2, _⟩ := (okL_iff V L none).1 h3
        simp only [if_true, true_iff]
        exact ⟨by omega, by omega, by omega, g1, g2⟩
      | false =>
        simp only [Bool.false_eq_true, if_false]
        constructor
        · intro h; omega
        · rintro ⟨_, _, _, g1, g2⟩
          rw [(okL_iff V L none).2 ⟨g1, g2, by simp⟩] at h3; cases h3
end Go.Proofs.Ytfbfckdabbaocaa.Gr
namespace Go.Proofs.Ytfbfckdabbaocaa.Pt
open Go Go.Lib Gr
def ofI (v k : Int) : Int := if 0 ≤ v ∧ v < 512 ∧ 1 ≤ k ∧ k ≤ 64 then 2654435761 * v % 4294967296 * k / 4294967296 else -1
theorem ofI_range {v k : Int} (h0 : 0 ≤ v) (h1 : v < 512) (h2 : 1 ≤ k) (h3 : k ≤ 64) : 0 ≤ ofI v k ∧ ofI v k < k := by
  unfold ofI
  rw [if_pos ⟨h0, h1, h2, h3⟩]
  obtain ⟨x, hx⟩ : ∃ x, 2654435761 * v % 4294967296 = x := ⟨_, rfl⟩
  have hx0 : 0 ≤ x := by omega
  have hx1 : x < 4294967296 := by omega
  rw [hx]
  constructor
  · exact Int.ediv_nonneg (Int.mul_nonneg hx0 (by omega)) (by omega)
  · apply Int.ediv_lt_of_lt_mul (by omega)
    rw [Int.mul_comm k]
    exact Int.mul_lt_mul_of_pos_right hx1 (by omega)
theorem ofI_not {v k : Int} (h : ¬ (0 ≤ v ∧ v < 512 ∧ 1 ≤ k ∧ k ≤ 64)) : ofI v k = -1 := by unfold ofI; rw [if_neg h]
def vs (n : Nat) : List Int := (List.range n).map fun (i : Nat) => (i : Int)
theorem vs_len (n : Nat) : (vs n).length = n := by simp [vs]
theorem vs_succ (n : Nat) : vs (n + 1) = vs n ++ [(n : Int)] := by simp [vs, List.range_succ]
theorem vs_mem {n : Nat} {v : Int} : v ∈ vs n ↔ 0 ≤ v ∧ v < n := by
  simp only [vs, List.mem_map, List.mem_range]
  constructor
  · rintro ⟨i, hi, rfl⟩; omega
  · rintro ⟨h1, h2⟩; exact ⟨v.toNat, by omega, by omega⟩
def isW (k w : Int) (v : Int) : Bool := decide (0 ≤ w) && decide (ofI v k = w)
theorem isW_yes {k w v : Int} (h : 0 ≤ w) (e : ofI v k = w) : isW k w v = true := by unfold isW; rw [decide_eq_true h, decide_eq_true e]; rfl
theorem isW_no {k w v : Int} (e : ofI v k ≠ w) : isW k w v = false := by unfold isW; rw [decide_eq_false e, Bool.and_false]
def ow (k w : Int) (n : Nat) : List Int := (vs n).filter (isW k w)
theorem ow_succ (k w : Int) (n : Nat) : ow k w (n + 1) = ow k w n ++ (if isW k w n then [(n : Int)] else []) := by
  unfold ow; rw [vs_succ, List.filter_append]
  congr 1
  cases h : isW k w n <;> simp [h]
theorem ow_len (k w : Int) (n : Nat) : (ow k w n).length ≤ n := by
  have := List.length_filter_le (isW k w) (vs n); rw [vs_len] at this; exact this
theorem ow_mem {k w : Int} {n : Nat} {v : Int} (h : v ∈ ow k w n) : 0 ≤ v ∧ v < n ∧ 0 ≤ w ∧ ofI v k = w := by
  obtain ⟨h1, h2⟩ := List.mem_filter.1 h
  have := vs_mem.1 h1
  simp [isW] at h2; omega
def nv (n : Int) : Nat := (min n 512).toNat
def owned (n k w : Int) : List Int := ow k w (nv n)
theorem ow_none {k w : Int} (h : ¬ (1 ≤ k ∧ k ≤ 64 ∧ 0 ≤ w ∧ w < k)) (n : Nat) : ow k w n = [] := by
  unfold ow
  apply List.filter_eq_nil_iff.2
  intro v _ hh
  simp [isW] at hh
  obtain ⟨h1, h2⟩ := hh
  by_cases g : 0 ≤ v ∧ v < 512 ∧ 1 ≤ k ∧ k ≤ 64
  · have := ofI_range g.1 g.2.1 g.2.2.1 g.2.2.2; omega
  · rw [ofI_not g] at h2; omega
structure Pt where
  w : Int
  k : Int
  n : Int
  own : List Int
  out : List (List Ed)
  back : List (List Ed)
deriving DecidableEq
def frm (L : List Ed) (v : Int) : List Ed := L.filter fun e => decide (e.1 = v)
def tow (L : List Ed) (v : Int) : List Ed := L.filter fun e => decide (e.2.1 = v)
def cutP (V : Int) (L : List Ed) (k w : Int) : Pt := ⟨w, k, V, owned V k w, (owned V k w).map (frm L), (owned V k w).map (tow L)⟩
def hd (l : List Pt) : Int := match l[0]? with | none => 0 | some p => p.n
def Cuts (l : List Pt) (V : Int) (es : List Ed) (j : Nat) : Prop := ∀ i, i < j → l[i]? = some (cutP V es l.length i)
instance (l : List Pt) (V : Int) (es : List Ed) (j : Nat) : Decidable (Cuts l V es j) := by unfold Cuts; infer_instance
theorem ow_split (k w : Int) (j m : Nat) (h : isW k w j = true) : ∃ B : List Int, ow k w (j + (m + 1)) = ow k w j ++ ((j : Int) :: B) ∧ ∀ x ∈ B, (j : Int) < x := by
  induction m with
  | zero => exact ⟨[], by rw [ow_succ, h]; rfl, by simp⟩
  | succ m ih =>
    obtain ⟨B, h1, h2⟩ := ih
    refine ⟨B ++ (if isW k w ((j + (m + 1) : Nat) : Int) then [((j + (m + 1) : Nat) : Int)] else []), ?_, ?_⟩
    · rw [← Nat.add_assoc, ow_succ, h1]; simp
    · intro x hx
      rcases List.mem_append.1 hx with hx | hx
      · exact h2 x hx
      · split at hx
        · simp at hx; omega
        · simp at hx
structure Joins (l : List Pt) (V : Int) (L : List Ed) : Prop where
  one : 1 ≤ l.length
  most : l.length ≤ 64
  ok : chk V L = 0
  cuts : Cuts l V L l.length
theorem Joins.hd {l : List Pt} {V : Int} {L : List Ed} (h : Joins l V L) : Pt.hd l = V := by
  have := h.cuts 0 h.one
  unfold Pt.hd; rw [this]; rfl
theorem Joins.facts {l : List Pt} {V : Int} {L : List Ed} (h : Joins l V L) : 1 ≤ V ∧ V ≤ 512 ∧ L.length ≤ 8192 ∧ (∀ e ∈ L, fitE V e = true) ∧ Rise L := (chk_zero V L).1 h.ok
theorem Joins.at_ {l : List Pt} {V : Int} {L : List Ed} (h : Joins l V L) (j : Nat) (hj : (j : Int) < V) :
    ∃ B, l[(ofI j l.length).toNat]? = some (cutP V L l.length (ofI j l.length)) ∧ (ofI j l.length).toNat < l.length ∧ owned V l.length (ofI j l.length) = ow l.length (ofI j l.length) j ++ ((j : Int) :: B) ∧ ∀ x ∈ B, (j : Int) < x := by
  obtain ⟨f1, f2, _⟩ := h.facts
  have := h.one; have := h.most
  obtain ⟨r1, r2⟩ := ofI_range (v := j) (k := l.length) (by omega) (by omega) (by omega) (by omega)
  have hw : isW l.length (ofI j l.length) j = true := isW_yes r1 rfl
  have hn : nv V = j + ((V.toNat - j - 1) + 1) := by unfold nv; omega
  obtain ⟨B, h1, h2⟩ := ow_split l.length (ofI j l.length) j (V.toNat - j - 1) hw
  refine ⟨B, ?_, by omega, ?_, h2⟩
  · have := h.cuts (ofI j l.length).toNat (by omega)
    rw [this, Int.toNat_of_nonneg r1]
  · unfold owned; rw [hn]; exact h1
def plcF (v : Int) : Nat → List Int → Int
  | _, [] => -1
  | k, x :: l => if x = v then (k : Int) else plcF v (k + 1) l
def plc (l : List Int) (v : Int) : Int := plcF v 0 l
end Go.Proofs.Ytfbfckdabbaocaa.Pt
