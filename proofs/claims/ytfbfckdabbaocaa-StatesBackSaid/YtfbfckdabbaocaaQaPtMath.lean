/-
  What is proved here: plain facts on parts: which worker has a vertex, which vertices a worker has, what a part is, what parts joined are; that the parts of a graph, joined, are it. No program.
-/
import Derived.Test.YtfbfckdabbaocaaQaPtGmx
namespace Go.Proofs.Ytfbfckdabbaocaa.Pt
open Go Go.Lib Gr
def ofI (v k : Int) : Int := if 0 ≤ v ∧ v < 512 ∧ 1 ≤ k ∧ k ≤ 64 then 2654435761 * v % 4294967296 * k / 4294967296 else -1
theorem ofI_range {v k : Int} (h0 : 0 ≤ v) (h1 : v < 512) (h2 : 1 ≤ k) (h3 : k ≤ 64) : 0 ≤ ofI v k ∧ ofI v k < k := by
  unfold ofI
  rw [if_pos ⟨h0, h1, h2, h3⟩]
  obtain ⟨x, hx⟩ : ∃ x, 2654435761 * v % 4294967296 = x := ⟨_, rfl⟩
  have hx0 : 0 ≤ x := by omega
  have hx1 : x < 4294967296 := by omega
  rw [hx]
  constructor
  · exact Int.ediv_nonneg (Int.mul_nonneg hx0 (by omega)) (by omega)
  · apply Int.ediv_lt_of_lt_mul (by omega)
    rw [Int.mul_comm k]
    exact Int.mul_lt_mul_of_pos_right hx1 (by omega)
def vs (n : Nat) : List Int := (List.range n).map fun (i : Nat) => (i : Int)
theorem vs_len (n : Nat) : (vs n).length = n := by simp [vs]
theorem vs_succ (n : Nat) : vs (n + 1) = vs n ++ [(n : Int)] := by simp [vs, List.range_succ]
theorem vs_mem {n : Nat} {v : Int} : v ∈ vs n ↔ 0 ≤ v ∧ v < n := by
  simp only [vs, List.mem_map, List.mem_range]
  constructor
  · rintro ⟨i, hi, rfl⟩; omega
  · rintro ⟨h1, h2⟩; exact ⟨v.toNat, by omega, by omega⟩
def isW (k w : Int) (v : Int) : Bool := decide (0 ≤ w) && decide (ofI v k = w)
theorem isW_yes {k w v : Int} (h : 0 ≤ w) (e : ofI v k = w) : isW k w v = true := by unfold isW; rw [decide_eq_true h, decide_eq_true e]; rfl
def ow (k w : Int) (n : Nat) : List Int := (vs n).filter (isW k w)
theorem ow_succ (k w : Int) (n : Nat) : ow k w (n + 1) = ow k w n ++ (if isW k w n then [(n : Int)] else []) := by
  unfold ow; rw [vs_succ, List.filter_append]
  congr 1
  cases h : isW k w n <;> simp [h]
theorem ow_mem {k w : Int} {n : Nat} {v : Int} (h : v ∈ ow k w n) : 0 ≤ v ∧ v < n ∧ 0 ≤ w ∧ ofI v k = w := by
  obtain ⟨h1, h2⟩ := List.mem_filter.1 h
  have := vs_mem.1 h1
  simp [isW] at h2; omega
def nv (n : Int) : Nat := (min n 512).toNat
def owned (n k w : Int) : List Int := ow k w (nv n)
structure Pt where
  w : Int
  k : Int
  n : Int
  own : List Int
  out : List (List Ed)
  back : List (List Ed)
deriving DecidableEq
def frm (L : List Ed) (v : Int) : List Ed := L.filter fun e => decide (e.1 = v)
def tow (L : List Ed) (v : Int) : List Ed := L.filter fun e => decide (e.2.1 = v)
def cutP (V : Int) (L : List Ed) (k w : Int) : Pt := ⟨w, k, V, owned V k w, (owned V k w).map (frm L), (owned V k w).map (tow L)⟩
def hd (l : List Pt) : Int := match l[0]? with | none => 0 | some p => p.n
def Cuts (l : List Pt) (V : Int) (es : List Ed) (j : Nat) : Prop := ∀ i, i < j → l[i]? = some (cutP V es l.length i)
instance (l : List Pt) (V : Int) (es : List Ed) (j : Nat) : Decidable (Cuts l V es j) := by unfold Cuts; infer_instance
theorem ow_split (k w : Int) (j m : Nat) (h : isW k w j = true) : ∃ B : List Int, ow k w (j + (m + 1)) = ow k w j ++ ((j : Int) :: B) ∧ ∀ x ∈ B, (j : Int) < x := by
  induction m with
  | zero => exact ⟨[], by rw [ow_succ, h]; rfl, by simp⟩
  | succ m ih =>
    obtain ⟨B, h1, h2⟩ := ih
    refine ⟨B ++ (if isW k w ((j + (m + 1) : Nat) : Int) then [((j + (m + 1) : Nat) : Int)] else []), ?_, ?_⟩
    · rw [← Nat.add_assoc, ow_succ, h1]; simp
    · intro x hx
      rcases List.mem_append.1 hx with hx | hx
      · exact h2 x hx
      · split at hx
        · simp at hx; omega
        · simp at hx
structure Joins (l : List Pt) (V : Int) (L : List Ed) : Prop where
  one : 1 ≤ l.length
  most : l.length ≤ 64
  ok : chk V L = 0
  cuts : Cuts l V L l.length
theorem Joins.hd {l : List Pt} {V : Int} {L : List Ed} (h : Joins l V L) : Pt.hd l = V := by
  have := h.cuts 0 h.one
  unfold Pt.hd; rw [this]; rfl
theorem Joins.facts {l : List Pt} {V : Int} {L : List Ed} (h : Joins l V L) : 1 ≤ V ∧ V ≤ 512 ∧ L.length ≤ 8192 ∧ (∀ e ∈ L, fitE V e = true) ∧ Rise L := (chk_zero V L).1 h.ok
theorem Joins.at_ {l : List Pt} {V : Int} {L : List Ed} (h : Joins l V L) (j : Nat) (hj : (j : Int) < V) :
    ∃ B, l[(ofI j l.length).toNat]? = some (cutP V L l.length (ofI j l.length)) ∧ (ofI j l.length).toNat < l.length ∧ owned V l.length (ofI j l.length) = ow l.length (ofI j l.length) j ++ ((j : Int) :: B) ∧ ∀ x ∈ B, (j : Int) < x := by
  obtain ⟨f1, f2, _⟩ := h.facts
  have := h.one; have := h.most
  obtain ⟨r1, r2⟩ := ofI_range (v := j) (k := l.length) (by omega) (by omega) (by omega) (by omega)
  have hw : isW l.length (ofI j l.length) j = true := isW_yes r1 rfl
  have hn : nv V = j + ((V.toNat - j - 1) + 1) := by unfold nv; omega
  obtain ⟨B, h1, h2⟩ := ow_split l.length (ofI j l.length) j (V.toNat - j - 1) hw
  refine ⟨B, ?_, by omega, ?_, h2⟩
  · have := h.cuts (ofI j l.length).toNat (by omega)
    rw [this, Int.toNat_of_nonneg r1]
  · unfold owned; rw [hn]; exact h1
def plcF (v : Int) : Nat → List Int → Int
  | _, [] => -1
  | k, x :: l => if x = v then (k : Int) else plcF v (k + 1) l
def plc (l : List Int) (v : Int) : Int := plcF v 0 l
end Go.Proofs.Ytfbfckdabbaocaa.Pt
