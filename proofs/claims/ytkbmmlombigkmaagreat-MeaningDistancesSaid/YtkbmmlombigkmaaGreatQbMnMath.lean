/-
  What is proved here: plain facts on what the supersteps come to: labels, once they rest, or behind as many steps as there are vertices, are the least vertices that hang together; distances are the least sums. No program.
-/
import Derived.Test.YtkbmmlombigkmaaGreatQbSqMathx
namespace Go.Proofs.YtkbmmlombigkmaaGreat.Mn
open Gr Fx Rk Lb Al In Sq
open Pa (vl bt vl_of vl_at bt_of bt_at vl_ext itr itr_next itr_keep itr_rest cnt cnt_le far Abv Fits fits_of gv addI_mono far_tight Tight Rc fr)
def Gv (k : Int) (L : List Ed) (u v x y : Int) : Prop := (k = 2 ∧ u ≠ v ∧ y = x ∧ ∃ e ∈ L, (e.1 = u ∧ e.2.1 = v) ∨ (e.1 = v ∧ e.2.1 = u)) ∨ (k = 3 ∧ ∃ e ∈ L, e.1 = u ∧ e.2.1 = v ∧ y = addI x e.2.2)
theorem gv_in {k : Int} {L : List Ed} {u v x y : Int} (hx : InR x) (h : Gv k L u v x y) : InR y := by
  rcases h with ⟨_, _, rfl, _⟩ | ⟨_, e, _, _, _, rfl⟩
  · exact hx
  · exact addI_in _ _
section
variable {k so dm : Int} {V : Nat} {L : List Ed}
abbrev X (k so dm : Int) (V : Nat) (L : List Ed) (n v : Nat) : Int := vl (stS k so dm V L n).vals v
end
inductive Con (L : List Ed) (u : Nat) : Nat → Prop
  | refl : Con L u u
  | fwd {e : Ed} : e ∈ L → Con L u (fr e) → Con L u (Pa.to e)
  | bwd {e : Ed} : e ∈ L → Con L u (Pa.to e) → Con L u (fr e)
theorem Con.trans {L : List Ed} {u v w : Nat} (h : Con L u v) (g : Con L v w) : Con L u w := by
  induction g with
  | refl => exact h
  | fwd he _ ih => exact .fwd he ih
  | bwd he _ ih => exact .bwd he ih
theorem Con.symm {L : List Ed} {u v : Nat} (h : Con L u v) : Con L v u := by
  induction h with
  | refl => exact .refl
  | fwd he _ ih => exact (Con.bwd he .refl).trans ih
  | bwd he _ ih => exact (Con.fwd he .refl).trans ih
theorem Con.lt {V : Nat} {L : List Ed} (hF : Fits V L) {u v : Nat} (hu : u < V) (h : Con L u v) : v < V := by
  cases h with
  | refl => exact hu
  | fwd he _ => exact (hF _ he).2
  | bwd he _ => exact (hF _ he).1
structure LabC (V : Nat) (L : List Ed) (l : List Int) : Prop where
  len : l.length = V
  is_ : ∀ v, v < V → ∃ u : Nat, u < V ∧ Con L v u ∧ vl l v = (u : Int)
  le : ∀ v, v < V → ∀ u : Nat, Con L v u → vl l v ≤ (u : Int)
theorem LabC.one {V : Nat} {L : List Ed} {a b : List Int} (ha : LabC V L a) (hb : LabC V L b) : a = b := by
  refine vl_ext (by rw [ha.len, hb.len]) fun v hv => ?_
  rw [ha.len] at hv
  obtain ⟨u, _, h1, h2⟩ := ha.is_ v hv
  obtain ⟨t, _, h3, h4⟩ := hb.is_ v hv
  have := ha.le v hv t h3
  have := hb.le v hv u h1
  omega
def stepB (V : Nat) (E : Nat → Nat → Bool) (r : List Bool) : List Bool := (List.range V).map fun v => bt r v || (List.range V).any fun u => bt r u && E u v
theorem stepB_len (V : Nat) (E : Nat → Nat → Bool) (r : List Bool) : (stepB V E r).length = V := by simp [stepB]
theorem stepB_at {V : Nat} {E : Nat → Nat → Bool} {r : List Bool} {v : Nat} (hv : v < V) : bt (stepB V E r) v = (bt r v || (List.range V).any fun u => bt r u && E u v) :=
  bt_of (by unfold stepB; rw [List.getElem?_map, List.getElem?_range hv]; rfl)
theorem cnt_more : ∀ (r s : List Bool), r.length = s.length → (∀ v, bt r v = true → bt s v = true) → r = s ∨ cnt r < cnt s
  | [], [], _, _ => Or.inl rfl
  | [], _ :: _, h, _ => by simp at h
  | _ :: _, [], h, _ => by simp at h
  | a :: r, b :: s, h, g => by
    have g0 : a = true → b = true := fun e => by have := g 0 (by show (a :: r).getD 0 false = true; simpa using e); simpa [bt] using this
    have gs : ∀ v, bt r v = true → bt s v = true := fun v e => by have := g (v + 1) (by simpa [bt] using e); simpa [bt] using this
    rcases cnt_more r s (by simpa using h) gs with e | e
    · subst e
      cases a with
      | true => rw [g0 rfl]; exact Or.inl rfl
      | false =>
        cases b with
        | false => exact Or.inl rfl
        | true => right; simp [cnt]; omega
    · right
      rw [cnt, cnt]
      cases a with
      | true => rw [g0 rfl]; omega
      | false => cases b <;> simp <;> omega
theorem stepB_rest (V : Nat) (E : Nat → Nat → Bool) (r : List Bool) (hr : r.length = V) : stepB V E (itr (stepB V E) V r) = itr (stepB V E) V r :=
  itr_rest (f := stepB V E) (fun r => r.length = V) cnt V (fun r _ => stepB_len V E r) (fun r h => by have := (cnt_le r).2; rw [h] at this; exact this)
    (fun x hx => (cnt_more x (stepB V E x) (by rw [stepB_len, hx]) fun v hv => by
      rcases Nat.lt_or_ge v V with h | h
      · rw [stepB_at h, hv]; rfl
      · unfold bt at hv; rw [List.getD_eq_getElem?_getD, List.getElem?_eq_none (by omega)] at hv; simp at hv).imp Eq.symm id) V r hr (by have := (cnt_le r).1; omega)
theorem keeps {V : Nat} {E : Nat → Nat → Bool} {r : List Bool} {v : Nat} (hv : v < V) (h : bt r v = true) : ∀ n, bt (itr (stepB V E) n r) v = true
  | 0 => h
  | n + 1 => by rw [itr_next, stepB_at hv, keeps hv h n]; rfl
theorem closed {V : Nat} {E : Nat → Nat → Bool} {r : List Bool} (hr : r.length = V) {u v : Nat} (hu : u < V) (hv : v < V) (hE : E u v = true) (h : bt (itr (stepB V E) V r) u = true) : bt (itr (stepB V E) V r) v = true := by
  rw [← stepB_rest V E r hr, stepB_at hv, Bool.or_eq_true]
  exact Or.inr (List.any_eq_true.2 ⟨u, List.mem_range.2 hu, by rw [h, hE]; rfl⟩)
section
variable {so dm : Int} {V : Nat} {L : List Ed}
end
section
variable {dm : Int} {V s : Nat} {L : List Ed}
theorem far_is {l : List Int} (hF : Fits V L) (hs : s < V) (h1 : l.length = V) (h3 : vl l s ≤ 0) (h2 : ∀ v, v < V → vl l v ≤ 4611686018427387904) (h4 : ∀ e ∈ L, vl l (Pa.to e) ≤ gv l e) (h5 : Abv V (far V s L) l) : l = far V s L := by
  have hT := far_tight (L := L) hF hs
  refine vl_ext (by rw [h1, hT.len]) fun v hv => ?_
  rw [h1] at hv
  have hle : vl l v ≤ vl (far V s L) v := by
    rcases hT.held v hv with h | h
    · have := h2 v hv; omega
    · induction h with
      | src => rw [hT.src]; exact h3
      | @step e he _ hg ih =>
        obtain ⟨hf, ht⟩ := hF e he
        have := ih hf
        have g1 := h4 e he
        have g2 := addI_mono e.2.2 this
        unfold gv at g1 hg; omega
  have := h5 v hv
  omega
end
end Go.Proofs.YtkbmmlombigkmaaGreat.Mn
