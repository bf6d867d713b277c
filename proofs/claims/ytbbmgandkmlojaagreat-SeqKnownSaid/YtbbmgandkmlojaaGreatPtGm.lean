/-
  What is proved here: plain facts on graphs: which may be, that ordered edges are one list. No program.
-/
import Derived.Test.YtbbmgandkmlojaaGreatPtBase
namespace Go.Proofs.YtbbmgandkmlojaaGreat.Gr
open Go Go.Lib Wd

/- An edge: from, to, weight. -/
abbrev Ed := Int × Int × Int
def ahd (a b : Ed) : Bool := decide (a.1 < b.1) || (decide (a.1 = b.1) && decide (a.2.1 < b.2.1))
def fitE (V : Int) (e : Ed) : Bool := decide (0 ≤ e.1) && decide (e.1 < V) && decide (0 ≤ e.2.1) && decide (e.2.1 < V) && decide (0 ≤ e.2.2) && decide (e.2.2 < 2147483648)
def Rise (L : List Ed) : Prop := L.Pairwise fun a b => ahd a b = true
def ahdO : Option Ed → Ed → Bool
  | none, _ => true
  | some q, e => ahd q e
def okL (V : Int) : Option Ed → List Ed → Bool
  | _, [] => true
  | p, e :: L => fitE V e && ahdO p e && okL V (some e) L
def chk (V : Int) (L : List Ed) : Int := if 512 < V ∨ 8192 < L.length then 3 else if V < 1 then 40 else if okL V none L then 0 else 40
def trn (e : Ed) : Ed := (e.2.1, e.1, e.2.2)

theorem fitE_iff (V : Int) (e : Ed) : fitE V e = true ↔ 0 ≤ e.1 ∧ e.1 < V ∧ 0 ≤ e.2.1 ∧ e.2.1 < V ∧ 0 ≤ e.2.2 ∧ e.2.2 < 2147483648 := by
  unfold fitE; simp only [Bool.and_eq_true, decide_eq_true_eq]; omega
theorem ahd_iff (a b : Ed) : ahd a b = true ↔ a.1 < b.1 ∨ (a.1 = b.1 ∧ a.2.1 < b.2.1) := by
  unfold ahd; simp
theorem ahd_not (a b : Ed) : ahd a b = false ↔ ¬ (a.1 < b.1 ∨ (a.1 = b.1 ∧ a.2.1 < b.2.1)) := by
  rw [← ahd_iff]; simp
theorem ahd_trans {a b c : Ed} (h : ahd a b = true) (k : ahd b c = true) : ahd a c = true := by
  rw [ahd_iff] at *; omega
theorem ahd_irr (a : Ed) : ahd a a = false := by rw [ahd_not]; omega
theorem ahd_asym {a b : Ed} (h : ahd a b = true) : ahd b a = false := by rw [ahd_iff] at h; rw [ahd_not]; omega
/- Neither is ahead: they lead from the same to the same. -/
theorem ahd_same {a b : Ed} (h : ahd a b = false) (k : ahd b a = false) : a.1 = b.1 ∧ a.2.1 = b.2.1 := by
  rw [ahd_not] at *; omega

theorem okL_iff (V : Int) : ∀ (L : List Ed) (p : Option Ed), okL V p L = true ↔ (∀ e ∈ L, fitE V e = true) ∧ Rise L ∧ ∀ q, p = some q → ∀ e ∈ L, ahd q e = true
  | [], p => by simp [okL, Rise]
  | e :: L, p => by
    rw [okL, Bool.and_eq_true, Bool.and_eq_true, okL_iff V L (some e)]
    constructor
    · rintro ⟨⟨h1, h2⟩, h3, h4, h5⟩
      have h6 := h5 e rfl
      refine ⟨fun x hx => ?_, List.pairwise_cons.2 ⟨h6, h4⟩, fun q hq x hx => ?_⟩
      · rcases List.mem_cons.1 hx with rfl | hx
        · exact h1
        · exact h3 x hx
      · subst hq
        rcases List.mem_cons.1 hx with rfl | hx
        · exact h2
        · exact ahd_trans h2 (h6 x hx)
    · rintro ⟨h1, h2, h3⟩
      obtain ⟨h4, h5⟩ := List.pairwise_cons.1 h2
      refine ⟨⟨h1 e List.mem_cons_self, ?_⟩, fun x hx => h1 x (List.mem_cons_of_mem _ hx), h5, fun q hq => by cases hq; exact h4⟩
      cases p with
      | none => rfl
      | some q => exact h3 q rfl e List.mem_cons_self
theorem chk_zero (V : Int) (L : List Ed) : chk V L = 0 ↔ 1 ≤ V ∧ V ≤ 512 ∧ L.length ≤ 8192 ∧ (∀ e ∈ L, fitE V e = true) ∧ Rise L := by
  unfold chk
  by_cases h1 : 512 < V ∨ 8192 < L.length
  · rw [if_pos h1]; omega
  · rw [if_neg h1]
    by_cases h2 : V < 1
    · rw [if_pos h2]; omega
    · rw [if_neg h2]
      cases h3 : okL V none L with
      | true =>
        obtain ⟨g1, g2, _⟩ := (okL_iff V L none).1 h3
        simp only [if_true, true_iff]
        exact ⟨by omega, by omega, by omega, g1, g2⟩
      | false =>
        simp only [Bool.false_eq_true, if_false]
        constructor
        · intro h; omega
        · rintro ⟨_, _, _, g1, g2⟩
          rw [(okL_iff V L none).2 ⟨g1, g2, by simp⟩] at h3; cases h3

/- Ordered edges are one list. -/
theorem rise_one : ∀ (L M : List Ed), Rise L → Rise M → L.Perm M → L = M
  | [], M, _, _, h => (List.nil_perm.1 h).symm
  | a :: L, [], _, _, h => by have := h.length_eq; simp at this
  | a :: L, b :: M, hL, hM, h => by
    obtain ⟨l1, l2⟩ := List.pairwise_cons.1 hL
    obtain ⟨m1, m2⟩ := List.pairwise_cons.1 hM
    have e : a = b := by
      rcases List.mem_cons.1 (h.mem_iff.1 (List.mem_cons_self : a ∈ a :: L)) with g | g
      · exact g
      · rcases List.mem_cons.1 (h.mem_iff.2 (List.mem_cons_self : b ∈ b :: M)) with k | k
        · exact k.symm
        · have := ahd_asym (m1 a g); rw [l1 b k] at this; cases this
    subst e
    rw [rise_one L M l2 m2 ((List.perm_cons a).1 h)]

/- No two from the same to the same. -/
def same (a b : Ed) : Bool := decide (a.1 = b.1) && decide (a.2.1 = b.2.1)
def Apart (L : List Ed) : Prop := L.Pairwise fun a b => same a b = false
theorem same_iff (a b : Ed) : same a b = true ↔ a.1 = b.1 ∧ a.2.1 = b.2.1 := by unfold same; simp
theorem same_not (a b : Ed) : same a b = false ↔ ¬ (a.1 = b.1 ∧ a.2.1 = b.2.1) := by rw [← same_iff]; simp
theorem rise_apart {L : List Ed} (h : Rise L) : Apart L := h.imp fun {a b} g => by rw [ahd_iff] at g; rw [same_not]; omega
theorem apart_perm {L M : List Ed} (h : Apart L) (p : L.Perm M) : Apart M :=
  (p.pairwise_iff fun {a b} (g : same a b = false) => by rw [same_not] at g ⊢; omega).1 h
/- Edges that are apart, and where none stands ahead of an earlier one, rise. -/
theorem rise_of {L : List Ed} (h : Apart L) (k : L.Pairwise fun a b => ahd b a = false) : Rise L :=
  (h.and k).imp fun {a b} ⟨g1, g2⟩ => by
    cases e : ahd a b with
    | true => rfl
    | false => have := ahd_same e g2; rw [same_not] at g1; exact absurd this g1


end Go.Proofs.YtbbmgandkmlojaaGreat.Gr
