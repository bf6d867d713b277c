/-
  What is proved here: plain facts on graphs: which may be, what a text's lines say, that ordered edges are one list, that a printed graph's lines say it. No program.
-/
import Derived.Test.YtmcmpjcijbeilaaGreatDoorWdMath3
namespace Go.Proofs.YtmcmpjcijbeilaaGreatDoor.Gr
open Go Go.Lib Wd

/- An edge: from, to, weight. -/
abbrev Ed := Int × Int × Int
def ahd (a b : Ed) : Bool := decide (a.1 < b.1) || (decide (a.1 = b.1) && decide (a.2.1 < b.2.1))
def fitE (V : Int) (e : Ed) : Bool := decide (0 ≤ e.1) && decide (e.1 < V) && decide (0 ≤ e.2.1) && decide (e.2.1 < V) && decide (0 ≤ e.2.2) && decide (e.2.2 < 2147483648)
def Rise (L : List Ed) : Prop := L.Pairwise fun a b => ahd a b = true
def ahdO : Option Ed → Ed → Bool
  | none, _ => true
  | some q, e => ahd q e
def okL (V : Int) : Option Ed → List Ed → Bool
  | _, [] => true
  | p, e :: L => fitE V e && ahdO p e && okL V (some e) L
def chk (V : Int) (L : List Ed) : Int := if 512 < V ∨ 8192 < L.length then 3 else if V < 1 then 40 else if okL V none L then 0 else 40
def trn (e : Ed) : Ed := (e.2.1, e.1, e.2.2)

theorem fitE_iff (V : Int) (e : Ed) : fitE V e = true ↔ 0 ≤ e.1 ∧ e.1 < V ∧ 0 ≤ e.2.1 ∧ e.2.1 < V ∧ 0 ≤ e.2.2 ∧ e.2.2 < 2147483648 := by
  unfold fitE; simp only [Bool.and_eq_true, decide_eq_true_eq]; omega
theorem ahd_iff (a b : Ed) : ahd a b = true ↔ a.1 < b.1 ∨ (a.1 = b.1 ∧ a.2.1 < b.2.1) := by
  unfold ahd; simp
theorem ahd_not (a b : Ed) : ahd a b = false ↔ ¬ (a.1 < b.1 ∨ (a.1 = b.1 ∧ a.2.1 < b.2.1)) := by
  rw [← ahd_iff]; simp
theorem ahd_trans {a b c : Ed} (h : ahd a b = true) (k : ahd b c = true) : ahd a c = true := by
  rw [ahd_iff] at *; omega
theorem ahd_irr (a : Ed) : ahd a a = false := by rw [ahd_not]; omega
theorem ahd_asym {a b : Ed} (h : ahd a b = true) : ahd b a = false := by rw [ahd_iff] at h; rw [ahd_not]; omega
/- Neither is ahead: they lead from the same to the same. -/
theorem ahd_same {a b : Ed} (h : ahd a b = false) (k : ahd b a = false) : a.1 = b.1 ∧ a.2.1 = b.2.1 := by
  rw [ahd_not] at *; omega

theorem okL_iff (V : Int) : ∀ (L : List Ed) (p : Option Ed), okL V p L = true ↔ (∀ e ∈ L, fitE V e = true) ∧ Rise L ∧ ∀ q, p = some q → ∀ e ∈ L, ahd q e = true
  | [], p => by simp [okL, Rise]
  | e :: L, p => by
    rw [okL, Bool.and_eq_true, Bool.and_eq_true, okL_iff V L (some e)]
    constructor
    · rintro ⟨⟨h1, h2⟩, h3, h4, h5⟩
      have h6 := h5 e rfl
      refine ⟨fun x hx => ?_, List.pairwise_cons.2 ⟨h6, h4⟩, fun q hq x hx => ?_⟩
      · rcases List.mem_cons.1 hx with rfl | hx
        · exact h1
        · exact h3 x hx
      · subst hq
        rcases List.mem_cons.1 hx with rfl | hx
        · exact h2
        · exact ahd_trans h2 (h6 x hx)
    · rintro ⟨h1, h2, h3⟩
      obtain ⟨h4, h5⟩ := List.pairwise_cons.1 h2
      refine ⟨⟨h1 e List.mem_cons_self, ?_⟩, fun x hx => h1 x (List.mem_cons_of_mem _ hx), h5, fun q hq => by cases hq; exact h4⟩
      cases p with
      | none => rfl
      | some q => exact h3 q rfl e List.mem_cons_self
theorem chk_zero (V : Int) (L : List Ed) : chk V L = 0 ↔ 1 ≤ V ∧ V ≤ 512 ∧ L.length ≤ 8192 ∧ (∀ e ∈ L, fitE V e = true) ∧ Rise L := by
  unfold chk
  by_cases h1 : 512 < V ∨ 8192 < L.length
  · rw [if_pos h1]; omega
  · rw [if_neg h1]
    by_cases h2 : V < 1
    · rw [if_pos h2]; omega
    · rw [if_neg h2]
      cases h3 : okL V none L with
      | true =>
        obtain ⟨g1, g2, _⟩ := (okL_iff V L none).1 h3
        simp only [if_true, true_iff]
        exact ⟨by omega, by omega, by omega, g1, g2⟩
      | false =>
        simp only [Bool.false_eq_true, if_false]
        constructor
        · intro h; omega
        · rintro ⟨_, _, _, g1, g2⟩
          rw [(okL_iff V L none).2 ⟨g1, g2, by simp⟩] at h3; cases h3

/- Ordered edges are one list. -/
theorem rise_one : ∀ (L M : List Ed), Rise L → Rise M → L.Perm M → L = M
  | [], M, _, _, h => (List.nil_perm.1 h).symm
  | a :: L, [], _, _, h => by have := h.length_eq; simp at this
  | a :: L, b :: M, hL, hM, h => by
    obtain ⟨l1, l2⟩ := List.pairwise_cons.1 hL
    obtain ⟨m1, m2⟩ := List.pairwise_cons.1 hM
    have e : a = b := by
      rcases List.mem_cons.1 (h.mem_iff.1 (List.mem_cons_self : a ∈ a :: L)) with g | g
      · exact g
      · rcases List.mem_cons.1 (h.mem_iff.2 (List.mem_cons_self : b ∈ b :: M)) with k | k
        · exact k.symm
        · have := ahd_asym (m1 a g); rw [l1 b k] at this; cases this
    subst e
    rw [rise_one L M l2 m2 ((List.perm_cons a).1 h)]

/- No two from the same to the same. -/
def same (a b : Ed) : Bool := decide (a.1 = b.1) && decide (a.2.1 = b.2.1)
def Apart (L : List Ed) : Prop := L.Pairwise fun a b => same a b = false
theorem same_iff (a b : Ed) : same a b = true ↔ a.1 = b.1 ∧ a.2.1 = b.2.1 := by unfold same; simp
theorem same_not (a b : Ed) : same a b = false ↔ ¬ (a.1 = b.1 ∧ a.2.1 = b.2.1) := by rw [← same_iff]; simp
theorem rise_apart {L : List Ed} (h : Rise L) : Apart L := h.imp fun {a b} g => by rw [ahd_iff] at g; rw [same_not]; omega
theorem apart_perm {L M : List Ed} (h : Apart L) (p : L.Perm M) : Apart M :=
  (p.pairwise_iff fun {a b} (g : same a b = false) => by rw [same_not] at g ⊢; omega).1 h
/- Edges that are apart, and where none stands ahead of an earlier one, rise. -/
theorem rise_of {L : List Ed} (h : Apart L) (k : L.Pairwise fun a b => ahd b a = false) : Rise L :=
  (h.and k).imp fun {a b} ⟨g1, g2⟩ => by
    cases e : ahd a b with
    | true => rfl
    | false => have := ahd_same e g2; rw [same_not] at g1; exact absurd this g1

/- The text of an edge's line, of a graph. -/
def vertB : List UInt8 := [118, 101, 114, 116, 105, 99, 101, 115]
def edgeB : List UInt8 := [101, 100, 103, 101]
def bothB : List UInt8 := [98, 111, 116, 104]

/- The characters of a text. -/
theorem rg_one : ∀ (cs ds : List Ch) (l : List UInt8), Rg l cs → Rg l ds → cs = ds
  | [], [], _, _, _ => rfl
  | [], d :: ds, l, h, ⟨rest, g1, g2, _⟩ => by
    obtain rfl : l = [] := h
    have := congrArg List.length g1
    simp only [List.length_nil, List.length_append] at this
    exact absurd (List.eq_nil_of_length_eq_zero (by omega)) g2
  | c :: cs, [], l, ⟨rest, g1, g2, _⟩, h => by
    obtain rfl : l = [] := h
    have := congrArg List.length g1
    simp only [List.length_nil, List.length_append] at this
    exact absurd (List.eq_nil_of_length_eq_zero (by omega)) g2
  | c :: cs, d :: ds, l, ⟨r1, g1, _, g3, g4⟩, ⟨r2, k1, _, k3, k4⟩ => by
    rw [k3] at g3
    obtain ⟨e1, e2⟩ := Prod.mk.inj g3
    obtain ⟨e3, e4⟩ := List.append_inj (g1.symm.trans k1) e2.symm
    subst e4
    have ec : c = d := by
      cases c; cases d; simp only [Ch.mk.injEq]; exact ⟨e1.symm, e3⟩
    rw [ec, rg_one cs ds r1 g4 k4]
noncomputable def chOf (l : List UInt8) : List Ch := Classical.choose (rg_ex l)
theorem chOf_rg (l : List UInt8) : Rg l (chOf l) := Classical.choose_spec (rg_ex l)
theorem chOf_eq {l : List UInt8} {cs : List Ch} (h : Rg l cs) : chOf l = cs := rg_one _ _ l (chOf_rg l) h
noncomputable def wordsB (l : List UInt8) : List (List UInt8) × Int := wordsOf (chOf l)
noncomputable def numB (l : List UInt8) : Nat × Int := numOf (chOf l)

/- What a line's words say. -/
noncomputable def numsOf : List (List UInt8) → Option (List Nat)
  | [] => some []
  | w :: ws => if (numB w).2 = 0 then (match numsOf ws with | none => none | some l => some ((numB w).1 :: l)) else none
def edgeP (V : Int) : List Nat → Option Ed
  | [a, b] => if fitE V ((a : Int), (b : Int), 1) then some ((a : Int), (b : Int), 1) else none
  | [a, b, c] => if fitE V ((a : Int), (b : Int), (c : Int)) then some ((a : Int), (b : Int), (c : Int)) else none
  | _ => none
def addP (L : List Ed) (e : Ed) : Option (List Ed) := if L.any (same e) = true ∨ L.length = 8192 then none else some (L ++ [e])
def bothP (L : List Ed) (e : Ed) : Option (List Ed) :=
  match addP L e with
  | none => none
  | some M => if e.1 = e.2.1 then some M else addP M (trn e)
def vertP : List Nat → Option Int
  | [n] => if 1 ≤ n ∧ n ≤ 512 then some (n : Int) else none
  | _ => none
def stepN (V : Int) (L : List Ed) (w : List UInt8) (ns : List Nat) : Option (Int × List Ed) :=
  if V = 0 then
    if w = vertB then (match vertP ns with | none => none | some n => some (n, L)) else none
  else if w = edgeB then (match edgeP V ns with | none => none | some e => match addP L e with | none => none | some M => some (V, M))
  else if w = bothB then (match edgeP V ns with | none => none | some e => match bothP L e with | none => none | some M => some (V, M))
  else none
noncomputable def stepW (V : Int) (L : List Ed) : List (List UInt8) → Option (Int × List Ed)
  | [] => some (V, L)
  | w :: t => match numsOf t with
    | none => none
    | some ns => stepN V L w ns
noncomputable def step (V : Int) (L : List Ed) (l : List UInt8) : Option (Int × List Ed) := if (wordsB l).2 = 0 then stepW V L (wordsB l).1 else none
/- Through the lines: the first wrong one, or what they say. -/
noncomputable def through (V : Int) (L : List Ed) (k : Nat) : List (List UInt8) → Nat × Option (Int × List Ed)
  | [] => if V = 0 then (k + 1, none) else (0, some (V, L))
  | x :: xs => match step V L x with
    | none => (k + 1, none)
    | some s => through s.1 s.2 (k + 1) xs

/- What holds of what is said so far. -/
structure Sd (V : Int) (L : List Ed) : Prop where
  v : 0 ≤ V ∧ V ≤ 512
  len : L.length ≤ 8192
  fit : ∀ e ∈ L, fitE V e = true
  apart : Apart L
theorem Sd.nil : Sd 0 [] := ⟨by omega, by simp, by simp, List.Pairwise.nil⟩
theorem addP_some {L M : List Ed} {e : Ed} (h : addP L e = some M) : M = L ++ [e] ∧ (∀ x ∈ L, same e x = false) ∧ L.length ≠ 8192 := by
  unfold addP at h
  split at h
  · cases h
  · rename_i g
    simp only [not_or, Bool.not_eq_true, List.any_eq_false] at g
    exact ⟨(Option.some.inj h).symm, fun x hx => by simpa using g.1 x hx, g.2⟩
theorem Sd.add {V : Int} {L M : List Ed} {e : Ed} (h : Sd V L) (hf : fitE V e = true) (ha : addP L e = some M) : Sd V M := by
  obtain ⟨rfl, h1, h2⟩ := addP_some ha
  refine ⟨h.v, by have := h.len; simp; omega, fun x hx => ?_, ?_⟩
  · rcases List.mem_append.1 hx with hx | hx
    · exact h.fit x hx
    · simp at hx; subst hx; exact hf
  · refine List.pairwise_append.2 ⟨h.apart, List.pairwise_singleton _ _, fun a hm b hb => ?_⟩
    simp at hb; subst hb
    have := h1 a hm; rw [same_not] at this ⊢; omega
theorem fit_trn {V : Int} {e : Ed} (h : fitE V e = true) : fitE V (trn e) = true := by rw [fitE_iff] at *; simp only [trn]; omega
theorem Sd.both {V : Int} {L M : List Ed} {e : Ed} (h : Sd V L) (hf : fitE V e = true) (ha : bothP L e = some M) : Sd V M := by
  unfold bothP at ha
  split at ha
  · cases ha
  · rename_i N hN
    have h1 := h.add hf hN
    split at ha
    · obtain rfl := Option.some.inj ha; exact h1
    · exact h1.add (fit_trn hf) ha
theorem edgeP_fit {V : Int} {ns : List Nat} {e : Ed} (h : edgeP V ns = some e) : fitE V e = true := by
  unfold edgeP at h
  split at h
  · split at h
    · obtain rfl := Option.some.inj h; assumption
    · cases h
  · split at h
    · obtain rfl := Option.some.inj h; assumption
    · cases h
  · cases h
theorem vertP_some {ns : List Nat} {n : Int} (h : vertP ns = some n) : 1 ≤ n ∧ n ≤ 512 := by
  unfold vertP at h
  split at h
  · split at h
    · obtain rfl := Option.some.inj h; omega
    · cases h
  · cases h
theorem Sd.stepN {V : Int} {L : List Ed} {w : List UInt8} {ns : List Nat} {s : Int × List Ed} (h : Sd V L) (hs : stepN V L w ns = some s) : Sd s.1 s.2 ∧ (V ≠ 0 → s.1 = V) := by
  unfold Gr.stepN at hs
  split at hs
  · rename_i hV
    split at hs
    · split at hs
      · cases hs
      · rename_i n hn
        obtain rfl := Option.some.inj hs
        have := vertP_some hn
        refine ⟨⟨by simp only; omega, h.len, fun e he => ?_, h.apart⟩, fun g => absurd hV g⟩
        have := h.fit e he
        rw [fitE_iff] at this ⊢; simp only; omega
    · cases hs
  · split at hs
    · split at hs
      · cases hs
      · rename_i e he
        split at hs
        · cases hs
        · rename_i M hM
          obtain rfl := Option.some.inj hs
          exact ⟨h.add (edgeP_fit he) hM, fun _ => rfl⟩
    · split at hs
      · split at hs
        · cases hs
        · rename_i e he
          split at hs
          · cases hs
          · rename_i M hM
            obtain rfl := Option.some.inj hs
            exact ⟨h.both (edgeP_fit he) hM, fun _ => rfl⟩
      · cases hs
theorem Sd.step {V : Int} {L : List Ed} {l : List UInt8} {s : Int × List Ed} (h : Sd V L) (hs : step V L l = some s) : Sd s.1 s.2 ∧ (V ≠ 0 → s.1 = V) := by
  unfold Gr.step at hs
  split at hs
  · unfold stepW at hs
    split at hs
    · obtain rfl := Option.some.inj hs; exact ⟨h, fun _ => rfl⟩
    · split at hs
      · cases hs
      · exact h.stepN hs
  · cases hs
theorem Sd.through : ∀ (xs : List (List UInt8)) {V : Int} {L : List Ed} {k n : Nat} {s : Int × List Ed}, Sd V L → through V L k xs = (n, some s) → Sd s.1 s.2 ∧ 1 ≤ s.1 ∧ n = 0
  | [], V, L, k, n, s, h, hs => by
    rw [Gr.through] at hs
    split at hs
    · cases hs
    · rename_i hV
      obtain ⟨rfl, e⟩ := Prod.mk.inj hs
      obtain rfl := Option.some.inj e
      have := h.v
      exact ⟨h, by simp only; omega, rfl⟩
  | x :: xs, V, L, k, n, s, h, hs => by
    rw [Gr.through] at hs
    split at hs
    · cases hs
    · rename_i t ht
      exact Sd.through xs (h.step ht).1 hs

end Go.Proofs.YtmcmpjcijbeilaaGreatDoor.Gr
