/-
  What is proved here: plain facts on parts: which worker has a vertex, which vertices a worker has, what a part is, what parts joined are; that the parts of a graph, joined, are it. No program.
-/
import Derived.Test.YtbbmgandkmlojaaGreatPtGm
namespace Go.Proofs.YtbbmgandkmlojaaGreat.Pt
open Go Go.Lib Gr

def ofI (v k : Int) : Int := if 0 ≤ v ∧ v < 512 ∧ 1 ≤ k ∧ k ≤ 64 then 2654435761 * v % 4294967296 * k / 4294967296 else -1
theorem ofI_range {v k : Int} (h0 : 0 ≤ v) (h1 : v < 512) (h2 : 1 ≤ k) (h3 : k ≤ 64) : 0 ≤ ofI v k ∧ ofI v k < k := by
  unfold ofI
  rw [if_pos ⟨h0, h1, h2, h3⟩]
  obtain ⟨x, hx⟩ : ∃ x, 2654435761 * v % 4294967296 = x := ⟨_, rfl⟩
  have hx0 : 0 ≤ x := by omega
  have hx1 : x < 4294967296 := by omega
  rw [hx]
  constructor
  · exact Int.ediv_nonneg (Int.mul_nonneg hx0 (by omega)) (by omega)
  · apply Int.ediv_lt_of_lt_mul (by omega)
    rw [Int.mul_comm k]
    exact Int.mul_lt_mul_of_pos_right hx1 (by omega)
theorem ofI_not {v k : Int} (h : ¬ (0 ≤ v ∧ v < 512 ∧ 1 ≤ k ∧ k ≤ 64)) : ofI v k = -1 := by unfold ofI; rw [if_neg h]

def vs (n : Nat) : List Int := (List.range n).map fun (i : Nat) => (i : Int)
theorem vs_len (n : Nat) : (vs n).length = n := by simp [vs]
theorem vs_succ (n : Nat) : vs (n + 1) = vs n ++ [(n : Int)] := by simp [vs, List.range_succ]
theorem vs_mem {n : Nat} {v : Int} : v ∈ vs n ↔ 0 ≤ v ∧ v < n := by
  simp only [vs, List.mem_map, List.mem_range]
  constructor
  · rintro ⟨i, hi, rfl⟩; omega
  · rintro ⟨h1, h2⟩; exact ⟨v.toNat, by omega, by omega⟩
def isW (k w : Int) (v : Int) : Bool := decide (0 ≤ w) && decide (ofI v k = w)
theorem isW_yes {k w v : Int} (h : 0 ≤ w) (e : ofI v k = w) : isW k w v = true := by unfold isW; rw [decide_eq_true h, decide_eq_true e]; rfl
theorem isW_no {k w v : Int} (e : ofI v k ≠ w) : isW k w v = false := by unfold isW; rw [decide_eq_false e, Bool.and_false]
def ow (k w : Int) (n : Nat) : List Int := (vs n).filter (isW k w)
theorem ow_succ (k w : Int) (n : Nat) : ow k w (n + 1) = ow k w n ++ (if isW k w n then [(n : Int)] else []) := by
  unfold ow; rw [vs_succ, List.filter_append]
  congr 1
  cases h : isW k w n <;> simp [h]
theorem ow_len (k w : Int) (n : Nat) : (ow k w n).length ≤ n := by
  have := List.length_filter_le (isW k w) (vs n); rw [vs_len] at this; exact this
theorem ow_mem {k w : Int} {n : Nat} {v : Int} (h : v ∈ ow k w n) : 0 ≤ v ∧ v < n ∧ 0 ≤ w ∧ ofI v k = w := by
  obtain ⟨h1, h2⟩ := List.mem_filter.1 h
  have := vs_mem.1 h1
  simp [isW] at h2; omega
def nv (n : Int) : Nat := (min n 512).toNat
def owned (n k w : Int) : List Int := ow k w (nv n)
theorem nv_le (n : Int) : nv n ≤ 512 := by unfold nv; omega
theorem owned_len (n k w : Int) : (owned n k w).length ≤ 512 := Nat.le_trans (ow_len _ _ _) (nv_le n)
theorem owned_mem {n k w v : Int} (h : v ∈ owned n k w) : 0 ≤ v ∧ v < 512 ∧ v < n := by
  have := ow_mem h; unfold nv at this; omega
/- Whom there is not has none. -/
theorem ow_none {k w : Int} (h : ¬ (1 ≤ k ∧ k ≤ 64 ∧ 0 ≤ w ∧ w < k)) (n : Nat) : ow k w n = [] := by
  unfold ow
  apply List.filter_eq_nil_iff.2
  intro v _ hh
  simp [isW] at hh
  obtain ⟨h1, h2⟩ := hh
  by_cases g : 0 ≤ v ∧ v < 512 ∧ 1 ≤ k ∧ k ≤ 64
  · have := ofI_range g.1 g.2.1 g.2.2.1 g.2.2.2; omega
  · rw [ofI_not g] at h2; omega

structure Pt where
  w : Int
  k : Int
  n : Int
  own : List Int
  out : List (List Ed)
  back : List (List Ed)
deriving DecidableEq
def frm (L : List Ed) (v : Int) : List Ed := L.filter fun e => decide (e.1 = v)
def tow (L : List Ed) (v : Int) : List Ed := L.filter fun e => decide (e.2.1 = v)
def cutP (V : Int) (L : List Ed) (k w : Int) : Pt := ⟨w, k, V, owned V k w, (owned V k w).map (frm L), (owned V k w).map (tow L)⟩
def noP : Pt := ⟨0, 0, 0, [], [], []⟩
def cutA (V : Int) (L : List Ed) (k w : Int) : Pt × Int :=
  if chk V L ≠ 0 then (noP, chk V L) else if 1 ≤ k ∧ k ≤ 64 ∧ 0 ≤ w ∧ w < k then (cutP V L k w, 0) else (noP, 2)

/- Which graph a list's parts can be of. -/
def gStep (l : List Pt) (v : Nat) (t : List Nat) (es : List Ed) : Option (List Nat × List Ed) :=
  match l[(ofI v l.length).toNat]? with
  | none => none
  | some p => match p.out[t.getD (ofI v l.length).toNat 0]? with
    | none => none
    | some row => if 8192 < row.length + es.length then none else some (t.set (ofI v l.length).toNat (t.getD (ofI v l.length).toNat 0 + 1), es ++ row)
def gGo (l : List Pt) : Nat → Nat → List Nat → List Ed → Option (List Ed)
  | 0, _, _, es => some es
  | m + 1, v, t, es => match gStep l v t es with
    | none => none
    | some s => gGo l m (v + 1) s.1 s.2
def hd (l : List Pt) : Int := match l[0]? with | none => 0 | some p => p.n
def gath (l : List Pt) : Option (List Ed) := if 1 ≤ l.length ∧ l.length ≤ 64 ∧ hd l ≤ 512 then gGo l (hd l).toNat 0 (List.replicate 64 0) [] else none
def Cuts (l : List Pt) (V : Int) (es : List Ed) (j : Nat) : Prop := ∀ i, i < j → l[i]? = some (cutP V es l.length i)
instance (l : List Pt) (V : Int) (es : List Ed) (j : Nat) : Decidable (Cuts l V es j) := by unfold Cuts; infer_instance
def joinA (l : List Pt) : Int × List Ed × Int :=
  match gath l with
  | none => (0, [], 2)
  | some es => if chk (hd l) es = 0 ∧ Cuts l (hd l) es l.length then (hd l, es, 0) else (0, [], 2)

/- The document's own. -/
def rRow (v : Int) : List Int → List (List Ed) → List Ed → List Ed
  | o :: own, r :: out, es => rRow v own out (if o = v ∧ es.length ≤ 8192 then es ++ r else es)
  | _, _, es => es
def rGo (l : List Pt) : Nat → Nat → List Ed → List Ed
  | 0, _, es => es
  | m + 1, v, es => match l[(ofI v l.length).toNat]? with
    | none => rGo l m (v + 1) es
    | some p => rGo l m (v + 1) (rRow v p.own p.out es)
def joinB (l : List Pt) : Int × List Ed × Int :=
  if 1 ≤ l.length ∧ l.length ≤ 64 ∧ 1 ≤ hd l ∧ hd l ≤ 512 then
    if Cuts l (hd l) (rGo l (hd l).toNat 0 []) l.length ∧ chk (hd l) (rGo l (hd l).toNat 0 []) = 0 then (hd l, rGo l (hd l).toNat 0 [], 0) else (0, [], 2)
  else (0, [], 2)

/- Edges that rise, up to a vertex and at it. -/
def upto (L : List Ed) (j : Int) : List Ed := L.filter fun e => decide (e.1 < j)
theorem upto_succ : ∀ (L : List Ed) (j : Int), Rise L → upto L (j + 1) = upto L j ++ frm L j
  | [], j, _ => rfl
  | e :: L, j, h => by
    obtain ⟨h1, h2⟩ := List.pairwise_cons.1 h
    have ih := upto_succ L j h2
    unfold upto frm at *
    rcases Int.lt_trichotomy e.1 j with g | g | g
    · rw [List.filter_cons_of_pos (by simp; omega), List.filter_cons_of_pos (by simpa using g), List.filter_cons_of_neg (by simp; omega), ih]; rfl
    · have hn : L.filter (fun e => decide (e.1 < j)) = [] := by
        apply List.filter_eq_nil_iff.2
        intro b hb hh
        have := (ahd_iff _ _).1 (h1 b hb)
        simp at hh; omega
      rw [hn] at ih
      rw [List.filter_cons_of_pos (by simp; omega), List.filter_cons_of_neg (by simp; omega), List.filter_cons_of_pos (by simpa using g), ih, hn]; rfl
    · rw [List.filter_cons_of_neg (by simp; omega), List.filter_cons_of_neg (by simp; omega), List.filter_cons_of_neg (by simp; omega), ih]
theorem upto_all {L : List Ed} {V : Int} (h : ∀ e ∈ L, fitE V e = true) : upto L V = L := by
  unfold upto
  apply List.filter_eq_self.2
  intro e he
  have := (fitE_iff _ _).1 (h e he)
  simp; omega
theorem upto_zero {L : List Ed} {V : Int} (h : ∀ e ∈ L, fitE V e = true) : upto L 0 = [] := by
  unfold upto
  apply List.filter_eq_nil_iff.2
  intro e he hh
  have := (fitE_iff _ _).1 (h e he)
  simp at hh; omega
theorem upto_len (L : List Ed) (j : Int) : (upto L j).length ≤ L.length := List.length_filter_le _ _

theorem ow_split (k w : Int) (j m : Nat) (h : isW k w j = true) : ∃ B : List Int, ow k w (j + (m + 1)) = ow k w j ++ ((j : Int) :: B) ∧ ∀ x ∈ B, (j : Int) < x := by
  induction m with
  | zero => exact ⟨[], by rw [ow_succ, h]; rfl, by simp⟩
  | succ m ih =>
    obtain ⟨B, h1, h2⟩ := ih
    refine ⟨B ++ (if isW k w ((j + (m + 1) : Nat) : Int) then [((j + (m + 1) : Nat) : Int)] else []), ?_, ?_⟩
    · rw [← Nat.add_assoc, ow_succ, h1]; simp
    · intro x hx
      rcases List.mem_append.1 hx with hx | hx
      · exact h2 x hx
      · split at hx
        · simp at hx; omega
        · simp at hx

/- The parts of one graph. -/
structure Joins (l : List Pt) (V : Int) (L : List Ed) : Prop where
  one : 1 ≤ l.length
  most : l.length ≤ 64
  ok : chk V L = 0
  cuts : Cuts l V L l.length
theorem Joins.hd {l : List Pt} {V : Int} {L : List Ed} (h : Joins l V L) : Pt.hd l = V := by
  have := h.cuts 0 h.one
  unfold Pt.hd; rw [this]; rfl
theorem Joins.facts {l : List Pt} {V : Int} {L : List Ed} (h : Joins l V L) : 1 ≤ V ∧ V ≤ 512 ∧ L.length ≤ 8192 ∧ (∀ e ∈ L, fitE V e = true) ∧ Rise L := (chk_zero V L).1 h.ok
/- Of a vertex: its worker's part, and where its row stands. -/
theorem Joins.at_ {l : List Pt} {V : Int} {L : List Ed} (h : Joins l V L) (j : Nat) (hj : (j : Int) < V) :
    ∃ B, l[(ofI j l.length).toNat]? = some (cutP V L l.length (ofI j l.length)) ∧ (ofI j l.length).toNat < l.length ∧ owned V l.length (ofI j l.length) = ow l.length (ofI j l.length) j ++ ((j : Int) :: B) ∧ ∀ x ∈ B, (j : Int) < x := by
  obtain ⟨f1, f2, _⟩ := h.facts
  have := h.one; have := h.most
  obtain ⟨r1, r2⟩ := ofI_range (v := j) (k := l.length) (by omega) (by omega) (by omega) (by omega)
  have hw : isW l.length (ofI j l.length) j = true := isW_yes r1 rfl
  have hn : nv V = j + ((V.toNat - j - 1) + 1) := by unfold nv; omega
  obtain ⟨B, h1, h2⟩ := ow_split l.length (ofI j l.length) j (V.toNat - j - 1) hw
  refine ⟨B, ?_, by omega, ?_, h2⟩
  · have := h.cuts (ofI j l.length).toNat (by omega)
    rw [this, Int.toNat_of_nonneg r1]
  · unfold owned; rw [hn]; exact h1

theorem go_of {l : List Pt} {V : Int} {L : List Ed} (h : Joins l V L) : ∀ (m j : Nat) (t : List Nat), (j : Int) + m = V → t.length = 64 → (∀ w, w < l.length → t.getD w 0 = (ow l.length w j).length) → gGo l m j t (upto L j) = some L
  | 0, j, t, hV, _, _ => by
    obtain ⟨_, _, _, f4, _⟩ := h.facts
    rw [gGo, show ((j : Nat) : Int) = V by omega, upto_all f4]
  | m + 1, j, t, hV, ht, hw => by
    obtain ⟨f1, f2, f3, f4, f5⟩ := h.facts
    obtain ⟨B, g1, g2, g3, g4⟩ := h.at_ j (by omega)
    have hm := h.most; have ho := h.one
    obtain ⟨r1, r2⟩ := ofI_range (v := j) (k := l.length) (by omega) (by omega) (by omega) (by omega)
    have ht' := hw _ g2
    rw [Int.toNat_of_nonneg r1] at ht'
    have hrow : (cutP V L l.length (ofI j l.length)).out[(ow l.length (ofI j l.length) j).length]? = some (frm L j) := by
      show ((owned V l.length (ofI j l.length)).map (frm L))[_]? = _
      rw [g3]; simp
    have hup := upto_succ L j f5
    have hlen := upto_len L (j + 1)
    rw [hup, List.length_append] at hlen
    have hs : gStep l j t (upto L j) = some (t.set (ofI j l.length).toNat ((ow l.length (ofI j l.length) j).length + 1), upto L ((j + 1 : Nat) : Int)) := by
      unfold gStep
      rw [g1]
      simp only []
      rw [ht', hrow]
      simp only []
      rw [if_neg (by omega), show ((j + 1 : Nat) : Int) = (j : Int) + 1 by omega, hup]
    rw [gGo, hs]
    refine go_of h m (j + 1) _ (by omega) (by simp [ht]) ?_
    intro w hlw
    rw [ow_succ, List.length_append]
    by_cases e : (w : Int) = ofI j l.length
    · have hy : isW l.length (w : Int) j = true := isW_yes (by omega) e.symm
      have e2 : (ofI j l.length).toNat = w := by omega
      rw [hy, List.getD_eq_getElem?_getD, e2, List.getElem?_set_self (by omega), ← e]; rfl
    · have hn : isW l.length (w : Int) j = false := isW_no (Ne.symm e)
      rw [hn, List.getD_eq_getElem?_getD, List.getElem?_set_ne (by omega), ← List.getD_eq_getElem?_getD, hw w hlw]; rfl

theorem gath_of {l : List Pt} {V : Int} {L : List Ed} (h : Joins l V L) : gath l = some L := by
  obtain ⟨f1, f2, f3, f4, f5⟩ := h.facts
  unfold gath
  rw [h.hd, if_pos ⟨h.one, h.most, f2⟩]
  have := go_of h V.toNat 0 (List.replicate 64 0) (by omega) (by simp) (fun w hw => by
    have := h.most
    rw [List.getD_eq_getElem?_getD, List.getElem?_replicate, if_pos (by omega)]; simp [ow, vs])
  rw [show ((0 : Nat) : Int) = 0 from rfl, upto_zero f4] at this
  exact this

theorem row_skip (v : Int) (f : Int → List Ed) : ∀ (A : List Int) (es : List Ed), (∀ x ∈ A, x ≠ v) → rRow v A (A.map f) es = es
  | [], es, _ => rfl
  | a :: A, es, h => by
    show rRow v A (A.map f) (if a = v ∧ es.length ≤ 8192 then es ++ f a else es) = es
    rw [if_neg (fun g => h a List.mem_cons_self g.1)]
    exact row_skip v f A es fun x hx => h x (List.mem_cons_of_mem _ hx)
theorem row_app (v : Int) (f : Int → List Ed) : ∀ (A B : List Int) (es : List Ed), rRow v (A ++ B) ((A ++ B).map f) es = rRow v B (B.map f) (rRow v A (A.map f) es)
  | [], B, es => by simp [rRow]
  | a :: A, B, es => by
    show rRow v (A ++ B) ((A ++ B).map f) (if a = v ∧ es.length ≤ 8192 then es ++ f a else es) = _
    rw [row_app v f A B]; rfl
theorem rgo_of {l : List Pt} {V : Int} {L : List Ed} (h : Joins l V L) : ∀ (m j : Nat), (j : Int) + m = V → rGo l m j (upto L j) = L
  | 0, j, hV => by
    obtain ⟨_, _, _, f4, _⟩ := h.facts
    rw [rGo, show ((j : Nat) : Int) = V by omega, upto_all f4]
  | m + 1, j, hV => by
    obtain ⟨f1, f2, f3, f4, f5⟩ := h.facts
    obtain ⟨B, g1, g2, g3, g4⟩ := h.at_ j (by omega)
    have hlen := upto_len L j
    rw [rGo, g1]
    simp only []
    have e : rRow j (cutP V L l.length (ofI j l.length)).own (cutP V L l.length (ofI j l.length)).out (upto L j) = upto L ((j + 1 : Nat) : Int) := by
      show rRow j (owned V l.length (ofI j l.length)) ((owned V l.length (ofI j l.length)).map (frm L)) _ = _
      rw [g3, row_app, row_skip _ _ (ow l.length (ofI j l.length) j) _ (fun x hx => by have := ow_mem hx; omega)]
      show rRow j B (B.map (frm L)) (if (j : Int) = j ∧ (upto L j).length ≤ 8192 then upto L j ++ frm L j else upto L j) = _
      rw [if_pos ⟨rfl, by omega⟩, row_skip _ _ _ _ (fun x hx => by have := g4 x hx; omega), show ((j + 1 : Nat) : Int) = (j : Int) + 1 by omega, upto_succ L j f5]
    rw [e]
    exact rgo_of h m (j + 1) (by omega)

/- Both answers are one. -/
theorem joinA_of {l : List Pt} {V : Int} {L : List Ed} (h : Joins l V L) : joinA l = (V, L, 0) := by
  unfold joinA
  rw [gath_of h]
  simp only []
  rw [h.hd, if_pos ⟨h.ok, h.cuts⟩]
theorem joinB_of {l : List Pt} {V : Int} {L : List Ed} (h : Joins l V L) : joinB l = (V, L, 0) := by
  obtain ⟨f1, f2, f3, f4, f5⟩ := h.facts
  have e : rGo l V.toNat 0 [] = L := by
    have := rgo_of h V.toNat 0 (by omega)
    rw [show ((0 : Nat) : Int) = 0 from rfl, upto_zero f4] at this
    exact this
  unfold joinB
  rw [h.hd, e, if_pos ⟨h.one, h.most, f1, f2⟩, if_pos ⟨h.cuts, h.ok⟩]
theorem join_one (l : List Pt) : joinA l = joinB l := by
  by_cases h : ∃ V L, Joins l V L
  · obtain ⟨V, L, h⟩ := h
    rw [joinA_of h, joinB_of h]
  · have hA : joinA l = (0, [], 2) := by
      unfold joinA
      split
      · rfl
      · rename_i es hes
        rw [if_neg]
        rintro ⟨h1, h2⟩
        unfold gath at hes
        split at hes
        · rename_i g
          exact h ⟨_, es, g.1, g.2.1, h1, h2⟩
        · cases hes
    have hB : joinB l = (0, [], 2) := by
      unfold joinB
      split
      · rename_i g
        rw [if_neg]
        rintro ⟨h1, h2⟩
        exact h ⟨_, _, g.1, g.2.1, h2, h1⟩
      · rfl
    rw [hA, hB]

/- How it adds up. -/
def cnt (f : Int → List Ed) (l : List Int) : Nat := (l.map fun v => (f v).length).sum
theorem cnt_app (f : Int → List Ed) (a b : List Int) : cnt f (a ++ b) = cnt f a + cnt f b := by simp [cnt]
def allW (f : Int → List Ed) (k : Int) (n : Nat) : Nat → Nat
  | 0 => 0
  | m + 1 => allW f k n m + cnt f (ow k m n)
def lenW (k : Int) (n : Nat) : Nat → Nat
  | 0 => 0
  | m + 1 => lenW k n m + (ow k m n).length
theorem allW_zero (f : Int → List Ed) (k : Int) : ∀ m, allW f k 0 m = 0
  | 0 => rfl
  | m + 1 => by rw [allW, allW_zero f k m]; rfl
theorem lenW_zero (k : Int) : ∀ m, lenW k 0 m = 0
  | 0 => rfl
  | m + 1 => by rw [lenW, lenW_zero k m]; rfl
theorem allW_succ (f : Int → List Ed) (k : Int) (n : Nat) : ∀ m : Nat, allW f k (n + 1) m = allW f k n m + (if 0 ≤ ofI n k ∧ ofI n k < m then (f n).length else 0)
  | 0 => by
    have h : (if 0 ≤ ofI n k ∧ ofI n k < ((0 : Nat) : Int) then (f n).length else 0) = 0 := if_neg (by omega)
    rw [h]; rfl
  | m + 1 => by
    rw [allW, allW, allW_succ f k n m, ow_succ, cnt_app]
    by_cases e : ofI n k = m
    · have h0 : isW k m n = true := isW_yes (by omega) e
      have h1 : (if 0 ≤ ofI n k ∧ ofI n k < (m : Int) then (f n).length else 0) = 0 := if_neg (by omega)
      have h2 : (if 0 ≤ ofI n k ∧ ofI n k < ((m + 1 : Nat) : Int) then (f n).length else 0) = (f n).length := if_pos (by omega)
      have h3 : cnt f (if isW k m n = true then [(n : Int)] else []) = (f n).length := by rw [if_pos h0]; simp [cnt]
      rw [h1, h2, h3]; omega
    · have h0 : isW k m n = false := isW_no e
      have h2 : (if 0 ≤ ofI n k ∧ ofI n k < ((m + 1 : Nat) : Int) then (f n).length else 0) = (if 0 ≤ ofI n k ∧ ofI n k < (m : Int) then (f n).length else 0) := by
        by_cases g : 0 ≤ ofI n k ∧ ofI n k < (m : Int)
        · rw [if_pos g]; exact if_pos (by omega)
        · rw [if_neg g]; exact if_neg (by omega)
      have h3 : cnt f (if isW k m n = true then [(n : Int)] else []) = 0 := by rw [h0]; rfl
      rw [h2, h3]; omega
theorem lenW_succ (k : Int) (n : Nat) : ∀ m : Nat, lenW k (n + 1) m = lenW k n m + (if 0 ≤ ofI n k ∧ ofI n k < m then 1 else 0)
  | 0 => by
    have h : (if 0 ≤ ofI n k ∧ ofI n k < ((0 : Nat) : Int) then 1 else 0) = 0 := if_neg (by omega)
    rw [h]; rfl
  | m + 1 => by
    rw [lenW, lenW, lenW_succ k n m, ow_succ, List.length_append]
    by_cases e : ofI n k = m
    · have h0 : isW k m n = true := isW_yes (by omega) e
      have h1 : (if 0 ≤ ofI n k ∧ ofI n k < (m : Int) then 1 else 0) = 0 := if_neg (by omega)
      have h2 : (if 0 ≤ ofI n k ∧ ofI n k < ((m + 1 : Nat) : Int) then 1 else 0) = 1 := if_pos (by omega)
      have h3 : (if isW k m n = true then [(n : Int)] else []).length = 1 := by rw [if_pos h0]; rfl
      rw [h1, h2, h3]; omega
    · have h0 : isW k m n = false := isW_no e
      have h2 : (if 0 ≤ ofI n k ∧ ofI n k < ((m + 1 : Nat) : Int) then 1 else 0) = (if 0 ≤ ofI n k ∧ ofI n k < (m : Int) then 1 else 0) := by
        by_cases g : 0 ≤ ofI n k ∧ ofI n k < (m : Int)
        · rw [if_pos g]; exact if_pos (by omega)
        · rw [if_neg g]; exact if_neg (by omega)
      have h3 : (if isW k m n = true then [(n : Int)] else []).length = 0 := by rw [h0]; rfl
      rw [h2, h3]; omega
theorem allW_all (f : Int → List Ed) (k : Nat) (hk : 1 ≤ k) (hk' : k ≤ 64) : ∀ n : Nat, n ≤ 512 → allW f k n k = cnt f (vs n)
  | 0, _ => by rw [allW_zero]; rfl
  | n + 1, hn => by
    obtain ⟨r1, r2⟩ := ofI_range (v := n) (k := k) (by omega) (by omega) (by omega) (by omega)
    rw [allW_succ, allW_all f k hk hk' n (by omega), if_pos ⟨r1, r2⟩, vs_succ, cnt_app]; simp [cnt]
theorem lenW_all (k : Nat) (hk : 1 ≤ k) (hk' : k ≤ 64) : ∀ n : Nat, n ≤ 512 → lenW k n k = n
  | 0, _ => lenW_zero _ _
  | n + 1, hn => by
    obtain ⟨r1, r2⟩ := ofI_range (v := n) (k := k) (by omega) (by omega) (by omega) (by omega)
    rw [lenW_succ, lenW_all k hk hk' n (by omega), if_pos ⟨r1, r2⟩]
theorem frm_cons (e : Ed) (L : List Ed) (v : Int) : (frm (e :: L) v).length = (frm L v).length + (if e.1 = v then 1 else 0) := by
  unfold frm; by_cases h : e.1 = v <;> simp [h]
theorem tow_cons (e : Ed) (L : List Ed) (v : Int) : (tow (e :: L) v).length = (tow L v).length + (if e.2.1 = v then 1 else 0) := by
  unfold tow; by_cases h : e.2.1 = v <;> simp [h]
theorem sum_one (x : Int) : ∀ n : Nat, ((vs n).map fun v => if x = v then 1 else 0).sum = (if 0 ≤ x ∧ x < n then 1 else 0 : Nat)
  | 0 => by
    have h : (if 0 ≤ x ∧ x < ((0 : Nat) : Int) then 1 else 0 : Nat) = 0 := if_neg (by omega)
    rw [h]; rfl
  | n + 1 => by
    rw [vs_succ, List.map_append, List.sum_append, sum_one x n]
    by_cases h : x = n
    · have h1 : (if 0 ≤ x ∧ x < (n : Int) then 1 else 0 : Nat) = 0 := if_neg (by omega)
      have h2 : (if 0 ≤ x ∧ x < ((n + 1 : Nat) : Int) then 1 else 0 : Nat) = 1 := if_pos (by omega)
      rw [h1, h2]; simp [h]
    · have h2 : (if 0 ≤ x ∧ x < ((n + 1 : Nat) : Int) then 1 else 0 : Nat) = (if 0 ≤ x ∧ x < (n : Int) then 1 else 0) := by
        by_cases g : 0 ≤ x ∧ x < (n : Int)
        · rw [if_pos g]; exact if_pos (by omega)
        · rw [if_neg g]; exact if_neg (by omega)
      rw [h2]; simp [h]
theorem sum_add (f g : Int → Nat) : ∀ l : List Int, (l.map fun v => f v + g v).sum = (l.map f).sum + (l.map g).sum
  | [] => rfl
  | a :: l => by simp only [List.map_cons, List.sum_cons, sum_add f g l]; omega
theorem cnt_frm (n : Nat) : ∀ L : List Ed, (∀ e ∈ L, 0 ≤ e.1 ∧ e.1 < n) → cnt (frm L) (vs n) = L.length
  | [], _ => by
    have : ∀ l : List Int, cnt (frm []) l = 0 := fun l => by induction l with
      | nil => rfl
      | cons a l ih => unfold cnt at *; rw [List.map_cons, List.sum_cons, ih]; rfl
    exact this _
  | e :: L, h => by
    unfold cnt
    simp only [frm_cons]
    rw [sum_add, sum_one, if_pos (h e List.mem_cons_self)]
    have := cnt_frm n L fun x hx => h x (List.mem_cons_of_mem _ hx)
    unfold cnt at this; rw [this]; rfl
theorem cnt_tow (n : Nat) : ∀ L : List Ed, (∀ e ∈ L, 0 ≤ e.2.1 ∧ e.2.1 < n) → cnt (tow L) (vs n) = L.length
  | [], _ => by
    have : ∀ l : List Int, cnt (tow []) l = 0 := fun l => by induction l with
      | nil => rfl
      | cons a l ih => unfold cnt at *; rw [List.map_cons, List.sum_cons, ih]; rfl
    exact this _
  | e :: L, h => by
    unfold cnt
    simp only [tow_cons]
    rw [sum_add, sum_one, if_pos (h e List.mem_cons_self)]
    have := cnt_tow n L fun x hx => h x (List.mem_cons_of_mem _ hx)
    unfold cnt at this; rw [this]; rfl
/- Where a vertex stands. -/
def plcF (v : Int) : Nat → List Int → Int
  | _, [] => -1
  | k, x :: l => if x = v then (k : Int) else plcF v (k + 1) l
def plc (l : List Int) (v : Int) : Int := plcF v 0 l
theorem plcF_at (v : Int) : ∀ (l : List Int) (k i : Nat), l[i]? = some v → l.Nodup → plcF v k l = ((k + i : Nat) : Int)
  | [], k, i, h, _ => by simp at h
  | x :: l, k, 0, h, _ => by
    simp at h; subst h
    unfold plcF; rw [if_pos rfl]; rfl
  | x :: l, k, i + 1, h, hn => by
    have h' : l[i]? = some v := by simpa using h
    obtain ⟨h1, h2⟩ := List.nodup_cons.1 hn
    unfold plcF
    rw [if_neg (fun e => h1 (by rw [e]; exact List.mem_of_getElem? h')), plcF_at v l (k + 1) i h' h2]
    congr 1; omega
theorem vs_nodup : ∀ n : Nat, (vs n).Nodup
  | 0 => List.nodup_nil
  | n + 1 => by
    rw [vs_succ]
    refine List.nodup_append.2 ⟨vs_nodup n, by simp, fun a ha b hb => ?_⟩
    have := vs_mem.1 ha
    simp at hb; omega
theorem owned_nodup (n k w : Int) : (owned n k w).Nodup := (vs_nodup _).filter _
theorem plc_owned {n k w v : Int} {i : Nat} (h : (owned n k w)[i]? = some v) : plc (owned n k w) v = (i : Int) := by
  unfold plc; rw [plcF_at v _ 0 i h (owned_nodup n k w)]; congr 1; omega

end Go.Proofs.YtbbmgandkmlojaaGreat.Pt
