/-
  What is proved here: plain facts on lines, words and numbers of rows of characters: what they are, and that lines, words and numbers that are put together again are the same. No program.
-/
import Derived.Test.YtmcmpjcijbeilaaGreatDoorWdMath
import Derived.Lib.Strings
import Derived.Lib.ItoaNum
namespace Go.Proofs.YtmcmpjcijbeilaaGreatDoor.Wd
open Go Go.Lib

/-! ### lines -/

def trim (l : (List UInt8)) : (List UInt8) := Lib.trimSuffix l [13]
theorem trim_nil : trim [] = [] := by decide
theorem trim_13 (l : (List UInt8)) : trim (l ++ [13]) = l := by
  have h : Lib.hasSuffix (l ++ [13]) [13] = true := by rw [Lib.hasSuffix, List.isSuffixOf_iff_suffix]; exact List.suffix_append _ _
  rw [trim, Lib.trimSuffix, if_pos h]; simp
theorem trim_other (l : (List UInt8)) (b : UInt8) (hb : b ≠ 13) : trim (l ++ [b]) = l ++ [b] := by
  have h : ¬ Lib.hasSuffix (l ++ [b]) [13] = true := by
    rw [Lib.hasSuffix, List.isSuffixOf_iff_suffix]
    rintro ⟨t, ht⟩
    have := List.append_inj_right' ht rfl
    exact hb (List.cons.inj this).1.symm
  rw [trim, Lib.trimSuffix, if_neg h]
theorem snoc_cases (l : (List UInt8)) : l = [] ∨ ∃ t b, l = t ++ [b] := by
  rcases List.eq_nil_or_concat l with h | ⟨t, b, h⟩
  · exact Or.inl h
  · exact Or.inr ⟨t, b, by simpa using h⟩
theorem trim_sub (l : (List UInt8)) : ∀ b ∈ trim l, b ∈ l := by
  rcases snoc_cases l with rfl | ⟨t, b, rfl⟩
  · rw [trim_nil]; simp
  · by_cases hb : b = 13
    · subst hb; rw [trim_13]; intro x hx; simp [hx]
    · rw [trim_other _ _ hb]; intro x hx; exact hx
theorem trim_len (l : (List UInt8)) : (trim l).length ≤ l.length := by
  rcases snoc_cases l with rfl | ⟨t, b, rfl⟩
  · rw [trim_nil]; simp
  · by_cases hb : b = 13
    · subst hb; rw [trim_13]; simp
    · rw [trim_other _ _ hb]; exact Nat.le_refl _

def ln (cur : (List UInt8)) : (List UInt8) → List (List UInt8)
  | [] => if cur = [] then [] else [trim cur]
  | b :: bs => if b = 10 then trim cur :: ln [] bs else ln (cur ++ [b]) bs

theorem ln_app : ∀ (p cur q : (List UInt8)), (∀ b ∈ p, b ≠ 10) → ln cur (p ++ q) = ln (cur ++ p) q
  | [], cur, q, _ => by simp
  | b :: p, cur, q, h => by
    have hb : b ≠ 10 := h b List.mem_cons_self
    rw [List.cons_append, ln, if_neg hb, ln_app p _ q fun x hx => h x (List.mem_cons_of_mem _ hx)]
    simp

def lnC (cur : (List UInt8)) : List Ch → List (List UInt8)
  | [] => if cur = [] then [] else [trim cur]
  | c :: cs => if c.r = 10 then trim cur :: lnC [] cs else lnC (cur ++ c.bs) cs

theorem lnC_eq : ∀ (cs : List Ch) (l cur : (List UInt8)), Rg l cs → lnC cur cs = ln cur l
  | [], l, cur, h => by obtain rfl : l = [] := h; rfl
  | c :: cs, l, cur, h => by
    by_cases hr : c.r = 10
    · have hb := rg_ascii c cs l h (by omega)
      obtain ⟨rest, h1, _, _, h4⟩ := h
      rw [lnC, if_pos hr, lnC_eq cs rest [] h4, h1, hb, hr]
      rfl
    · have hb := rg_no10 c cs l h hr
      obtain ⟨rest, h1, _, _, h4⟩ := h
      rw [lnC, if_neg hr, lnC_eq cs rest _ h4, h1, ln_app _ _ _ hb]

theorem ln_no10 : ∀ (bs cur : (List UInt8)), (∀ b ∈ cur, b ≠ 10) → ∀ x ∈ ln cur bs, ∀ b ∈ x, b ≠ 10
  | [], cur, h, x, hx => by
    rw [ln] at hx
    split at hx
    · simp at hx
    · simp only [List.mem_singleton] at hx
      subst hx
      intro b hb; exact h b (trim_sub _ b hb)
  | a :: bs, cur, h, x, hx => by
    rw [ln] at hx
    split at hx
    · rcases List.mem_cons.1 hx with rfl | hx
      · intro b hb; exact h b (trim_sub _ b hb)
      · exact ln_no10 bs [] (by simp) x hx
    · exact ln_no10 bs _ (by intro b hb; rcases List.mem_append.1 hb with hb | hb; exact h b hb; simp at hb; subst hb; assumption) x hx

def lns (L : List (List UInt8)) : (List UInt8) := L.flatMap fun x => x ++ [10]
theorem lns_nil : lns [] = [] := rfl
theorem lns_snoc (L : List (List UInt8)) (x : (List UInt8)) : lns (L ++ [x]) = lns L ++ x ++ [10] := by simp [lns]
theorem ln_back : ∀ (L : List (List UInt8)), (∀ x ∈ L, ∀ b ∈ x, b ≠ 10) → (∀ x ∈ L, trim x = x) → ln [] (lns L) = L
  | [], _, _ => rfl
  | x :: L, h, k => by
    have e : lns (x :: L) = x ++ (10 :: lns L) := by simp [lns]
    rw [e, ln_app _ _ _ (h x List.mem_cons_self), ln, if_pos rfl, List.nil_append, k x List.mem_cons_self,
      ln_back L (fun y hy => h y (List.mem_cons_of_mem _ hy)) (fun y hy => k y (List.mem_cons_of_mem _ hy))]

theorem ln_total : ∀ (bs cur : (List UInt8)), (lns (ln cur bs)).length ≤ cur.length + bs.length + 1
  | [], cur => by
    rw [ln]; split
    · simp [lns]
    · have := trim_len cur; simp [lns]; omega
  | a :: bs, cur => by
    rw [ln]; split
    · have h1 := ln_total bs []
      have h2 := trim_len cur
      have e : lns (trim cur :: ln [] bs) = trim cur ++ (10 :: lns (ln [] bs)) := by simp [lns]
      rw [e, List.length_append, List.length_cons, List.length_cons]
      simp only [List.length_nil] at h1
      omega
    · have h1 := ln_total bs (cur ++ [a])
      simp only [List.length_append, List.length_cons, List.length_nil] at h1 ⊢
      omega
theorem lns_len : ∀ (L : List (List UInt8)), L.length ≤ (lns L).length
  | [] => Nat.le_refl _
  | x :: L => by
    have e : lns (x :: L) = x ++ (10 :: lns L) := by simp [lns]
    have := lns_len L
    rw [e, List.length_append, List.length_cons, List.length_cons]; omega

/-! ### words -/

def okC (c : Ch) : Bool := !(decide c.broken || (decide (c.r < 32) && c.r != 9) || c.r == 127)
def blank (c : Ch) : Bool := c.r == 32 || c.r == 9 || c.r == 160

def wd (cur : List Ch) : List Ch → List (List Ch)
  | [] => if cur = [] then [] else [cur]
  | c :: cs => if blank c then (if cur = [] then wd [] cs else cur :: wd [] cs) else wd (cur ++ [c]) cs

theorem wd_mem : ∀ (cs cur : List Ch), (∀ c ∈ cur, blank c = false) → ∀ x ∈ wd cur cs, x ≠ [] ∧ ∀ c ∈ x, blank c = false ∧ (c ∈ cur ∨ c ∈ cs)
  | [], cur, h, x, hx => by
    rw [wd] at hx
    split at hx
    · simp at hx
    · simp only [List.mem_singleton] at hx; subst hx
      exact ⟨by assumption, fun c hc => ⟨h c hc, Or.inl hc⟩⟩
  | a :: cs, cur, h, x, hx => by
    rw [wd] at hx
    split at hx
    · split at hx
      · obtain ⟨h1, h2⟩ := wd_mem cs [] (by simp) x hx
        exact ⟨h1, fun c hc => ⟨(h2 c hc).1, by rcases (h2 c hc).2 with g | g; simp at g; exact Or.inr (List.mem_cons_of_mem _ g)⟩⟩
      · rcases List.mem_cons.1 hx with rfl | hx
        · exact ⟨by assumption, fun c hc => ⟨h c hc, Or.inl hc⟩⟩
        · obtain ⟨h1, h2⟩ := wd_mem cs [] (by simp) x hx
          exact ⟨h1, fun c hc => ⟨(h2 c hc).1, by rcases (h2 c hc).2 with g | g; simp at g; exact Or.inr (List.mem_cons_of_mem _ g)⟩⟩
    · rename_i ha
      obtain ⟨h1, h2⟩ := wd_mem cs (cur ++ [a]) (by intro c hc; rcases List.mem_append.1 hc with hc | hc; exact h c hc; simp at hc; subst hc; simpa using ha) x hx
      refine ⟨h1, fun c hc => ⟨(h2 c hc).1, ?_⟩⟩
      rcases (h2 c hc).2 with g | g
      · rcases List.mem_append.1 g with g | g
        · exact Or.inl g
        · simp at g; subst g; exact Or.inr List.mem_cons_self
      · exact Or.inr (List.mem_cons_of_mem _ g)

theorem wd_app : ∀ (p cur q : List Ch), (∀ c ∈ p, blank c = false) → wd cur (p ++ q) = wd (cur ++ p) q
  | [], cur, q, _ => by simp
  | c :: p, cur, q, h => by
    have hb : ¬ blank c = true := by simp [h c List.mem_cons_self]
    rw [List.cons_append, wd, if_neg hb, wd_app p _ q fun x hx => h x (List.mem_cons_of_mem _ hx)]
    simp

def sp : Ch := ⟨32, [32]⟩
theorem sp_good : sp.good := good_of sp [] (by decide) (by decide) (by decide)
/-- Words with one blank between. -/
def jn : List (List Ch) → List Ch
  | [] => []
  | [x] => x
  | x :: y :: l => x ++ sp :: jn (y :: l)
theorem wd_jn : ∀ (L : List (List Ch)), (∀ x ∈ L, x ≠ [] ∧ ∀ c ∈ x, blank c = false) → wd [] (jn L) = L
  | [], _ => rfl
  | [x], h => by
    have hx := h x List.mem_cons_self
    have := wd_app x [] [] hx.2
    rw [List.append_nil, List.nil_append] at this
    rw [jn, this, wd, if_neg hx.1]
  | x :: y :: l, h => by
    have hx := h x List.mem_cons_self
    rw [jn, wd_app x [] _ hx.2, List.nil_append, wd, if_pos (by decide), if_neg hx.1, wd_jn (y :: l) fun z hz => h z (List.mem_cons_of_mem _ hz)]
theorem jn_mem : ∀ (L : List (List Ch)) (c : Ch), c ∈ jn L → c = sp ∨ ∃ x ∈ L, c ∈ x
  | [], c, h => by simp [jn] at h
  | [x], c, h => Or.inr ⟨x, List.mem_cons_self, h⟩
  | x :: y :: l, c, h => by
    rw [jn] at h
    rcases List.mem_append.1 h with h | h
    · exact Or.inr ⟨x, List.mem_cons_self, h⟩
    · rcases List.mem_cons.1 h with h | h
      · exact Or.inl h
      · rcases jn_mem (y :: l) c h with g | ⟨z, hz, g⟩
        · exact Or.inl g
        · exact Or.inr ⟨z, List.mem_cons_of_mem _ hz, g⟩
theorem jn_snoc : ∀ (L : List (List Ch)) (x : List Ch), jn (L ++ [x]) = if L = [] then x else jn L ++ sp :: x
  | [], x => rfl
  | [y], x => rfl
  | y :: z :: l, x => by
    have := jn_snoc (z :: l) x
    rw [if_neg (by simp)] at this
    rw [if_neg (by simp)]
    show y ++ sp :: jn ((z :: l) ++ [x]) = _
    rw [this, jn]; simp

/-- What Words answers: the words, the error. -/
def wordsOf (cs : List Ch) : List (List UInt8) × Int :=
  if (tw cs).all okC then ((wd [] (tw cs)).map flat, 0) else ([], 30)

theorem tw_all (cs : List Ch) (h : ∀ c ∈ cs, c.r ≠ 35) : tw cs = cs := by
  unfold tw
  induction cs with
  | nil => rfl
  | cons c cs ih =>
    rw [List.takeWhile_cons, if_pos (by simp [h c List.mem_cons_self]), ih fun d hd => h d (List.mem_cons_of_mem _ hd)]
theorem tw_mem (cs : List Ch) : ∀ c ∈ tw cs, c ∈ cs ∧ c.r ≠ 35 := by
  unfold tw
  induction cs with
  | nil => simp
  | cons a cs ih =>
    intro c hc
    rw [List.takeWhile_cons] at hc
    split at hc
    · rename_i ha
      rcases List.mem_cons.1 hc with rfl | hc
      · exact ⟨List.mem_cons_self, by simpa using ha⟩
      · exact ⟨List.mem_cons_of_mem _ (ih c hc).1, (ih c hc).2⟩
    · simp at hc

/-- The words of a line, one blank between, have these characters, and are its words again. -/
theorem words_back (cs : List Ch) (l : (List UInt8)) (h : Rg l cs) (hok : (tw cs).all okC = true) :
    Rg (flat (jn (wd [] (tw cs)))) (jn (wd [] (tw cs))) ∧ wordsOf (jn (wd [] (tw cs))) = ((wd [] (tw cs)).map flat, 0) := by
  have hm := wd_mem (tw cs) [] (by simp)
  have hc : ∀ c ∈ jn (wd [] (tw cs)), c = sp ∨ c ∈ tw cs := by
    intro c hc
    rcases jn_mem _ c hc with g | ⟨x, hx, g⟩
    · exact Or.inl g
    · rcases ((hm x hx).2 c g).2 with g | g
      · simp at g
      · exact Or.inr g
  have hokc : ∀ c ∈ tw cs, okC c = true := List.all_eq_true.1 hok
  have hgood : ∀ c ∈ jn (wd [] (tw cs)), c.good := by
    intro c hcc
    rcases hc c hcc with rfl | g
    · exact sp_good
    · refine good_of_rg cs l h c (tw_mem cs c g).1 ?_
      intro hb
      have := hokc c g
      simp [okC, hb] at this
  have h35 : ∀ c ∈ jn (wd [] (tw cs)), c.r ≠ 35 := by
    intro c hcc
    rcases hc c hcc with rfl | g
    · decide
    · exact (tw_mem cs c g).2
  have hall : (jn (wd [] (tw cs))).all okC = true := by
    rw [List.all_eq_true]
    intro c hcc
    rcases hc c hcc with rfl | g
    · decide
    · exact hokc c g
  refine ⟨rg_good _ hgood, ?_⟩
  rw [wordsOf, tw_all _ h35, if_pos hall, wd_jn _ fun x hx => ⟨(hm x hx).1, fun c hcx => ((hm x hx).2 c hcx).1⟩]

end Go.Proofs.YtmcmpjcijbeilaaGreatDoor.Wd
