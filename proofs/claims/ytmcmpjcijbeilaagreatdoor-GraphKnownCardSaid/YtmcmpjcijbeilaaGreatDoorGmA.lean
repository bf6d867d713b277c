/-
  What is proved here: the texts WdMath WdMath2 WdMath3 WdMem WdW1 WdR4 GrMath GrMem WdW2 GrIn WdW5 WdShelf of this seat, laid together (each says itself what it proves; no condition beyond theirs).
-/
import Derived.Lib.DecodeN
import Derived.Lib.RuneBytes
import Derived.Lib.Strings
import Derived.Lib.ItoaNum
import Derived.Test.YtmcmpjcijbeilaaGreatDoorRows
import Derived.WalkKit
import Derived.WalkSpells
import Derived.Deep.LoopGhost
import Derived.Lib.Hide
import Derived.Laws.CopyOwn
import Derived.Deep.OwnRows
import Derived.Lib.OthersKept
import Derived.Deep.QuietTactic
import Derived.BigQuiet
import Derived.Laws.StructEq
import Derived.Lib.LaidTab
import Derived.Stop.LaidErr
import Derived.Stop.Joined
import Derived.ProofKit
import Derived.LaidMore
import Derived.OpenShut
import Derived.SizedLaws
import Derived.Carry
import Derived.Deep.Slices
import Derived.Deep.Fields
import Derived.Shelf.Strings.Builder1
import Derived.Shelf.Utf8.AppendRunePlain
import Derived.Shelf.LaysM
import Derived.Shelf.Strconv.Itoa4
import Derived.Shelf.Strconv.Clone
import Derived.Shelf.Strings.Prefix
import Derived.Test.YtmcmpjcijbeilaaGreatDoorProg
/-
  What is proved here: plain facts on rows of bytes and their characters: what is decoded of a row, that a character that is not broken is decoded the same whatever stands behind it, and that what stands ahead of a # is decoded as if nothing stood behind. No program.
-/
namespace Go.Proofs.YtmcmpjcijbeilaaGreatDoor.Wd
open Go Go.Lib

def dec (l : (List UInt8)) : Nat × Nat := decodeN l.length (l.getD 0 0).toNat (l.getD 1 0).toNat (l.getD 2 0).toNat (l.getD 3 0).toNat

theorem get_list (s : ByteArray) (i k : Nat) : s.get! (i + k) = (s.data.toList.drop i).getD k 0 := by
  show s.data[i + k]! = _
  rw [List.getD_eq_getElem?_getD, List.getElem?_drop, Array.getElem?_toList]
  simp only [getElem!_def]
  cases s.data[i + k]? <;> rfl

theorem dec_at (s : ByteArray) (i : Nat) : Utf8.decode s i = dec (s.data.toList.drop i) := by
  rw [decode_at, dec]
  have h0 := get_list s i 0
  rw [Nat.add_zero] at h0
  rw [h0, get_list s i 1, get_list s i 2, get_list s i 3]
  have : (s.data.toList.drop i).length = s.size - i := by rw [List.length_drop, Array.length_toList]; rfl
  rw [this]

/-- A character: its rune, its bytes. -/
structure Ch where
  r : Nat
  bs : (List UInt8)

def Ch.broken (c : Ch) : Prop := c.r = 65533 ∧ c.bs.length = 1
instance (c : Ch) : Decidable c.broken := by unfold Ch.broken; infer_instance

/-- cs are the characters of l. -/
def Rg : (List UInt8) → List Ch → Prop
  | l, [] => l = []
  | l, c :: cs => ∃ rest, l = c.bs ++ rest ∧ c.bs ≠ [] ∧ dec l = (c.r, c.bs.length) ∧ Rg rest cs

theorem decN_width (n b0 b1 b2 b3 : Nat) (h : 1 ≤ n) : 1 ≤ (decodeN n b0 b1 b2 b3).2 ∧ (decodeN n b0 b1 b2 b3).2 ≤ n := by
  unfold decodeN
  repeat' split
  all_goals first | omega | (simp only; omega)

theorem decN_le (n b0 b1 b2 b3 : Nat) (h0 : b0 < 256) : (decodeN n b0 b1 b2 b3).1 ≤ 1114111 := by
  unfold decodeN
  repeat' split
  all_goals (simp only; omega)

theorem dec_width (l : (List UInt8)) (h : l ≠ []) : 1 ≤ (dec l).2 ∧ (dec l).2 ≤ l.length :=
  decN_width _ _ _ _ _ (by cases l with | nil => exact absurd rfl h | cons a t => simp)
theorem dec_le (l : (List UInt8)) : (dec l).1 ≤ 1114111 := decN_le _ _ _ _ _ (UInt8.toNat_lt _)

theorem rg_ex_n : ∀ (n : Nat) (l : (List UInt8)), l.length ≤ n → ∃ cs, Rg l cs := by
  intro n
  induction n with
  | zero => intro l h; exact ⟨[], List.eq_nil_of_length_eq_zero (by omega)⟩
  | succ n ih =>
    intro l h
    by_cases hl : l = []
    · exact ⟨[], hl⟩
    · have hw := dec_width l hl
      obtain ⟨cs, hcs⟩ := ih (l.drop (dec l).2) (by rw [List.length_drop]; omega)
      have ht : (l.take (dec l).2).length = (dec l).2 := by rw [List.length_take]; omega
      refine ⟨⟨(dec l).1, l.take (dec l).2⟩ :: cs, l.drop (dec l).2, (List.take_append_drop _ _).symm, ?_, ?_, hcs⟩
      · intro hc; simp only at hc; rw [hc] at ht; simp at ht; omega
      · simp only [ht]
theorem rg_ex (l : (List UInt8)) : ∃ cs, Rg l cs := rg_ex_n l.length l (Nat.le_refl _)

def flat (cs : List Ch) : (List UInt8) := cs.flatMap Ch.bs
theorem flat_nil : flat [] = [] := rfl
theorem flat_cons (c : Ch) (cs : List Ch) : flat (c :: cs) = c.bs ++ flat cs := rfl
theorem flat_append (a b : List Ch) : flat (a ++ b) = flat a ++ flat b := by simp [flat]

theorem rg_flat : ∀ (cs : List Ch) (l : (List UInt8)), Rg l cs → l = flat cs
  | [], l, h => h
  | c :: cs, l, ⟨rest, h1, _, _, h4⟩ => by rw [flat_cons, ← rg_flat cs rest h4]; exact h1

theorem rg_len : ∀ (cs : List Ch) (l : (List UInt8)), Rg l cs → cs.length ≤ l.length
  | [], l, _ => Nat.zero_le _
  | c :: cs, l, ⟨rest, h1, h2, _, h4⟩ => by
    have := rg_len cs rest h4
    have h3 : 1 ≤ c.bs.length := by cases hb : c.bs with | nil => exact absurd hb h2 | cons a t => simp
    rw [h1, List.length_append, List.length_cons]; omega

theorem rg_ne : ∀ (cs : List Ch) (l : (List UInt8)), Rg l cs → ∀ c ∈ cs, c.bs ≠ []
  | [], _, _, c, hc => by simp at hc
  | c :: cs, l, ⟨rest, _, h2, _, h4⟩, d, hd => by
    rcases List.mem_cons.1 hd with rfl | hd
    · exact h2
    · exact rg_ne cs rest h4 d hd

/-! ### a character that is not broken is the same whatever stands behind it -/

theorem decN_good (n n' b0 b1 b2 b3 c1 c2 c3 r k : Nat) (h : decodeN n b0 b1 b2 b3 = (r, k)) (hg : ¬ (r = 65533 ∧ k = 1))
    (h1 : 1 < k → c1 = b1) (h2 : 2 < k → c2 = b2) (h3 : 3 < k → c3 = b3) (hn : k ≤ n') : decodeN n' b0 c1 c2 c3 = (r, k) := by
  unfold decodeN at h
  split at h
  · rename_i g; obtain ⟨rfl, rfl⟩ := Prod.mk.inj h
    unfold decodeN; rw [if_pos g]
  · rename_i g
    split at h
    · split at h
      · obtain ⟨rfl, rfl⟩ := Prod.mk.inj h
        obtain rfl := h1 (by omega)
        unfold decodeN; rw [if_neg g, if_pos (by omega), if_pos (by assumption)]
      · obtain ⟨rfl, rfl⟩ := Prod.mk.inj h; exact absurd ⟨rfl, rfl⟩ hg
    · split at h
      · split at h
        · obtain ⟨rfl, rfl⟩ := Prod.mk.inj h
          obtain rfl := h1 (by omega); obtain rfl := h2 (by omega)
          unfold decodeN; rw [if_neg g, if_neg (by omega), if_pos (by omega), if_pos (by assumption)]
        · obtain ⟨rfl, rfl⟩ := Prod.mk.inj h; exact absurd ⟨rfl, rfl⟩ hg
      · split at h
        · split at h
          · obtain ⟨rfl, rfl⟩ := Prod.mk.inj h
            obtain rfl := h1 (by omega); obtain rfl := h2 (by omega); obtain rfl := h3 (by omega)
            unfold decodeN; rw [if_neg g, if_neg (by omega), if_neg (by omega), if_pos (by omega), if_pos (by assumption)]
          · obtain ⟨rfl, rfl⟩ := Prod.mk.inj h; exact absurd ⟨rfl, rfl⟩ hg
        · obtain ⟨rfl, rfl⟩ := Prod.mk.inj h; exact absurd ⟨rfl, rfl⟩ hg

theorem getD_append_lt (a b : (List UInt8)) (i : Nat) (h : i < a.length) : (a ++ b).getD i 0 = a.getD i 0 := by
  rw [List.getD_eq_getElem?_getD, List.getD_eq_getElem?_getD, List.getElem?_append_left h]

/-- Decoded the same, whatever stands behind it. -/
def Ch.good (c : Ch) : Prop := c.bs ≠ [] ∧ ∀ m, dec (c.bs ++ m) = (c.r, c.bs.length)

theorem good_of (c : Ch) (rest : (List UInt8)) (h : dec (c.bs ++ rest) = (c.r, c.bs.length)) (hne : c.bs ≠ []) (hb : ¬ c.broken) : c.good := by
  refine ⟨hne, fun m => ?_⟩
  have hl : 1 ≤ c.bs.length := by cases hb : c.bs with | nil => exact absurd hb hne | cons a t => simp
  have key : ∀ i, i < c.bs.length → (c.bs ++ m).getD i 0 = (c.bs ++ rest).getD i 0 := fun i hi => by
    rw [getD_append_lt _ _ _ hi, getD_append_lt _ _ _ hi]
  unfold dec at h ⊢
  rw [key 0 (by omega)]
  exact decN_good _ _ _ _ _ _ _ _ _ _ _ h hb (fun g => by rw [key 1 g]) (fun g => by rw [key 2 g]) (fun g => by rw [key 3 g]) (by simp)

theorem rg_good : ∀ (cs : List Ch), (∀ c ∈ cs, c.good) → Rg (flat cs) cs
  | [], _ => rfl
  | c :: cs, h => ⟨flat cs, rfl, (h c List.mem_cons_self).1, (h c List.mem_cons_self).2 _, rg_good cs fun d hd => h d (List.mem_cons_of_mem _ hd)⟩

theorem good_of_rg : ∀ (cs : List Ch) (l : (List UInt8)), Rg l cs → ∀ c ∈ cs, ¬ c.broken → c.good
  | [], _, _, c, hc, _ => by simp at hc
  | c :: cs, l, ⟨rest, h1, h2, h3, h4⟩, d, hd, hb => by
    rcases List.mem_cons.1 hd with rfl | hd
    · rw [h1] at h3; exact good_of _ rest h3 h2 hb
    · exact good_of_rg cs rest h4 d hd hb

/-! ### what stands ahead of a # -/

theorem decN_cut (n n' b0 b1 b2 b3 c1 c2 c3 : Nat) 
    (h : (n = 1 ∧ b1 = 35) ∨ (n = 2 ∧ b1 = c1 ∧ b2 = 35) ∨ (n = 3 ∧ b1 = c1 ∧ b2 = c2 ∧ b3 = 35) ∨ (4 ≤ n ∧ b1 = c1 ∧ b2 = c2 ∧ b3 = c3)) (hn : n < n') :
    decodeN n' b0 b1 b2 b3 = decodeN n b0 c1 c2 c3 := by
  rcases h with ⟨rfl, rfl⟩ | ⟨rfl, rfl, rfl⟩ | ⟨rfl, rfl, rfl, rfl⟩ | ⟨h4, rfl, rfl, rfl⟩
  all_goals
    unfold decodeN
    repeat' split
    all_goals first | (exfalso; omega) | rfl

theorem dec_cut (p q : (List UInt8)) (h : p ≠ []) : dec (p ++ 35 :: q) = dec p := by
  unfold dec
  rcases p with _ | ⟨a, _ | ⟨b, _ | ⟨c, _ | ⟨d, t⟩⟩⟩⟩
  · exact absurd rfl h
  all_goals
    simp only [List.cons_append, List.nil_append, List.length_cons, List.length_append, List.length_nil, List.getD_cons_zero, List.getD_cons_succ]
    apply decN_cut
  · exact Or.inl ⟨rfl, rfl⟩
  · simp
  · exact Or.inr (Or.inl ⟨rfl, rfl, rfl⟩)
  · simp
  · exact Or.inr (Or.inr (Or.inl ⟨rfl, rfl, rfl, rfl⟩))
  · simp
  · exact Or.inr (Or.inr (Or.inr ⟨by omega, rfl, rfl, rfl⟩))
  · omega

theorem decN_small (n b0 b1 b2 b3 : Nat) : (decodeN n b0 b1 b2 b3).1 < 128 → b0 < 128 := by
  unfold decodeN
  repeat' split
  all_goals (simp only; omega)

/-- A rune below 128 is one byte, itself. -/
theorem dec_ascii (l : (List UInt8)) (hl : l ≠ []) (h : (dec l).1 < 128) : ∃ b t, l = b :: t ∧ b.toNat = (dec l).1 ∧ (dec l).2 = 1 := by
  rcases l with _ | ⟨b, t⟩
  · exact absurd rfl hl
  · have hb : b.toNat < 128 := by simpa using decN_small _ _ _ _ _ h
    refine ⟨b, t, rfl, ?_, ?_⟩ <;> simp [dec, decodeN, hb]

theorem rg_ascii (c : Ch) (cs : List Ch) (l : (List UInt8)) (h : Rg l (c :: cs)) (hr : c.r < 128) : c.bs = [UInt8.ofNat c.r] := by
  obtain ⟨rest, h1, h2, h3, _⟩ := h
  have hl : l ≠ [] := by rw [h1]; simp [h2]
  obtain ⟨b, t, e1, e2, e3⟩ := dec_ascii l hl (by rw [h3]; exact hr)
  rw [h3] at e2 e3
  simp only at e2 e3
  rcases hc : c.bs with _ | ⟨x, _ | ⟨y, z⟩⟩
  · exact absurd hc h2
  · rw [h1, hc] at e1
    have : x = b := (List.cons.inj e1).1
    rw [this, ← e2]; simp
  · rw [hc] at e3; simp at e3

def tw (cs : List Ch) : List Ch := cs.takeWhile fun c => c.r != 35

theorem rg_tw : ∀ (cs : List Ch) (l : (List UInt8)), Rg l cs → Rg (flat (tw cs)) (tw cs) ∧ (l = flat (tw cs) ∨ ∃ q, l = flat (tw cs) ++ 35 :: q)
  | [], l, h => ⟨rfl, Or.inl h⟩
  | c :: cs, l, h => by
    by_cases hr : c.r = 35
    · have e : tw (c :: cs) = [] := by simp [tw, hr]
      rw [e]
      refine ⟨rfl, Or.inr ?_⟩
      have hb := rg_ascii c cs l h (by omega)
      obtain ⟨rest, h1, _⟩ := h
      exact ⟨rest, by rw [h1, hb, hr]; rfl⟩
    · have e : tw (c :: cs) = c :: tw cs := by simp [tw, hr]
      rw [e]
      obtain ⟨rest, h1, h2, h3, h4⟩ := h
      obtain ⟨ih1, ih2⟩ := rg_tw cs rest h4
      have hne : c.bs ++ flat (tw cs) ≠ [] := by simp [h2]
      rcases ih2 with ih2 | ⟨q, ih2⟩
      · refine ⟨⟨flat (tw cs), rfl, h2, ?_, ih1⟩, Or.inl ?_⟩
        · rw [flat_cons, ← ih2, ← h1]; exact h3
        · rw [h1, flat_cons, ih2]
      · refine ⟨⟨flat (tw cs), rfl, h2, ?_, ih1⟩, Or.inr ⟨q, ?_⟩⟩
        · rw [flat_cons, ← dec_cut _ q hne, List.append_assoc, ← ih2, ← h1]; exact h3
        · rw [h1, flat_cons, ih2, List.append_assoc]

/-! ### bytes of characters -/

theorem decN_high (n b0 b1 b2 b3 : Nat) (h : ¬ b0 < 128) : 128 ≤ (decodeN n b0 b1 b2 b3).1 ∧ (2 ≤ (decodeN n b0 b1 b2 b3).2 → 128 ≤ b1) ∧ (3 ≤ (decodeN n b0 b1 b2 b3).2 → 128 ≤ b2) ∧ (4 ≤ (decodeN n b0 b1 b2 b3).2 → 128 ≤ b3) ∧ (decodeN n b0 b1 b2 b3).2 ≤ 4 := by
  unfold decodeN
  rw [if_neg h]
  repeat' split
  all_goals (refine ⟨?_, ?_, ?_, ?_, ?_⟩ <;> simp only <;> omega)

theorem high_bytes (c : Ch) (cs : List Ch) (l : (List UInt8)) (h : Rg l (c :: cs)) (hr : 128 ≤ c.r) : ∀ b ∈ c.bs, 128 ≤ b.toNat := by
  obtain ⟨rest, h1, h2, h3, _⟩ := h
  have hl : l ≠ [] := by rw [h1]; simp [h2]
  have h0 : ¬ (l.getD 0 0).toNat < 128 := by
    intro g
    have : (dec l).1 = (l.getD 0 0).toNat := by simp only [dec, decodeN, if_pos g]
    rw [h3] at this; simp only at this; omega
  have hh := decN_high l.length _ (l.getD 1 0).toNat (l.getD 2 0).toNat (l.getD 3 0).toNat h0
  change 128 ≤ (dec l).1 ∧ (2 ≤ (dec l).2 → _) ∧ (3 ≤ (dec l).2 → _) ∧ (4 ≤ (dec l).2 → _) ∧ (dec l).2 ≤ 4 at hh
  rw [h3] at hh
  simp only at hh
  have key : ∀ i, i < c.bs.length → 128 ≤ (c.bs.getD i 0).toNat := by
    intro i hi
    have e : c.bs.getD i 0 = l.getD i 0 := by rw [h1, getD_append_lt _ _ _ hi]
    rw [e]
    have : i = 0 ∨ i = 1 ∨ i = 2 ∨ i = 3 := by omega
    rcases this with rfl | rfl | rfl | rfl <;> omega
  intro b hb
  obtain ⟨i, hi, rfl⟩ := List.getElem_of_mem hb
  have := key i hi
  rw [List.getD_eq_getElem?_getD, List.getElem?_eq_getElem hi] at this
  simpa using this

theorem rg_no10 (c : Ch) (cs : List Ch) (l : (List UInt8)) (h : Rg l (c :: cs)) (hr : c.r ≠ 10) : ∀ b ∈ c.bs, b ≠ 10 := by
  by_cases h1 : c.r < 128
  · have := rg_ascii c cs l h h1
    intro b hb e
    rw [this] at hb
    simp only [List.mem_singleton] at hb
    rw [hb] at e
    have := congrArg UInt8.toNat e
    simp at this
    omega
  · intro b hb e
    have := high_bytes c cs l h (by omega) b hb
    rw [e] at this
    simp at this

end Go.Proofs.YtmcmpjcijbeilaaGreatDoor.Wd

/-
  What is proved here: plain facts on lines, words and numbers of rows of characters: what they are, and that lines, words and numbers that are put together again are the same. No program.
-/
namespace Go.Proofs.YtmcmpjcijbeilaaGreatDoor.Wd
open Go Go.Lib

/-! ### lines -/

def trim (l : (List UInt8)) : (List UInt8) := Lib.trimSuffix l [13]
theorem trim_nil : trim [] = [] := by decide
theorem trim_13 (l : (List UInt8)) : trim (l ++ [13]) = l := by
  have h : Lib.hasSuffix (l ++ [13]) [13] = true := by rw [Lib.hasSuffix, List.isSuffixOf_iff_suffix]; exact List.suffix_append _ _
  rw [trim, Lib.trimSuffix, if_pos h]; simp
theorem trim_other (l : (List UInt8)) (b : UInt8) (hb : b ≠ 13) : trim (l ++ [b]) = l ++ [b] := by
  have h : ¬ Lib.hasSuffix (l ++ [b]) [13] = true := by
    rw [Lib.hasSuffix, List.isSuffixOf_iff_suffix]
    rintro ⟨t, ht⟩
    have := List.append_inj_right' ht rfl
    exact hb (List.cons.inj this).1.symm
  rw [trim, Lib.trimSuffix, if_neg h]
theorem snoc_cases (l : (List UInt8)) : l = [] ∨ ∃ t b, l = t ++ [b] := by
  rcases List.eq_nil_or_concat l with h | ⟨t, b, h⟩
  · exact Or.inl h
  · exact Or.inr ⟨t, b, by simpa using h⟩
theorem trim_sub (l : (List UInt8)) : ∀ b ∈ trim l, b ∈ l := by
  rcases snoc_cases l with rfl | ⟨t, b, rfl⟩
  · rw [trim_nil]; simp
  · by_cases hb : b = 13
    · subst hb; rw [trim_13]; intro x hx; simp [hx]
    · rw [trim_other _ _ hb]; intro x hx; exact hx
theorem trim_len (l : (List UInt8)) : (trim l).length ≤ l.length := by
  rcases snoc_cases l with rfl | ⟨t, b, rfl⟩
  · rw [trim_nil]; simp
  · by_cases hb : b = 13
    · subst hb; rw [trim_13]; simp
    · rw [trim_other _ _ hb]; exact Nat.le_refl _

def ln (cur : (List UInt8)) : (List UInt8) → List (List UInt8)
  | [] => if cur = [] then [] else [trim cur]
  | b :: bs => if b = 10 then trim cur :: ln [] bs else ln (cur ++ [b]) bs

theorem ln_app : ∀ (p cur q : (List UInt8)), (∀ b ∈ p, b ≠ 10) → ln cur (p ++ q) = ln (cur ++ p) q
  | [], cur, q, _ => by simp
  | b :: p, cur, q, h => by
    have hb : b ≠ 10 := h b List.mem_cons_self
    rw [List.cons_append, ln, if_neg hb, ln_app p _ q fun x hx => h x (List.mem_cons_of_mem _ hx)]
    simp

def lnC (cur : (List UInt8)) : List Ch → List (List UInt8)
  | [] => if cur = [] then [] else [trim cur]
  | c :: cs => if c.r = 10 then trim cur :: lnC [] cs else lnC (cur ++ c.bs) cs

theorem lnC_eq : ∀ (cs : List Ch) (l cur : (List UInt8)), Rg l cs → lnC cur cs = ln cur l
  | [], l, cur, h => by obtain rfl : l = [] := h; rfl
  | c :: cs, l, cur, h => by
    by_cases hr : c.r = 10
    · have hb := rg_ascii c cs l h (by omega)
      obtain ⟨rest, h1, _, _, h4⟩ := h
      rw [lnC, if_pos hr, lnC_eq cs rest [] h4, h1, hb, hr]
      rfl
    · have hb := rg_no10 c cs l h hr
      obtain ⟨rest, h1, _, _, h4⟩ := h
      rw [lnC, if_neg hr, lnC_eq cs rest _ h4, h1, ln_app _ _ _ hb]

theorem ln_no10 : ∀ (bs cur : (List UInt8)), (∀ b ∈ cur, b ≠ 10) → ∀ x ∈ ln cur bs, ∀ b ∈ x, b ≠ 10
  | [], cur, h, x, hx => by
    rw [ln] at hx
    split at hx
    · simp at hx
    · simp only [List.mem_singleton] at hx
      subst hx
      intro b hb; exact h b (trim_sub _ b hb)
  | a :: bs, cur, h, x, hx => by
    rw [ln] at hx
    split at hx
    · rcases List.mem_cons.1 hx with rfl | hx
      · intro b hb; exact h b (trim_sub _ b hb)
      · exact ln_no10 bs [] (by simp) x hx
    · exact ln_no10 bs _ (by intro b hb; rcases List.mem_append.1 hb with hb | hb; exact h b hb; simp at hb; subst hb; assumption) x hx

def lns (L : List (List UInt8)) : (List UInt8) := L.flatMap fun x => x ++ [10]
theorem lns_nil : lns [] = [] := rfl
theorem lns_snoc (L : List (List UInt8)) (x : (List UInt8)) : lns (L ++ [x]) = lns L ++ x ++ [10] := by simp [lns]
theorem ln_back : ∀ (L : List (List UInt8)), (∀ x ∈ L, ∀ b ∈ x, b ≠ 10) → (∀ x ∈ L, trim x = x) → ln [] (lns L) = L
  | [], _, _ => rfl
  | x :: L, h, k => by
    have e : lns (x :: L) = x ++ (10 :: lns L) := by simp [lns]
    rw [e, ln_app _ _ _ (h x List.mem_cons_self), ln, if_pos rfl, List.nil_append, k x List.mem_cons_self,
      ln_back L (fun y hy => h y (List.mem_cons_of_mem _ hy)) (fun y hy => k y (List.mem_cons_of_mem _ hy))]

theorem ln_total : ∀ (bs cur : (List UInt8)), (lns (ln cur bs)).length ≤ cur.length + bs.length + 1
  | [], cur => by
    rw [ln]; split
    · simp [lns]
    · have := trim_len cur; simp [lns]; omega
  | a :: bs, cur => by
    rw [ln]; split
    · have h1 := ln_total bs []
      have h2 := trim_len cur
      have e : lns (trim cur :: ln [] bs) = trim cur ++ (10 :: lns (ln [] bs)) := by simp [lns]
      rw [e, List.length_append, List.length_cons, List.length_cons]
      simp only [List.length_nil] at h1
      omega
    · have h1 := ln_total bs (cur ++ [a])
      simp only [List.length_append, List.length_cons, List.length_nil] at h1 ⊢
      omega
theorem lns_len : ∀ (L : List (List UInt8)), L.length ≤ (lns L).length
  | [] => Nat.le_refl _
  | x :: L => by
    have e : lns (x :: L) = x ++ (10 :: lns L) := by simp [lns]
    have := lns_len L
    rw [e, List.length_append, List.length_cons, List.length_cons]; omega

/-! ### words -/

def okC (c : Ch) : Bool := !(decide c.broken || (decide (c.r < 32) && c.r != 9) || c.r == 127)
def blank (c : Ch) : Bool := c.r == 32 || c.r == 9 || c.r == 160

def wd (cur : List Ch) : List Ch → List (List Ch)
  | [] => if cur = [] then [] else [cur]
  | c :: cs => if blank c then (if cur = [] then wd [] cs else cur :: wd [] cs) else wd (cur ++ [c]) cs

theorem wd_mem : ∀ (cs cur : List Ch), (∀ c ∈ cur, blank c = false) → ∀ x ∈ wd cur cs, x ≠ [] ∧ ∀ c ∈ x, blank c = false ∧ (c ∈ cur ∨ c ∈ cs)
  | [], cur, h, x, hx => by
    rw [wd] at hx
    split at hx
    · simp at hx
    · simp only [List.mem_singleton] at hx; subst hx
      exact ⟨by assumption, fun c hc => ⟨h c hc, Or.inl hc⟩⟩
  | a :: cs, cur, h, x, hx => by
    rw [wd] at hx
    split at hx
    · split at hx
      · obtain ⟨h1, h2⟩ := wd_mem cs [] (by simp) x hx
        exact ⟨h1, fun c hc => ⟨(h2 c hc).1, by rcases (h2 c hc).2 with g | g; simp at g; exact Or.inr (List.mem_cons_of_mem _ g)⟩⟩
      · rcases List.mem_cons.1 hx with rfl | hx
        · exact ⟨by assumption, fun c hc => ⟨h c hc, Or.inl hc⟩⟩
        · obtain ⟨h1, h2⟩ := wd_mem cs [] (by simp) x hx
          exact ⟨h1, fun c hc => ⟨(h2 c hc).1, by rcases (h2 c hc).2 with g | g; simp at g; exact Or.inr (List.mem_cons_of_mem _ g)⟩⟩
    · rename_i ha
      obtain ⟨h1, h2⟩ := wd_mem cs (cur ++ [a]) (by intro c hc; rcases List.mem_append.1 hc with hc | hc; exact h c hc; simp at hc; subst hc; simpa using ha) x hx
      refine ⟨h1, fun c hc => ⟨(h2 c hc).1, ?_⟩⟩
      rcases (h2 c hc).2 with g | g
      · rcases List.mem_append.1 g with g | g
        · exact Or.inl g
        · simp at g; subst g; exact Or.inr List.mem_cons_self
      · exact Or.inr (List.mem_cons_of_mem _ g)

theorem wd_app : ∀ (p cur q : List Ch), (∀ c ∈ p, blank c = false) → wd cur (p ++ q) = wd (cur ++ p) q
  | [], cur, q, _ => by simp
  | c :: p, cur, q, h => by
    have hb : ¬ blank c = true := by simp [h c List.mem_cons_self]
    rw [List.cons_append, wd, if_neg hb, wd_app p _ q fun x hx => h x (List.mem_cons_of_mem _ hx)]
    simp

def sp : Ch := ⟨32, [32]⟩
theorem sp_good : sp.good := good_of sp [] (by decide) (by decide) (by decide)
/-- Words with one blank between. -/
def jn : List (List Ch) → List Ch
  | [] => []
  | [x] => x
  | x :: y :: l => x ++ sp :: jn (y :: l)
theorem wd_jn : ∀ (L : List (List Ch)), (∀ x ∈ L, x ≠ [] ∧ ∀ c ∈ x, blank c = false) → wd [] (jn L) = L
  | [], _ => rfl
  | [x], h => by
    have hx := h x List.mem_cons_self
    have := wd_app x [] [] hx.2
    rw [List.append_nil, List.nil_append] at this
    rw [jn, this, wd, if_neg hx.1]
  | x :: y :: l, h => by
    have hx := h x List.mem_cons_self
    rw [jn, wd_app x [] _ hx.2, List.nil_append, wd, if_pos (by decide), if_neg hx.1, wd_jn (y :: l) fun z hz => h z (List.mem_cons_of_mem _ hz)]
theorem jn_mem : ∀ (L : List (List Ch)) (c : Ch), c ∈ jn L → c = sp ∨ ∃ x ∈ L, c ∈ x
  | [], c, h => by simp [jn] at h
  | [x], c, h => Or.inr ⟨x, List.mem_cons_self, h⟩
  | x :: y :: l, c, h => by
    rw [jn] at h
    rcases List.mem_append.1 h with h | h
    · exact Or.inr ⟨x, List.mem_cons_self, h⟩
    · rcases List.mem_cons.1 h with h | h
      · exact Or.inl h
      · rcases jn_mem (y :: l) c h with g | ⟨z, hz, g⟩
        · exact Or.inl g
        · exact Or.inr ⟨z, List.mem_cons_of_mem _ hz, g⟩
theorem jn_snoc : ∀ (L : List (List Ch)) (x : List Ch), jn (L ++ [x]) = if L = [] then x else jn L ++ sp :: x
  | [], x => rfl
  | [y], x => rfl
  | y :: z :: l, x => by
    have := jn_snoc (z :: l) x
    rw [if_neg (by simp)] at this
    rw [if_neg (by simp)]
    show y ++ sp :: jn ((z :: l) ++ [x]) = _
    rw [this, jn]; simp

/-- What Words answers: the words, the error. -/
def wordsOf (cs : List Ch) : List (List UInt8) × Int :=
  if (tw cs).all okC then ((wd [] (tw cs)).map flat, 0) else ([], 30)

theorem tw_all (cs : List Ch) (h : ∀ c ∈ cs, c.r ≠ 35) : tw cs = cs := by
  unfold tw
  induction cs with
  | nil => rfl
  | cons c cs ih =>
    rw [List.takeWhile_cons, if_pos (by simp [h c List.mem_cons_self]), ih fun d hd => h d (List.mem_cons_of_mem _ hd)]
theorem tw_mem (cs : List Ch) : ∀ c ∈ tw cs, c ∈ cs ∧ c.r ≠ 35 := by
  unfold tw
  induction cs with
  | nil => simp
  | cons a cs ih =>
    intro c hc
    rw [List.takeWhile_cons] at hc
    split at hc
    · rename_i ha
      rcases List.mem_cons.1 hc with rfl | hc
      · exact ⟨List.mem_cons_self, by simpa using ha⟩
      · exact ⟨List.mem_cons_of_mem _ (ih c hc).1, (ih c hc).2⟩
    · simp at hc

/-- The words of a line, one blank between, have these characters, and are its words again. -/
theorem words_back (cs : List Ch) (l : (List UInt8)) (h : Rg l cs) (hok : (tw cs).all okC = true) :
    Rg (flat (jn (wd [] (tw cs)))) (jn (wd [] (tw cs))) ∧ wordsOf (jn (wd [] (tw cs))) = ((wd [] (tw cs)).map flat, 0) := by
  have hm := wd_mem (tw cs) [] (by simp)
  have hc : ∀ c ∈ jn (wd [] (tw cs)), c = sp ∨ c ∈ tw cs := by
    intro c hc
    rcases jn_mem _ c hc with g | ⟨x, hx, g⟩
    · exact Or.inl g
    · rcases ((hm x hx).2 c g).2 with g | g
      · simp at g
      · exact Or.inr g
  have hokc : ∀ c ∈ tw cs, okC c = true := List.all_eq_true.1 hok
  have hgood : ∀ c ∈ jn (wd [] (tw cs)), c.good := by
    intro c hcc
    rcases hc c hcc with rfl | g
    · exact sp_good
    · refine good_of_rg cs l h c (tw_mem cs c g).1 ?_
      intro hb
      have := hokc c g
      simp [okC, hb] at this
  have h35 : ∀ c ∈ jn (wd [] (tw cs)), c.r ≠ 35 := by
    intro c hcc
    rcases hc c hcc with rfl | g
    · decide
    · exact (tw_mem cs c g).2
  have hall : (jn (wd [] (tw cs))).all okC = true := by
    rw [List.all_eq_true]
    intro c hcc
    rcases hc c hcc with rfl | g
    · decide
    · exact hokc c g
  refine ⟨rg_good _ hgood, ?_⟩
  rw [wordsOf, tw_all _ h35, if_pos hall, wd_jn _ fun x hx => ⟨(hm x hx).1, fun c hcx => ((hm x hx).2 c hcx).1⟩]

end Go.Proofs.YtmcmpjcijbeilaaGreatDoor.Wd

/-
  What is proved here: plain facts on numbers in digits of three kinds: which digit a rune is, which number a row of characters is, which characters a number has, and that each is the other's answer. No program.
-/
namespace Go.Proofs.YtmcmpjcijbeilaaGreatDoor.Wd
open Go Go.Lib

def kdOf (r : Int) : Int := if 48 ≤ r ∧ r ≤ 57 then 0 else if 1632 ≤ r ∧ r ≤ 1641 then 1 else if 65296 ≤ r ∧ r ≤ 65305 then 2 else -1
def dvOf (r : Int) : Int := if 48 ≤ r ∧ r ≤ 57 then r - 48 else if 1632 ≤ r ∧ r ≤ 1641 then r - 1632 else if 65296 ≤ r ∧ r ≤ 65305 then r - 65296 else -1
def first (k : Nat) : Nat := if k = 0 then 48 else if k = 1 then 1632 else 65296

theorem kv_cases (r : Int) : (kdOf r = -1 ∧ dvOf r = -1) ∨ ∃ k d : Nat, k < 3 ∧ d < 10 ∧ r = (first k : Int) + d ∧ kdOf r = k ∧ dvOf r = d := by
  unfold kdOf dvOf
  by_cases h1 : 48 ≤ r ∧ r ≤ 57
  · exact Or.inr ⟨0, (r - 48).toNat, by omega, by omega, by simp [first]; omega, by simp [h1], by simp [h1]; omega⟩
  · by_cases h2 : 1632 ≤ r ∧ r ≤ 1641
    · exact Or.inr ⟨1, (r - 1632).toNat, by omega, by omega, by simp [first]; omega, by simp [h1, h2], by simp [h1, h2]; omega⟩
    · by_cases h3 : 65296 ≤ r ∧ r ≤ 65305
      · exact Or.inr ⟨2, (r - 65296).toNat, by omega, by omega, by simp [first]; omega, by simp [h1, h2, h3], by simp [h1, h2, h3]; omega⟩
      · exact Or.inl ⟨by simp [h1, h2, h3], by simp [h1, h2, h3]⟩
theorem kv_first (k d : Nat) (hk : k < 3) (hd : d < 10) : kdOf ((first k : Int) + d) = k ∧ dvOf ((first k : Int) + d) = d := by
  have : k = 0 ∨ k = 1 ∨ k = 2 := by omega
  rcases this with rfl | rfl | rfl
  · have e : ((first 0 : Nat) : Int) = 48 := by decide
    rw [e]
    exact ⟨by rw [kdOf, if_pos (by omega)]; rfl, by rw [dvOf, if_pos (by omega)]; omega⟩
  · have e : ((first 1 : Nat) : Int) = 1632 := by decide
    rw [e]
    exact ⟨by rw [kdOf, if_neg (by omega), if_pos (by omega)]; rfl, by rw [dvOf, if_neg (by omega), if_pos (by omega)]; omega⟩
  · have e : ((first 2 : Nat) : Int) = 65296 := by decide
    rw [e]
    exact ⟨by rw [kdOf, if_neg (by omega), if_neg (by omega), if_pos (by omega)]; rfl, by rw [dvOf, if_neg (by omega), if_neg (by omega), if_pos (by omega)]; omega⟩

/-- The digit d of the kind k as a character. -/
def dch (k d : Nat) : Ch := ⟨first k + d, encodeRune ((first k + d : Nat) : Int)⟩
theorem dch_good_fin : ∀ (k : Fin 3) (d : Fin 10), dec ((dch k d).bs ++ []) = ((dch k d).r, (dch k d).bs.length) ∧ (dch k d).bs ≠ [] ∧ ¬ (dch k d).broken := by decide +kernel
theorem dch_good (k d : Nat) (hk : k < 3) (hd : d < 10) : (dch k d).good := by
  obtain ⟨h1, h2, h3⟩ := dch_good_fin ⟨k, hk⟩ ⟨d, hd⟩
  exact good_of _ [] h1 h2 h3
theorem dch_kv (k d : Nat) (hk : k < 3) (hd : d < 10) : kdOf (((dch k d).r : Nat) : Int) = k ∧ dvOf (((dch k d).r : Nat) : Int) = d := by
  have := kv_first k d hk hd
  simpa [dch] using this
theorem dch_len_fin : ∀ (k : Fin 3) (d : Fin 10), (dch k d).bs.length ≤ 3 := by decide +kernel

theorem decN_two (n b0 b1 b2 b3 r k : Nat) (h : decodeN n b0 b1 b2 b3 = (r, k)) (h1 : 128 ≤ r) (h2 : r ≤ 2047) (g0 : b0 < 256) (g1 : b1 < 256) : k = 2 ∧ b0 = 192 + r / 64 ∧ b1 = 128 + r % 64 := by
  unfold decodeN at h
  repeat' split at h
  all_goals (obtain ⟨e1, e2⟩ := Prod.mk.inj h; subst e1; subst e2)
  all_goals first | (exfalso; omega) | omega
theorem decN_three (n b0 b1 b2 b3 r k : Nat) (h : decodeN n b0 b1 b2 b3 = (r, k)) (h1 : 65280 ≤ r) (h2 : r ≤ 65310) (g0 : b0 < 256) (g1 : b1 < 256) (g2 : b2 < 256) : k = 3 ∧ b0 = 239 ∧ b1 = 188 ∧ b2 = 128 + r % 64 := by
  unfold decodeN at h
  repeat' split at h
  all_goals (obtain ⟨e1, e2⟩ := Prod.mk.inj h; subst e1; subst e2)
  all_goals first | (exfalso; omega) | omega

theorem byte_eq (x : UInt8) (n : Nat) (h : x.toNat = n) : x = UInt8.ofNat n := by rw [← h]; simp

theorem enc_fin0 : ∀ d : Fin 10, (dch 0 d).bs = [UInt8.ofNat (48 + d)] := by decide +kernel
theorem enc_fin1 : ∀ d : Fin 10, (dch 1 d).bs = [217, UInt8.ofNat (160 + d)] := by decide +kernel
theorem enc_fin2 : ∀ d : Fin 10, (dch 2 d).bs = [239, 188, UInt8.ofNat (144 + d)] := by decide +kernel

theorem ch_digit (c : Ch) (cs : List Ch) (l : (List UInt8)) (h : Rg l (c :: cs)) (k d : Nat) (hk : k < 3) (hd : d < 10) (hr : c.r = first k + d) : c = dch k d := by
  have e1 : c.r = (dch k d).r := hr
  suffices e2 : c.bs = (dch k d).bs by cases c; simp only at e1 e2; simp [e1, e2]
  have h' := h
  obtain ⟨rest, h1, h2, h3, _⟩ := h
  have : k = 0 ∨ k = 1 ∨ k = 2 := by omega
  have key : ∀ i, i < c.bs.length → c.bs.getD i 0 = l.getD i 0 := fun i hi => by rw [h1, getD_append_lt _ _ _ hi]
  rcases this with rfl | rfl | rfl
  · have hr' : c.r = 48 + d := by simpa [first] using hr
    rw [rg_ascii c cs l h' (by omega), hr', enc_fin0 ⟨d, hd⟩]
  · have hr' : c.r = 1632 + d := by simpa [first] using hr
    obtain ⟨g1, g2, g3⟩ := decN_two _ _ _ _ _ _ _ h3 (by omega) (by omega) (UInt8.toNat_lt _) (UInt8.toNat_lt _)
    rw [← key 0 (by omega)] at g2
    rw [← key 1 (by omega)] at g3
    rw [enc_fin1 ⟨d, hd⟩]
    rcases hc : c.bs with _ | ⟨x, _ | ⟨y, _ | ⟨z, t⟩⟩⟩
    · rw [hc] at g1; simp at g1
    · rw [hc] at g1; simp at g1
    · rw [hc] at g2 g3
      have a : x = UInt8.ofNat 217 := byte_eq x 217 (by have : x.toNat = _ := g2; omega)
      have b : y = UInt8.ofNat (160 + d) := byte_eq y (160 + d) (by have : y.toNat = _ := g3; omega)
      rw [a, b]; rfl
    · rw [hc] at g1; simp at g1
  · have hr' : c.r = 65296 + d := by simpa [first] using hr
    obtain ⟨g1, g2, g3, g4⟩ := decN_three _ _ _ _ _ _ _ h3 (by omega) (by omega) (UInt8.toNat_lt _) (UInt8.toNat_lt _) (UInt8.toNat_lt _)
    rw [← key 0 (by omega)] at g2
    rw [← key 1 (by omega)] at g3
    rw [← key 2 (by omega)] at g4
    rw [enc_fin2 ⟨d, hd⟩]
    rcases hc : c.bs with _ | ⟨x, _ | ⟨y, _ | ⟨z, _ | ⟨u, t⟩⟩⟩⟩
    · rw [hc] at g1; simp at g1
    · rw [hc] at g1; simp at g1
    · rw [hc] at g1; simp at g1
    · rw [hc] at g2 g3 g4
      have a : x = UInt8.ofNat 239 := byte_eq x 239 g2
      have b : y = UInt8.ofNat 188 := byte_eq y 188 g3
      have e : z = UInt8.ofNat (144 + d) := byte_eq z (144 + d) (by have : z.toNat = _ := g4; omega)
      rw [a, b, e]; rfl
    · rw [hc] at g1; simp at g1

/-! ### numbers -/

def isNum : List Ch → Bool
  | [] => false
  | c :: t => decide (0 ≤ kdOf c.r) && t.all (fun x => kdOf x.r == kdOf c.r) && (t.isEmpty || dvOf c.r != 0)
def num (n : Nat) : List Ch → Nat
  | [] => n
  | c :: cs => num (10 * n + (dvOf c.r).toNat) cs
theorem num_ge : ∀ (cs : List Ch) (n : Nat), n ≤ num n cs
  | [], n => Nat.le_refl _
  | c :: cs, n => Nat.le_trans (by omega) (num_ge cs _)
theorem num_app : ∀ (a b : List Ch) (n : Nat), num n (a ++ b) = num (num n a) b
  | [], _, _ => rfl
  | _ :: a, b, _ => num_app a b _
/-- What Number answers: the number, the error. -/
def numOf (cs : List Ch) : Nat × Int :=
  if isNum cs then (if 4611686018427387904 < num 0 cs then (0, 50) else (num 0 cs, 0)) else (0, 30)

/-- The digits of a number. -/
def dg (n : Nat) : List Nat := if _h : n < 10 then [n] else dg (n / 10) ++ [n % 10]
theorem dg_small (n : Nat) (h : n < 10) : dg n = [n] := by rw [dg, dif_pos h]
theorem dg_big (n : Nat) (h : ¬ n < 10) : dg n = dg (n / 10) ++ [n % 10] := by rw [dg, dif_neg h]
theorem dg_lt (n : Nat) : ∀ d ∈ dg n, d < 10 := by
  induction n using Nat.strongRecOn with
  | ind n ih =>
    by_cases h : n < 10
    · rw [dg_small n h]; intro d hd; simp at hd; omega
    · rw [dg_big n h]
      intro d hd
      rcases List.mem_append.1 hd with hd | hd
      · exact ih _ (by omega) d hd
      · simp at hd; omega
theorem dec_dg (n : Nat) : Lib.decDigits n = (dg n).map fun d => UInt8.ofNat (48 + d) := by
  induction n using Nat.strongRecOn with
  | ind n ih =>
    by_cases h : n < 10
    · rw [dg_small n h, Lib.decDigits, dif_pos h]; rfl
    · rw [dg_big n h, Lib.decDigits, dif_neg h, ih _ (by omega)]; simp
theorem dg_ne (n : Nat) : dg n ≠ [] := by
  by_cases h : n < 10
  · rw [dg_small n h]; simp
  · rw [dg_big n h]; simp
theorem dg_head (n : Nat) : (∃ d, dg n = [d]) ∨ ∃ d t, dg n = d :: t ∧ d ≠ 0 ∧ t ≠ [] := by
  induction n using Nat.strongRecOn with
  | ind n ih =>
    by_cases h : n < 10
    · exact Or.inl ⟨n, dg_small n h⟩
    · rw [dg_big n h]
      rcases ih (n / 10) (by omega) with ⟨d, hd⟩ | ⟨d, t, hd, h0, ht⟩
      · refine Or.inr ⟨d, [n % 10], by rw [hd]; rfl, ?_, by simp⟩
        by_cases h2 : n / 10 < 10
        · rw [dg_small _ h2] at hd; have := (List.cons.inj hd).1; omega
        · rw [dg_big _ h2] at hd
          have hl := congrArg List.length hd
          have := dg_ne (n / 10 / 10)
          simp at hl
          exact absurd hl this
      · exact Or.inr ⟨d, t ++ [n % 10], by rw [hd]; rfl, h0, by simp⟩
theorem dg_len (n : Nat) : ∀ m, n < 10 ^ (m + 1) → (dg n).length ≤ m + 1 := by
  induction n using Nat.strongRecOn with
  | ind n ih =>
    intro m hm
    by_cases h : n < 10
    · rw [dg_small n h]; simp
    · rw [dg_big n h, List.length_append, List.length_singleton]
      rcases m with _ | m
      · simp at hm; omega
      · have := ih (n / 10) (by omega) m (by rw [Nat.pow_succ] at hm; omega)
        omega

def chs (k : Nat) (ds : List Nat) : List Ch := ds.map (dch k)
theorem num_dg (k n : Nat) (hk : k < 3) : num 0 (chs k (dg n)) = n := by
  induction n using Nat.strongRecOn with
  | ind n ih =>
    by_cases h : n < 10
    · rw [dg_small n h]
      show 10 * 0 + (dvOf _).toNat = n
      rw [(dch_kv k n hk h).2]; omega
    · rw [dg_big n h, chs, List.map_append, num_app]
      have := ih (n / 10) (by omega)
      rw [chs] at this
      rw [this]
      show 10 * (n / 10) + (dvOf _).toNat = n
      rw [(dch_kv k (n % 10) hk (by omega)).2]; omega
theorem isNum_dg (k n : Nat) (hk : k < 3) : isNum (chs k (dg n)) = true := by
  have hlt := dg_lt n
  rcases dg_head n with ⟨d, hd⟩ | ⟨d, t, hd, h0, ht⟩
  · rw [hd] at hlt ⊢
    have := dch_kv k d hk (hlt d (by simp))
    simp [chs, isNum, this.1]
  · rw [hd] at hlt ⊢
    have h1 := dch_kv k d hk (hlt d (by simp))
    have h2 : ∀ x ∈ t, kdOf (((dch k x).r : Nat) : Int) = k := fun x hx => (dch_kv k x hk (hlt x (by simp [hx]))).1
    simp only [chs, List.map_cons, isNum, h1.1, h1.2, Bool.and_eq_true, List.all_eq_true, decide_eq_true_eq, Bool.or_eq_true]
    refine ⟨⟨by omega, ?_⟩, Or.inr (by simpa using h0)⟩
    intro x hx
    obtain ⟨y, hy, rfl⟩ := List.mem_map.1 hx
    rw [h2 y hy]; simp
/-- What Print answers. -/
def pr (k n : Nat) : (List UInt8) := flat (chs k (dg n))
theorem rg_pr (k n : Nat) (hk : k < 3) : Rg (pr k n) (chs k (dg n)) := by
  apply rg_good
  intro c hc
  obtain ⟨d, hd, rfl⟩ := List.mem_map.1 hc
  exact dch_good k d hk (dg_lt n d hd)
theorem pr_ne (k n : Nat) (hk : k < 3) : pr k n ≠ [] := by
  intro h
  have h1 := rg_pr k n hk
  rw [h] at h1
  have := rg_len _ _ h1
  simp [chs] at this
  exact dg_ne n this

/-- Each row of digits with no 0 ahead is that of its number. -/
theorem dg_val (k : Nat) (hk : k < 3) : ∀ (m : Nat) (ds : List Nat), ds.length = m → (∀ d ∈ ds, d < 10) → ds ≠ [] → (ds.length = 1 ∨ ds.head? ≠ some 0) → dg (num 0 (chs k ds)) = ds ∧ (ds.head? ≠ some 0 → 1 ≤ num 0 (chs k ds))
  | 0, ds, hm, _, hne, _ => absurd (List.eq_nil_of_length_eq_zero hm) hne
  | m + 1, ds, hm, hlt, hne, hh => by
    rcases List.eq_nil_or_concat ds with h | ⟨t, d, h⟩
    · exact absurd h hne
    · have h : ds = t ++ [d] := by simpa using h
      subst h
      have hd : d < 10 := hlt d (by simp)
      have ev : num 0 (chs k (t ++ [d])) = 10 * num 0 (chs k t) + d := by
        rw [chs, List.map_append, num_app]
        show 10 * _ + (dvOf _).toNat = _
        rw [(dch_kv k d hk hd).2, chs]; simp
      rw [ev]
      by_cases ht : t = []
      · subst ht
        have e0 : num 0 (chs k []) = 0 := rfl
        rw [e0]
        refine ⟨by rw [dg_small _ (by omega)]; simp, fun g => ?_⟩
        simp at g; omega
      · have hl : t.length ≠ 0 := fun g => ht (List.eq_nil_of_length_eq_zero g)
        have hhead : t.head? ≠ some 0 := by
          rcases hh with hh | hh
          · simp at hh; exact absurd hh ht
          · intro g; apply hh
            cases t with
            | nil => exact absurd rfl ht
            | cons a t => simpa using g
        obtain ⟨i1, i2⟩ := dg_val k hk m t (by simp at hm; omega) (fun x hx => hlt x (by simp [hx])) ht (Or.inr hhead)
        have i2 := i2 hhead
        refine ⟨?_, fun _ => by omega⟩
        rw [dg_big _ (by omega)]
        rw [show (10 * num 0 (chs k t) + d) / 10 = num 0 (chs k t) by omega, show (10 * num 0 (chs k t) + d) % 10 = d by omega, i1]

theorem rg_digits : ∀ (cs : List Ch) (l : (List UInt8)) (k : Nat), k < 3 → Rg l cs → (∀ c ∈ cs, kdOf c.r = k) → ∃ ds : List Nat, cs = chs k ds ∧ ∀ d ∈ ds, d < 10
  | [], _, _, _, _, _ => ⟨[], rfl, by simp⟩
  | c :: cs, l, k, hk, h, hc => by
    have h' := h
    obtain ⟨rest, _, _, _, h4⟩ := h
    obtain ⟨ds, e, hlt⟩ := rg_digits cs rest k hk h4 fun x hx => hc x (List.mem_cons_of_mem _ hx)
    have hck := hc c List.mem_cons_self
    rcases kv_cases c.r with ⟨g, _⟩ | ⟨k', d, hk', hd, hr, g, _⟩
    · rw [g] at hck; omega
    · have : k' = k := by omega
      subst this
      have := ch_digit c cs l h' k' d hk' hd (by omega)
      refine ⟨d :: ds, by rw [this, e]; rfl, ?_⟩
      intro x hx
      rcases List.mem_cons.1 hx with rfl | hx
      · exact hd
      · exact hlt x hx

/-- What is read of a kind is printed of that kind as the same word. -/
theorem num_back (cs : List Ch) (l : (List UInt8)) (h : Rg l cs) (hn : isNum cs = true) : ∃ k, k < 3 ∧ pr k (num 0 cs) = l := by
  rcases cs with _ | ⟨c, t⟩
  · simp [isNum] at hn
  · simp only [isNum, Bool.and_eq_true, decide_eq_true_eq, List.all_eq_true, Bool.or_eq_true] at hn
    obtain ⟨⟨h0, h1⟩, h2⟩ := hn
    rcases kv_cases c.r with ⟨g, _⟩ | ⟨k, d, hk, hd, hr, g, gv⟩
    · rw [g] at h0; omega
    · have hall : ∀ x ∈ c :: t, kdOf x.r = k := by
        intro x hx
        rcases List.mem_cons.1 hx with rfl | hx
        · exact g
        · have := h1 x hx; rw [g] at this; simpa using this
      obtain ⟨ds, e, hlt⟩ := rg_digits (c :: t) l k hk h hall
      refine ⟨k, hk, ?_⟩
      rcases ds with _ | ⟨d', ds'⟩
      · simp [chs] at e
      · have ec : c = dch k d' := by simp [chs] at e; exact e.1
        have hd' : dvOf c.r = d' := by rw [ec]; exact (dch_kv k d' hk (hlt d' (by simp))).2
        have hv : (d' :: ds').length = 1 ∨ (d' :: ds').head? ≠ some 0 := by
          rcases h2 with h2 | h2
          · left
            have : t = [] := by simpa using h2
            rw [this] at e; simp [chs] at e; simp [e.2]
          · right
            rw [hd'] at h2; simp at h2 ⊢; exact h2
        have := (dg_val k hk _ (d' :: ds') rfl hlt (by simp) hv).1
        rw [pr, e, this, ← e]
        exact (rg_flat _ _ h).symm

theorem numOf_pr (k n : Nat) (hk : k < 3) : numOf (chs k (dg n)) = if 4611686018427387904 < n then (0, 50) else (n, 0) := by
  rw [numOf, if_pos (isNum_dg k n hk), num_dg k n hk]

end Go.Proofs.YtmcmpjcijbeilaaGreatDoor.Wd

/-
  What is proved here: words for texts in memory: a text by its bytes, an iterator over its characters, a slice of texts. No condition.
-/
namespace Go.Proofs.YtmcmpjcijbeilaaGreatDoor.Ws
open Go.RowKit Wd

theorem below_trans {a b c : World} (h : Below a.heap.size a b) (k : Below b.heap.size b c) : Below a.heap.size a c := h.trans (k.mono h.size)
theorem add_plain (g o k : Nat) : (⟨g, o, none⟩ : Addr).add k = ⟨g, o + k, none⟩ := by unfold Addr.add; split <;> simp_all
theorem add_block (a : Addr) (n : Nat) : (a.add n).block = a.block := by unfold Addr.add; split <;> rfl

/- A text by its bytes. -/
def sb (l : List UInt8) : ByteArray := ⟨l.toArray⟩
theorem sb_size (l : List UInt8) : (sb l).size = l.length := by show l.toArray.size = _; simp
theorem sb_list (s : ByteArray) : s = sb s.data.toList := by cases s; simp [sb]
theorem sb_data (l : List UInt8) : (sb l).data.toList = l := by simp [sb]
theorem sb_toList (l : List UInt8) : (sb l).toList = l := by rw [ByteArray.toList_eq, sb_data]
theorem sb_inj {a b : List UInt8} (h : sb a = sb b) : a = b := by rw [← sb_data a, h, sb_data]
theorem sb_append (a b : List UInt8) : sb a ++ sb b = sb (a ++ b) := by
  apply ByteArray.ext; simp [sb]
theorem sb_extract (l : List UInt8) (a b : Nat) : (sb l).extract a b = sb ((l.drop a).take (b - a)) := by
  apply ByteArray.ext; simp [sb]
theorem sb_decode (l : List UInt8) (i : Nat) : Utf8.decode (sb l) i = dec (l.drop i) := by rw [dec_at, sb_data]
theorem sb_dec {l : List UInt8} {p : List UInt8} {c : Ch} {cs : List Ch} (h : Rg (l.drop p.length) (c :: cs)) : Utf8.decode (sb l) p.length = (c.r, c.bs.length) := by
  obtain ⟨_, _, _, h3, _⟩ := h
  rw [sb_decode]; exact h3

/- Ranging over a text l: p is through, the characters cs are to come. -/
structure Rng (l p : List UInt8) (cs : List Ch) : Prop where
  all : l = p ++ flat cs
  rg : Rg (flat cs) cs
theorem Rng.start (l : List UInt8) (cs : List Ch) (h : Rg l cs) : Rng l [] cs := ⟨rg_flat _ _ h, by rw [← rg_flat _ _ h]; exact h⟩
theorem Rng.dec {l p : List UInt8} {c : Ch} {cs : List Ch} (h : Rng l p (c :: cs)) : Utf8.decode (sb l) p.length = (c.r, c.bs.length) := by
  obtain ⟨_, _, _, h3, _⟩ := h.rg
  rw [sb_decode, h.all, List.drop_left]; exact h3
theorem Rng.next {l p : List UInt8} {c : Ch} {cs : List Ch} (h : Rng l p (c :: cs)) : Rng l (p ++ c.bs) cs := by
  obtain ⟨rest, h1, _, _, h4⟩ := h.rg
  have e : rest = flat cs := rg_flat _ _ h4
  refine ⟨by rw [h.all, flat_cons, List.append_assoc], by rw [← e]; exact h4⟩
theorem Rng.pos {l p : List UInt8} {c : Ch} {cs : List Ch} (h : Rng l p (c :: cs)) : 1 ≤ c.bs.length := by
  obtain ⟨_, _, h2, _, _⟩ := h.rg
  cases hb : c.bs with
  | nil => exact absurd hb h2
  | cons a t => simp
theorem Rng.lt {l p : List UInt8} {c : Ch} {cs : List Ch} (h : Rng l p (c :: cs)) : p.length + c.bs.length ≤ l.length := by
  rw [h.all, flat_cons]; simp
theorem Rng.ge {l p : List UInt8} (h : Rng l p []) : p = l := by rw [h.all]; simp [flat]
theorem Rng.rune {l p : List UInt8} {c : Ch} {cs : List Ch} (h : Rng l p (c :: cs)) : c.r ≤ 1114111 := by
  obtain ⟨_, _, _, h3, _⟩ := h.rg
  have := dec_le (flat (c :: cs))
  rw [h3] at this; exact this
theorem Rng.len {l p : List UInt8} {cs : List Ch} (h : Rng l p cs) : p.length + cs.length ≤ l.length := by
  have := rg_len _ _ h.rg
  rw [h.all, List.length_append]; omega

/- What 'next' answers. -/
theorem Rng.run {P : Program} {l p : List UInt8} {c : Ch} {cs : List Ch} (h : Rng l p (c :: cs)) (w : World) (k : Nat) (hk : w.heap[k]? = some (.stringIter (sb l) p.length)) (ty : TypeId) :
    (Instr.next (.pointer (some ⟨k, 0, none⟩)) true ty).run P w = .ok (.tuple #[.bool true, .int .i64 (p.length : Int), .int .i32 (c.r : Int)]) (w.iterAt k (sb l) (p.length + c.bs.length)) := by
  have h1 := h.lt; have h2 := h.pos
  rw [Lib.run_next_any_at w k (sb l) p.length ty hk (by rw [sb_size]; omega), h.dec]
theorem Rng.fin {P : Program} {l p : List UInt8} (h : Rng l p []) (w : World) (k : Nat) (hk : w.heap[k]? = some (.stringIter (sb l) p.length)) (ty : TypeId) :
    (Instr.next (.pointer (some ⟨k, 0, none⟩)) true ty).run P w = .ok (.tuple #[.bool false]) w :=
  Lib.run_next_end_at w k (sb l) p.length ty hk (by rw [sb_size, h.ge]; omega)

/- The iterator over l in block k stands behind p; nothing below B has changed. -/
def Itr (w0 w : World) (B k : Nat) (l p : List UInt8) : Prop := w.heap[k]? = some (.stringIter (sb l) p.length) ∧ B ≤ k ∧ Below B w0 w
theorem Itr.start {w0 w : World} {B : Nat} (h : Below B w0 w) (hB : B ≤ w.heap.size) (l : List UInt8) : Itr w0 (w.alloc (.stringIter (sb l) 0)) B w.heap.size l [] :=
  ⟨heap_alloc_new w _, hB, h.alloc hB _⟩
theorem Itr.next {w0 w : World} {B k : Nat} {l p : List UInt8} (h : Itr w0 w B k l p) (q : List UInt8) : Itr w0 (w.iterAt k (sb l) (p.length + q.length)) B k l (p ++ q) :=
  ⟨by rw [List.length_append]; exact Lib.iterAt_heap w k (sb l) _ _ h.1, h.2.1, Lib.below_iterAt h.2.2 h.2.1 _ _⟩
theorem Itr.below {w0 w w' : World} {B k : Nat} {l p : List UInt8} (h : Itr w0 w B k l p) (hb : Below w.heap.size w w') (hB : B ≤ w.heap.size) : Itr w0 w' B k l p :=
  ⟨(hb.block k (lt_of_block h.1)).trans h.1, h.2.1, h.2.2.trans (hb.mono hB)⟩
theorem Itr.lt {w0 w : World} {B k : Nat} {l p : List UInt8} (h : Itr w0 w B k l p) : k < w.heap.size := lt_of_block h.1

theorem Itr.size {w0 w : World} {B k : Nat} {l p : List UInt8} (h : Itr w0 w B k l p) : B < w.heap.size := Nat.lt_of_le_of_lt h.2.1 h.lt

/- A slice of texts that a call has made from block B on. -/
def strs (L : List (List UInt8)) : List Value := L.map fun x => Value.string (sb x)
theorem strs_len (L : List (List UInt8)) : (strs L).length = L.length := by simp [strs]
theorem strs_append (a b : List (List UInt8)) : strs (a ++ b) = strs a ++ strs b := by simp [strs]
theorem strs_at (L : List (List UInt8)) (k : Nat) : (strs L)[k]? = (L[k]?).map fun x => Value.string (sb x) := by simp [strs]
theorem strs_one (L : List (List UInt8)) : ∀ u ∈ strs L, u.oneCell' = true := by
  intro u hu
  simp only [strs, List.mem_map] at hu
  obtain ⟨x, _, rfl⟩ := hu
  rfl
def Own (w : World) (B : Nat) (v : Value) (L : List (List UInt8)) : Prop := w.ownsRow B 9 1 v L.length (strs L)
theorem Own.none_ (w : World) (B : Nat) : Own w B (.slice none 0 0) [] := World.ownsRow_nil _ _ _ _
theorem own_kept {w w' : World} {B : Nat} {e : TypeId} {s : Nat} {v : Value} {n : Nat} {xs : List Value} (h : w.ownsRow B e s v n xs) (hk : ∀ g c fz, v.ownBlock = some g → w.heap[g]? = some (.cells c e fz) → w'.heap[g]? = w.heap[g]?) : w'.ownsRow B e s v n xs := by
  obtain ⟨h0, h1 | ⟨g, cap, cur, h1, h2, h3, h4⟩⟩ := h
  · exact ⟨h0, Or.inl h1⟩
  · exact ⟨h0, Or.inr ⟨g, cap, cur, h1, h2, (hk g cur (0, 0) (by rw [h1]; rfl) h3).trans h3, h4⟩⟩
theorem own_lt {w : World} {B : Nat} {e : TypeId} {s : Nat} {v : Value} {n : Nat} {xs : List Value} (h : w.ownsRow B e s v n xs) : ∀ g, v.ownBlock = some g → B ≤ g ∧ ∃ c, w.heap[g]? = some (.cells c e (0, 0)) := by
  intro g hg
  obtain ⟨_, h1 | ⟨g', cap, cur, h1, h2, h3, _⟩⟩ := h
  · rw [h1.1] at hg; cases hg
  · rw [h1] at hg
    have : g' = g := by simpa [Value.ownBlock] using hg
    subst this
    exact ⟨h2, cur, h3⟩
theorem own_below {w w' : World} {B : Nat} {e : TypeId} {s : Nat} {v : Value} {n : Nat} {xs : List Value} (h : w.ownsRow B e s v n xs) (hb : Below w.heap.size w w') : w'.ownsRow B e s v n xs :=
  own_kept h fun g _ _ _ hc => hb.block g (lt_of_block hc)
theorem own_iter {w : World} {B : Nat} {e : TypeId} {s : Nat} {v : Value} {n : Nat} {xs : List Value} (h : w.ownsRow B e s v n xs) {k : Nat} {t : ByteArray} {q : Nat} (hk : w.heap[k]? = some (.stringIter t q)) (q' : Nat) : (w.iterAt k t q').ownsRow B e s v n xs :=
  own_kept h fun g _ _ _ hc => Lib.iterAt_other w k g t q' (fun e => by rw [e, hk] at hc; cases hc)
theorem Own.below {w w' : World} {B : Nat} {v : Value} {L : List (List UInt8)} (h : Own w B v L) (hb : Below w.heap.size w w') : Own w' B v L := own_below h hb
theorem Own.iter {w : World} {B : Nat} {v : Value} {L : List (List UInt8)} (h : Own w B v L) {k : Nat} {t : ByteArray} {q : Nat} (hk : w.heap[k]? = some (.stringIter t q)) (q' : Nat) : Own (w.iterAt k t q') B v L := own_iter h hk q'
theorem Own.push {w w' : World} {B : Nat} {v v' : Value} {L : List (List UInt8)} {x : List UInt8} (_ : Own w B v L) (h : w'.ownsRow B 9 1 v' (L.length + 1) (strs L ++ strs [x])) : Own w' B v' (L ++ [x]) := by
  unfold Own; rw [strs_append, List.length_append]; exact h
theorem Itr.grown {w0 w w' : World} {B k : Nat} {l p : List UInt8} {e : TypeId} {s : Nat} {v : Value} {n : Nat} {xs : List Value} (h : Itr w0 w B k l p) (ho : w.ownsRow B e s v n xs) (hg : w.grownBy w' v.ownBlock) : Itr w0 w' B k l p := by
  refine ⟨(hg.block k h.lt fun e => ?_).trans h.1, h.2.1, Below.grown h.2.2 hg (Nat.le_of_lt h.size) fun g e => (own_lt ho g e).1⟩
  obtain ⟨_, c, hc⟩ := own_lt ho k e.symm
  rw [h.1] at hc; cases hc

/- A slice of texts reads as a list. -/
def At (w : World) (A : Option Addr) (L : List (List UInt8)) : Prop := ∀ (k : Nat) (x : List UInt8), L[k]? = some x → ∃ ad, A = some ad ∧ w.cell? (ad.add k) = some (.string (sb x))
def Txt (w : World) (v : Value) (L : List (List UInt8)) : Prop := ∃ (A : Option Addr) (c : Nat), v = .slice A L.length c ∧ At w A L
theorem At.kept {w w' : World} {A : Option Addr} {L : List (List UInt8)} (h : At w A L) (hk : ∀ p : Addr, p.block < w.heap.size → w'.cell? p = w.cell? p) : At w' A L := by
  intro k x hx
  obtain ⟨ad, e, h2⟩ := h k x hx
  exact ⟨ad, e, (hk _ (block_lt_of_cell h2)).trans h2⟩
theorem At.below {w w' : World} {A : Option Addr} {L : List (List UInt8)} (h : At w A L) (hb : Below w.heap.size w w') : At w' A L := h.kept fun _ hp => hb.cell hp
theorem Txt.below {w w' : World} {v : Value} {L : List (List UInt8)} (h : Txt w v L) (hb : Below w.heap.size w w') : Txt w' v L := by
  obtain ⟨A, c, e, h⟩ := h
  exact ⟨A, c, e, h.below hb⟩
theorem Own.txt {w : World} {B : Nat} {v : Value} {L : List (List UInt8)} (h : Own w B v L) : Txt w v L := by
  obtain ⟨h0, h1 | ⟨g, cap, cur, h1, h2, h3, h4, h5, h6, h7⟩⟩ := h
  · have : L = [] := List.eq_nil_of_length_eq_zero h1.2
    subst this
    exact ⟨none, 0, h1.1, fun k x hx => by simp at hx⟩
  · refine ⟨some ⟨g, 0, none⟩, cap, h1, fun k x hx => ⟨_, rfl, ?_⟩⟩
    rw [add_plain, Nat.zero_add, cell_of_row w g k _ 9 (0, 0) h3]
    have hk : k < L.length := by
      rcases Nat.lt_or_ge k L.length with hh | hh
      · exact hh
      · rw [List.getElem?_eq_none hh] at hx; cases hx
    have e1 : cur[k]? = (cur.toList.take (L.length * 1))[k]? := by
      rw [List.getElem?_take, if_pos (by omega), Array.getElem?_toList]
    rw [e1, h7, strs_at, hx]; rfl

theorem info9 : (Tryz.prog.info? 9).map (fun i => (i.zero, i.size, i.bytes)) = some (some (.string ⟨#[]⟩), 1, 16) := by kernel_rfl

/- One text more is put behind a slice of texts. -/
theorem app_str {w : World} {ops : Array Oper} {rest : List Oper} {o : Oper} {a : Act} {Q : Exit → Act → World → Prop} (hgd : o.guard = none) (s x : Operand)
    (ho : o.op = .call { callee := .builtin .append, args := #[s, x], argTypes := #[45, 45] }) (B : Nat) (v : Value) (L : List (List UInt8)) (y : List UInt8) (hs : a.eval s = v) (hown : Own w B v L)
    (g : Nat) (hx : a.eval x = .slice (some ⟨g, 0, none⟩) 1 1) (hg : w.cell? ⟨g, 0, none⟩ = some (.string (sb y))) (hn : L.length < 1000000000) (hB : B ≤ w.heap.size)
    (h : ∀ v' w', Own w' B v' (L ++ [y]) → w.grownBy w' v.ownBlock → wpList Tryz.prog ops Q rest (a.put o.dst v') w') : wpList Tryz.prog ops Q (o :: rest) a w := by
  obtain ⟨i0, hi, hz0, hz1, hz2⟩ := info_parts info9
  refine wpList_append_own w hgd s x 45 ho B 9 i0 (.string ⟨#[]⟩) 1 16 Tryz.underlying45 hi hz0 hz1 hz2 rfl (by decide) v L.length (strs L) hs hown ⟨g, 0, none⟩ 1 1 (strs [y]) hx rfl ?_ (strs_one _) ?_ ?_ hB ?_
  · intro j u hu
    rw [strs_at] at hu
    rcases j with _ | j
    · simp at hu; rw [← hu, add_plain]; exact hg
    · simp at hu
  · unfold maxLen; omega
  · omega
  · intro v' w' h1 h2 _
    exact h v' w' (hown.push h1) h2

end Go.Proofs.YtmcmpjcijbeilaaGreatDoor.Ws

/-
  What is proved here: contracts of words.isBlank, words.withoutRemark, words.width, words.mayBeSaid: what stands ahead of the first #, how wide a text's first character is, whether each character may be said. Conditions: texts fit an int.
-/
namespace Go.Proofs.YtmcmpjcijbeilaaGreatDoor.Ws
open Go.RowKit Wd

theorem ret_str {a b : List UInt8} {s : ByteArray} (h : s = sb a) (e : a = b) : Ending.returned (.string s) = .returned (.string (sb b)) := by rw [h, e]
theorem ret_bool {a b : Bool} (h : a = b) : Ending.returned (.bool a) = .returned (.bool b) := by rw [h]
theorem ret_int {k : IntKind} {a b : Int} (h : a = b) : Ending.returned (.int k a) = .returned (.int k b) := by rw [h]

def WrRel (w : World) (l : List UInt8) (cs : List Ch) (g : Nat) (wr : World) : Prop :=
  ∃ (p : List UInt8) (ds : List Ch), ds.length = g ∧ Rng l p ds ∧ Itr w wr w.heap.size w.heap.size l p ∧ flat (tw cs) = p ++ flat (tw ds)

set_option maxRecDepth 100000 in
set_option maxHeartbeats 1000000 in
theorem withoutRemark_any (l : List UInt8) (cs : List Ch) (w : World) (h : Rg l cs) (_hl : l.length ≤ 9223372036854775807) :
    Calls Tryz.prog 74 #[.string (sb l)] w fun e w' => e = .returned (.string (sb (flat (tw cs)))) ∧ Below w.heap.size w w' := by
  have HR := Lib.hid (Rng.start l cs h); clear h
  have hsz := sb_size l
  go_enter Tryz.func74, Tryz.ntmps74
  go_wp2
  go_loopg [] cs.length (fun g wr => WrRel w l cs g wr)
  case atStart => exact ⟨[], cs, rfl, HR.out, Itr.start (Below.refl _ w) (Nat.le_refl _) l, rfl⟩
  case round =>
    clear HR
    obtain ⟨p, ds, hg, hr, hi, hf⟩ := hrel
    rcases ds with _ | ⟨c, ds⟩
    · have hnx := fun ty => hr.fin (P := Tryz.prog) wr w.heap.size hi.1 ty
      have HR := Lib.hid hr; clear hr
      have HI := Lib.hid hi; clear hi
      have HF := Lib.hid hf; clear hf
      go_wp2
      go_ret
      refine ⟨?_, HI.out.2.2⟩
      have := HF.out; rw [HR.out.ge] at this
      rw [this]; simp [tw, flat]
    · have hnx := fun ty => hr.run (P := Tryz.prog) wr w.heap.size hi.1 ty
      have h1 := hr.lt
      have h2 := hr.rune
      have HR := Lib.hid hr; clear hr
      have HI := Lib.hid (hi.next c.bs); clear hi
      have HF := Lib.hid hf; clear hf
      by_cases h35 : c.r = 35
      · go_wp2
        go_ret
        refine ⟨?_, HI.out.2.2⟩
        refine ret_str (sb_extract l 0 p.length) ?_
        have e := HF.out
        rw [show tw (c :: ds) = [] by simp [tw, h35]] at e
        rw [e]
        have := HR.out.all
        rw [this]; simp [flat]
      · go_wp2
        go_roundg (gk - 1)
        case measure => simp at hg; omega
        case rel =>
          refine ⟨p ++ c.bs, ds, by simp at hg; omega, HR.out.next, HI.out, ?_⟩
          have e := HF.out
          rw [show tw (c :: ds) = c :: tw ds by simp [tw, h35]] at e
          rw [e, flat_cons, List.append_assoc]

theorem isBlank_any (r : Nat) (w : World) (h : r ≤ 1114111) : Calls Tryz.prog 106 #[.int .i32 (r : Int)] w fun e w' => e = .returned (.bool (r == 32 || r == 9 || r == 160)) ∧ w = w' := by
  by_cases h1 : r = 32
  · subst h1
    go_enter Tryz.func106, Tryz.ntmps106
    go_wp2
    go_ret
    exact ⟨rfl, rfl⟩
  · by_cases h2 : r = 9
    · subst h2
      go_enter Tryz.func106, Tryz.ntmps106
      go_wp2
      go_ret
      exact ⟨rfl, rfl⟩
    · by_cases h3 : r = 160
      · subst h3
        go_enter Tryz.func106, Tryz.ntmps106
        go_wp2
        go_ret
        exact ⟨rfl, rfl⟩
      · have e : (r == 32 || r == 9 || r == 160) = false := by simp [h1, h2, h3]
        rw [e]
        go_enter Tryz.func106, Tryz.ntmps106
        go_wp2
        go_ret
        refine ⟨ret_bool ?_, rfl⟩
        simp; omega

def WiRel (w : World) (l : List UInt8) (c : Ch) (cs : List Ch) (g : Nat) (wr : World) : Prop :=
  (g = 2 ∧ Rng l [] (c :: cs) ∧ Itr w wr w.heap.size w.heap.size l []) ∨ (g = 1 ∧ Rng l c.bs cs ∧ Itr w wr w.heap.size w.heap.size l c.bs)

set_option maxRecDepth 100000 in
set_option maxHeartbeats 1000000 in
theorem width_any (s : ByteArray) (l : List UInt8) (hs : s = sb l) (c : Ch) (cs : List Ch) (w : World) (h : Rg l (c :: cs)) (_hl : l.length ≤ 9223372036854775807) :
    Calls Tryz.prog 105 #[.string s] w fun e w' => e = .returned (.int .i64 (c.bs.length : Int)) ∧ Below w.heap.size w w' := by
  subst hs
  have HR := Lib.hid (Rng.start l _ h); clear h
  have hsz := sb_size l
  go_enter Tryz.func105, Tryz.ntmps105
  go_wp2
  go_loopg [] 2 (fun g wr => WiRel w l c cs g wr)
  case atStart => exact Or.inl ⟨rfl, HR.out, Itr.start (Below.refl _ w) (Nat.le_refl _) l⟩
  case round =>
    have hp := HR.out.pos
    clear HR
    rcases hrel with ⟨hg, hr, hi⟩ | ⟨hg, hr, hi⟩
    · have hnx := fun ty => hr.run (P := Tryz.prog) wr w.heap.size hi.1 ty
      have h1 := hr.lt
      have h2 := hr.rune
      have HR := Lib.hid hr; clear hr
      have HI := Lib.hid (hi.next c.bs); clear hi
      go_wp2
      go_roundg (gk - 1)
      case measure => omega
      case rel => exact Or.inr ⟨by omega, HR.out.next, by simpa using HI.out⟩
    · rcases cs with _ | ⟨d, ds⟩
      · have hnx := fun ty => hr.fin (P := Tryz.prog) wr w.heap.size hi.1 ty
        have HR := Lib.hid hr; clear hr
        have HI := Lib.hid hi; clear hi
        go_wp2
        go_ret
        refine ⟨ret_int ?_, HI.out.2.2⟩
        rw [HR.out.ge]
      · have hnx := fun ty => hr.run (P := Tryz.prog) wr w.heap.size hi.1 ty
        have h1 := hr.lt
        have h2 := hr.rune
        have HR := Lib.hid hr; clear hr
        have HI := Lib.hid (hi.next d.bs); clear hi
        go_wp2
        go_ret
        exact ⟨rfl, HI.out.2.2⟩

def MaRel (w : World) (l : List UInt8) (cs : List Ch) (g : Nat) (wr : World) : Prop :=
  ∃ (p : List UInt8) (ds : List Ch), ds.length = g ∧ Rng l p ds ∧ Itr w wr w.heap.size w.heap.size l p ∧ cs.all okC = ds.all okC

theorem ok_bad1 (c : Ch) (h : (c.r < 32 ∧ c.r ≠ 9) ∨ c.r = 127) : okC c = false := by
  rcases h with ⟨h1, h2⟩ | h
  · simp [okC, h1, h2]
  · simp [okC, h]
theorem ok_bad2 (c : Ch) (h : c.r = 65533) (h1 : c.bs.length = 1) : okC c = false := by simp [okC, Ch.broken, h, h1]
theorem ok_good (c : Ch) (h : ¬ ((c.r < 32 ∧ c.r ≠ 9) ∨ c.r = 127)) (h1 : ¬ (c.r = 65533 ∧ c.bs.length = 1)) : okC c = true := by
  unfold okC
  rw [decide_eq_false (show ¬ c.broken from h1)]
  simp only [Bool.false_or, Bool.not_eq_true', Bool.or_eq_false_iff, Bool.and_eq_false_iff, decide_eq_false_iff_not, bne_eq_false_iff_eq, beq_eq_false_iff_ne]
  omega

set_option maxRecDepth 100000 in
set_option maxHeartbeats 2000000 in
theorem mayBeSaid_any (l : List UInt8) (cs : List Ch) (w : World) (h : Rg l cs) (hl : l.length ≤ 9223372036854775807) :
    Calls Tryz.prog 75 #[.string (sb l)] w fun e w' => e = .returned (.bool (cs.all okC)) ∧ Below w.heap.size w w' := by
  have HR := Lib.hid (Rng.start l cs h); clear h
  have hsz := sb_size l
  go_enter Tryz.func75, Tryz.ntmps75
  go_wp2
  go_loopg [] cs.length (fun g wr => MaRel w l cs g wr)
  case atStart => exact ⟨[], cs, rfl, HR.out, Itr.start (Below.refl _ w) (Nat.le_refl _) l, rfl⟩
  case round =>
    clear HR
    obtain ⟨p, ds, hg, hr, hi, hf⟩ := hrel
    rcases ds with _ | ⟨c, ds⟩
    · have hnx := fun ty => hr.fin (P := Tryz.prog) wr w.heap.size hi.1 ty
      have HR := Lib.hid hr; clear hr
      have HI := Lib.hid hi; clear hi
      have HF := Lib.hid hf; clear hf
      go_wp2
      go_ret
      refine ⟨?_, HI.out.2.2⟩
      rw [HF.out]; rfl
    · have hnx := fun ty => hr.run (P := Tryz.prog) wr w.heap.size hi.1 ty
      have h1 := hr.lt
      have h2 := hr.rune
      have hg' : ds.length + 1 = gk := by simpa using hg
      have HR := Lib.hid hr; clear hr hg
      have HI := Lib.hid (hi.next c.bs); clear hi
      have HF := Lib.hid hf; clear hf
      by_cases hb : (c.r < 32 ∧ c.r ≠ 9) ∨ c.r = 127
      · go_wp2
        all_goals (try (exfalso; omega))
        all_goals
          go_ret
          refine ⟨?_, HI.out.2.2⟩
          rw [HF.out, List.all_cons, ok_bad1 c hb]; rfl
      · by_cases hx : c.r = 65533
        · have hex : (sb l).extract p.length (sb l).size = sb (flat (c :: ds)) := by
            rw [sb_extract, sb_size, HR.out.all, List.drop_left, List.take_of_length_le (by simp)]
          have HX := Lib.hid hex; clear hex
          go_wp2_with (go_at_call 105; refine (width_any _ _ HX.out c ds _ HR.out.rg ?_).mono ?_)
          · have := HR.out.all; rw [this, List.length_append] at hl; omega
          rintro e w1 ⟨rfl, hb1⟩
          have HI1 := Lib.hid (HI.out.below hb1 (Nat.le_of_lt HI.out.size)); clear hb1
          by_cases hw : c.bs.length = 1
          · go_wp2
            go_ret
            refine ⟨?_, HI1.out.2.2⟩
            rw [HF.out, List.all_cons, ok_bad2 c hx hw]; rfl
          · go_wp2
            go_roundg (gk - 1)
            case measure => omega
            case rel =>
              refine ⟨p ++ c.bs, ds, by omega, HR.out.next, HI1.out, ?_⟩
              rw [HF.out, List.all_cons, ok_good c hb (fun hh => hw hh.2)]; rfl
        · go_wp2
          all_goals (try (exfalso; omega))
          all_goals go_roundg (gk - 1)
          all_goals first
            | omega
            | (refine ⟨p ++ c.bs, ds, by omega, HR.out.next, HI.out, ?_⟩
               rw [HF.out, List.all_cons, ok_good c hb (fun hh => hx hh.1)]; rfl)

end Go.Proofs.YtmcmpjcijbeilaaGreatDoor.Ws

/-
  What is proved here: the contract of the document's own Chars: the characters of a text, each with its rune, its width, and whether it is broken. Condition: at most 300000 bytes.
-/
namespace Go.Proofs.YtmcmpjcijbeilaaGreatDoor.Ws
open Go.RowKit Wd

theorem info43 : (Tryz.prog.info? 87).map (fun i => (i.zero, i.size, i.bytes)) = some (some (.agg #[.int .i32 0, .int .i64 0, .bool false]), 3, 24) := by kernel_rfl

/- A character's three cells. -/
def ce (r n : Int) (b : Bool) : List Value := [.int .i32 r, .int .i64 n, .bool b]
def raw (c : Ch) : List Value := ce c.r c.bs.length false
def ful (c : Ch) : List Value := ce c.r c.bs.length (decide c.broken)
def cel (f : Ch → List Value) (cs : List Ch) : List Value := cs.flatMap f
theorem raw_len (c : Ch) : (raw c).length = 3 := rfl
theorem ful_len (c : Ch) : (ful c).length = 3 := rfl
theorem ful_fffd (c : Ch) (h : c.r = 65533) : ful c = ce 65533 c.bs.length ((c.bs.length : Int) == 1) := by
  have e : decide c.broken = ((c.bs.length : Int) == 1) := by
    rw [Bool.eq_iff_iff]; simp [Ch.broken, h]; omega
  unfold ful; rw [e, h]; rfl
theorem ful_other (c : Ch) (h : c.r ≠ 65533) : ful c = ce c.r c.bs.length false := by
  unfold ful; rw [decide_eq_false (show ¬ c.broken from fun hh => h hh.1)]
/- n characters' cells, in rows from block B on. -/
def COwn (w : World) (B : Nat) (v : Value) (n : Nat) (xs : List Value) : Prop := w.ownsRow B 87 3 v n xs

/- One character more. -/
theorem app_ch {w : World} {ops : Array Oper} {rest : List Oper} {o : Oper} {a : Act} {Q : Exit → Act → World → Prop} (hgd : o.guard = none) (s x : Operand)
    (ho : o.op = .call { callee := .builtin .append, args := #[s, x], argTypes := #[84, 84] }) (B : Nat) (v : Value) (n : Nat) (xs : List Value) (r m : Int) (b : Bool) (hs : a.eval s = v) (hown : COwn w B v n xs)
    (g : Nat) (hx : a.eval x = .slice (some ⟨g, 0, none⟩) 1 1) (hg : w.heap[g]? = some (.cells #[.int .i32 r, .int .i64 m, .bool b] 87 (0, 0))) (hn : n < 1000000000) (hB : B ≤ w.heap.size)
    (h : ∀ v' w', COwn w' B v' (n + 1) (xs ++ ce r m b) → w.grownBy w' v.ownBlock → wpList Tryz.prog ops Q rest (a.put o.dst v') w') : wpList Tryz.prog ops Q (o :: rest) a w := by
  obtain ⟨i0, hi, hz0, hz1, hz2⟩ := info_parts info43
  refine wpList_append_own w hgd s x 84 ho B 87 i0 _ 3 24 Tryz.underlying84 hi hz0 hz1 hz2 rfl (by decide) v n xs hs hown ⟨g, 0, none⟩ 1 1 (ce r m b) hx rfl ?_ ?_ ?_ ?_ hB ?_
  · intro j u hu
    rw [add_plain, Lib.cell_of_heap hg]
    rcases j with _ | _ | _ | j
    · simpa [ce] using hu
    · simpa [ce] using hu
    · simpa [ce] using hu
    · simp [ce] at hu
  · intro u hu
    simp only [ce, List.mem_cons, List.not_mem_nil, or_false] at hu
    rcases hu with rfl | rfl | rfl <;> rfl
  · unfold maxLen; omega
  · omega
  · intro v' w' h1 h2 _
    exact h v' w' h1 h2

structure Las (w : World) (b : Nat) (r n : Int) (f : Bool) : Prop where
  at_ : w.heap[b]? = some (.cells #[.int .i32 r, .int .i64 n, .bool f] 87 (0, 0))
theorem Las.cells {w : World} {b : Nat} {r n : Int} {f : Bool} (h : Las w b r n f) : w.cell? ⟨b, 0, none⟩ = some (.int .i32 r) ∧ w.cell? ⟨b, 1, none⟩ = some (.int .i64 n) ∧ w.cell? ⟨b, 2, none⟩ = some (.bool f) ∧ ∀ j, w.frozen? ⟨b, j, none⟩ = false :=
  ⟨by rw [Lib.cell_of_heap h.at_]; rfl, by rw [Lib.cell_of_heap h.at_]; rfl, by rw [Lib.cell_of_heap h.at_]; rfl, fun j => Lib.frozen_of_heap h.at_ j⟩

theorem Las.put3 {w : World} {b : Nat} {r n : Int} {f : Bool} (h : Las w b r n f) (r' n' : Int) (f' : Bool) :
    Las (((w.setCell ⟨b, 0, none⟩ (.int .i32 r')).setCell ⟨b, 1, none⟩ (.int .i64 n')).setCell ⟨b, 2, none⟩ (.bool f')) b r' n' f' :=
  ⟨by
    have e1 := heap_setCell_same w b 0 _ 87 (.int .i32 r') h.at_
    have e2 := heap_setCell_same _ b 1 _ 87 (.int .i64 n') e1
    have e3 := heap_setCell_same _ b 2 _ 87 (.bool f') e2
    exact e3⟩
theorem Las.put1 {w : World} {b : Nat} {r n : Int} {f : Bool} (h : Las w b r n f) (n' : Int) : Las (w.setCell ⟨b, 1, none⟩ (.int .i64 n')) b r n' f :=
  ⟨heap_setCell_same w b 1 _ 87 (.int .i64 n') h.at_⟩
theorem Las.alloc {w : World} {b : Nat} {r n : Int} {f : Bool} (h : Las w b r n f) (o : Obj) : Las (w.alloc o) b r n f :=
  ⟨(Lib.alloc_old w o b (lt_of_block h.at_)).trans h.at_⟩
theorem Las.grown {w w' : World} {B b : Nat} {r n : Int} {f : Bool} (h : Las w b r n f) {v : Value} {m : Nat} {xs : List Value} (ho : COwn w B v m xs) (hb : b < B) (hg : w.grownBy w' v.ownBlock) : Las w' b r n f :=
  ⟨(hg.block b (lt_of_block h.at_) fun e => by have := (own_lt ho b e.symm).1; omega).trans h.at_⟩
theorem Itr.set {w0 w : World} {B k : Nat} {l p : List UInt8} (h : Itr w0 w B k l p) {b : Nat} (hb : B ≤ b) (hk : k ≠ b) (j : Nat) (u : Value) : Itr w0 (w.setCell ⟨b, j, none⟩ u) B k l p :=
  ⟨(heap_setCell_other w ⟨b, j, none⟩ k u hk).trans h.1, h.2.1, h.2.2.setCell (p := ⟨b, j, none⟩) hb u⟩
theorem Itr.alloc {w0 w : World} {B k : Nat} {l p : List UInt8} (h : Itr w0 w B k l p) (o : Obj) : Itr w0 (w.alloc o) B k l p :=
  ⟨(Lib.alloc_old w o k h.lt).trans h.1, h.2.1, h.2.2.alloc (Nat.le_of_lt h.size) o⟩
theorem COwn.set {w : World} {B : Nat} {v : Value} {n : Nat} {xs : List Value} (h : COwn w B v n xs) {b : Nat} (hb : b < B) (j : Nat) (u : Value) : COwn (w.setCell ⟨b, j, none⟩ u) B v n xs := ownsRow_setCell_below h (a := ⟨b, j, none⟩) hb u
theorem COwn.alloc {w : World} {B : Nat} {v : Value} {n : Nat} {xs : List Value} (h : COwn w B v n xs) (o : Obj) : COwn (w.alloc o) B v n xs := World.ownsRow.alloc h o
theorem own_mono {w : World} {B B' : Nat} {e : TypeId} {s : Nat} {v : Value} {n : Nat} {xs : List Value} (h : w.ownsRow B e s v n xs) (hb : B' ≤ B) : w.ownsRow B' e s v n xs := by
  obtain ⟨h0, h1 | ⟨g, cap, cur, h1, h2, h3, h4⟩⟩ := h
  · exact ⟨h0, Or.inl h1⟩
  · exact ⟨h0, Or.inr ⟨g, cap, cur, h1, by omega, h3, h4⟩⟩
theorem cel_snoc (f : Ch → List Value) (D : List Ch) (c : Ch) : cel f (D ++ [c]) = cel f D ++ f c := by simp [cel]
theorem cel_len (f : Ch → List Value) (hf : ∀ c, (f c).length = 3) : ∀ D : List Ch, (cel f D).length = 3 * D.length
  | [] => rfl
  | c :: D => by
    show (f c ++ cel f D).length = _
    rw [List.length_append, hf, cel_len f hf D, List.length_cons]; omega

theorem own_form {w : World} {B : Nat} {v : Value} {n : Nat} {xs : List Value} (h : COwn w B v (n + 1) xs) : ∃ g cap, v = .slice (some ⟨g, 0, none⟩) (n + 1) cap ∧ g < w.heap.size := by
  obtain ⟨h0, h1 | ⟨g, cap, cur, h1, h2, h3, h4⟩⟩ := h
  · omega
  · exact ⟨g, cap, h1, lt_of_block h3⟩
theorem cel_at (A R : List Value) (r n : Int) (b : Bool) (k : Nat) (hA : A.length = k) : (A ++ (ce r n b ++ R))[k]? = some (.int .i32 r) ∧ (A ++ (ce r n b ++ R))[k + 1]? = some (.int .i64 n) ∧ (A ++ (ce r n b ++ R))[k + 2]? = some (.bool b) := by
  subst hA
  refine ⟨?_, ?_, ?_⟩
  · rw [List.getElem?_append_right (Nat.le_refl _), Nat.sub_self]; rfl
  · rw [List.getElem?_append_right (by omega), show A.length + 1 - A.length = 1 by omega]; rfl
  · rw [List.getElem?_append_right (by omega), show A.length + 2 - A.length = 2 by omega]; rfl
theorem cel_set (A R : List Value) (r n r' n' : Int) (b b' : Bool) (k : Nat) (hA : A.length = k) : (((A ++ (ce r n b ++ R)).set k (.int .i32 r')).set (k + 1) (.int .i64 n')).set (k + 2) (.bool b') = A ++ (ce r' n' b' ++ R) := by
  subst hA
  have key : ∀ (j : Nat) (X : List Value) (u : Value), (A ++ X).set (A.length + j) u = A ++ X.set j u := by
    intro j X u; rw [List.set_append_right _ _ (by omega)]; congr 2; omega
  have h0 := key 0 (ce r n b ++ R) (.int .i32 r')
  rw [Nat.add_zero] at h0
  rw [h0, key 1, key 2]; rfl

theorem COwn.put3 {w0 w : World} {B : Nat} {g n cap : Nat} {A R : List Value} {r m : Int} {b : Bool} (h : w.ownsRow (B + 2) 87 3 (.slice (some ⟨g, 0, none⟩) n cap) n (A ++ (ce r m b ++ R))) (hb : Below B w0 w) (hs : B + 2 ≤ w.heap.size) (_hk : 0 < n) (r' m' : Int) (b' : Bool) (j : Nat) (hA : A.length = j) :
    (((w.setCell ⟨g, j, none⟩ (.int .i32 r')).setCell ⟨g, j + 1, none⟩ (.int .i64 m')).setCell ⟨g, j + 2, none⟩ (.bool b')).ownsRow (B + 2) 87 3 (.slice (some ⟨g, 0, none⟩) n cap) n (A ++ (ce r' m' b' ++ R)) ∧
    Below B w0 (((w.setCell ⟨g, j, none⟩ (.int .i32 r')).setCell ⟨g, j + 1, none⟩ (.int .i64 m')).setCell ⟨g, j + 2, none⟩ (.bool b')) ∧
    B + 2 ≤ (((w.setCell ⟨g, j, none⟩ (.int .i32 r')).setCell ⟨g, j + 1, none⟩ (.int .i64 m')).setCell ⟨g, j + 2, none⟩ (.bool b')).heap.size := by
  have hg := (World.ownsRow.lt h g rfl).1
  have h1 := (World.ownsRow.stored h j (.int .i32 r')).1
  have h2 := (World.ownsRow.stored h1 (j + 1) (.int .i64 m')).1
  have h3 := (World.ownsRow.stored h2 (j + 2) (.bool b')).1
  rw [cel_set A R r m r' m' b b' j hA] at h3
  exact ⟨h3, ((hb.setCell (p := ⟨g, j, none⟩) (by show B ≤ g; omega) _).setCell (p := ⟨g, j + 1, none⟩) (by show B ≤ g; omega) _).setCell (p := ⟨g, j + 2, none⟩) (by show B ≤ g; omega) _, by simpa using hs⟩

/- Behind the loops: the characters' cells, each whole. -/
def Chars (w : World) (B : Nat) (v : Value) (cs : List Ch) : Prop := COwn w B v cs.length (cel ful cs)

def C2Rel (w : World) (cs : List Ch) (v : Value) (g : Nat) (i : Value) (wr : World) : Prop :=
  ∃ k : Nat, k + g = cs.length ∧ i = .int .i64 (k : Int) ∧ COwn wr (w.heap.size + 2) v cs.length (cel ful (cs.take k) ++ cel raw (cs.drop k)) ∧ Below w.heap.size w wr ∧ w.heap.size + 2 ≤ wr.heap.size

def ChRel (w : World) (l : List UInt8) (cs : List Ch) (g : Nat) (v f : Value) (wr : World) : Prop :=
  ∃ (p : List UInt8) (ds : List Ch), ds.length = g ∧ Rng l p ds ∧ Itr w wr w.heap.size (w.heap.size + 1) l p ∧
    ((p = [] ∧ ds = cs ∧ v = .slice none 0 0 ∧ f = .int .i64 0 ∧ Las wr w.heap.size 0 0 false) ∨
     ∃ (D : List Ch) (c : Ch), cs = D ++ c :: ds ∧ p = flat D ++ c.bs ∧ f = .int .i64 ((flat D).length : Int) ∧ COwn wr (w.heap.size + 2) v D.length (cel raw D) ∧ Las wr w.heap.size c.r 0 false)

set_option maxRecDepth 100000 in
set_option maxHeartbeats 4000000 in
theorem chars_any (l : List UInt8) (cs : List Ch) (w : World) (h : Rg l cs) (hl : l.length ≤ 300000) :
    Calls Tryz.prog 59 #[.string (sb l)] w fun e w' => ∃ v, e = .returned v ∧ Chars w' (w.heap.size + 2) v cs ∧ Below w.heap.size w w' := by
  have hsz := sb_size l
  have HR := Lib.hid (Rng.start l cs h)
  have HW := Lib.hid h; clear h
  go_enter Tryz.func59, Tryz.ntmps59
  go_wp2
  go_loopg [3, 4] cs.length (fun g v f wr => ChRel w l cs g v f wr)
  case atStart =>
    have hal : Below w.heap.size w (w.alloc (.cells #[.int .i32 0, .int .i64 0, .bool false] 87)) := (Below.refl _ w).alloc (Nat.le_refl _) _
    have hst := Itr.start hal (by simp) l
    have hz : (w.alloc (.cells #[.int .i32 0, .int .i64 0, .bool false] 87)).heap.size = w.heap.size + 1 := by simp
    rw [hz] at hst
    refine ⟨[], cs, rfl, HR.out, hst, Or.inl ⟨rfl, rfl, rfl, rfl, ⟨?_⟩⟩⟩
    exact (Lib.alloc_old _ _ _ (by rw [hz]; omega)).trans (heap_alloc_new w _)
  case round =>
    clear HR
    obtain ⟨p, ds, hg, hr, hi, hcase⟩ := hrel
    have hBs := hi.lt
    rcases ds with _ | ⟨c, ds⟩
    · have hnx := fun ty => hr.fin (P := Tryz.prog) wr (w.heap.size + 1) hi.1 ty
      have hge : p = l := hr.ge
      clear hr hg
      rcases hcase with ⟨hp, hds, rfl, rfl, hlas⟩ | ⟨D, c0, hD, hp, rfl, ho, hlas⟩
      · have hl0 : l.length ≤ 0 := by rw [← hge, hp]; simp
        have HI := Lib.hid hi; clear hi
        have HP := Lib.hid hp; clear hp
        have HG := Lib.hid hge; clear hge
        have HD := Lib.hid hds; clear hds hlas
        go_wp2
        all_goals (try (exfalso; omega))
        go_loopg [8] 0 (fun g i wr => g = 0 ∧ i = .int .i64 0 ∧ Below w.heap.size w wr)
        case atStart => exact ⟨rfl, rfl, HI.out.2.2⟩
        case round =>
          obtain ⟨hg, rfl, hb⟩ := hrel
          have HB := Lib.hid hb; clear hb
          go_wp2
          go_ret
          refine ⟨_, rfl, ?_, HB.out⟩
          rw [← HD.out]; exact World.ownsRow_nil _ _ _ _
      · have hpl : p.length = (flat D).length + c0.bs.length := by rw [hp, List.length_append]
        have hc0 : 1 ≤ c0.bs.length := by
          have := rg_ne _ _ HW.out c0 (by rw [hD]; simp)
          cases hb : c0.bs with
          | nil => exact absurd hb this
          | cons a t => simp
        obtain ⟨F, hF⟩ : ∃ F, F = (flat D).length := ⟨_, rfl⟩
        rw [← hF] at hpl
        obtain ⟨M, hM⟩ : ∃ M, M = c0.bs.length := ⟨_, rfl⟩
        rw [← hM] at hpl hc0
        have hll : l.length = F + M := by rw [← hge]; exact hpl
        have hsub : (l.length : Int) - (F : Int) = (M : Int) := by omega
        have hp1 : 1 ≤ l.length := by omega
        have hp2 : F ≤ l.length := by omega
        have hDl : D.length ≤ l.length := by have := rg_len _ _ HW.out; have := congrArg List.length hD; simp at this; omega
        rw [← hF]
        obtain ⟨k0, k1, k2, f0⟩ := hlas.cells
        clear hpl hll
        have HF := Lib.hid hF; clear hF
        have HM := Lib.hid hM; clear hM
        have HP := Lib.hid hp; clear hp
        have HG := Lib.hid hge; clear hge
        have HD := Lib.hid hD; clear hD
        have hl2 := (hlas.put1 (M : Int)).alloc (.cells #[.int .i32 (c0.r : Int), .int .i64 (M : Int), .bool false] 87)
        have hI2 := (hi.set (b := w.heap.size) (Nat.le_refl _) (by omega) 1 (.int .i64 (M : Int))).alloc (.cells #[.int .i32 (c0.r : Int), .int .i64 (M : Int), .bool false] 87)
        have hO2 := (COwn.set ho (b := w.heap.size) (by omega) 1 (.int .i64 (M : Int))).alloc (.cells #[.int .i32 (c0.r : Int), .int .i64 (M : Int), .bool false] 87)
        have hz1 : (wr.setCell ⟨w.heap.size, 1, none⟩ (.int .i64 (M : Int))).heap.size = wr.heap.size := by simp
        have hnew := heap_alloc_new (wr.setCell ⟨w.heap.size, 1, none⟩ (.int .i64 (M : Int))) (.cells #[.int .i32 (c0.r : Int), .int .i64 (M : Int), .bool false] 87)
        rw [hz1] at hnew
        have HL2 := Lib.hid hl2; have HI2 := Lib.hid hI2; have HO2 := Lib.hid hO2; have HN := Lib.hid hnew; clear hl2 hI2 hO2 hz1 hnew hi ho hlas
        go_wp2_with (at_builtin; refine app_ch rfl (.tmp 38) (.tmp 40) rfl (w.heap.size + 2) _ D.length (cel raw D) c0.r M false rfl HO2.out _ rfl HN.out ?c1 ?c2 ?_)
        all_goals (try (exfalso; omega))
        case c1 => omega
        case c2 => have := HI2.out.lt; omega
        intro v' w2 ho2 hg2
        have hb2 := (HI2.out.grown (own_mono HO2.out (by omega : w.heap.size ≤ w.heap.size + 2)) hg2).2.2
        have hs2 : w.heap.size + 2 ≤ w2.heap.size := by have := (HI2.out.grown (own_mono HO2.out (by omega : w.heap.size ≤ w.heap.size + 2)) hg2).lt; omega
        obtain ⟨gg, cap, rfl, _⟩ := own_form ho2
        obtain ⟨n, hn⟩ : ∃ n, n = D.length + 1 := ⟨_, rfl⟩
        rw [← hn] at ho2
        rw [← hn]
        have HN2 := Lib.hid (show n = cs.length by rw [HD.out, hn]; simp)
        have HCS := Lib.hid (show cel raw cs = cel raw D ++ ce c0.r M false by rw [HD.out, cel_snoc, HM.out]; rfl)
        have hnl : n ≤ l.length + 1 := by omega
        clear hn
        have HB3 := Lib.hid hb2; have HO3 := Lib.hid ho2; clear ho2 hg2 hb2 HN HL2 HI2 HO2
        go_wp2
        go_loopg [8] n (fun g i wr => C2Rel w cs (.slice (some ⟨gg, 0, none⟩) n cap) g i wr)
        case atStart => exact ⟨0, by rw [← HN2.out]; omega, rfl, by rw [List.take_zero, List.drop_zero, HCS.out, ← HN2.out]; exact HO3.out, HB3.out, hs2⟩
        case round =>
          obtain ⟨k, hk, rfl, ho, hb, hs⟩ := hrel
          rw [← HN2.out] at hk ho
          by_cases hkn : k < n
          · obtain ⟨c, hc⟩ : ∃ c, cs[k]? = some c := ⟨_, List.getElem?_eq_getElem (by rw [← HN2.out]; exact hkn)⟩
            have hdrop : cs.drop k = c :: cs.drop (k + 1) := by
              obtain ⟨h1, h2⟩ := List.getElem?_eq_some_iff.1 hc
              rw [List.drop_eq_getElem_cons h1, h2]
            have htake : cs.take (k + 1) = cs.take k ++ [c] := by
              obtain ⟨h1, h2⟩ := List.getElem?_eq_some_iff.1 hc
              rw [List.take_succ_eq_append_getElem h1, h2]
            have hlen : (cel ful (cs.take k)).length = k * 3 := by rw [cel_len _ ful_len, List.length_take]; have := HN2.out; omega
            rw [hdrop] at ho
            have hsp : cel raw (c :: cs.drop (k + 1)) = ce c.r c.bs.length false ++ cel raw (cs.drop (k + 1)) := rfl
            rw [hsp] at ho
            obtain ⟨a0, a1, a2⟩ := cel_at (cel ful (cs.take k)) (cel raw (cs.drop (k + 1))) c.r c.bs.length false (k * 3) hlen
            have b0 := World.ownsRow.cellAt ho (k * 3) (by omega)
            have b1 := World.ownsRow.cellAt ho (k * 3 + 1) (by omega)
            have b2 := World.ownsRow.cellAt ho (k * 3 + 2) (by omega)
            rw [a0] at b0; rw [a1] at b1; rw [a2] at b2
            have fz := World.ownsRow.frozenAt ho
            have hggl : gg < wr.heap.size := ((World.ownsRow.lt ho) gg rfl).2
            have HO := Lib.hid ho; have HB := Lib.hid hb; have HT := Lib.hid htake; have HLn := Lib.hid hlen
            clear ho hb hc hdrop htake hlen hsp a0 a1 a2
            by_cases hr : c.r = 65533
            · go_wp2
              all_goals (try (exfalso; omega))
              have HFU := Lib.hid (ful_fffd c hr)
              have HW3 := Lib.hid (COwn.put3 HO.out HB.out hs (by omega) 65533 c.bs.length ((c.bs.length : Int) == 1) (k * 3) HLn.out)
              go_roundg (gk - 1)
              case measure => omega
              case rel =>
                refine ⟨k + 1, by have := HN2.out; omega, by go_num, ?_, HW3.out.2.1.alloc (by have := HW3.out.2.2; omega) _, by have := HW3.out.2.2; simp; omega⟩
                have := (COwn.alloc HW3.out.1 (.cells #[.int .i32 65533, .int .i64 (c.bs.length : Int), .bool ((c.bs.length : Int) == 1)] 87))
                rw [HT.out, cel_snoc, List.append_assoc, ← HN2.out]
                rw [show ful c = ce 65533 c.bs.length ((c.bs.length : Int) == 1) from HFU.out]
                exact this
            · have HFU := Lib.hid (ful_other c hr)
              go_wp2
              all_goals (try (exfalso; omega))
              have HW3 := Lib.hid (COwn.put3 HO.out HB.out hs (by omega) c.r c.bs.length false (k * 3) HLn.out)
              go_roundg (gk - 1)
              case measure => omega
              case rel =>
                refine ⟨k + 1, by have := HN2.out; omega, by go_num, ?_, HW3.out.2.1.alloc (by have := HW3.out.2.2; omega) _, by have := HW3.out.2.2; simp; omega⟩
                have := (COwn.alloc HW3.out.1 (.cells #[.int .i32 c.r, .int .i64 (c.bs.length : Int), .bool false] 87))
                rw [HT.out, cel_snoc, List.append_assoc, ← HN2.out]
                rw [show ful c = ce c.r c.bs.length false from HFU.out]
                exact this
          · have HO := Lib.hid ho; have HB := Lib.hid hb; clear ho hb
            have hkn2 : k = n := by omega
            have HK := Lib.hid hkn2; clear hkn2
            go_wp2
            all_goals (try (exfalso; omega))
            go_ret
            refine ⟨_, rfl, ?_, HB.out⟩
            have := HO.out
            rw [HK.out, HN2.out, List.take_length, List.drop_length, show cel raw [] = [] from rfl, List.append_nil] at this
            unfold Chars
            rw [← HN2.out] at this ⊢
            exact this
    · have hnx := fun ty => hr.run (P := Tryz.prog) wr (w.heap.size + 1) hi.1 ty
      have h1 := hr.lt
      have h2 := hr.rune
      have hpos := hr.pos
      have hg' : ds.length + 1 = gk := by simpa using hg
      have HR := Lib.hid hr; clear hr hg
      rcases hcase with ⟨hp, hds, rfl, rfl, hlas⟩ | ⟨D, c0, hD, hp, rfl, ho, hlas⟩
      · have hlas : Las (wr.iterAt (w.heap.size + 1) (sb l) (p.length + c.bs.length)) w.heap.size 0 0 false := ⟨(Lib.iterAt_other wr _ _ _ _ (by omega)).trans hlas.at_⟩
        obtain ⟨c0, c1, c2, f0⟩ := hlas.cells
        have HI := Lib.hid (hi.next c.bs); clear hi
        have hp0 : p.length ≤ 0 := by rw [hp]; simp
        have HP := Lib.hid hp; clear hp
        have HD := Lib.hid hds; clear hds
        go_wp2
        all_goals (try (exfalso; omega))
        have HL3 := Lib.hid (hlas.put3 c.r 0 false)
        have HI3 := Lib.hid (((HI.out.set (b := w.heap.size) (Nat.le_refl _) (by omega) 0 (.int .i32 (c.r : Int))).set (b := w.heap.size) (Nat.le_refl _) (by omega) 1 (.int .i64 0)).set (b := w.heap.size) (Nat.le_refl _) (by omega) 2 (.bool false))
        go_roundg (gk - 1)
        case measure => omega
        case rel =>
          refine ⟨p ++ c.bs, ds, by omega, HR.out.next, HI3.out, Or.inr ⟨[], c, by rw [← HD.out]; rfl, by rw [HP.out]; rfl, ?_, World.ownsRow_nil _ _ _ _, HL3.out⟩⟩
          rw [HP.out]; rfl
      · have hlas : Las (wr.iterAt (w.heap.size + 1) (sb l) (p.length + c.bs.length)) w.heap.size c0.r 0 false := ⟨(Lib.iterAt_other wr _ _ _ _ (by omega)).trans hlas.at_⟩
        obtain ⟨k0, k1, k2, f0⟩ := hlas.cells
        have HC0 := Lib.hid (rg_ne _ _ HW.out c0 (by rw [hD]; simp))
        have ho : COwn (wr.iterAt (w.heap.size + 1) (sb l) (p.length + c.bs.length)) _ _ _ _ := own_iter ho hi.1 _
        have HO := Lib.hid ho; clear ho
        have HI := Lib.hid (hi.next c.bs); clear hi
        have hpl : p.length = (flat D).length + c0.bs.length := by rw [hp, List.length_append]
        have hc0 : 1 ≤ c0.bs.length := by
          have := HC0.out
          cases hb : c0.bs with
          | nil => exact absurd hb this
          | cons a t => simp
        obtain ⟨F, hF⟩ : ∃ F, F = (flat D).length := ⟨_, rfl⟩
        rw [← hF] at hpl
        obtain ⟨M, hM⟩ : ∃ M, M = c0.bs.length := ⟨_, rfl⟩
        rw [← hM] at hpl hc0
        have hsub : (p.length : Int) - (F : Int) = (M : Int) := by omega
        have hp1 : 1 ≤ p.length := by omega
        have hp2 : F ≤ p.length := by omega
        have hDl : D.length ≤ l.length := by have := rg_len _ _ HW.out; have := congrArg List.length hD; simp at this; omega
        have HPL := Lib.hid hpl; clear hpl
        rw [← hF]
        have HF := Lib.hid hF; clear hF
        have HM := Lib.hid hM; clear hM
        have HP := Lib.hid hp; clear hp
        have HD := Lib.hid hD; clear hD
        have hl1 := hlas.put1 (M : Int)
        have hI1 := HI.out.set (b := w.heap.size) (Nat.le_refl _) (by omega) 1 (.int .i64 (M : Int))
        have hO1 := HO.out.set (b := w.heap.size) (by omega) 1 (.int .i64 (M : Int))
        have hl2 := hl1.alloc (.cells #[.int .i32 (c0.r : Int), .int .i64 (M : Int), .bool false] 87)
        have hI2 := hI1.alloc (.cells #[.int .i32 (c0.r : Int), .int .i64 (M : Int), .bool false] 87)
        have hO2 := hO1.alloc (.cells #[.int .i32 (c0.r : Int), .int .i64 (M : Int), .bool false] 87)
        have hz1 : ((wr.iterAt (w.heap.size + 1) (sb l) (p.length + c.bs.length)).setCell ⟨w.heap.size, 1, none⟩ (.int .i64 (M : Int))).heap.size = (wr.iterAt (w.heap.size + 1) (sb l) (p.length + c.bs.length)).heap.size := by simp
        have hnew := heap_alloc_new ((wr.iterAt (w.heap.size + 1) (sb l) (p.length + c.bs.length)).setCell ⟨w.heap.size, 1, none⟩ (.int .i64 (M : Int))) (.cells #[.int .i32 (c0.r : Int), .int .i64 (M : Int), .bool false] 87)
        rw [hz1] at hnew
        have HL2 := Lib.hid hl2; have HI2 := Lib.hid hI2; have HO2 := Lib.hid hO2; have HN := Lib.hid hnew; clear hl1 hI1 hO1 hl2 hI2 hO2 hz1 hnew
        go_wp2_with (at_builtin; refine app_ch rfl (.tmp 23) (.tmp 25) rfl (w.heap.size + 2) _ D.length (cel raw D) c0.r M false rfl HO2.out _ rfl HN.out ?c1 ?c2 ?_)
        case c1 => omega
        case c2 => have := HI2.out.lt; omega
        intro v' w2 ho2 hg2
        have HL3 := Lib.hid (HL2.out.grown HO2.out (by omega) hg2)
        have HI3 := Lib.hid (HI2.out.grown (own_mono HO2.out (by omega : w.heap.size ≤ w.heap.size + 2)) hg2)
        have HO3 := Lib.hid ho2; clear ho2 hg2
        obtain ⟨m0, m1, m2, g0⟩ := HL3.out.cells
        go_wp2
        have HL4 := Lib.hid (HL3.out.put3 c.r 0 false)
        have HI4 := Lib.hid (((HI3.out.set (b := w.heap.size) (Nat.le_refl _) (by omega) 0 (.int .i32 (c.r : Int))).set (b := w.heap.size) (Nat.le_refl _) (by omega) 1 (.int .i64 0)).set (b := w.heap.size) (Nat.le_refl _) (by omega) 2 (.bool false))
        have HO4 := Lib.hid (((HO3.out.set (b := w.heap.size) (by omega) 0 (.int .i32 (c.r : Int))).set (b := w.heap.size) (by omega) 1 (.int .i64 0)).set (b := w.heap.size) (by omega) 2 (.bool false))
        go_roundg (gk - 1)
        case measure => omega
        case rel =>
          refine ⟨p ++ c.bs, ds, by omega, HR.out.next, HI4.out, Or.inr ⟨D ++ [c0], c, by rw [HD.out]; simp, ?_, ?_, ?_, HL4.out⟩⟩
          · rw [HP.out, flat_append]; simp [flat]
          · rw [HP.out, flat_append]; simp [flat]
          · rw [cel_snoc, List.length_append]
            have := HO4.out
            rw [HM.out] at this
            exact this

end Go.Proofs.YtmcmpjcijbeilaaGreatDoor.Ws

/-
  What is proved here: plain facts on graphs: which may be, what a text's lines say, that ordered edges are one list, that a printed graph's lines say it. No program.
-/
namespace Go.Proofs.YtmcmpjcijbeilaaGreatDoor.Gr
open Go Go.Lib Wd

/- An edge: from, to, weight. -/
abbrev Ed := Int × Int × Int
def ahd (a b : Ed) : Bool := decide (a.1 < b.1) || (decide (a.1 = b.1) && decide (a.2.1 < b.2.1))
def fitE (V : Int) (e : Ed) : Bool := decide (0 ≤ e.1) && decide (e.1 < V) && decide (0 ≤ e.2.1) && decide (e.2.1 < V) && decide (0 ≤ e.2.2) && decide (e.2.2 < 2147483648)
def Rise (L : List Ed) : Prop := L.Pairwise fun a b => ahd a b = true
def ahdO : Option Ed → Ed → Bool
  | none, _ => true
  | some q, e => ahd q e
def okL (V : Int) : Option Ed → List Ed → Bool
  | _, [] => true
  | p, e :: L => fitE V e && ahdO p e && okL V (some e) L
def chk (V : Int) (L : List Ed) : Int := if 512 < V ∨ 8192 < L.length then 3 else if V < 1 then 40 else if okL V none L then 0 else 40
def trn (e : Ed) : Ed := (e.2.1, e.1, e.2.2)

theorem fitE_iff (V : Int) (e : Ed) : fitE V e = true ↔ 0 ≤ e.1 ∧ e.1 < V ∧ 0 ≤ e.2.1 ∧ e.2.1 < V ∧ 0 ≤ e.2.2 ∧ e.2.2 < 2147483648 := by
  unfold fitE; simp only [Bool.and_eq_true, decide_eq_true_eq]; omega
theorem ahd_iff (a b : Ed) : ahd a b = true ↔ a.1 < b.1 ∨ (a.1 = b.1 ∧ a.2.1 < b.2.1) := by
  unfold ahd; simp
theorem ahd_not (a b : Ed) : ahd a b = false ↔ ¬ (a.1 < b.1 ∨ (a.1 = b.1 ∧ a.2.1 < b.2.1)) := by
  rw [← ahd_iff]; simp
theorem ahd_trans {a b c : Ed} (h : ahd a b = true) (k : ahd b c = true) : ahd a c = true := by
  rw [ahd_iff] at *; omega
theorem ahd_irr (a : Ed) : ahd a a = false := by rw [ahd_not]; omega
theorem ahd_asym {a b : Ed} (h : ahd a b = true) : ahd b a = false := by rw [ahd_iff] at h; rw [ahd_not]; omega
/- Neither is ahead: they lead from the same to the same. -/
theorem ahd_same {a b : Ed} (h : ahd a b = false) (k : ahd b a = false) : a.1 = b.1 ∧ a.2.1 = b.2.1 := by
  rw [ahd_not] at *; omega

theorem okL_iff (V : Int) : ∀ (L : List Ed) (p : Option Ed), okL V p L = true ↔ (∀ e ∈ L, fitE V e = true) ∧ Rise L ∧ ∀ q, p = some q → ∀ e ∈ L, ahd q e = true
  | [], p => by simp [okL, Rise]
  | e :: L, p => by
    rw [okL, Bool.and_eq_true, Bool.and_eq_true, okL_iff V L (some e)]
    constructor
    · rintro ⟨⟨h1, h2⟩, h3, h4, h5⟩
      have h6 := h5 e rfl
      refine ⟨fun x hx => ?_, List.pairwise_cons.2 ⟨h6, h4⟩, fun q hq x hx => ?_⟩
      · rcases List.mem_cons.1 hx with rfl | hx
        · exact h1
        · exact h3 x hx
      · subst hq
        rcases List.mem_cons.1 hx with rfl | hx
        · exact h2
        · exact ahd_trans h2 (h6 x hx)
    · rintro ⟨h1, h2, h3⟩
      obtain ⟨h4, h5⟩ := List.pairwise_cons.1 h2
      refine ⟨⟨h1 e List.mem_cons_self, ?_⟩, fun x hx => h1 x (List.mem_cons_of_mem _ hx), h5, fun q hq => by cases hq; exact h4⟩
      cases p with
      | none => rfl
      | some q => exact h3 q rfl e List.mem_cons_self
theorem chk_zero (V : Int) (L : List Ed) : chk V L = 0 ↔ 1 ≤ V ∧ V ≤ 512 ∧ L.length ≤ 8192 ∧ (∀ e ∈ L, fitE V e = true) ∧ Rise L := by
  unfold chk
  by_cases h1 : 512 < V ∨ 8192 < L.length
  · rw [if_pos h1]; omega
  · rw [if_neg h1]
    by_cases h2 : V < 1
    · rw [if_pos h2]; omega
    · rw [if_neg h2]
      cases h3 : okL V none L with
      | true =>
        obtain ⟨g1, g2, _⟩ := (okL_iff V L none).1 h3
        simp only [if_true, true_iff]
        exact ⟨by omega, by omega, by omega, g1, g2⟩
      | false =>
        simp only [Bool.false_eq_true, if_false]
        constructor
        · intro h; omega
        · rintro ⟨_, _, _, g1, g2⟩
          rw [(okL_iff V L none).2 ⟨g1, g2, by simp⟩] at h3; cases h3

/- Ordered edges are one list. -/
theorem rise_one : ∀ (L M : List Ed), Rise L → Rise M → L.Perm M → L = M
  | [], M, _, _, h => (List.nil_perm.1 h).symm
  | a :: L, [], _, _, h => by have := h.length_eq; simp at this
  | a :: L, b :: M, hL, hM, h => by
    obtain ⟨l1, l2⟩ := List.pairwise_cons.1 hL
    obtain ⟨m1, m2⟩ := List.pairwise_cons.1 hM
    have e : a = b := by
      rcases List.mem_cons.1 (h.mem_iff.1 (List.mem_cons_self : a ∈ a :: L)) with g | g
      · exact g
      · rcases List.mem_cons.1 (h.mem_iff.2 (List.mem_cons_self : b ∈ b :: M)) with k | k
        · exact k.symm
        · have := ahd_asym (m1 a g); rw [l1 b k] at this; cases this
    subst e
    rw [rise_one L M l2 m2 ((List.perm_cons a).1 h)]

/- No two from the same to the same. -/
def same (a b : Ed) : Bool := decide (a.1 = b.1) && decide (a.2.1 = b.2.1)
def Apart (L : List Ed) : Prop := L.Pairwise fun a b => same a b = false
theorem same_iff (a b : Ed) : same a b = true ↔ a.1 = b.1 ∧ a.2.1 = b.2.1 := by unfold same; simp
theorem same_not (a b : Ed) : same a b = false ↔ ¬ (a.1 = b.1 ∧ a.2.1 = b.2.1) := by rw [← same_iff]; simp
theorem rise_apart {L : List Ed} (h : Rise L) : Apart L := h.imp fun {a b} g => by rw [ahd_iff] at g; rw [same_not]; omega
theorem apart_perm {L M : List Ed} (h : Apart L) (p : L.Perm M) : Apart M :=
  (p.pairwise_iff fun {a b} (g : same a b = false) => by rw [same_not] at g ⊢; omega).1 h
/- Edges that are apart, and where none stands ahead of an earlier one, rise. -/
theorem rise_of {L : List Ed} (h : Apart L) (k : L.Pairwise fun a b => ahd b a = false) : Rise L :=
  (h.and k).imp fun {a b} ⟨g1, g2⟩ => by
    cases e : ahd a b with
    | true => rfl
    | false => have := ahd_same e g2; rw [same_not] at g1; exact absurd this g1

/- The text of an edge's line, of a graph. -/
def vertB : List UInt8 := [118, 101, 114, 116, 105, 99, 101, 115]
def edgeB : List UInt8 := [101, 100, 103, 101]
def bothB : List UInt8 := [98, 111, 116, 104]

/- The characters of a text. -/
theorem rg_one : ∀ (cs ds : List Ch) (l : List UInt8), Rg l cs → Rg l ds → cs = ds
  | [], [], _, _, _ => rfl
  | [], d :: ds, l, h, ⟨rest, g1, g2, _⟩ => by
    obtain rfl : l = [] := h
    have := congrArg List.length g1
    simp only [List.length_nil, List.length_append] at this
    exact absurd (List.eq_nil_of_length_eq_zero (by omega)) g2
  | c :: cs, [], l, ⟨rest, g1, g2, _⟩, h => by
    obtain rfl : l = [] := h
    have := congrArg List.length g1
    simp only [List.length_nil, List.length_append] at this
    exact absurd (List.eq_nil_of_length_eq_zero (by omega)) g2
  | c :: cs, d :: ds, l, ⟨r1, g1, _, g3, g4⟩, ⟨r2, k1, _, k3, k4⟩ => by
    rw [k3] at g3
    obtain ⟨e1, e2⟩ := Prod.mk.inj g3
    obtain ⟨e3, e4⟩ := List.append_inj (g1.symm.trans k1) e2.symm
    subst e4
    have ec : c = d := by
      cases c; cases d; simp only [Ch.mk.injEq]; exact ⟨e1.symm, e3⟩
    rw [ec, rg_one cs ds r1 g4 k4]
noncomputable def chOf (l : List UInt8) : List Ch := Classical.choose (rg_ex l)
theorem chOf_rg (l : List UInt8) : Rg l (chOf l) := Classical.choose_spec (rg_ex l)
theorem chOf_eq {l : List UInt8} {cs : List Ch} (h : Rg l cs) : chOf l = cs := rg_one _ _ l (chOf_rg l) h
noncomputable def wordsB (l : List UInt8) : List (List UInt8) × Int := wordsOf (chOf l)
noncomputable def numB (l : List UInt8) : Nat × Int := numOf (chOf l)

/- What a line's words say. -/
noncomputable def numsOf : List (List UInt8) → Option (List Nat)
  | [] => some []
  | w :: ws => if (numB w).2 = 0 then (match numsOf ws with | none => none | some l => some ((numB w).1 :: l)) else none
def edgeP (V : Int) : List Nat → Option Ed
  | [a, b] => if fitE V ((a : Int), (b : Int), 1) then some ((a : Int), (b : Int), 1) else none
  | [a, b, c] => if fitE V ((a : Int), (b : Int), (c : Int)) then some ((a : Int), (b : Int), (c : Int)) else none
  | _ => none
def addP (L : List Ed) (e : Ed) : Option (List Ed) := if L.any (same e) = true ∨ L.length = 8192 then none else some (L ++ [e])
def bothP (L : List Ed) (e : Ed) : Option (List Ed) :=
  match addP L e with
  | none => none
  | some M => if e.1 = e.2.1 then some M else addP M (trn e)
def vertP : List Nat → Option Int
  | [n] => if 1 ≤ n ∧ n ≤ 512 then some (n : Int) else none
  | _ => none
def stepN (V : Int) (L : List Ed) (w : List UInt8) (ns : List Nat) : Option (Int × List Ed) :=
  if V = 0 then
    if w = vertB then (match vertP ns with | none => none | some n => some (n, L)) else none
  else if w = edgeB then (match edgeP V ns with | none => none | some e => match addP L e with | none => none | some M => some (V, M))
  else if w = bothB then (match edgeP V ns with | none => none | some e => match bothP L e with | none => none | some M => some (V, M))
  else none
noncomputable def stepW (V : Int) (L : List Ed) : List (List UInt8) → Option (Int × List Ed)
  | [] => some (V, L)
  | w :: t => match numsOf t with
    | none => none
    | some ns => stepN V L w ns
noncomputable def step (V : Int) (L : List Ed) (l : List UInt8) : Option (Int × List Ed) := if (wordsB l).2 = 0 then stepW V L (wordsB l).1 else none
/- Through the lines: the first wrong one, or what they say. -/
noncomputable def through (V : Int) (L : List Ed) (k : Nat) : List (List UInt8) → Nat × Option (Int × List Ed)
  | [] => if V = 0 then (k + 1, none) else (0, some (V, L))
  | x :: xs => match step V L x with
    | none => (k + 1, none)
    | some s => through s.1 s.2 (k + 1) xs

/- What holds of what is said so far. -/
structure Sd (V : Int) (L : List Ed) : Prop where
  v : 0 ≤ V ∧ V ≤ 512
  len : L.length ≤ 8192
  fit : ∀ e ∈ L, fitE V e = true
  apart : Apart L
theorem Sd.nil : Sd 0 [] := ⟨by omega, by simp, by simp, List.Pairwise.nil⟩
theorem addP_some {L M : List Ed} {e : Ed} (h : addP L e = some M) : M = L ++ [e] ∧ (∀ x ∈ L, same e x = false) ∧ L.length ≠ 8192 := by
  unfold addP at h
  split at h
  · cases h
  · rename_i g
    simp only [not_or, Bool.not_eq_true, List.any_eq_false] at g
    exact ⟨(Option.some.inj h).symm, fun x hx => by simpa using g.1 x hx, g.2⟩
theorem Sd.add {V : Int} {L M : List Ed} {e : Ed} (h : Sd V L) (hf : fitE V e = true) (ha : addP L e = some M) : Sd V M := by
  obtain ⟨rfl, h1, h2⟩ := addP_some ha
  refine ⟨h.v, by have := h.len; simp; omega, fun x hx => ?_, ?_⟩
  · rcases List.mem_append.1 hx with hx | hx
    · exact h.fit x hx
    · simp at hx; subst hx; exact hf
  · refine List.pairwise_append.2 ⟨h.apart, List.pairwise_singleton _ _, fun a hm b hb => ?_⟩
    simp at hb; subst hb
    have := h1 a hm; rw [same_not] at this ⊢; omega
theorem fit_trn {V : Int} {e : Ed} (h : fitE V e = true) : fitE V (trn e) = true := by rw [fitE_iff] at *; simp only [trn]; omega
theorem Sd.both {V : Int} {L M : List Ed} {e : Ed} (h : Sd V L) (hf : fitE V e = true) (ha : bothP L e = some M) : Sd V M := by
  unfold bothP at ha
  split at ha
  · cases ha
  · rename_i N hN
    have h1 := h.add hf hN
    split at ha
    · obtain rfl := Option.some.inj ha; exact h1
    · exact h1.add (fit_trn hf) ha
theorem edgeP_fit {V : Int} {ns : List Nat} {e : Ed} (h : edgeP V ns = some e) : fitE V e = true := by
  unfold edgeP at h
  split at h
  · split at h
    · obtain rfl := Option.some.inj h; assumption
    · cases h
  · split at h
    · obtain rfl := Option.some.inj h; assumption
    · cases h
  · cases h
theorem vertP_some {ns : List Nat} {n : Int} (h : vertP ns = some n) : 1 ≤ n ∧ n ≤ 512 := by
  unfold vertP at h
  split at h
  · split at h
    · obtain rfl := Option.some.inj h; omega
    · cases h
  · cases h
theorem Sd.stepN {V : Int} {L : List Ed} {w : List UInt8} {ns : List Nat} {s : Int × List Ed} (h : Sd V L) (hs : stepN V L w ns = some s) : Sd s.1 s.2 ∧ (V ≠ 0 → s.1 = V) := by
  unfold Gr.stepN at hs
  split at hs
  · rename_i hV
    split at hs
    · split at hs
      · cases hs
      · rename_i n hn
        obtain rfl := Option.some.inj hs
        have := vertP_some hn
        refine ⟨⟨by simp only; omega, h.len, fun e he => ?_, h.apart⟩, fun g => absurd hV g⟩
        have := h.fit e he
        rw [fitE_iff] at this ⊢; simp only; omega
    · cases hs
  · split at hs
    · split at hs
      · cases hs
      · rename_i e he
        split at hs
        · cases hs
        · rename_i M hM
          obtain rfl := Option.some.inj hs
          exact ⟨h.add (edgeP_fit he) hM, fun _ => rfl⟩
    · split at hs
      · split at hs
        · cases hs
        · rename_i e he
          split at hs
          · cases hs
          · rename_i M hM
            obtain rfl := Option.some.inj hs
            exact ⟨h.both (edgeP_fit he) hM, fun _ => rfl⟩
      · cases hs
theorem Sd.step {V : Int} {L : List Ed} {l : List UInt8} {s : Int × List Ed} (h : Sd V L) (hs : step V L l = some s) : Sd s.1 s.2 ∧ (V ≠ 0 → s.1 = V) := by
  unfold Gr.step at hs
  split at hs
  · unfold stepW at hs
    split at hs
    · obtain rfl := Option.some.inj hs; exact ⟨h, fun _ => rfl⟩
    · split at hs
      · cases hs
      · exact h.stepN hs
  · cases hs
theorem Sd.through : ∀ (xs : List (List UInt8)) {V : Int} {L : List Ed} {k n : Nat} {s : Int × List Ed}, Sd V L → through V L k xs = (n, some s) → Sd s.1 s.2 ∧ 1 ≤ s.1 ∧ n = 0
  | [], V, L, k, n, s, h, hs => by
    rw [Gr.through] at hs
    split at hs
    · cases hs
    · rename_i hV
      obtain ⟨rfl, e⟩ := Prod.mk.inj hs
      obtain rfl := Option.some.inj e
      have := h.v
      exact ⟨h, by simp only; omega, rfl⟩
  | x :: xs, V, L, k, n, s, h, hs => by
    rw [Gr.through] at hs
    split at hs
    · cases hs
    · rename_i t ht
      exact Sd.through xs (h.step ht).1 hs

end Go.Proofs.YtmcmpjcijbeilaaGreatDoor.Gr

/-
  What is proved here: words for edges in memory: a slice of edges that can be read, and one that the call made. No condition.
-/
namespace Go.Proofs.YtmcmpjcijbeilaaGreatDoor.Gr
open Go.RowKit Wd Ws

/- An edge's three cells. -/
def ec (e : Ed) : List Value := [.int .i64 e.1, .int .i64 e.2.1, .int .i64 e.2.2]
def ecs (L : List Ed) : List Value := L.flatMap ec
theorem ec_len (e : Ed) : (ec e).length = 3 := rfl
theorem ecs_append (a b : List Ed) : ecs (a ++ b) = ecs a ++ ecs b := by simp [ecs]
theorem ecs_len : ∀ L : List Ed, (ecs L).length = L.length * 3
  | [] => rfl
  | e :: L => by
    show (ec e ++ ecs L).length = _
    rw [List.length_append, ec_len, ecs_len L, List.length_cons]; omega
theorem ecs_one (L : List Ed) : ∀ u ∈ ecs L, u.oneCell' = true := by
  intro u hu
  simp only [ecs, List.mem_flatMap, ec] at hu
  obtain ⟨e, _, hu⟩ := hu
  simp only [List.mem_cons, List.not_mem_nil, or_false] at hu
  rcases hu with rfl | rfl | rfl <;> rfl
theorem ecs_at : ∀ (L : List Ed) (k : Nat) (e : Ed), L[k]? = some e → (ecs L)[k * 3]? = some (.int .i64 e.1) ∧ (ecs L)[k * 3 + 1]? = some (.int .i64 e.2.1) ∧ (ecs L)[k * 3 + 2]? = some (.int .i64 e.2.2)
  | [], k, e, h => by simp at h
  | x :: L, 0, e, h => by
    simp at h; subst h
    exact ⟨rfl, rfl, rfl⟩
  | x :: L, k + 1, e, h => by
    have h' : L[k]? = some e := by simpa using h
    obtain ⟨h0, h1, h2⟩ := ecs_at L k e h'
    have key : ∀ j, (ecs (x :: L))[j + 3]? = (ecs L)[j]? := fun j => by
      show (ec x ++ ecs L)[j + 3]? = _
      rw [List.getElem?_append_right (by rw [ec_len]; omega), ec_len]; congr 1
    refine ⟨?_, ?_, ?_⟩
    · rw [show (k + 1) * 3 = k * 3 + 3 by omega, key]; exact h0
    · rw [show (k + 1) * 3 + 1 = k * 3 + 1 + 3 by omega, key]; exact h1
    · rw [show (k + 1) * 3 + 2 = k * 3 + 2 + 3 by omega, key]; exact h2

/- A slice of edges reads as a list. -/
def EAt (w : World) (A : Option Addr) (L : List Ed) : Prop := ∀ (k : Nat) (e : Ed), L[k]? = some e → ∃ bk o, A = some ⟨bk, o, none⟩ ∧
  w.cell? ⟨bk, o + k * 3, none⟩ = some (.int .i64 e.1) ∧ w.cell? ⟨bk, o + k * 3 + 1, none⟩ = some (.int .i64 e.2.1) ∧ w.cell? ⟨bk, o + k * 3 + 2, none⟩ = some (.int .i64 e.2.2)
theorem EAt.kept {w w' : World} {A : Option Addr} {L : List Ed} (h : EAt w A L) (hk : ∀ p : Addr, p.block < w.heap.size → w'.cell? p = w.cell? p) : EAt w' A L := by
  intro k e hx
  obtain ⟨bk, o, hA, c0, c1, c2⟩ := h k e hx
  exact ⟨bk, o, hA, (hk _ (block_lt_of_cell c0)).trans c0, (hk _ (block_lt_of_cell c1)).trans c1, (hk _ (block_lt_of_cell c2)).trans c2⟩
theorem EAt.below {w w' : World} {A : Option Addr} {L : List Ed} (h : EAt w A L) (hb : Below w.heap.size w w') : EAt w' A L := h.kept fun _ hp => hb.cell hp
theorem EAt.nil (w : World) (A : Option Addr) : EAt w A [] := fun k e h => by simp at h
/- .. and stands in an int each. -/
def In64 (L : List Ed) : Prop := ∀ e ∈ L, (-9223372036854775808 ≤ e.1 ∧ e.1 ≤ 9223372036854775807) ∧ (-9223372036854775808 ≤ e.2.1 ∧ e.2.1 ≤ 9223372036854775807) ∧ (-9223372036854775808 ≤ e.2.2 ∧ e.2.2 ≤ 9223372036854775807)
theorem fit_in {V : Int} {L : List Ed} (hV : V ≤ 512) (h : ∀ e ∈ L, fitE V e = true) : In64 L := fun e he => by
  have := h e he; rw [fitE_iff] at this; omega

/- Edges that a call has made, from block B on. -/
def EOwn (w : World) (B : Nat) (v : Value) (L : List Ed) : Prop := w.ownsRow B 42 3 v L.length (ecs L)
theorem EOwn.none_ (w : World) (B : Nat) : EOwn w B (.slice none 0 0) [] := World.ownsRow_nil _ _ _ _
theorem EOwn.below {w w' : World} {B : Nat} {v : Value} {L : List Ed} (h : EOwn w B v L) (hb : Below w.heap.size w w') : EOwn w' B v L := own_below h hb
theorem EOwn.alloc {w : World} {B : Nat} {v : Value} {L : List Ed} (h : EOwn w B v L) (o : Obj) : EOwn (w.alloc o) B v L := World.ownsRow.alloc h o
theorem EOwn.form {w : World} {B : Nat} {v : Value} {L : List Ed} (h : EOwn w B v L) : ∃ (A : Option Addr) (c : Nat), v = .slice A L.length c ∧ EAt w A L ∧ (A = none ∨ ∃ g, A = some ⟨g, 0, none⟩ ∧ B ≤ g ∧ g < w.heap.size ∧ ∀ j, w.frozen? ⟨g, j, none⟩ = false) ∧ (A = none → c = 0) := by
  obtain ⟨h0, h1 | ⟨g, cap, cur, h1, h2, h3, h4, h5, h6, h7⟩⟩ := h
  · have : L = [] := List.eq_nil_of_length_eq_zero h1.2
    subst this
    exact ⟨none, 0, h1.1, EAt.nil _ _, Or.inl rfl, fun _ => rfl⟩
  · refine ⟨some ⟨g, 0, none⟩, cap, h1, fun k e hx => ?_, Or.inr ⟨g, rfl, h2, lt_of_block h3, fun j => Lib.frozen_of_heap h3 j⟩, fun hh => by cases hh⟩
    have hk : k < L.length := by
      rcases Nat.lt_or_ge k L.length with hh | hh
      · exact hh
      · rw [List.getElem?_eq_none hh] at hx; cases hx
    have key : ∀ j, j < L.length * 3 → w.cell? ⟨g, 0 + j, none⟩ = (ecs L)[j]? := fun j hj => by
      rw [Nat.zero_add, cell_of_row w g j _ 42 (0, 0) h3]
      have e1 : cur[j]? = (cur.toList.take (L.length * 3))[j]? := by
        rw [List.getElem?_take, if_pos hj, Array.getElem?_toList]
      rw [e1, h7]
    obtain ⟨a0, a1, a2⟩ := ecs_at L k e hx
    refine ⟨g, 0, rfl, ?_, ?_, ?_⟩
    · rw [key _ (by omega)]; exact a0
    · rw [Nat.add_assoc, key _ (by omega)]; exact a1
    · rw [Nat.add_assoc, key _ (by omega)]; exact a2
def Egs (w : World) (v : Value) (L : List Ed) : Prop := ∃ (A : Option Addr) (c : Nat), v = .slice A L.length c ∧ EAt w A L
theorem EOwn.egs {w : World} {B : Nat} {v : Value} {L : List Ed} (h : EOwn w B v L) : Egs w v L := by
  obtain ⟨A, c, h1, h2, _⟩ := h.form
  exact ⟨A, c, h1, h2⟩
theorem Egs.below {w w' : World} {v : Value} {L : List Ed} (h : Egs w v L) (hb : Below w.heap.size w w') : Egs w' v L := by
  obtain ⟨A, c, e, h⟩ := h
  exact ⟨A, c, e, h.below hb⟩

theorem infoE : (Tryz.prog.info? 42).map (fun i => (i.zero, i.size, i.bytes)) = some (some (.agg #[.int .i64 0, .int .i64 0, .int .i64 0]), 3, 24) := by kernel_rfl

/- One edge more. -/
theorem app_e {w : World} {ops : Array Oper} {rest : List Oper} {o : Oper} {a : Act} {Q : Exit → Act → World → Prop} (hgd : o.guard = none) (s x : Operand)
    (ho : o.op = .call { callee := .builtin .append, args := #[s, x], argTypes := #[22, 22] }) (B : Nat) (v : Value) (L : List Ed) (e0 e1 e2 : Int) (hs : a.eval s = v) (hown : EOwn w B v L)
    (g : Nat) (hx : a.eval x = .slice (some ⟨g, 0, none⟩) 1 1) (hg : w.heap[g]? = some (.cells #[.int .i64 e0, .int .i64 e1, .int .i64 e2] 42 (0, 0))) (hn : L.length < 1000000000) (hB : B ≤ w.heap.size)
    (h : ∀ v' w', EOwn w' B v' (L ++ [(e0, e1, e2)]) → w.grownBy w' v.ownBlock → wpList Tryz.prog ops Q rest (a.put o.dst v') w') : wpList Tryz.prog ops Q (o :: rest) a w := by
  obtain ⟨i0, hi, hz0, hz1, hz2⟩ := info_parts infoE
  refine wpList_append_own w hgd s x 22 ho B 42 i0 _ 3 24 Tryz.underlying22 hi hz0 hz1 hz2 rfl (by decide) v L.length (ecs L) hs hown ⟨g, 0, none⟩ 1 1 (ec (e0, e1, e2)) hx rfl ?_ ?_ ?_ ?_ hB ?_
  · intro j u hu
    rw [add_plain, Lib.cell_of_heap hg]
    rcases j with _ | _ | _ | j
    · simpa [ec] using hu
    · simpa [ec] using hu
    · simpa [ec] using hu
    · simp [ec] at hu
  · intro u hu
    simp only [ec, List.mem_cons, List.not_mem_nil, or_false] at hu
    rcases hu with rfl | rfl | rfl <;> rfl
  · unfold maxLen; omega
  · omega
  · intro v' w' h1 h2 _
    refine h v' w' ?_ h2
    unfold EOwn
    rw [ecs_append, List.length_append]
    have : ecs [(e0, e1, e2)] = ec (e0, e1, e2) := by simp [ecs]
    rw [this]; exact h1

theorem lt_at {α : Type} {L : List α} {k : Nat} {x : α} (h : L[k]? = some x) : k < L.length := by
  rcases Nat.lt_or_ge k L.length with hh | hh
  · exact hh
  · rw [List.getElem?_eq_none hh] at h; cases h
theorem at_lt {α : Type} (L : List α) (k : Nat) (h : k < L.length) : ∃ x, L[k]? = some x := ⟨_, List.getElem?_eq_getElem h⟩
theorem drop_at {α : Type} {L : List α} {k : Nat} {x : α} (h : L[k]? = some x) : L.drop k = x :: L.drop (k + 1) := by
  obtain ⟨h1, h2⟩ := List.getElem?_eq_some_iff.1 h
  rw [List.drop_eq_getElem_cons h1, h2]
theorem take_at {α : Type} {L : List α} {k : Nat} {x : α} (h : L[k]? = some x) : L.take (k + 1) = L.take k ++ [x] := by
  obtain ⟨h1, h2⟩ := List.getElem?_eq_some_iff.1 h
  rw [List.take_succ_eq_append_getElem h1, h2]
theorem at_in {L : List Ed} {k : Nat} {e : Ed} (h : In64 L) (hx : L[k]? = some e) : (-9223372036854775808 ≤ e.1 ∧ e.1 ≤ 9223372036854775807) ∧ (-9223372036854775808 ≤ e.2.1 ∧ e.2.1 ≤ 9223372036854775807) ∧ (-9223372036854775808 ≤ e.2.2 ∧ e.2.2 ≤ 9223372036854775807) := h e (List.mem_of_getElem? hx)

end Go.Proofs.YtmcmpjcijbeilaaGreatDoor.Gr

/-
  What is proved here: contracts of words.kindAndValue and words.Digit: which digit a rune is. Condition: the package's first digits lie as its text lays them.
-/
namespace Go.Proofs.YtmcmpjcijbeilaaGreatDoor.Ws
open Go.RowKit Wd

/- What the package variables hold. -/
def LaidPow (w : World) : Prop := Lib.TabIs Tryz.prog w "internal/strconv.uint64pow10" .u64 Lib.pow10Tab ∧ 1 < w.heap.size
def Laid (w : World) : Prop := LaidPow w ∧ Lib.TabIs Tryz.prog w "treadwheel/words.firstDigits" .i32 [48, 1632, 65296] ∧ 0 < w.heap.size
theorem glob_pow : Tryz.prog.globalNamed "internal/strconv.uint64pow10" = some 1 := by kernel_rfl
theorem glob_dig : Tryz.prog.globalNamed "treadwheel/words.firstDigits" = some 0 := by kernel_rfl
theorem tab_below {w w' : World} {g : Nat} {n : String} {k : IntKind} {zs : List Int} (hg : Tryz.prog.globalNamed n = some g) (h : Lib.TabIs Tryz.prog w n k zs) {B : Nat} (hb : Below B w w') (hB : g < B) : Lib.TabIs Tryz.prog w' n k zs := by
  unfold Lib.TabIs World.var? at h ⊢
  rw [hg] at h ⊢
  simp only [Option.bind_some] at h ⊢
  rw [hb.block g hB]; exact h
theorem LaidPow.bel {w w' : World} (h : LaidPow w) (hb : Below w.heap.size w w') : LaidPow w' := ⟨tab_below glob_pow h.1 hb h.2, Nat.lt_of_lt_of_le h.2 hb.size⟩
theorem Laid.bel {w w' : World} (h : Laid w) (hb : Below w.heap.size w w') : Laid w' := by
  obtain ⟨h1, h2, h3⟩ := h
  exact ⟨h1.bel hb, tab_below glob_dig h2 hb h3, Nat.lt_of_lt_of_le h3 hb.size⟩
theorem Laid.cells {w : World} (h : Laid w) : w.cell? ⟨0, 0, none⟩ = some (.int .i32 48) ∧ w.cell? ⟨0, 1, none⟩ = some (.int .i32 1632) ∧ w.cell? ⟨0, 2, none⟩ = some (.int .i32 65296) :=
  ⟨h.2.1.cell glob_dig 0 (by decide), h.2.1.cell glob_dig 1 (by decide), h.2.1.cell glob_dig 2 (by decide)⟩

theorem first0 : ((first 0 : Nat) : Int) = 48 := by decide
theorem first1 : ((first 1 : Nat) : Int) = 1632 := by decide
theorem first2 : ((first 2 : Nat) : Int) = 65296 := by decide
theorem kv0 (r : Int) (h : 48 ≤ r ∧ r ≤ 57) : kdOf r = 0 ∧ dvOf r = r - 48 := by simp [kdOf, dvOf, h]
theorem kv1 (r : Int) (h : 1632 ≤ r ∧ r ≤ 1641) : kdOf r = 1 ∧ dvOf r = r - 1632 := by
  have : ¬ (48 ≤ r ∧ r ≤ 57) := by omega
  simp [kdOf, dvOf, h, this]
theorem kv2 (r : Int) (h : 65296 ≤ r ∧ r ≤ 65305) : kdOf r = 2 ∧ dvOf r = r - 65296 := by
  have h1 : ¬ (48 ≤ r ∧ r ≤ 57) := by omega
  have h2 : ¬ (1632 ≤ r ∧ r ≤ 1641) := by omega
  simp [kdOf, dvOf, h, h1, h2]
theorem kv3 (r : Int) (h0 : ¬ ((first 0 : Int) ≤ r ∧ r ≤ first 0 + 9)) (h1 : ¬ ((first 1 : Int) ≤ r ∧ r ≤ first 1 + 9)) (h2 : ¬ ((first 2 : Int) ≤ r ∧ r ≤ first 2 + 9)) : kdOf r = -1 ∧ dvOf r = -1 := by
  rw [first0] at h0; rw [first1] at h1; rw [first2] at h2
  have g0 : ¬ (48 ≤ r ∧ r ≤ 57) := by omega
  have g1 : ¬ (1632 ≤ r ∧ r ≤ 1641) := by omega
  have g2 : ¬ (65296 ≤ r ∧ r ≤ 65305) := by omega
  simp [kdOf, dvOf, g0, g1, g2]
def KvRel (r : Int) (g : Nat) (v : Value) : Prop := ∃ k : Nat, k + g = 3 ∧ v = .int .i64 (k : Int) ∧ ∀ j < k, ¬ ((first j : Int) ≤ r ∧ r ≤ (first j : Int) + 9)

set_option maxRecDepth 100000 in
set_option maxHeartbeats 1000000 in
theorem kindAndValue_any (r : Int) (w : World) (hL : Laid w) (h0 : -2147483648 ≤ r) (h1 : r ≤ 2147483647) :
    Calls Tryz.prog 83 #[.int .i32 r] w fun e w' => e = .returned (.tuple #[.int .i64 (kdOf r), .int .i64 (dvOf r)]) ∧ w = w' := by
  obtain ⟨c0, c1, c2⟩ := hL.cells
  clear hL
  have i0 : ∀ w : World, (Instr.index 91 (.agg #[.int .i32 48, .int .i32 1632, .int .i32 65296]) (.int .i64 0)).run Tryz.prog w = .ok (.int .i32 48) w := fun _ => by kernel_rfl
  have i1 : ∀ w : World, (Instr.index 91 (.agg #[.int .i32 48, .int .i32 1632, .int .i32 65296]) (.int .i64 1)).run Tryz.prog w = .ok (.int .i32 1632) w := fun _ => by kernel_rfl
  have i2 : ∀ w : World, (Instr.index 91 (.agg #[.int .i32 48, .int .i32 1632, .int .i32 65296]) (.int .i64 2)).run Tryz.prog w = .ok (.int .i32 65296) w := fun _ => by kernel_rfl
  go_enter Tryz.func83, Tryz.ntmps83
  go_wp2
  go_loopg [7] 3 (fun g v wr => KvRel r g v ∧ wr = w)
  case atStart => exact ⟨⟨0, rfl, rfl, fun j hj => by omega⟩, rfl⟩
  case round =>
    obtain ⟨⟨k, hk, rfl, hj⟩, rfl⟩ := hrel
    have : k = 0 ∨ k = 1 ∨ k = 2 ∨ k = 3 := by omega
    rcases this with rfl | rfl | rfl | rfl
    · by_cases hr : 48 ≤ r ∧ r ≤ 57
      · obtain ⟨e1, e2⟩ := kv0 r hr
        have HJ := Lib.hid hj; clear hj
        go_wp2
        go_ret2
        rw [e1, e2]; exact ⟨rfl, rfl⟩
      · have HJ := Lib.hid hj; clear hj
        go_wp2
        all_goals (try (exfalso; omega))
        all_goals go_roundg (gk - 1)
        all_goals first
          | omega
          | (refine ⟨⟨1, by omega, rfl, ?_⟩, rfl⟩
             intro j hj
             obtain rfl : j = 0 := by omega
             rw [first0]; omega)
    · by_cases hr : 1632 ≤ r ∧ r ≤ 1641
      · obtain ⟨e1, e2⟩ := kv1 r hr
        have HJ := Lib.hid hj; clear hj
        go_wp2
        go_ret2
        rw [e1, e2]; exact ⟨rfl, rfl⟩
      · have HJ := Lib.hid hj; clear hj
        go_wp2
        all_goals (try (exfalso; omega))
        all_goals go_roundg (gk - 1)
        all_goals first
          | omega
          | (refine ⟨⟨2, by omega, rfl, ?_⟩, rfl⟩
             intro j hj
             rcases (show j = 0 ∨ j = 1 by omega) with rfl | rfl
             · exact HJ.out 0 (by omega)
             · rw [first1]; omega)
    · by_cases hr : 65296 ≤ r ∧ r ≤ 65305
      · obtain ⟨e1, e2⟩ := kv2 r hr
        have HJ := Lib.hid hj; clear hj
        go_wp2
        go_ret2
        rw [e1, e2]; exact ⟨rfl, rfl⟩
      · have HJ := Lib.hid hj; clear hj
        go_wp2
        all_goals (try (exfalso; omega))
        all_goals go_roundg (gk - 1)
        all_goals first
          | omega
          | (refine ⟨⟨3, by omega, rfl, ?_⟩, rfl⟩
             intro j hj
             rcases (show j = 0 ∨ j = 1 ∨ j = 2 by omega) with rfl | rfl | rfl
             · exact HJ.out 0 (by omega)
             · exact HJ.out 1 (by omega)
             · rw [first2]; omega)
    · obtain ⟨e1, e2⟩ := kv3 r (hj 0 (by omega)) (hj 1 (by omega)) (hj 2 (by omega))
      have HJ := Lib.hid hj; clear hj
      go_wp2
      go_ret2
      rw [e1, e2]; exact ⟨rfl, rfl⟩

set_option maxRecDepth 100000 in
theorem digit_any (r : Int) (w : World) (hL : Laid w) (h0 : -2147483648 ≤ r) (h1 : r ≤ 2147483647) :
    Calls Tryz.prog 66 #[.int .i32 r] w fun e w' => e = .returned (.int .i64 (dvOf r)) ∧ w = w' := by
  go_enter Tryz.func66, Tryz.ntmps66
  go_wp2_with (go_at_call 83; refine (kindAndValue_any r _ hL h0 h1).mono ?_)
  rintro e w' ⟨rfl, rfl⟩
  go_wp2
  go_ret
  exact ⟨rfl, rfl⟩

end Go.Proofs.YtmcmpjcijbeilaaGreatDoor.Ws

/-
  What is proved here: what all laws of this seat share: the listed variables give the contracts' condition; the witness starts in the heap that the program's own start leaves; what a graph that came in gives; a call that returns true and leaves every block that was there as it was meets the law's specification.
-/
namespace Go.Proofs.YtmcmpjcijbeilaaGreatDoor.Gr
open Go.ChangeShapes Go.WideShapes Go.ChangeAt Go.RowKit Go.Deep Wd Ws

theorem own : ownKnob Tryz.prog.godebug = none := by kernel_rfl
theorem laidOut : laidOutB Tryz.prog = true := by kernel_rfl
def laids : List (String × DataW Unit) := [("math/bits.deBruijn32tab", Rows.laid_math_bits_deBruijn32tab), ("math/bits.deBruijn64tab", Rows.laid_math_bits_deBruijn64tab), ("internal/strconv.uint64pow10", Rows.laid_internal_strconv_uint64pow10), ("treadwheel/words.firstDigits", Rows.laid_treadwheel_words_firstDigits)]
theorem glob_b64 : Tryz.prog.globalNamed "math/bits.deBruijn64tab" = some 3 := by kernel_rfl
theorem glob_p10 : Tryz.prog.globalNamed "internal/strconv.uint64pow10" = some 1 := by kernel_rfl
theorem glob_fd : Tryz.prog.globalNamed "treadwheel/words.firstDigits" = some 0 := by kernel_rfl
theorem typ_b64 : (Tryz.prog.globals[3]?).map (·.type) = some 154 := by kernel_rfl
theorem typ_pow : (Tryz.prog.globals[1]?).map (·.type) = some 148 := by kernel_rfl
theorem typ_dig : (Tryz.prog.globals[0]?).map (·.type) = some 91 := by kernel_rfl
def b64 : List Int := [0, 1, 56, 2, 57, 49, 28, 3, 61, 58, 42, 50, 38, 29, 17, 4, 62, 47, 59, 36, 45, 43, 51, 22, 53, 39, 33, 30, 24, 18, 12, 5, 63, 55, 48, 27, 60, 41, 37, 16, 46, 35, 44, 21, 52, 32, 23, 11, 54, 26, 40, 15, 34, 20, 31, 10, 25, 14, 19, 9, 13, 8, 7, 6]

theorem of_laid {W : World} (h : laidMetH Tryz.prog laids W) : Laid W := by
  rw [MakeChecks.laidMetH_plain _ _ _ (by kernel_rfl)] at h
  have h1 : laidMet Tryz.prog (("math/bits.deBruijn64tab", Lib.tabData .u8 b64) :: [("internal/strconv.uint64pow10", Rows.laid_internal_strconv_uint64pow10), ("treadwheel/words.firstDigits", Rows.laid_treadwheel_words_firstDigits)]) W := h.tail
  have h2 : laidMet Tryz.prog (("internal/strconv.uint64pow10", Lib.tabData .u64 Lib.pow10Tab) :: [("treadwheel/words.firstDigits", Rows.laid_treadwheel_words_firstDigits)]) W := h1.tail
  have h3 : laidMet Tryz.prog (("treadwheel/words.firstDigits", Lib.tabData .i32 [48, 1632, 65296]) :: []) W := h2.tail
  have t2 : Lib.TabIs Tryz.prog W "internal/strconv.uint64pow10" .u64 Lib.pow10Tab := Lib.tabIs_of_head glob_p10 typ_pow Tryz.underlying148 Tryz.underlying119 (by kernel_rfl) (by kernel_rfl) h2
  have t3 : Lib.TabIs Tryz.prog W "treadwheel/words.firstDigits" .i32 [48, 1632, 65296] := Lib.tabIs_of_head glob_fd typ_dig Tryz.underlying91 Tryz.underlying21 (by kernel_rfl) (by kernel_rfl) h3
  have c2 := t2.cell glob_p10 0 (by decide)
  have c3 := t3.cell glob_fd 0 (by decide)
  exact ⟨⟨t2, block_lt_of_cell c2⟩, t3, block_lt_of_cell c3⟩

/-- The start's own heap meets the condition: closed facts. -/
theorem start_met (os : Os) (args : Array Value) : laidMetH Tryz.prog laids ((World.doorLaid Tryz.prog 400 os).forCall (fun _ _ => 0) ⟨#[], args, []⟩).memory :=
  laidMetH_of_parts3 (fuel := 8) (laidMet_of_run' 8 (by kernel_rfl) (by kernel_rfl)) (by kernel_rfl) (by kernel_rfl)

theorem law_post {H : Type} {enc : TypeId × Value → H} {f : Func} {s : ChangeSpec} {apart : Bool} {W W' : World} {args : Array Value} {ds : List (DataW H)} {before : List MemPlace}
    (hW : DataW.Whole enc Tryz.prog f.params.toList s.vars apart W args.toList ds [] before) (hb : Below W.heap.size W W')
    (ht : f.resultTypes = #[4]) (hr : (s.fn H (ds ++ [])).results = [.lit (.bool true)]) (hv : s.vars = []) (hg : (s.fn H (ds ++ [])).vars = [])
    (hargs : DataW.TrodAll enc Tryz.prog W' 0 (fun b => decide (b < W.heap.size)) true f.params.toList args.toList (s.fn H (ds ++ [])).args before) :
    s.post enc Tryz.prog f apart true false false W args (.bool true) W' := by
  have hres : ∀ (b : Nat) (sp : Nat → Bool) (hd : Bool), DataW.TrodAll enc Tryz.prog W' b sp hd f.resultTypes.toList ((Value.bool true).resultList f.resultTypes.size) (s.fn H (ds ++ [])).results [] := by
    intro b sp hd
    rw [hr, ht]
    exact trodAll_cons_mk (shut_bool Tryz.underlying4 _) trodAll_mk0
  have hvars : ∀ sp : Nat → Bool, DataW.TrodVars enc Tryz.prog W' sp s.vars (s.fn H (ds ++ [])).vars [] := by
    intro sp; rw [hv, hg]; rfl
  exact ⟨ds, [], before, [], before, [], hW, hres _ _ _, hargs, hvars _, hb.frame _, fun h => absurd h (by simp)⟩

theorem i64_in {a : Int} (h : (Lit.int .i64 a).wf = true) : -9223372036854775808 ≤ a ∧ a ≤ 9223372036854775807 := by
  have h1 : IntKind.i64.min ≤ a ∧ a ≤ IntKind.i64.max := by simpa [Lit.wf] using h
  have h3 : IntKind.i64.min = -9223372036854775808 := by decide
  have h4 : IntKind.i64.max = 9223372036854775807 := by decide
  omega
theorem cellsI : Tryz.prog.cellsOf 3 = 1 := by kernel_rfl
theorem cellsJ : Tryz.prog.cellsOf 2 = 1 := by kernel_rfl
theorem cellsS : Tryz.prog.cellsOf 22 = 1 := by kernel_rfl
theorem cellsE : Tryz.prog.cellsOf 42 = 3 := by kernel_rfl
theorem cellsG : Tryz.prog.cellsOf 24 = 2 := by kernel_rfl

theorem pick_list {α : Type} (P : Nat → α → Prop) : ∀ n : Nat, (∀ i, i < n → ∃ x, P i x) → ∃ l : List α, l.length = n ∧ ∀ i x, l[i]? = some x → P i x
  | 0, _ => ⟨[], rfl, fun i x h => by simp at h⟩
  | n + 1, h => by
    obtain ⟨l, hl, hp⟩ := pick_list P n (fun i hi => h i (by omega))
    obtain ⟨x, hx⟩ := h n (by omega)
    refine ⟨l ++ [x], by simp [hl], fun i y hy => ?_⟩
    rcases Nat.lt_or_ge i n with hi | hi
    · rw [List.getElem?_append_left (by omega)] at hy; exact hp i y hy
    · rw [List.getElem?_append_right (by omega)] at hy
      have : i - l.length = 0 := by
        rcases Nat.eq_zero_or_pos (i - l.length) with h0 | h0
        · exact h0
        · rw [List.getElem?_eq_none (by simp; omega)] at hy; cases hy
      rw [this] at hy
      simp at hy
      have e : i = n := by omega
      rw [← hy, e]; exact hx

/- One edge of a slice. -/
def EdAt (w : World) (A : Addr) (k : Nat) (e : Ed) : Prop := In64 [e] ∧ ∃ bk o, A = ⟨bk, o, none⟩ ∧
  w.cell? ⟨bk, o + k * 3, none⟩ = some (.int .i64 e.1) ∧ w.cell? ⟨bk, o + k * 3 + 1, none⟩ = some (.int .i64 e.2.1) ∧ w.cell? ⟨bk, o + k * 3 + 2, none⟩ = some (.int .i64 e.2.2)

set_option maxRecDepth 100000 in
theorem edges_in {H : Type} {enc : TypeId × Value → H} {W : World} {fuel : Nat} {v : Value} {x : DataW H × List MemPlace}
    (hf : DataW.trod enc Tryz.prog W 0 (fun _ => true) true fuel 22 [v] = some x) :
    ∃ (L : List Ed) (A : Option Addr) (c : Nat), v = .slice A L.length c ∧ L.length ≤ maxLen ∧ EAt W A L ∧ In64 L := by
  rcases open_slice Tryz.underlying22 hf with ⟨hcs, hx⟩ | ⟨a, len', cap', m, n, D, Pl, hcs, _, hl, hm, hmm, hx, hi⟩
  · injection hcs with hcs
    exact ⟨[], none, 0, hcs, Nat.zero_le _, EAt.nil _ _, fun e h => by simp at h⟩
  · injection hcs with hcs
    subst hcs
    simp only [if_true] at hmm
    obtain ⟨ls, hls, hp⟩ := pick_list (fun i x => EdAt W a i x) len' (fun i hil => by
      obtain ⟨cs', hc, ht⟩ := hi i (by omega)
      rw [cellsE] at hc
      obtain ⟨_, hcl, hat⟩ := World.cells?_some hc
      obtain ⟨ys, n', _, hy, _, hyl, hfld⟩ := DataW.trod_struct Tryz.underlying42 ht
      match cs', hcl with
      | [z0, z1, z2], _ =>
        match ys, hyl with
        | [y0, y1, y2], _ =>
          have f0 : DataW.trod enc Tryz.prog W 0 (fun _ => true) true n' 3 (([z0, z1, z2].drop 0).take (Tryz.prog.cellsOf 3)) = [y0, y1, y2][0]? := hfld 0 _ rfl
          have f1 : DataW.trod enc Tryz.prog W 0 (fun _ => true) true n' 3 (([z0, z1, z2].drop 1).take (Tryz.prog.cellsOf 3)) = [y0, y1, y2][1]? := hfld 1 _ rfl
          have f2 : DataW.trod enc Tryz.prog W 0 (fun _ => true) true n' 2 (([z0, z1, z2].drop 2).take (Tryz.prog.cellsOf 2)) = [y0, y1, y2][2]? := hfld 2 _ rfl
          rw [cellsI] at f0 f1
          rw [cellsJ] at f2
          have g0 : DataW.trod enc Tryz.prog W 0 (fun _ => true) true n' 3 [z0] = some y0 := f0
          have g1 : DataW.trod enc Tryz.prog W 0 (fun _ => true) true n' 3 [z1] = some y1 := f1
          have g2 : DataW.trod enc Tryz.prog W 0 (fun _ => true) true n' 2 [z2] = some y2 := f2
          obtain ⟨q0, e0, _, w0⟩ := DataW.trod_int Tryz.underlying3 g0
          obtain ⟨q1, e1, _, w1⟩ := DataW.trod_int Tryz.underlying3 g1
          obtain ⟨q2, e2, _, w2⟩ := DataW.trod_int Tryz.underlying2 g2
          injection e0 with e0
          injection e1 with e1
          injection e2 with e2
          subst e0 e1 e2
          have h0 := hat 0 (by omega)
          have h1 := hat 1 (by omega)
          have h2 := hat 2 (by omega)
          have hsp : a.spot = none := by
            have hz := World.cell?_spot h0
            rcases Nat.eq_zero_or_pos i with hz0 | hz0
            · subst hz0; simpa [Addr.add] using hz
            · obtain ⟨cs0, hc0, _⟩ := hi 0 (by omega)
              rw [cellsE] at hc0
              obtain ⟨_, hcl0, hat0⟩ := World.cells?_some hc0
              have q0 := hat0 0 (by omega)
              have : cs0[0]? = some (cs0[0]'(by omega)) := List.getElem?_eq_getElem (by omega)
              rw [this] at q0
              simpa [Addr.add] using World.cell?_spot q0
          obtain ⟨bk, o, sp⟩ := a
          obtain rfl : sp = none := hsp
          rw [Ws.add_plain, Ws.add_plain] at h0 h1 h2
          refine ⟨(q0, q1, q2), fun e he => ?_, bk, o, rfl, h0, h1, h2⟩
          simp at he; subst he
          exact ⟨i64_in w0, i64_in w1, i64_in w2⟩)
    refine ⟨ls, some a, cap', by rw [hls], by omega, fun k e hx => ?_, fun e he => ?_⟩
    · obtain ⟨_, bk, o, rfl, h⟩ := hp k e hx
      exact ⟨bk, o, rfl, h⟩
    · obtain ⟨k, hk, rfl⟩ := List.mem_iff_getElem.1 he
      exact (hp k _ (List.getElem?_eq_getElem hk)).1 _ (by simp)

/- A graph that came in. -/
set_option maxRecDepth 100000 in
theorem graph_in {H : Type} {enc : TypeId × Value → H} {W : World} {base : Nat} {v : Value} {d : DataW H} {ps : List MemPlace}
    (hval : Value.okWide Tryz.prog W .any base 24 v) (h : DataW.Trod enc Tryz.prog W 0 (fun _ => true) true 24 v d ps) :
    ∃ (V : Int) (L : List Ed) (A : Option Addr) (c : Nat), v = .agg #[.int .i64 V, .slice A L.length c] ∧ L.length ≤ maxLen ∧ EAt W A L ∧ In64 L ∧ (-9223372036854775808 ≤ V ∧ V ≤ 9223372036854775807) := by
  obtain ⟨cs, rfl, hsz⟩ := okWide_struct Tryz.underlying24 hval
  rw [cellsG] at hsz
  obtain ⟨fuel, hf⟩ := h
  obtain ⟨ys, n', _, hy, _, hyl, hfld⟩ := DataW.trod_struct Tryz.underlying24 hf
  obtain ⟨l⟩ := cs
  match l, hsz with
  | [z0, z1], _ =>
    match ys, hyl with
    | [y0, y1], _ =>
      have f0 : DataW.trod enc Tryz.prog W 0 (fun _ => true) true n' 3 (([z0, z1].drop 0).take (Tryz.prog.cellsOf 3)) = [y0, y1][0]? := hfld 0 _ rfl
      have f1 : DataW.trod enc Tryz.prog W 0 (fun _ => true) true n' 22 (([z0, z1].drop 1).take (Tryz.prog.cellsOf 22)) = [y0, y1][1]? := hfld 1 _ rfl
      rw [cellsI] at f0
      rw [cellsS] at f1
      have g0 : DataW.trod enc Tryz.prog W 0 (fun _ => true) true n' 3 [z0] = some y0 := f0
      have g1 : DataW.trod enc Tryz.prog W 0 (fun _ => true) true n' 22 [z1] = some y1 := f1
      obtain ⟨q0, e0, _, w0⟩ := DataW.trod_int Tryz.underlying3 g0
      injection e0 with e0
      subst e0
      obtain ⟨L, A, c, rfl, h1, h2, h3⟩ := edges_in g1
      exact ⟨q0, L, A, c, rfl, h1, h2, h3, i64_in w0⟩

end Go.Proofs.YtmcmpjcijbeilaaGreatDoor.Gr

/-
  What is proved here: contracts of words.isNumber and words.Number: which number a word is. Conditions: at most 300000 bytes; the package's first digits lie as its text lays them.
-/
namespace Go.Proofs.YtmcmpjcijbeilaaGreatDoor.Ws
open Go.RowKit Wd

theorem kav_at (r : Nat) (K V : Int) (w : World) (hL : Laid w) (h1 : r ≤ 1114111) (hK : kdOf r = K) (hV : dvOf r = V) :
    Calls Tryz.prog 83 #[.int .i32 (r : Int)] w fun e w' => e = .returned (.tuple #[.int .i64 K, .int .i64 V]) ∧ w = w' := by
  subst hK hV; exact kindAndValue_any r w hL (by omega) (by omega)
theorem kv_range (r : Int) : -1 ≤ kdOf r ∧ kdOf r ≤ 2 ∧ -1 ≤ dvOf r ∧ dvOf r ≤ 9 ∧ (0 ≤ kdOf r → 0 ≤ dvOf r) := by
  rcases kv_cases r with ⟨h1, h2⟩ | ⟨k, d, hk, hd, _, h1, h2⟩
  · rw [h1, h2]; omega
  · rw [h1, h2]; omega

/- How far isNumber has come: c0 was the first character, t1 the others that are through. -/
structure Nm (cs : List Ch) (c0 : Ch) (t1 ds : List Ch) : Prop where
  all : cs = c0 :: (t1 ++ ds)
  kind : ∀ x ∈ t1, kdOf x.r = kdOf c0.r
  lead : t1 ≠ [] → dvOf c0.r ≠ 0
  pos : 0 ≤ kdOf c0.r
theorem Nm.true_ {cs : List Ch} {c0 : Ch} {t1 : List Ch} (h : Nm cs c0 t1 []) : isNum cs = true := by
  rw [h.all, List.append_nil]
  simp only [isNum, Bool.and_eq_true, decide_eq_true_eq, List.all_eq_true, Bool.or_eq_true, beq_iff_eq]
  refine ⟨⟨h.pos, fun x hx => h.kind x hx⟩, ?_⟩
  by_cases ht : t1 = []
  · left; simp [ht]
  · right; simpa using h.lead ht
theorem Nm.false1 {cs : List Ch} {c0 c : Ch} {t1 ds : List Ch} (h : Nm cs c0 t1 (c :: ds)) (hk : kdOf c.r ≠ kdOf c0.r) : isNum cs = false := by
  rw [h.all]
  rw [Bool.eq_false_iff]
  intro hh
  simp only [isNum, Bool.and_eq_true, decide_eq_true_eq, List.all_eq_true, Bool.or_eq_true, beq_iff_eq] at hh
  exact hk (hh.1.2 c (by simp))
theorem Nm.false2 {cs : List Ch} {c0 c : Ch} {t1 ds : List Ch} (h : Nm cs c0 t1 (c :: ds)) (hk : dvOf c0.r = 0) : isNum cs = false := by
  rw [h.all]
  rw [Bool.eq_false_iff]
  intro hh
  simp only [isNum, Bool.and_eq_true, decide_eq_true_eq, List.all_eq_true, Bool.or_eq_true, beq_iff_eq] at hh
  rcases hh.2 with g | g
  · simp at g
  · simp [hk] at g
theorem Nm.snoc {cs : List Ch} {c0 c : Ch} {t1 ds : List Ch} (h : Nm cs c0 t1 (c :: ds)) (hk : kdOf c.r = kdOf c0.r) (hv : dvOf c0.r ≠ 0) : Nm cs c0 (t1 ++ [c]) ds :=
  ⟨by rw [h.all]; simp, fun x hx => by rcases List.mem_append.1 hx with g | g; exact h.kind x g; simp at g; rw [g]; exact hk, fun _ => hv, h.pos⟩
theorem isNum_neg (c : Ch) (t : List Ch) (h : kdOf c.r < 0) : isNum (c :: t) = false := by
  have : ¬ (0 ≤ kdOf c.r) := by omega
  simp [isNum, this]

def InRel (w : World) (l : List UInt8) (cs : List Ch) (g : Nat) (k v : Value) (wr : World) : Prop :=
  ∃ (p : List UInt8) (ds : List Ch), ds.length = g ∧ Rng l p ds ∧ Itr w wr w.heap.size w.heap.size l p ∧
    ((p = [] ∧ ds = cs ∧ k = .int .i64 (-1) ∧ v = .int .i64 (-1)) ∨ ∃ (c0 : Ch) (t1 : List Ch) (K V : Int), 1 ≤ p.length ∧ Nm cs c0 t1 ds ∧ kdOf c0.r = K ∧ dvOf c0.r = V ∧ k = .int .i64 K ∧ v = .int .i64 V)

set_option maxRecDepth 100000 in
set_option maxHeartbeats 4000000 in
theorem isNumber_any (l : List UInt8) (cs : List Ch) (w : World) (hL : Laid w) (h : Rg l cs) (_hl : l.length ≤ 300000) :
    Calls Tryz.prog 107 #[.string (sb l)] w fun e w' => e = .returned (.bool (isNum cs)) ∧ Below w.heap.size w w' := by
  have HR := Lib.hid (Rng.start l cs h); clear h
  have HL := Lib.hid hL
  have hL4 := hL.2.2; clear hL
  have hsz := sb_size l
  go_enter Tryz.func107, Tryz.ntmps107
  go_wp2
  go_loopg [3, 4] cs.length (fun g k v wr => InRel w l cs g k v wr)
  case atStart => exact ⟨[], cs, rfl, HR.out, Itr.start (Below.refl _ w) (Nat.le_refl _) l, Or.inl ⟨rfl, rfl, rfl, rfl⟩⟩
  case round =>
    clear HR
    obtain ⟨p, ds, hg, hr, hi, hcase⟩ := hrel
    rcases ds with _ | ⟨c, ds⟩
    · have hnx := fun ty => hr.fin (P := Tryz.prog) wr w.heap.size hi.1 ty
      have HR := Lib.hid hr; clear hr
      have HI := Lib.hid hi; clear hi
      rcases hcase with ⟨hp, hd, rfl, rfl⟩ | ⟨c0, t1, K, V, hp, hn, hK, hV, rfl, rfl⟩
      · have HD := Lib.hid hd; clear hd
        have HP := Lib.hid hp; clear hp
        go_wp2
        go_ret
        rw [← HD.out]
        exact ⟨rfl, HI.out.2.2⟩
      · have HN := Lib.hid hn
        have hKp : 0 ≤ K := by rw [← hK]; exact hn.pos
        have HK := Lib.hid hK; clear hK
        have HV := Lib.hid hV; clear hV hn
        go_wp2
        go_ret
        rw [HN.out.true_]
        refine ⟨ret_bool ?_, HI.out.2.2⟩
        simp
    · have hnx := fun ty => hr.run (P := Tryz.prog) wr w.heap.size hi.1 ty
      have h1 := hr.lt
      have h2 := hr.rune
      have hpos := hr.pos
      have hg' : ds.length + 1 = gk := by simpa using hg
      have HR := Lib.hid hr; clear hr hg
      have hBs := hi.size
      have HI := Lib.hid (hi.next c.bs); clear hi
      have HLw := Lib.hid (HL.out.bel HI.out.2.2)
      obtain ⟨K, hK⟩ : ∃ K, kdOf c.r = K := ⟨_, rfl⟩
      obtain ⟨V, hV⟩ : ∃ V, dvOf c.r = V := ⟨_, rfl⟩
      have hrg := kv_range c.r
      rw [hK, hV] at hrg
      have HK := Lib.hid hK; clear hK
      have HV := Lib.hid hV; clear hV
      rcases hcase with ⟨hp, hd, rfl, rfl⟩ | ⟨c0, t1, K0, V0, hp, hn, hK0, hV0, rfl, rfl⟩
      · have HD := Lib.hid hd; clear hd
        have HP := Lib.hid hp
        have hp0 : p.length ≤ 0 := by rw [hp]; simp
        clear hp
        go_wp2_with fail
        refine (kav_at c.r K V _ HLw.out h2 HK.out HV.out).mono ?_
        rintro e w1 ⟨rfl, rfl⟩
        by_cases hKn : K < 0
        · go_wp2
          all_goals (try (exfalso; omega))
          go_ret
          refine ⟨?_, HI.out.2.2⟩
          rw [← HD.out, isNum_neg c ds (by rw [HK.out]; exact hKn)]
          rfl
        · go_wp2
          all_goals (try (exfalso; omega))
          all_goals go_roundg (gk - 1)
          all_goals first
            | omega
            | (refine ⟨p ++ c.bs, ds, by omega, HR.out.next, HI.out, Or.inr ⟨c, [], K, V, by rw [List.length_append]; omega, ⟨by rw [← HD.out]; rfl, by simp, by simp, by rw [HK.out]; omega⟩, HK.out, HV.out, rfl, rfl⟩⟩)
      · have hKp : 0 ≤ K0 := by rw [← hK0]; exact hn.pos
        have HN := Lib.hid hn; clear hn
        have HK0 := Lib.hid hK0; clear hK0
        have HV0 := Lib.hid hV0; clear hV0
        go_wp2_with fail
        refine (kav_at c.r K V _ HLw.out h2 HK.out HV.out).mono ?_
        rintro e w1 ⟨rfl, rfl⟩
        by_cases hne : K = K0
        · by_cases hv0 : V0 = 0
          · go_wp2
            all_goals (try (exfalso; omega))
            go_ret
            refine ⟨?_, HI.out.2.2⟩
            rw [HN.out.false2 (by rw [HV0.out]; exact hv0)]
            rfl
          · have d1 : decide (K0 < 0) = false := by simp; omega
            have d2 : (V0 == 0) = false := by simpa using hv0
            go_wp2
            all_goals (try (exfalso; omega))
            all_goals go_roundg (gk - 1)
            all_goals first
              | omega
              | (refine ⟨p ++ c.bs, ds, by omega, HR.out.next, HI.out, Or.inr ⟨c0, t1 ++ [c], K0, V0, by rw [List.length_append]; omega, HN.out.snoc (by rw [HK.out, HK0.out]; exact hne) (by rw [HV0.out]; exact hv0), HK0.out, HV0.out, rfl, rfl⟩⟩)
        · go_wp2
          all_goals (try (exfalso; omega))
          all_goals
            go_ret
            refine ⟨?_, HI.out.2.2⟩
            rw [HN.out.false1 (by rw [HK.out, HK0.out]; exact hne)]
            rfl

theorem isNum_vals (cs : List Ch) (h : isNum cs = true) : ∀ c ∈ cs, 0 ≤ dvOf c.r := by
  rcases cs with _ | ⟨c, t⟩
  · simp
  · simp only [isNum, Bool.and_eq_true, decide_eq_true_eq, List.all_eq_true, Bool.or_eq_true, beq_iff_eq] at h
    intro x hx
    apply (kv_range x.r).2.2.2.2
    rcases List.mem_cons.1 hx with rfl | hx
    · exact h.1.1
    · rw [h.1.2 x hx]; exact h.1.1

theorem numOf_end (cs : List Ch) (n : Nat) (h : isNum cs = true) (he : num 0 cs = n) (hn : n ≤ 4611686018427387904) : numOf cs = (n, 0) := by
  rw [numOf, if_pos h, he, if_neg (by omega)]
theorem numOf_over (cs : List Ch) (h : isNum cs = true) (he : 4611686018427387904 < num 0 cs) : numOf cs = (0, 50) := by
  rw [numOf, if_pos h, if_pos he]
def NuRel (w : World) (l : List UInt8) (cs : List Ch) (g : Nat) (v : Value) (wr : World) : Prop :=
  ∃ (p : List UInt8) (ds : List Ch) (n : Nat), ds.length = g ∧ Rng l p ds ∧ Itr w wr w.heap.size w.heap.size l p ∧ v = .int .i64 (n : Int) ∧ n ≤ 4611686018427387904 ∧ num 0 cs = num n ds ∧ ∀ c ∈ ds, 0 ≤ dvOf c.r

theorem digit_at (r : Nat) (V : Int) (w : World) (hL : Laid w) (h1 : r ≤ 1114111) (hV : dvOf r = V) :
    Calls Tryz.prog 66 #[.int .i32 (r : Int)] w fun e w' => e = .returned (.int .i64 V) ∧ w = w' := by
  subst hV; exact digit_any r w hL (by omega) (by omega)

set_option maxRecDepth 100000 in
set_option maxHeartbeats 4000000 in
theorem number_any (l : List UInt8) (cs : List Ch) (w : World) (hL : Laid w) (h : Rg l cs) (hl : l.length ≤ 300000) :
    Calls Tryz.prog 77 #[.string (sb l)] w fun e w' => e = .returned (.tuple #[.int .i64 ((numOf cs).1 : Int), .int .i64 (numOf cs).2]) ∧ Below w.heap.size w w' := by
  have HG := Lib.hid h; clear h
  have HL := Lib.hid hL; clear hL
  have hsz := sb_size l
  go_enter Tryz.func77, Tryz.ntmps77
  go_wp2_with fail
  refine (isNumber_any l cs _ HL.out HG.out hl).mono ?_
  cases hN : isNum cs with
  | false =>
    rintro e w1 ⟨rfl, hb1⟩
    have HB := Lib.hid hb1; clear hb1
    have HN := Lib.hid hN; clear hN
    go_wp2
    go_ret2
    rw [numOf, HN.out]
    exact ⟨rfl, HB.out⟩
  | true =>
    rintro e w1 ⟨rfl, hb1⟩
    have HB := Lib.hid hb1; clear hb1
    have HN := Lib.hid hN; clear hN
    go_wp2
    go_loopg [4] cs.length (fun g v wr => NuRel w1 l cs g v wr)
    case atStart => exact ⟨[], cs, 0, rfl, Rng.start l cs HG.out, Itr.start (Below.refl _ w1) (Nat.le_refl _) l, rfl, by omega, rfl, isNum_vals cs HN.out⟩
    case round =>
      obtain ⟨p, ds, n, hg, hr, hi, rfl, hn, he, hv⟩ := hrel
      rcases ds with _ | ⟨c, ds⟩
      · have hnx := fun ty => hr.fin (P := Tryz.prog) wr w1.heap.size hi.1 ty
        have HR := Lib.hid hr; clear hr
        have HI := Lib.hid hi; clear hi
        have HE := Lib.hid he; clear he
        have HV := Lib.hid hv; clear hv
        go_wp2
        go_ret2
        refine ⟨?_, below_trans HB.out HI.out.2.2⟩
        rw [numOf_end cs n HN.out HE.out hn]
        rfl
      · have hnx := fun ty => hr.run (P := Tryz.prog) wr w1.heap.size hi.1 ty
        have h1 := hr.lt
        have h2 := hr.rune
        have hg' : ds.length + 1 = gk := by simpa using hg
        have HR := Lib.hid hr; clear hr hg
        have HI := Lib.hid (hi.next c.bs); clear hi
        have HLw := Lib.hid ((HL.out.bel HB.out).bel HI.out.2.2)
        obtain ⟨V, hV⟩ : ∃ V : Nat, dvOf c.r = (V : Int) := ⟨(dvOf c.r).toNat, by have := hv c List.mem_cons_self; omega⟩
        have hV9 : V ≤ 9 := by have := (kv_range c.r).2.2.2.1; omega
        have HV := Lib.hid hV; clear hV
        have HE := Lib.hid (show num 0 cs = num (10 * n + V) ds by rw [he, num, HV.out]; rfl); clear he
        have HVs := Lib.hid hv; clear hv
        go_wp2_with fail
        refine (digit_at c.r V _ HLw.out h2 HV.out).mono ?_
        rintro e w2 ⟨rfl, rfl⟩
        by_cases hov : 4611686018427387904 < 10 * n + V
        · go_wp2
          all_goals (try (exfalso; omega))
          go_ret2
          refine ⟨?_, below_trans HB.out HI.out.2.2⟩
          have := num_ge ds (10 * n + V)
          rw [numOf_over cs HN.out (by rw [HE.out]; omega)]
          rfl
        · go_wp2
          all_goals (try (exfalso; omega))
          go_roundg (gk - 1)
          case measure => omega
          case rel => exact ⟨p ++ c.bs, ds, 10 * n + V, by omega, HR.out.next, HI.out, by go_num, by omega, HE.out, fun x hx => HVs.out x (List.mem_cons_of_mem _ hx)⟩

end Go.Proofs.YtmcmpjcijbeilaaGreatDoor.Ws

/-
  What is proved here: contracts of the library's functions that this seat's program calls (Builder.String, utf8.AppendRune, strconv.FormatInt at base 10, stringslite.Clone, strings.TrimSuffix), each laid out of the library's own theorem over any program.
-/
namespace Go.Proofs
open Go.Shelf
def Tryz.lays169_ren : Go.Shelf.Ren := ⟨fun | 169 => 29 | n => n, fun | 70 => 46 | 9 => 9 | 0 => 0 | 72 => 48 | 37 => 44 | 127 => 74 | 3 => 3 | 5 => 5 | n => n, fun | n => n⟩
theorem Tryz.lays169 : Go.Proofs.Lays.n169 Tryz.prog Tryz.lays169_ren := {
  mixed := by kernel_rfl
  f169 := Tryz.func29.trans (congrArg some (by kernel_rfl))
  t0 := Tryz.underlying0
  a0 := Tryz.isAgg0
  z0 := Tryz.sizeOf0
  v0 := Tryz.zeroValue0
  t3 := Tryz.underlying3
  a3 := Tryz.isAgg3
  z3 := Tryz.sizeOf3
  v3 := Tryz.zeroValue3
  t9 := Tryz.underlying9
  a9 := Tryz.isAgg9
  z9 := Tryz.sizeOf9
  v9 := Tryz.zeroValue9
  t37 := Tryz.underlying44
  a37 := Tryz.isAgg44
  z37 := Tryz.sizeOf44
  v37 := Tryz.zeroValue44
  t70 := Tryz.underlying46
  a70 := Tryz.isAgg46
  z70 := Tryz.sizeOf46
  v70 := Tryz.zeroValue46
  t72 := Tryz.underlying48
  a72 := Tryz.isAgg48
  z72 := Tryz.sizeOf48
  v72 := Tryz.zeroValue48
  t127 := Tryz.underlying74
  a127 := Tryz.isAgg74
  z127 := Tryz.sizeOf74
  v127 := Tryz.zeroValue74 }
theorem Tryz.Builder_Extra_169 : Builder.Extra Tryz.prog Tryz.lays169_ren := {
  sizeBuilder := by kernel_rfl
  liesBuilder := by kernel_rfl
  t5 := Tryz.underlying5
  a5 := Tryz.isAgg5
  z5 := Tryz.sizeOf5
  v5 := Tryz.zeroValue5
  infoByte := by kernel_rfl
  cellsByte := by kernel_rfl
  sizeByte := by kernel_rfl
  neB5 := by decide }
open Go.RowKit in
theorem Tryz.Builder_String_any (B b : Nat) (l : List UInt8) (w : World) (h : Lib.IsBuilder 48 5 B b (Lib.byteCells l) w) (hBw : B ≤ w.heap.size) :
    Calls Tryz.prog 29 #[.pointer (some ⟨b, 0, none⟩)] w fun e w' => e = .returned (.string ⟨l.toArray⟩) ∧ Below B w w' := Any.Builder_String_any Tryz.lays169 Tryz.Builder_Extra_169 B b l w h hBw
def Tryz.lays242_ren : Go.Shelf.Ren := ⟨fun | 242 => 82 | 278 => 112 | n => n, fun | 37 => 44 | 21 => 21 | 51 => 117 | 4 => 4 | 5 => 5 | 46 => 102 | n => n, fun | n => n⟩
theorem Tryz.lays242 : Go.Proofs.Lays.n242 Tryz.prog Tryz.lays242_ren := {
  mixed := by kernel_rfl
  f242 := Tryz.func82.trans (congrArg some (by kernel_rfl))
  f278 := Tryz.func112.trans (congrArg some (by kernel_rfl))
  t4 := Tryz.underlying4
  a4 := Tryz.isAgg4
  z4 := Tryz.sizeOf4
  v4 := Tryz.zeroValue4
  t5 := Tryz.underlying5
  a5 := Tryz.isAgg5
  z5 := Tryz.sizeOf5
  v5 := Tryz.zeroValue5
  t21 := Tryz.underlying21
  a21 := Tryz.isAgg21
  z21 := Tryz.sizeOf21
  v21 := Tryz.zeroValue21
  t37 := Tryz.underlying44
  a37 := Tryz.isAgg44
  z37 := Tryz.sizeOf44
  v37 := Tryz.zeroValue44
  t46 := Tryz.underlying102
  a46 := Tryz.isAgg102
  z46 := Tryz.sizeOf102
  v46 := Tryz.zeroValue102
  t51 := Tryz.underlying117
  a51 := Tryz.isAgg117
  z51 := Tryz.sizeOf117
  v51 := Tryz.zeroValue117 }
open Go.RowKit in
theorem Tryz.utf8_AppendRune_plain (B : Nat) (v : Value) (n : Nat) (xs : List Value) (r : Int) (hr0 : -2147483648 ≤ r) (hr1 : r ≤ 2147483647) (w : World) (hown : w.ownsRow B 5 1 v n xs) (hlen : n + 4 ≤ 140737488355328) (hBw : B ≤ w.heap.size) :
    Calls Tryz.prog 82 #[v, .int .i32 r] w fun e w' => ∃ v', e = .returned v' ∧ w'.ownsRow B 5 1 v' (n + (Lib.runeCells r).length) (xs ++ Lib.runeCells r) ∧ ∃ o, (w.alloc o).grownBy w' v.ownBlock := Any.utf8_AppendRune_plain Tryz.lays242 (by kernel_rfl) B v n xs r hr0 hr1 w hown hlen hBw
def Tryz.laysM173_ren : Go.Shelf.Ren := ⟨fun | 173 => 64 | 246 => 81 | 283 => 108 | 284 => 109 | 285 => 110 | 286 => 111 | 129 => 94 | 317 => 119 | 318 => 120 | 319 => 121 | 320 => 122 | 337 => 124 | 338 => 125 | n => n, fun | 2 => 2 | 3 => 3 | 9 => 9 | 4 => 4 | 171 => 135 | 0 => 0 | 53 => 119 | 37 => 44 | 5 => 5 | 173 => 137 | 212 => 148 | 51 => 117 | 20 => 20 | 213 => 149 | 46 => 102 | 232 => 153 | 233 => 154 | n => n, fun | 17 => 1 | 18 => 2 | 19 => 3 | n => n⟩
theorem Tryz.laysM173 : Go.Proofs.LaysM.n173 Tryz.prog Tryz.laysM173_ren := {
  mixed := by kernel_rfl
  f129 := Tryz.func94.trans (congrArg some (by kernel_rfl))
  f173 := Tryz.func64.trans (congrArg some (by kernel_rfl))
  f246 := Tryz.func81.trans (congrArg some (by kernel_rfl))
  f283 := Tryz.func108.trans (congrArg some (by kernel_rfl))
  f284 := Tryz.func109.trans (congrArg some (by kernel_rfl))
  f285 := Tryz.func110.trans (congrArg some (by kernel_rfl))
  f286 := Tryz.func111.trans (congrArg some (by kernel_rfl))
  f317 := Tryz.func119.trans (congrArg some (by kernel_rfl))
  f318 := Tryz.func120.trans (congrArg some (by kernel_rfl))
  f319 := Tryz.func121.trans (congrArg some (by kernel_rfl))
  f320 := Tryz.func122.trans (congrArg some (by kernel_rfl))
  f337 := Tryz.func124.trans (congrArg some (by kernel_rfl))
  f338 := Tryz.func125.trans (congrArg some (by kernel_rfl))
  t0 := Tryz.underlying0
  a0 := Tryz.isAgg0
  z0 := Tryz.sizeOf0
  v0 := Tryz.zeroValue0
  t2 := Tryz.underlying2
  a2 := Tryz.isAgg2
  z2 := Tryz.sizeOf2
  v2 := Tryz.zeroValue2
  t3 := Tryz.underlying3
  a3 := Tryz.isAgg3
  z3 := Tryz.sizeOf3
  v3 := Tryz.zeroValue3
  t4 := Tryz.underlying4
  a4 := Tryz.isAgg4
  z4 := Tryz.sizeOf4
  v4 := Tryz.zeroValue4
  t5 := Tryz.underlying5
  a5 := Tryz.isAgg5
  z5 := Tryz.sizeOf5
  v5 := Tryz.zeroValue5
  t9 := Tryz.underlying9
  a9 := Tryz.isAgg9
  z9 := Tryz.sizeOf9
  v9 := Tryz.zeroValue9
  t20 := Tryz.underlying20
  a20 := Tryz.isAgg20
  z20 := Tryz.sizeOf20
  v20 := Tryz.zeroValue20
  t37 := Tryz.underlying44
  a37 := Tryz.isAgg44
  z37 := Tryz.sizeOf44
  v37 := Tryz.zeroValue44
  t46 := Tryz.underlying102
  a46 := Tryz.isAgg102
  z46 := Tryz.sizeOf102
  v46 := Tryz.zeroValue102
  t51 := Tryz.underlying117
  a51 := Tryz.isAgg117
  z51 := Tryz.sizeOf117
  v51 := Tryz.zeroValue117
  t53 := Tryz.underlying119
  a53 := Tryz.isAgg119
  z53 := Tryz.sizeOf119
  v53 := Tryz.zeroValue119
  t171 := Tryz.underlying135
  a171 := Tryz.isAgg135
  z171 := Tryz.sizeOf135
  v171 := Tryz.zeroValue135
  t173 := Tryz.underlying137
  a173 := Tryz.isAgg137
  z173 := Tryz.sizeOf137
  v173 := Tryz.zeroValue137
  t212 := Tryz.underlying148
  a212 := Tryz.isAgg148
  z212 := Tryz.sizeOf148
  v212 := Tryz.zeroValue148
  t213 := Tryz.underlying149
  a213 := Tryz.isAgg149
  z213 := Tryz.sizeOf149
  t232 := Tryz.underlying153
  a232 := Tryz.isAgg153
  z232 := Tryz.sizeOf153
  v232 := Tryz.zeroValue153
  t233 := Tryz.underlying154
  a233 := Tryz.isAgg154
  z233 := Tryz.sizeOf154
  v233 := Tryz.zeroValue154
  g17 := by kernel_rfl
  g18 := by kernel_rfl
  g19 := by kernel_rfl
  i0 := by kernel_rfl
  i2 := by kernel_rfl
  i3 := by kernel_rfl
  i4 := by kernel_rfl
  i5 := by kernel_rfl
  i9 := by kernel_rfl
  i20 := by kernel_rfl
  i37 := by kernel_rfl
  i46 := by kernel_rfl
  i51 := by kernel_rfl
  i53 := by kernel_rfl
  i171 := by kernel_rfl
  i173 := by kernel_rfl
  i212 := by kernel_rfl
  i232 := by kernel_rfl
  i233 := by kernel_rfl
  m17 := by kernel_rfl
  m18 := by kernel_rfl
  m19 := by kernel_rfl }
open Go.RowKit Go.Sort Go.Lib in
theorem Tryz.strconv_FormatInt_10 (n : Int) (h0 : -9223372036854775808 ≤ n) (h1 : n ≤ 9223372036854775807) (w : World) (htab : Lib.TabIs Tryz.prog w "internal/strconv.uint64pow10" .u64 Lib.pow10Tab) :
    Calls Tryz.prog 64 #[.int .i64 n, .int .i64 10] w fun e w' => e = .returned (.string ⟨(Lib.itoa n).toArray⟩) ∧ ∃ k os, w' = grow (w.drewN k) os := Any.strconv_FormatInt_10 Tryz.laysM173 n h0 h1 w htab
def Tryz.laysM316_ren : Go.Shelf.Ren := ⟨fun | 316 => 103 | n => n, fun | 9 => 9 | 3 => 3 | 4 => 4 | 37 => 44 | 0 => 0 | 127 => 74 | 5 => 5 | n => n, fun | n => n⟩
theorem Tryz.laysM316 : Go.Proofs.LaysM.n316 Tryz.prog Tryz.laysM316_ren := {
  mixed := by kernel_rfl
  f316 := Tryz.func103.trans (congrArg some (by kernel_rfl))
  t0 := Tryz.underlying0
  a0 := Tryz.isAgg0
  z0 := Tryz.sizeOf0
  v0 := Tryz.zeroValue0
  t3 := Tryz.underlying3
  a3 := Tryz.isAgg3
  z3 := Tryz.sizeOf3
  v3 := Tryz.zeroValue3
  t4 := Tryz.underlying4
  a4 := Tryz.isAgg4
  z4 := Tryz.sizeOf4
  v4 := Tryz.zeroValue4
  t9 := Tryz.underlying9
  a9 := Tryz.isAgg9
  z9 := Tryz.sizeOf9
  v9 := Tryz.zeroValue9
  t37 := Tryz.underlying44
  a37 := Tryz.isAgg44
  z37 := Tryz.sizeOf44
  v37 := Tryz.zeroValue44
  t127 := Tryz.underlying74
  a127 := Tryz.isAgg74
  z127 := Tryz.sizeOf74
  v127 := Tryz.zeroValue74
  t5 := Tryz.underlying5
  a5 := Tryz.isAgg5
  z5 := Tryz.sizeOf5
  v5 := Tryz.zeroValue5
  i0 := by kernel_rfl
  i3 := by kernel_rfl
  i4 := by kernel_rfl
  i5 := by kernel_rfl
  i9 := by kernel_rfl
  i37 := by kernel_rfl
  i127 := by kernel_rfl }
open Go.RowKit in
theorem Tryz.stringslite_Clone (s : ByteArray) (w : World) (hlim : s.size ≤ 281474976710656) :
    Calls Tryz.prog 103 #[.string s] w fun e w' => e = .returned (.string s) ∧ Below w.heap.size w w' := Any.stringslite_Clone Tryz.laysM316 s w hlim
def Tryz.lays102_ren : Go.Shelf.Ren := ⟨fun | 102 => 73 | 209 => 104 | 207 => 118 | n => n, fun | 9 => 9 | 4 => 4 | 3 => 3 | n => n, fun | n => n⟩
theorem Tryz.lays102 : Go.Proofs.Lays.n102 Tryz.prog Tryz.lays102_ren := {
  mixed := by kernel_rfl
  f102 := Tryz.func73.trans (congrArg some (by kernel_rfl))
  f207 := Tryz.func118.trans (congrArg some (by kernel_rfl))
  f209 := Tryz.func104.trans (congrArg some (by kernel_rfl))
  t3 := Tryz.underlying3
  a3 := Tryz.isAgg3
  z3 := Tryz.sizeOf3
  v3 := Tryz.zeroValue3
  t4 := Tryz.underlying4
  a4 := Tryz.isAgg4
  z4 := Tryz.sizeOf4
  v4 := Tryz.zeroValue4
  t9 := Tryz.underlying9
  a9 := Tryz.isAgg9
  z9 := Tryz.sizeOf9
  v9 := Tryz.zeroValue9 }
open Go.RowKit Go.Lib in
theorem Tryz.strings_TrimSuffix (s p : ByteArray) (w : World) (hs : s.size ≤ 9223372036854775807) :
    Calls Tryz.prog 73 #[.string s, .string p] w fun e w' => e = .returned (.string ⟨(Lib.trimSuffix s.data.toList p.data.toList).toArray⟩) ∧ w' = w := Any.strings_TrimSuffix Tryz.lays102 s p w hs
end Go.Proofs
