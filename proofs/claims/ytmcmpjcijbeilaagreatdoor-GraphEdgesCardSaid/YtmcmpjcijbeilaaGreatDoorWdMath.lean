/-
  What is proved here: plain facts on rows of bytes and their characters: what is decoded of a row, that a character that is not broken is decoded the same whatever stands behind it, and that what stands ahead of a # is decoded as if nothing stood behind. No program.
-/
import Derived.Lib.DecodeN
import Derived.Lib.RuneBytes
namespace Go.Proofs.YtmcmpjcijbeilaaGreatDoor.Wd
open Go Go.Lib

def dec (l : (List UInt8)) : Nat × Nat := decodeN l.length (l.getD 0 0).toNat (l.getD 1 0).toNat (l.getD 2 0).toNat (l.getD 3 0).toNat

theorem get_list (s : ByteArray) (i k : Nat) : s.get! (i + k) = (s.data.toList.drop i).getD k 0 := by
  show s.data[i + k]! = _
  rw [List.getD_eq_getElem?_getD, List.getElem?_drop, Array.getElem?_toList]
  simp only [getElem!_def]
  cases s.data[i + k]? <;> rfl

theorem dec_at (s : ByteArray) (i : Nat) : Utf8.decode s i = dec (s.data.toList.drop i) := by
  rw [decode_at, dec]
  have h0 := get_list s i 0
  rw [Nat.add_zero] at h0
  rw [h0, get_list s i 1, get_list s i 2, get_list s i 3]
  have : (s.data.toList.drop i).length = s.size - i := by rw [List.length_drop, Array.length_toList]; rfl
  rw [this]

/-- A character: its rune, its bytes. -/
structure Ch where
  r : Nat
  bs : (List UInt8)

def Ch.broken (c : Ch) : Prop := c.r = 65533 ∧ c.bs.length = 1
instance (c : Ch) : Decidable c.broken := by unfold Ch.broken; infer_instance

/-- cs are the characters of l. -/
def Rg : (List UInt8) → List Ch → Prop
  | l, [] => l = []
  | l, c :: cs => ∃ rest, l = c.bs ++ rest ∧ c.bs ≠ [] ∧ dec l = (c.r, c.bs.length) ∧ Rg rest cs

theorem decN_width (n b0 b1 b2 b3 : Nat) (h : 1 ≤ n) : 1 ≤ (decodeN n b0 b1 b2 b3).2 ∧ (decodeN n b0 b1 b2 b3).2 ≤ n := by
  unfold decodeN
  repeat' split
  all_goals first | omega | (simp only; omega)

theorem decN_le (n b0 b1 b2 b3 : Nat) (h0 : b0 < 256) : (decodeN n b0 b1 b2 b3).1 ≤ 1114111 := by
  unfold decodeN
  repeat' split
  all_goals (simp only; omega)

theorem dec_width (l : (List UInt8)) (h : l ≠ []) : 1 ≤ (dec l).2 ∧ (dec l).2 ≤ l.length :=
  decN_width _ _ _ _ _ (by cases l with | nil => exact absurd rfl h | cons a t => simp)
theorem dec_le (l : (List UInt8)) : (dec l).1 ≤ 1114111 := decN_le _ _ _ _ _ (UInt8.toNat_lt _)

theorem rg_ex_n : ∀ (n : Nat) (l : (List UInt8)), l.length ≤ n → ∃ cs, Rg l cs := by
  intro n
  induction n with
  | zero => intro l h; exact ⟨[], List.eq_nil_of_length_eq_zero (by omega)⟩
  | succ n ih =>
    intro l h
    by_cases hl : l = []
    · exact ⟨[], hl⟩
    · have hw := dec_width l hl
      obtain ⟨cs, hcs⟩ := ih (l.drop (dec l).2) (by rw [List.length_drop]; omega)
      have ht : (l.take (dec l).2).length = (dec l).2 := by rw [List.length_take]; omega
      refine ⟨⟨(dec l).1, l.take (dec l).2⟩ :: cs, l.drop (dec l).2, (List.take_append_drop _ _).symm, ?_, ?_, hcs⟩
      · intro hc; simp only at hc; rw [hc] at ht; simp at ht; omega
      · simp only [ht]
theorem rg_ex (l : (List UInt8)) : ∃ cs, Rg l cs := rg_ex_n l.length l (Nat.le_refl _)

def flat (cs : List Ch) : (List UInt8) := cs.flatMap Ch.bs
theorem flat_nil : flat [] = [] := rfl
theorem flat_cons (c : Ch) (cs : List Ch) : flat (c :: cs) = c.bs ++ flat cs := rfl
theorem flat_append (a b : List Ch) : flat (a ++ b) = flat a ++ flat b := by simp [flat]

theorem rg_flat : ∀ (cs : List Ch) (l : (List UInt8)), Rg l cs → l = flat cs
  | [], l, h => h
  | c :: cs, l, ⟨rest, h1, _, _, h4⟩ => by rw [flat_cons, ← rg_flat cs rest h4]; exact h1

theorem rg_len : ∀ (cs : List Ch) (l : (List UInt8)), Rg l cs → cs.length ≤ l.length
  | [], l, _ => Nat.zero_le _
  | c :: cs, l, ⟨rest, h1, h2, _, h4⟩ => by
    have := rg_len cs rest h4
    have h3 : 1 ≤ c.bs.length := by cases hb : c.bs with | nil => exact absurd hb h2 | cons a t => simp
    rw [h1, List.length_append, List.length_cons]; omega

theorem rg_ne : ∀ (cs : List Ch) (l : (List UInt8)), Rg l cs → ∀ c ∈ cs, c.bs ≠ []
  | [], _, _, c, hc => by simp at hc
  | c :: cs, l, ⟨rest, _, h2, _, h4⟩, d, hd => by
    rcases List.mem_cons.1 hd with rfl | hd
    · exact h2
    · exact rg_ne cs rest h4 d hd

/-! ### a character that is not broken is the same whatever stands behind it -/

theorem decN_good (n n' b0 b1 b2 b3 c1 c2 c3 r k : Nat) (h : decodeN n b0 b1 b2 b3 = (r, k)) (hg : ¬ (r = 65533 ∧ k = 1))
    (h1 : 1 < k → c1 = b1) (h2 : 2 < k → c2 = b2) (h3 : 3 < k → c3 = b3) (hn : k ≤ n') : decodeN n' b0 c1 c2 c3 = (r, k) := by
  unfold decodeN at h
  split at h
  · rename_i g; obtain ⟨rfl, rfl⟩ := Prod.mk.inj h
    unfold decodeN; rw [if_pos g]
  · rename_i g
    split at h
    · split at h
      · obtain ⟨rfl, rfl⟩ := Prod.mk.inj h
        obtain rfl := h1 (by omega)
        unfold decodeN; rw [if_neg g, if_pos (by omega), if_pos (by assumption)]
      · obtain ⟨rfl, rfl⟩ := Prod.mk.inj h; exact absurd ⟨rfl, rfl⟩ hg
    · split at h
      · split at h
        · obtain ⟨rfl, rfl⟩ := Prod.mk.inj h
          obtain rfl := h1 (by omega); obtain rfl := h2 (by omega)
          unfold decodeN; rw [if_neg g, if_neg (by omega), if_pos (by omega), if_pos (by assumption)]
        · obtain ⟨rfl, rfl⟩ := Prod.mk.inj h; exact absurd ⟨rfl, rfl⟩ hg
      · split at h
        · split at h
          · obtain ⟨rfl, rfl⟩ := Prod.mk.inj h
            obtain rfl := h1 (by omega); obtain rfl := h2 (by omega); obtain rfl := h3 (by omega)
            unfold decodeN; rw [if_neg g, if_neg (by omega), if_neg (by omega), if_pos (by omega), if_pos (by assumption)]
          · obtain ⟨rfl, rfl⟩ := Prod.mk.inj h; exact absurd ⟨rfl, rfl⟩ hg
        · obtain ⟨rfl, rfl⟩ := Prod.mk.inj h; exact absurd ⟨rfl, rfl⟩ hg

theorem getD_append_lt (a b : (List UInt8)) (i : Nat) (h : i < a.length) : (a ++ b).getD i 0 = a.getD i 0 := by
  rw [List.getD_eq_getElem?_getD, List.getD_eq_getElem?_getD, List.getElem?_append_left h]

/-- Decoded the same, whatever stands behind it. -/
def Ch.good (c : Ch) : Prop := c.bs ≠ [] ∧ ∀ m, dec (c.bs ++ m) = (c.r, c.bs.length)

theorem good_of (c : Ch) (rest : (List UInt8)) (h : dec (c.bs ++ rest) = (c.r, c.bs.length)) (hne : c.bs ≠ []) (hb : ¬ c.broken) : c.good := by
  refine ⟨hne, fun m => ?_⟩
  have hl : 1 ≤ c.bs.length := by cases hb : c.bs with | nil => exact absurd hb hne | cons a t => simp
  have key : ∀ i, i < c.bs.length → (c.bs ++ m).getD i 0 = (c.bs ++ rest).getD i 0 := fun i hi => by
    rw [getD_append_lt _ _ _ hi, getD_append_lt _ _ _ hi]
  unfold dec at h ⊢
  rw [key 0 (by omega)]
  exact decN_good _ _ _ _ _ _ _ _ _ _ _ h hb (fun g => by rw [key 1 g]) (fun g => by rw [key 2 g]) (fun g => by rw [key 3 g]) (by simp)

theorem rg_good : ∀ (cs : List Ch), (∀ c ∈ cs, c.good) → Rg (flat cs) cs
  | [], _ => rfl
  | c :: cs, h => ⟨flat cs, rfl, (h c List.mem_cons_self).1, (h c List.mem_cons_self).2 _, rg_good cs fun d hd => h d (List.mem_cons_of_mem _ hd)⟩

theorem good_of_rg : ∀ (cs : List Ch) (l : (List UInt8)), Rg l cs → ∀ c ∈ cs, ¬ c.broken → c.good
  | [], _, _, c, hc, _ => by simp at hc
  | c :: cs, l, ⟨rest, h1, h2, h3, h4⟩, d, hd, hb => by
    rcases List.mem_cons.1 hd with rfl | hd
    · rw [h1] at h3; exact good_of _ rest h3 h2 hb
    · exact good_of_rg cs rest h4 d hd hb

/-! ### what stands ahead of a # -/

theorem decN_cut (n n' b0 b1 b2 b3 c1 c2 c3 : Nat) 
    (h : (n = 1 ∧ b1 = 35) ∨ (n = 2 ∧ b1 = c1 ∧ b2 = 35) ∨ (n = 3 ∧ b1 = c1 ∧ b2 = c2 ∧ b3 = 35) ∨ (4 ≤ n ∧ b1 = c1 ∧ b2 = c2 ∧ b3 = c3)) (hn : n < n') :
    decodeN n' b0 b1 b2 b3 = decodeN n b0 c1 c2 c3 := by
  rcases h with ⟨rfl, rfl⟩ | ⟨rfl, rfl, rfl⟩ | ⟨rfl, rfl, rfl, rfl⟩ | ⟨h4, rfl, rfl, rfl⟩
  all_goals
    unfold decodeN
    repeat' split
    all_goals first | (exfalso; omega) | rfl

theorem dec_cut (p q : (List UInt8)) (h : p ≠ []) : dec (p ++ 35 :: q) = dec p := by
  unfold dec
  rcases p with _ | ⟨a, _ | ⟨b, _ | ⟨c, _ | ⟨d, t⟩⟩⟩⟩
  · exact absurd rfl h
  all_goals
    simp only [List.cons_append, List.nil_append, List.length_cons, List.length_append, List.length_nil, List.getD_cons_zero, List.getD_cons_succ]
    apply decN_cut
  · exact Or.inl ⟨rfl, rfl⟩
  · simp
  · exact Or.inr (Or.inl ⟨rfl, rfl, rfl⟩)
  · simp
  · exact Or.inr (Or.inr (Or.inl ⟨rfl, rfl, rfl, rfl⟩))
  · simp
  · exact Or.inr (Or.inr (Or.inr ⟨by omega, rfl, rfl, rfl⟩))
  · omega

theorem decN_small (n b0 b1 b2 b3 : Nat) : (decodeN n b0 b1 b2 b3).1 < 128 → b0 < 128 := by
  unfold decodeN
  repeat' split
  all_goals (simp only; omega)

/-- A rune below 128 is one byte, itself. -/
theorem dec_ascii (l : (List UInt8)) (hl : l ≠ []) (h : (dec l).1 < 128) : ∃ b t, l = b :: t ∧ b.toNat = (dec l).1 ∧ (dec l).2 = 1 := by
  rcases l with _ | ⟨b, t⟩
  · exact absurd rfl hl
  · have hb : b.toNat < 128 := by simpa using decN_small _ _ _ _ _ h
    refine ⟨b, t, rfl, ?_, ?_⟩ <;> simp [dec, decodeN, hb]

theorem rg_ascii (c : Ch) (cs : List Ch) (l : (List UInt8)) (h : Rg l (c :: cs)) (hr : c.r < 128) : c.bs = [UInt8.ofNat c.r] := by
  obtain ⟨rest, h1, h2, h3, _⟩ := h
  have hl : l ≠ [] := by rw [h1]; simp [h2]
  obtain ⟨b, t, e1, e2, e3⟩ := dec_ascii l hl (by rw [h3]; exact hr)
  rw [h3] at e2 e3
  simp only at e2 e3
  rcases hc : c.bs with _ | ⟨x, _ | ⟨y, z⟩⟩
  · exact absurd hc h2
  · rw [h1, hc] at e1
    have : x = b := (List.cons.inj e1).1
    rw [this, ← e2]; simp
  · rw [hc] at e3; simp at e3

def tw (cs : List Ch) : List Ch := cs.takeWhile fun c => c.r != 35

theorem rg_tw : ∀ (cs : List Ch) (l : (List UInt8)), Rg l cs → Rg (flat (tw cs)) (tw cs) ∧ (l = flat (tw cs) ∨ ∃ q, l = flat (tw cs) ++ 35 :: q)
  | [], l, h => ⟨rfl, Or.inl h⟩
  | c :: cs, l, h => by
    by_cases hr : c.r = 35
    · have e : tw (c :: cs) = [] := by simp [tw, hr]
      rw [e]
      refine ⟨rfl, Or.inr ?_⟩
      have hb := rg_ascii c cs l h (by omega)
      obtain ⟨rest, h1, _⟩ := h
      exact ⟨rest, by rw [h1, hb, hr]; rfl⟩
    · have e : tw (c :: cs) = c :: tw cs := by simp [tw, hr]
      rw [e]
      obtain ⟨rest, h1, h2, h3, h4⟩ := h
      obtain ⟨ih1, ih2⟩ := rg_tw cs rest h4
      have hne : c.bs ++ flat (tw cs) ≠ [] := by simp [h2]
      rcases ih2 with ih2 | ⟨q, ih2⟩
      · refine ⟨⟨flat (tw cs), rfl, h2, ?_, ih1⟩, Or.inl ?_⟩
        · rw [flat_cons, ← ih2, ← h1]; exact h3
        · rw [h1, flat_cons, ih2]
      · refine ⟨⟨flat (tw cs), rfl, h2, ?_, ih1⟩, Or.inr ⟨q, ?_⟩⟩
        · rw [flat_cons, ← dec_cut _ q hne, List.append_assoc, ← ih2, ← h1]; exact h3
        · rw [h1, flat_cons, ih2, List.append_assoc]

/-! ### bytes of characters -/

theorem decN_high (n b0 b1 b2 b3 : Nat) (h : ¬ b0 < 128) : 128 ≤ (decodeN n b0 b1 b2 b3).1 ∧ (2 ≤ (decodeN n b0 b1 b2 b3).2 → 128 ≤ b1) ∧ (3 ≤ (decodeN n b0 b1 b2 b3).2 → 128 ≤ b2) ∧ (4 ≤ (decodeN n b0 b1 b2 b3).2 → 128 ≤ b3) ∧ (decodeN n b0 b1 b2 b3).2 ≤ 4 := by
  unfold decodeN
  rw [if_neg h]
  repeat' split
  all_goals (refine ⟨?_, ?_, ?_, ?_, ?_⟩ <;> simp only <;> omega)

theorem high_bytes (c : Ch) (cs : List Ch) (l : (List UInt8)) (h : Rg l (c :: cs)) (hr : 128 ≤ c.r) : ∀ b ∈ c.bs, 128 ≤ b.toNat := by
  obtain ⟨rest, h1, h2, h3, _⟩ := h
  have hl : l ≠ [] := by rw [h1]; simp [h2]
  have h0 : ¬ (l.getD 0 0).toNat < 128 := by
    intro g
    have : (dec l).1 = (l.getD 0 0).toNat := by simp only [dec, decodeN, if_pos g]
    rw [h3] at this; simp only at this; omega
  have hh := decN_high l.length _ (l.getD 1 0).toNat (l.getD 2 0).toNat (l.getD 3 0).toNat h0
  change 128 ≤ (dec l).1 ∧ (2 ≤ (dec l).2 → _) ∧ (3 ≤ (dec l).2 → _) ∧ (4 ≤ (dec l).2 → _) ∧ (dec l).2 ≤ 4 at hh
  rw [h3] at hh
  simp only at hh
  have key : ∀ i, i < c.bs.length → 128 ≤ (c.bs.getD i 0).toNat := by
    intro i hi
    have e : c.bs.getD i 0 = l.getD i 0 := by rw [h1, getD_append_lt _ _ _ hi]
    rw [e]
    have : i = 0 ∨ i = 1 ∨ i = 2 ∨ i = 3 := by omega
    rcases this with rfl | rfl | rfl | rfl <;> omega
  intro b hb
  obtain ⟨i, hi, rfl⟩ := List.getElem_of_mem hb
  have := key i hi
  rw [List.getD_eq_getElem?_getD, List.getElem?_eq_getElem hi] at this
  simpa using this

theorem rg_no10 (c : Ch) (cs : List Ch) (l : (List UInt8)) (h : Rg l (c :: cs)) (hr : c.r ≠ 10) : ∀ b ∈ c.bs, b ≠ 10 := by
  by_cases h1 : c.r < 128
  · have := rg_ascii c cs l h h1
    intro b hb e
    rw [this] at hb
    simp only [List.mem_singleton] at hb
    rw [hb] at e
    have := congrArg UInt8.toNat e
    simp at this
    omega
  · intro b hb e
    have := high_bytes c cs l h (by omega) b hb
    rw [e] at this
    simp at this

end Go.Proofs.YtmcmpjcijbeilaaGreatDoor.Wd
