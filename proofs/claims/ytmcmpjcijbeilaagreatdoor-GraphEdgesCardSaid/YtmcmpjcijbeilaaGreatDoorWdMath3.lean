/-
  What is proved here: plain facts on numbers in digits of three kinds: which digit a rune is, which number a row of characters is, which characters a number has, and that each is the other's answer. No program.
-/
import Derived.Test.YtmcmpjcijbeilaaGreatDoorWdMath2
namespace Go.Proofs.YtmcmpjcijbeilaaGreatDoor.Wd
open Go Go.Lib

def kdOf (r : Int) : Int := if 48 ≤ r ∧ r ≤ 57 then 0 else if 1632 ≤ r ∧ r ≤ 1641 then 1 else if 65296 ≤ r ∧ r ≤ 65305 then 2 else -1
def dvOf (r : Int) : Int := if 48 ≤ r ∧ r ≤ 57 then r - 48 else if 1632 ≤ r ∧ r ≤ 1641 then r - 1632 else if 65296 ≤ r ∧ r ≤ 65305 then r - 65296 else -1
def first (k : Nat) : Nat := if k = 0 then 48 else if k = 1 then 1632 else 65296

theorem kv_cases (r : Int) : (kdOf r = -1 ∧ dvOf r = -1) ∨ ∃ k d : Nat, k < 3 ∧ d < 10 ∧ r = (first k : Int) + d ∧ kdOf r = k ∧ dvOf r = d := by
  unfold kdOf dvOf
  by_cases h1 : 48 ≤ r ∧ r ≤ 57
  · exact Or.inr ⟨0, (r - 48).toNat, by omega, by omega, by simp [first]; omega, by simp [h1], by simp [h1]; omega⟩
  · by_cases h2 : 1632 ≤ r ∧ r ≤ 1641
    · exact Or.inr ⟨1, (r - 1632).toNat, by omega, by omega, by simp [first]; omega, by simp [h1, h2], by simp [h1, h2]; omega⟩
    · by_cases h3 : 65296 ≤ r ∧ r ≤ 65305
      · exact Or.inr ⟨2, (r - 65296).toNat, by omega, by omega, by simp [first]; omega, by simp [h1, h2, h3], by simp [h1, h2, h3]; omega⟩
      · exact Or.inl ⟨by simp [h1, h2, h3], by simp [h1, h2, h3]⟩
theorem kv_first (k d : Nat) (hk : k < 3) (hd : d < 10) : kdOf ((first k : Int) + d) = k ∧ dvOf ((first k : Int) + d) = d := by
  have : k = 0 ∨ k = 1 ∨ k = 2 := by omega
  rcases this with rfl | rfl | rfl
  · have e : ((first 0 : Nat) : Int) = 48 := by decide
    rw [e]
    exact ⟨by rw [kdOf, if_pos (by omega)]; rfl, by rw [dvOf, if_pos (by omega)]; omega⟩
  · have e : ((first 1 : Nat) : Int) = 1632 := by decide
    rw [e]
    exact ⟨by rw [kdOf, if_neg (by omega), if_pos (by omega)]; rfl, by rw [dvOf, if_neg (by omega), if_pos (by omega)]; omega⟩
  · have e : ((first 2 : Nat) : Int) = 65296 := by decide
    rw [e]
    exact ⟨by rw [kdOf, if_neg (by omega), if_neg (by omega), if_pos (by omega)]; rfl, by rw [dvOf, if_neg (by omega), if_neg (by omega), if_pos (by omega)]; omega⟩

/-- The digit d of the kind k as a character. -/
def dch (k d : Nat) : Ch := ⟨first k + d, encodeRune ((first k + d : Nat) : Int)⟩
theorem dch_good_fin : ∀ (k : Fin 3) (d : Fin 10), dec ((dch k d).bs ++ []) = ((dch k d).r, (dch k d).bs.length) ∧ (dch k d).bs ≠ [] ∧ ¬ (dch k d).broken := by decide +kernel
theorem dch_good (k d : Nat) (hk : k < 3) (hd : d < 10) : (dch k d).good := by
  obtain ⟨h1, h2, h3⟩ := dch_good_fin ⟨k, hk⟩ ⟨d, hd⟩
  exact good_of _ [] h1 h2 h3
theorem dch_kv (k d : Nat) (hk : k < 3) (hd : d < 10) : kdOf (((dch k d).r : Nat) : Int) = k ∧ dvOf (((dch k d).r : Nat) : Int) = d := by
  have := kv_first k d hk hd
  simpa [dch] using this
theorem dch_len_fin : ∀ (k : Fin 3) (d : Fin 10), (dch k d).bs.length ≤ 3 := by decide +kernel

theorem decN_two (n b0 b1 b2 b3 r k : Nat) (h : decodeN n b0 b1 b2 b3 = (r, k)) (h1 : 128 ≤ r) (h2 : r ≤ 2047) (g0 : b0 < 256) (g1 : b1 < 256) : k = 2 ∧ b0 = 192 + r / 64 ∧ b1 = 128 + r % 64 := by
  unfold decodeN at h
  repeat' split at h
  all_goals (obtain ⟨e1, e2⟩ := Prod.mk.inj h; subst e1; subst e2)
  all_goals first | (exfalso; omega) | omega
theorem decN_three (n b0 b1 b2 b3 r k : Nat) (h : decodeN n b0 b1 b2 b3 = (r, k)) (h1 : 65280 ≤ r) (h2 : r ≤ 65310) (g0 : b0 < 256) (g1 : b1 < 256) (g2 : b2 < 256) : k = 3 ∧ b0 = 239 ∧ b1 = 188 ∧ b2 = 128 + r % 64 := by
  unfold decodeN at h
  repeat' split at h
  all_goals (obtain ⟨e1, e2⟩ := Prod.mk.inj h; subst e1; subst e2)
  all_goals first | (exfalso; omega) | omega

theorem byte_eq (x : UInt8) (n : Nat) (h : x.toNat = n) : x = UInt8.ofNat n := by rw [← h]; simp

theorem enc_fin0 : ∀ d : Fin 10, (dch 0 d).bs = [UInt8.ofNat (48 + d)] := by decide +kernel
theorem enc_fin1 : ∀ d : Fin 10, (dch 1 d).bs = [217, UInt8.ofNat (160 + d)] := by decide +kernel
theorem enc_fin2 : ∀ d : Fin 10, (dch 2 d).bs = [239, 188, UInt8.ofNat (144 + d)] := by decide +kernel

theorem ch_digit (c : Ch) (cs : List Ch) (l : (List UInt8)) (h : Rg l (c :: cs)) (k d : Nat) (hk : k < 3) (hd : d < 10) (hr : c.r = first k + d) : c = dch k d := by
  have e1 : c.r = (dch k d).r := hr
  suffices e2 : c.bs = (dch k d).bs by cases c; simp only at e1 e2; simp [e1, e2]
  have h' := h
  obtain ⟨rest, h1, h2, h3, _⟩ := h
  have : k = 0 ∨ k = 1 ∨ k = 2 := by omega
  have key : ∀ i, i < c.bs.length → c.bs.getD i 0 = l.getD i 0 := fun i hi => by rw [h1, getD_append_lt _ _ _ hi]
  rcases this with rfl | rfl | rfl
  · have hr' : c.r = 48 + d := by simpa [first] using hr
    rw [rg_ascii c cs l h' (by omega), hr', enc_fin0 ⟨d, hd⟩]
  · have hr' : c.r = 1632 + d := by simpa [first] using hr
    obtain ⟨g1, g2, g3⟩ := decN_two _ _ _ _ _ _ _ h3 (by omega) (by omega) (UInt8.toNat_lt _) (UInt8.toNat_lt _)
    rw [← key 0 (by omega)] at g2
    rw [← key 1 (by omega)] at g3
    rw [enc_fin1 ⟨d, hd⟩]
    rcases hc : c.bs with _ | ⟨x, _ | ⟨y, _ | ⟨z, t⟩⟩⟩
    · rw [hc] at g1; simp at g1
    · rw [hc] at g1; simp at g1
    · rw [hc] at g2 g3
      have a : x = UInt8.ofNat 217 := byte_eq x 217 (by have : x.toNat = _ := g2; omega)
      have b : y = UInt8.ofNat (160 + d) := byte_eq y (160 + d) (by have : y.toNat = _ := g3; omega)
      rw [a, b]; rfl
    · rw [hc] at g1; simp at g1
  · have hr' : c.r = 65296 + d := by simpa [first] using hr
    obtain ⟨g1, g2, g3, g4⟩ := decN_three _ _ _ _ _ _ _ h3 (by omega) (by omega) (UInt8.toNat_lt _) (UInt8.toNat_lt _) (UInt8.toNat_lt _)
    rw [← key 0 (by omega)] at g2
    rw [← key 1 (by omega)] at g3
    rw [← key 2 (by omega)] at g4
    rw [enc_fin2 ⟨d, hd⟩]
    rcases hc : c.bs with _ | ⟨x, _ | ⟨y, _ | ⟨z, _ | ⟨u, t⟩⟩⟩⟩
    · rw [hc] at g1; simp at g1
    · rw [hc] at g1; simp at g1
    · rw [hc] at g1; simp at g1
    · rw [hc] at g2 g3 g4
      have a : x = UInt8.ofNat 239 := byte_eq x 239 g2
      have b : y = UInt8.ofNat 188 := byte_eq y 188 g3
      have e : z = UInt8.ofNat (144 + d) := byte_eq z (144 + d) (by have : z.toNat = _ := g4; omega)
      rw [a, b, e]; rfl
    · rw [hc] at g1; simp at g1

/-! ### numbers -/

def isNum : List Ch → Bool
  | [] => false
  | c :: t => decide (0 ≤ kdOf c.r) && t.all (fun x => kdOf x.r == kdOf c.r) && (t.isEmpty || dvOf c.r != 0)
def num (n : Nat) : List Ch → Nat
  | [] => n
  | c :: cs => num (10 * n + (dvOf c.r).toNat) cs
theorem num_ge : ∀ (cs : List Ch) (n : Nat), n ≤ num n cs
  | [], n => Nat.le_refl _
  | c :: cs, n => Nat.le_trans (by omega) (num_ge cs _)
theorem num_app : ∀ (a b : List Ch) (n : Nat), num n (a ++ b) = num (num n a) b
  | [], _, _ => rfl
  | _ :: a, b, _ => num_app a b _
/-- What Number answers: the number, the error. -/
def numOf (cs : List Ch) : Nat × Int :=
  if isNum cs then (if 4611686018427387904 < num 0 cs then (0, 50) else (num 0 cs, 0)) else (0, 30)

/-- The digits of a number. -/
def dg (n : Nat) : List Nat := if _h : n < 10 then [n] else dg (n / 10) ++ [n % 10]
theorem dg_small (n : Nat) (h : n < 10) : dg n = [n] := by rw [dg, dif_pos h]
theorem dg_big (n : Nat) (h : ¬ n < 10) : dg n = dg (n / 10) ++ [n % 10] := by rw [dg, dif_neg h]
theorem dg_lt (n : Nat) : ∀ d ∈ dg n, d < 10 := by
  induction n using Nat.strongRecOn with
  | ind n ih =>
    by_cases h : n < 10
    · rw [dg_small n h]; intro d hd; simp at hd; omega
    · rw [dg_big n h]
      intro d hd
      rcases List.mem_append.1 hd with hd | hd
      · exact ih _ (by omega) d hd
      · simp at hd; omega
theorem dec_dg (n : Nat) : Lib.decDigits n = (dg n).map fun d => UInt8.ofNat (48 + d) := by
  induction n using Nat.strongRecOn with
  | ind n ih =>
    by_cases h : n < 10
    · rw [dg_small n h, Lib.decDigits, dif_pos h]; rfl
    · rw [dg_big n h, Lib.decDigits, dif_neg h, ih _ (by omega)]; simp
theorem dg_ne (n : Nat) : dg n ≠ [] := by
  by_cases h : n < 10
  · rw [dg_small n h]; simp
  · rw [dg_big n h]; simp
theorem dg_head (n : Nat) : (∃ d, dg n = [d]) ∨ ∃ d t, dg n = d :: t ∧ d ≠ 0 ∧ t ≠ [] := by
  induction n using Nat.strongRecOn with
  | ind n ih =>
    by_cases h : n < 10
    · exact Or.inl ⟨n, dg_small n h⟩
    · rw [dg_big n h]
      rcases ih (n / 10) (by omega) with ⟨d, hd⟩ | ⟨d, t, hd, h0, ht⟩
      · refine Or.inr ⟨d, [n % 10], by rw [hd]; rfl, ?_, by simp⟩
        by_cases h2 : n / 10 < 10
        · rw [dg_small _ h2] at hd; have := (List.cons.inj hd).1; omega
        · rw [dg_big _ h2] at hd
          have hl := congrArg List.length hd
          have := dg_ne (n / 10 / 10)
          simp at hl
          exact absurd hl this
      · exact Or.inr ⟨d, t ++ [n % 10], by rw [hd]; rfl, h0, by simp⟩
theorem dg_len (n : Nat) : ∀ m, n < 10 ^ (m + 1) → (dg n).length ≤ m + 1 := by
  induction n using Nat.strongRecOn with
  | ind n ih =>
    intro m hm
    by_cases h : n < 10
    · rw [dg_small n h]; simp
    · rw [dg_big n h, List.length_append, List.length_singleton]
      rcases m with _ | m
      · simp at hm; omega
      · have := ih (n / 10) (by omega) m (by rw [Nat.pow_succ] at hm; omega)
        omega

def chs (k : Nat) (ds : List Nat) : List Ch := ds.map (dch k)
theorem num_dg (k n : Nat) (hk : k < 3) : num 0 (chs k (dg n)) = n := by
  induction n using Nat.strongRecOn with
  | ind n ih =>
    by_cases h : n < 10
    · rw [dg_small n h]
      show 10 * 0 + (dvOf _).toNat = n
      rw [(dch_kv k n hk h).2]; omega
    · rw [dg_big n h, chs, List.map_append, num_app]
      have := ih (n / 10) (by omega)
      rw [chs] at this
      rw [this]
      show 10 * (n / 10) + (dvOf _).toNat = n
      rw [(dch_kv k (n % 10) hk (by omega)).2]; omega
theorem isNum_dg (k n : Nat) (hk : k < 3) : isNum (chs k (dg n)) = true := by
  have hlt := dg_lt n
  rcases dg_head n with ⟨d, hd⟩ | ⟨d, t, hd, h0, ht⟩
  · rw [hd] at hlt ⊢
    have := dch_kv k d hk (hlt d (by simp))
    simp [chs, isNum, this.1]
  · rw [hd] at hlt ⊢
    have h1 := dch_kv k d hk (hlt d (by simp))
    have h2 : ∀ x ∈ t, kdOf (((dch k x).r : Nat) : Int) = k := fun x hx => (dch_kv k x hk (hlt x (by simp [hx]))).1
    simp only [chs, List.map_cons, isNum, h1.1, h1.2, Bool.and_eq_true, List.all_eq_true, decide_eq_true_eq, Bool.or_eq_true]
    refine ⟨⟨by omega, ?_⟩, Or.inr (by simpa using h0)⟩
    intro x hx
    obtain ⟨y, hy, rfl⟩ := List.mem_map.1 hx
    rw [h2 y hy]; simp
/-- What Print answers. -/
def pr (k n : Nat) : (List UInt8) := flat (chs k (dg n))
theorem rg_pr (k n : Nat) (hk : k < 3) : Rg (pr k n) (chs k (dg n)) := by
  apply rg_good
  intro c hc
  obtain ⟨d, hd, rfl⟩ := List.mem_map.1 hc
  exact dch_good k d hk (dg_lt n d hd)
theorem pr_ne (k n : Nat) (hk : k < 3) : pr k n ≠ [] := by
  intro h
  have h1 := rg_pr k n hk
  rw [h] at h1
  have := rg_len _ _ h1
  simp [chs] at this
  exact dg_ne n this

/-- Each row of digits with no 0 ahead is that of its number. -/
theorem dg_val (k : Nat) (hk : k < 3) : ∀ (m : Nat) (ds : List Nat), ds.length = m → (∀ d ∈ ds, d < 10) → ds ≠ [] → (ds.length = 1 ∨ ds.head? ≠ some 0) → dg (num 0 (chs k ds)) = ds ∧ (ds.head? ≠ some 0 → 1 ≤ num 0 (chs k ds))
  | 0, ds, hm, _, hne, _ => absurd (List.eq_nil_of_length_eq_zero hm) hne
  | m + 1, ds, hm, hlt, hne, hh => by
    rcases List.eq_nil_or_concat ds with h | ⟨t, d, h⟩
    · exact absurd h hne
    · have h : ds = t ++ [d] := by simpa using h
      subst h
      have hd : d < 10 := hlt d (by simp)
      have ev : num 0 (chs k (t ++ [d])) = 10 * num 0 (chs k t) + d := by
        rw [chs, List.map_append, num_app]
        show 10 * _ + (dvOf _).toNat = _
        rw [(dch_kv k d hk hd).2, chs]; simp
      rw [ev]
      by_cases ht : t = []
      · subst ht
        have e0 : num 0 (chs k []) = 0 := rfl
        rw [e0]
        refine ⟨by rw [dg_small _ (by omega)]; simp, fun g => ?_⟩
        simp at g; omega
      · have hl : t.length ≠ 0 := fun g => ht (List.eq_nil_of_length_eq_zero g)
        have hhead : t.head? ≠ some 0 := by
          rcases hh with hh | hh
          · simp at hh; exact absurd hh ht
          · intro g; apply hh
            cases t with
            | nil => exact absurd rfl ht
            | cons a t => simpa using g
        obtain ⟨i1, i2⟩ := dg_val k hk m t (by simp at hm; omega) (fun x hx => hlt x (by simp [hx])) ht (Or.inr hhead)
        have i2 := i2 hhead
        refine ⟨?_, fun _ => by omega⟩
        rw [dg_big _ (by omega)]
        rw [show (10 * num 0 (chs k t) + d) / 10 = num 0 (chs k t) by omega, show (10 * num 0 (chs k t) + d) % 10 = d by omega, i1]

theorem rg_digits : ∀ (cs : List Ch) (l : (List UInt8)) (k : Nat), k < 3 → Rg l cs → (∀ c ∈ cs, kdOf c.r = k) → ∃ ds : List Nat, cs = chs k ds ∧ ∀ d ∈ ds, d < 10
  | [], _, _, _, _, _ => ⟨[], rfl, by simp⟩
  | c :: cs, l, k, hk, h, hc => by
    have h' := h
    obtain ⟨rest, _, _, _, h4⟩ := h
    obtain ⟨ds, e, hlt⟩ := rg_digits cs rest k hk h4 fun x hx => hc x (List.mem_cons_of_mem _ hx)
    have hck := hc c List.mem_cons_self
    rcases kv_cases c.r with ⟨g, _⟩ | ⟨k', d, hk', hd, hr, g, _⟩
    · rw [g] at hck; omega
    · have : k' = k := by omega
      subst this
      have := ch_digit c cs l h' k' d hk' hd (by omega)
      refine ⟨d :: ds, by rw [this, e]; rfl, ?_⟩
      intro x hx
      rcases List.mem_cons.1 hx with rfl | hx
      · exact hd
      · exact hlt x hx

/-- What is read of a kind is printed of that kind as the same word. -/
theorem num_back (cs : List Ch) (l : (List UInt8)) (h : Rg l cs) (hn : isNum cs = true) : ∃ k, k < 3 ∧ pr k (num 0 cs) = l := by
  rcases cs with _ | ⟨c, t⟩
  · simp [isNum] at hn
  · simp only [isNum, Bool.and_eq_true, decide_eq_true_eq, List.all_eq_true, Bool.or_eq_true] at hn
    obtain ⟨⟨h0, h1⟩, h2⟩ := hn
    rcases kv_cases c.r with ⟨g, _⟩ | ⟨k, d, hk, hd, hr, g, gv⟩
    · rw [g] at h0; omega
    · have hall : ∀ x ∈ c :: t, kdOf x.r = k := by
        intro x hx
        rcases List.mem_cons.1 hx with rfl | hx
        · exact g
        · have := h1 x hx; rw [g] at this; simpa using this
      obtain ⟨ds, e, hlt⟩ := rg_digits (c :: t) l k hk h hall
      refine ⟨k, hk, ?_⟩
      rcases ds with _ | ⟨d', ds'⟩
      · simp [chs] at e
      · have ec : c = dch k d' := by simp [chs] at e; exact e.1
        have hd' : dvOf c.r = d' := by rw [ec]; exact (dch_kv k d' hk (hlt d' (by simp))).2
        have hv : (d' :: ds').length = 1 ∨ (d' :: ds').head? ≠ some 0 := by
          rcases h2 with h2 | h2
          · left
            have : t = [] := by simpa using h2
            rw [this] at e; simp [chs] at e; simp [e.2]
          · right
            rw [hd'] at h2; simp at h2 ⊢; exact h2
        have := (dg_val k hk _ (d' :: ds') rfl hlt (by simp) hv).1
        rw [pr, e, this, ← e]
        exact (rg_flat _ _ h).symm

theorem numOf_pr (k n : Nat) (hk : k < 3) : numOf (chs k (dg n)) = if 4611686018427387904 < n then (0, 50) else (n, 0) := by
  rw [numOf, if_pos (isNum_dg k n hk), num_dg k n hk]

end Go.Proofs.YtmcmpjcijbeilaaGreatDoor.Wd
