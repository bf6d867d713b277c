/-
  What is proved here: plain facts on ranks: what is given along all edges is not more than there was, and what all have next is not more than One. No condition.
-/
import Derived.Test.YtbbmgandkmlojaaGreatFxMath
namespace Go.Proofs.YtbbmgandkmlojaaGreat.Rk
open Fx

def giveI (v n : Int) : Int := if v < 0 ∨ n < 1 then 0 else v / n
def takeI (n d m s : Int) : Int := if n < 1 ∨ d < 0 ∨ 4294967296 < d ∨ m < 0 ∨ s < 0 then 0 else (4294967296 - d) / n + d * addI m (s / n) / 4294967296

theorem giveI_bad {v n : Int} (h : v < 0 ∨ n < 1) : giveI v n = 0 := by unfold giveI; rw [if_pos h]
theorem giveI_ok {v n : Int} (h0 : 0 ≤ v) (h1 : 1 ≤ n) : giveI v n = v / n := by unfold giveI; rw [if_neg (by omega)]
theorem giveI_share (v n : Int) : (giveI v n, if v < 0 ∨ n < 1 then (2 : Int) else 0) = shareI v n := by
  unfold giveI shareI; split <;> rfl
theorem giveI_in {v n : Int} (h1 : v ≤ 9223372036854775807) : 0 ≤ giveI v n ∧ giveI v n ≤ 9223372036854775807 := by
  unfold giveI
  split
  · omega
  · have := share_le v n (by omega) (by omega); omega
/- Together not more than there was. -/
theorem giveI_mul (v n : Int) (h1 : 1 ≤ n) : 0 ≤ giveI v n * n ∧ giveI v n * n ≤ max v 0 := by
  unfold giveI
  split
  · rw [Int.zero_mul]; omega
  · have h := share_mul v n h1
    have h2 := share_le v n (by omega) h1
    have h3 : 0 ≤ v / n * n := Int.mul_nonneg h2.1 (by omega)
    omega

theorem takeI_bad {n d m s : Int} (h : n < 1 ∨ d < 0 ∨ 4294967296 < d ∨ m < 0 ∨ s < 0) : takeI n d m s = 0 := by unfold takeI; rw [if_pos h]
theorem takeI_ok {n d m s : Int} (h1 : 1 ≤ n) (h2 : 0 ≤ d) (h3 : d ≤ 4294967296) (h4 : 0 ≤ m) (h5 : 0 ≤ s) : takeI n d m s = (4294967296 - d) / n + d * addI m (s / n) / 4294967296 := by
  unfold takeI; rw [if_neg (by omega)]
/- With a damp that may be, a product is none too great. -/
theorem mulI_damp {d a : Int} (h2 : 0 ≤ d) (h3 : d ≤ 4294967296) (h4 : 0 ≤ a) (h5 : a ≤ 4611686018427387904) : mulI d a = (d * a / 4294967296, 0) ∧ 0 ≤ d * a / 4294967296 ∧ d * a / 4294967296 ≤ 4611686018427387904 := by
  have e1 : d * a ≤ 4294967296 * 4611686018427387904 := Int.mul_le_mul h3 h5 h4 (by omega)
  have e2 : 0 ≤ d * a := Int.mul_nonneg h2 h4
  unfold mulI
  rw [if_neg (by omega), if_neg (by omega)]
  exact ⟨rfl, by omega, by omega⟩

/- Sums of a list. -/
def sm : List Int → Int
  | [] => 0
  | a :: l => a + sm l
def tk (n d s : Int) : List Int → Int
  | [] => 0
  | m :: l => takeI n d m s + tk n d s l
theorem sm_snoc : ∀ (l : List Int) (a : Int), sm (l ++ [a]) = sm l + a
  | [], a => by simp [sm]
  | b :: l, a => by rw [List.cons_append, sm, sm, sm_snoc l a]; omega
theorem tk_snoc (n d s : Int) : ∀ (l : List Int) (a : Int), tk n d s (l ++ [a]) = tk n d s l + takeI n d a s
  | [], a => by simp [tk]
  | b :: l, a => by rw [List.cons_append, tk, tk, tk_snoc n d s l a]; omega
theorem sm_nonneg : ∀ l : List Int, (∀ x ∈ l, 0 ≤ x) → 0 ≤ sm l
  | [], _ => by simp [sm]
  | a :: l, h => by
    have := sm_nonneg l fun x hx => h x (by simp [hx])
    have := h a (by simp)
    rw [sm]; omega
theorem sm_at : ∀ (l : List Int) (k : Nat) (x : Int), (∀ y ∈ l, 0 ≤ y) → l[k]? = some x → 0 ≤ x ∧ x ≤ sm l
  | [], _, _, _, hx => by simp at hx
  | a :: l, 0, x, h, hx => by
    have h1 := sm_nonneg l fun x hx => h x (by simp [hx])
    have h2 := h a (by simp)
    obtain rfl : a = x := by simpa using hx
    rw [sm]; omega
  | a :: l, k + 1, x, h, hx => by
    have h1 := sm_at l k x (fun x hx => h x (by simp [hx])) (by simpa using hx)
    have h2 := h a (by simp)
    rw [sm]; omega
theorem sm_set : ∀ (l : List Int) (k : Nat) (x y : Int), l[k]? = some x → sm (l.set k y) = sm l - x + y
  | [], _, _, _, hx => by simp at hx
  | a :: l, 0, x, y, hx => by
    obtain rfl : a = x := by simpa using hx
    rw [List.set_cons_zero, sm, sm]; omega
  | a :: l, k + 1, x, y, hx => by
    rw [List.set_cons_succ, sm, sm, sm_set l k x y (by simpa using hx)]; omega
theorem nonneg_set {l : List Int} (h : ∀ y ∈ l, 0 ≤ y) (k : Nat) {y : Int} (hy : 0 ≤ y) : ∀ z ∈ l.set k y, 0 ≤ z := fun z hz => by
  rcases List.mem_or_eq_of_mem_set hz with h1 | h1
  · exact h z h1
  · omega
theorem nonneg_take {l : List Int} (h : ∀ y ∈ l, 0 ≤ y) (k : Nat) : ∀ z ∈ l.take k, 0 ≤ z := fun z hz => h z (List.mem_of_mem_take hz)
theorem sm_take : ∀ (l : List Int) (k : Nat), (∀ y ∈ l, 0 ≤ y) → sm (l.take k) ≤ sm l
  | [], k, _ => by simp [sm]
  | a :: l, 0, h => by have := sm_nonneg _ h; simpa [sm] using this
  | a :: l, k + 1, h => by
    have h1 := sm_take l k fun x hx => h x (by simp [hx])
    rw [List.take_succ_cons, sm, sm]; omega
theorem sm_zero : ∀ n : Nat, sm (List.replicate n 0) = 0
  | 0 => rfl
  | n + 1 => by rw [List.replicate_succ, sm, sm_zero n]; rfl
theorem take_at_snoc {l : List Int} {i : Nat} {x : Int} (h : l[i]? = some x) : l.take (i + 1) = l.take i ++ [x] := by
  rw [List.take_add_one, h]; rfl

theorem addI_le {a b : Int} (h0 : 0 ≤ a) (h1 : 0 ≤ b) : addI a b ≤ a + b := by
  have ha := dst_ge a; have hb := dst_ge b
  have ga := dst_in a; have gb := dst_in b
  unfold addI; split <;> omega

/- What so many have next: One times it, not more than .. -/
theorem tk_le (n d s : Int) (h1 : 1 ≤ n) (h2 : 0 ≤ d) (h3 : d ≤ 4294967296) (h5 : 0 ≤ s) : ∀ l : List Int, (∀ x ∈ l, 0 ≤ x) →
    0 ≤ tk n d s l ∧ 4294967296 * tk n d s l ≤ 4294967296 * ((l.length : Int) * ((4294967296 - d) / n)) + d * (sm l + (l.length : Int) * (s / n))
  | [], _ => by simp [tk, sm]
  | m :: l, h => by
    obtain ⟨i0, i1⟩ := tk_le n d s h1 h2 h3 h5 l fun x hx => h x (by simp [hx])
    have hm := h m (by simp)
    have q0 : 0 ≤ s / n := Int.ediv_nonneg h5 (by omega)
    have b0 : 0 ≤ (4294967296 - d) / n := Int.ediv_nonneg (by omega) (by omega)
    have a1 := addI_le hm q0
    have a0 := addI_in m (s / n)
    obtain ⟨e, f0, _⟩ := mulI_damp h2 h3 a0.1 a0.2
    have f1 : d * addI m (s / n) ≤ d * (m + s / n) := Int.mul_le_mul_of_nonneg_left a1 h2
    rw [tk, takeI_ok h1 h2 h3 hm h5, sm, List.length_cons]
    obtain ⟨b, hb⟩ : ∃ b, (4294967296 - d) / n = b := ⟨_, rfl⟩
    obtain ⟨q, hq⟩ : ∃ q, s / n = q := ⟨_, rfl⟩
    rw [hb] at i1 b0 ⊢
    rw [hq] at i1 q0 a1 a0 f0 f1 ⊢
    obtain ⟨L, hL⟩ : ∃ L : Int, (l.length : Int) = L := ⟨_, rfl⟩
    have c1 : ((l.length + 1 : Nat) : Int) * b = L * b + b := by rw [← hL]; push_cast; rw [Int.add_mul, Int.one_mul]
    have c2 : d * (m + sm l + ((l.length + 1 : Nat) : Int) * q) = d * (m + q) + d * (sm l + L * q) := by
      rw [← Int.mul_add, ← hL]; congr 1; push_cast; rw [Int.add_mul, Int.one_mul]; omega
    rw [c1, c2]
    rw [hL] at i1
    obtain ⟨P, hP⟩ : ∃ P, d * addI m q = P := ⟨_, rfl⟩
    obtain ⟨R, hR⟩ : ∃ R, d * (m + q) = R := ⟨_, rfl⟩
    obtain ⟨T, hT⟩ : ∃ T, d * (sm l + L * q) = T := ⟨_, rfl⟩
    obtain ⟨U, hU⟩ : ∃ U, L * b = U := ⟨_, rfl⟩
    rw [hP] at f0 f1 ⊢
    rw [hR] at f1 ⊢
    rw [hT, hU] at i1
    rw [hT, hU]
    omega
/- .. and together not more than One. -/
theorem tk_one (n d s : Int) (h1 : 1 ≤ n) (h2 : 0 ≤ d) (h3 : d ≤ 4294967296) (h5 : 0 ≤ s) (l : List Int) (h : ∀ x ∈ l, 0 ≤ x) (hl : (l.length : Int) ≤ n) (hs : sm l + s ≤ 4294967296) : 0 ≤ tk n d s l ∧ tk n d s l ≤ 4294967296 := by
  obtain ⟨i0, i1⟩ := tk_le n d s h1 h2 h3 h5 l h
  have q0 : 0 ≤ s / n := Int.ediv_nonneg h5 (by omega)
  have b0 : 0 ≤ (4294967296 - d) / n := Int.ediv_nonneg (by omega) (by omega)
  have q1 := (share_mul s n h1).1
  have b1 := (share_mul (4294967296 - d) n h1).1
  have c1 : (l.length : Int) * ((4294967296 - d) / n) ≤ n * ((4294967296 - d) / n) := Int.mul_le_mul_of_nonneg_right hl b0
  have c2 : (l.length : Int) * (s / n) ≤ n * (s / n) := Int.mul_le_mul_of_nonneg_right hl q0
  rw [Int.mul_comm n] at c1 c2
  have e0 := sm_nonneg l h
  have e1 : d * (sm l + (l.length : Int) * (s / n)) ≤ d * 4294967296 := Int.mul_le_mul_of_nonneg_left (by omega) h2
  omega

/- A share of a whole, so many times: not more than the whole. -/
theorem share_sum (q x n : Int) (h0 : 0 ≤ x) (h1 : x ≤ 4294967295) (hn : 1 ≤ n) (hq : 4294967295 / n = q) : 0 ≤ x / n ∧ x / n ≤ q := by
  subst hq
  exact ⟨Int.ediv_nonneg h0 (by omega), Int.ediv_le_ediv (by omega) h1⟩
theorem whole (q n : Int) (i : Nat) (hi : (i : Int) ≤ n) (hn : 1 ≤ n) (hq : 4294967295 / n = q) : 0 ≤ (i : Int) * q ∧ (i : Int) * q ≤ 4294967295 := by
  have h1 := (share_mul 4294967295 n hn).1
  have q0 : 0 ≤ 4294967295 / n := Int.ediv_nonneg (by omega) (by omega)
  rw [hq] at h1 q0
  have h2 : (i : Int) * q ≤ n * q := Int.mul_le_mul_of_nonneg_right hi q0
  rw [Int.mul_comm n] at h2
  exact ⟨Int.mul_nonneg (by omega) q0, by omega⟩
theorem one_more (q : Int) (i : Nat) : ((i + 1 : Nat) : Int) * q = (i : Int) * q + q := by push_cast; rw [Int.add_mul, Int.one_mul]
/- Along j of k edges not more than there was. -/
theorem along {v k g : Int} (h0 : 0 ≤ v) (hk : 1 ≤ k) (hg : v / k = g) (j : Nat) (hj : (j : Int) ≤ k) : 0 ≤ g ∧ 0 ≤ (j : Int) * g ∧ (j : Int) * g ≤ v := by
  have h1 := (share_mul v k hk).1
  have g0 : 0 ≤ v / k := Int.ediv_nonneg h0 (by omega)
  rw [hg] at h1 g0
  have h2 : (j : Int) * g ≤ k * g := Int.mul_le_mul_of_nonneg_right hj g0
  rw [Int.mul_comm k] at h2
  exact ⟨g0, Int.mul_nonneg (by omega) g0, by omega⟩

end Go.Proofs.YtbbmgandkmlojaaGreat.Rk
