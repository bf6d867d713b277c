/-
  What is proved here: plain facts on ranks: what is given along all edges is not more than there was, and what all have next is not more than One. No condition.
-/
import Derived.Test.YtbbmgandkmlojaaGreatFxMath
namespace Go.Proofs.YtbbmgandkmlojaaGreat.Rk
open Fx
def giveI (v n : Int) : Int := if v < 0 ∨ n < 1 then 0 else v / n
def takeI (n d m s : Int) : Int := if n < 1 ∨ d < 0 ∨ 4294967296 < d ∨ m < 0 ∨ s < 0 then 0 else (4294967296 - d) / n + d * addI m (s / n) / 4294967296
theorem giveI_bad {v n : Int} (h : v < 0 ∨ n < 1) : giveI v n = 0 := by unfold giveI; rw [if_pos h]
theorem giveI_ok {v n : Int} (h0 : 0 ≤ v) (h1 : 1 ≤ n) : giveI v n = v / n := by unfold giveI; rw [if_neg (by omega)]
theorem takeI_bad {n d m s : Int} (h : n < 1 ∨ d < 0 ∨ 4294967296 < d ∨ m < 0 ∨ s < 0) : takeI n d m s = 0 := by unfold takeI; rw [if_pos h]
theorem takeI_ok {n d m s : Int} (h1 : 1 ≤ n) (h2 : 0 ≤ d) (h3 : d ≤ 4294967296) (h4 : 0 ≤ m) (h5 : 0 ≤ s) : takeI n d m s = (4294967296 - d) / n + d * addI m (s / n) / 4294967296 := by
  unfold takeI; rw [if_neg (by omega)]
theorem mulI_damp {d a : Int} (h2 : 0 ≤ d) (h3 : d ≤ 4294967296) (h4 : 0 ≤ a) (h5 : a ≤ 4611686018427387904) : mulI d a = (d * a / 4294967296, 0) ∧ 0 ≤ d * a / 4294967296 ∧ d * a / 4294967296 ≤ 4611686018427387904 := by
  have e1 : d * a ≤ 4294967296 * 4611686018427387904 := Int.mul_le_mul h3 h5 h4 (by omega)
  have e2 : 0 ≤ d * a := Int.mul_nonneg h2 h4
  unfold mulI
  rw [if_neg (by omega), if_neg (by omega)]
  exact ⟨rfl, by omega, by omega⟩
def sm : List Int → Int
  | [] => 0
  | a :: l => a + sm l
def tk (n d s : Int) : List Int → Int
  | [] => 0
  | m :: l => takeI n d m s + tk n d s l
theorem sm_snoc : ∀ (l : List Int) (a : Int), sm (l ++ [a]) = sm l + a
  | [], a => by simp [sm]
  | b :: l, a => by rw [List.cons_append, sm, sm, sm_snoc l a]; omega
theorem sm_nonneg : ∀ l : List Int, (∀ x ∈ l, 0 ≤ x) → 0 ≤ sm l
  | [], _ => by simp [sm]
  | a :: l, h => by
    have := sm_nonneg l fun x hx => h x (by simp [hx])
    have := h a (by simp)
    rw [sm]; omega
theorem sm_at : ∀ (l : List Int) (k : Nat) (x : Int), (∀ y ∈ l, 0 ≤ y) → l[k]? = some x → 0 ≤ x ∧ x ≤ sm l
  | [], _, _, _, hx => by simp at hx
  | a :: l, 0, x, h, hx => by
    have h1 := sm_nonneg l fun x hx => h x (by simp [hx])
    have h2 := h a (by simp)
    obtain rfl : a = x := by simpa using hx
    rw [sm]; omega
  | a :: l, k + 1, x, h, hx => by
    have h1 := sm_at l k x (fun x hx => h x (by simp [hx])) (by simpa using hx)
    have h2 := h a (by simp)
    rw [sm]; omega
theorem addI_le {a b : Int} (h0 : 0 ≤ a) (h1 : 0 ≤ b) : addI a b ≤ a + b := by
  have ha := dst_ge a; have hb := dst_ge b
  have ga := dst_in a; have gb := dst_in b
  unfold addI; split <;> omega
theorem tk_le (n d s : Int) (h1 : 1 ≤ n) (h2 : 0 ≤ d) (h3 : d ≤ 4294967296) (h5 : 0 ≤ s) : ∀ l : List Int, (∀ x ∈ l, 0 ≤ x) →
    0 ≤ tk n d s l ∧ 4294967296 * tk n d s l ≤ 4294967296 * ((l.length : Int) * ((4294967296 - d) / n)) + d * (sm l + (l.length : Int) * (s / n))
  | [], _ => by simp [tk, sm]
  | m :: l, h => by
    obtain ⟨i0, i1⟩ := tk_le n d s h1 h2 h3 h5 l fun x hx => h x (by simp [hx])
    have hm := h m (by simp)
    have q0 : 0 ≤ s / n := Int.ediv_nonneg h5 (by omega)
    have b0 : 0 ≤ (4294967296 - d) / n := Int.ediv_nonneg (by omega) (by omega)
    have a1 := addI_le hm q0
    have a0 := addI_in m (s / n)
    obtain ⟨e, f0, _⟩ := mulI_damp h2 h3 a0.1 a0.2
    have f1 : d * addI m (s / n) ≤ d * (m + s / n) := Int.mul_le_mul_of_nonneg_left a1 h2
    rw [tk, takeI_ok h1 h2 h3 hm h5, sm, List.length_cons]
    obtain ⟨b, hb⟩ : ∃ b, (4294967296 - d) / n = b := ⟨_, rfl⟩
    obtain ⟨q, hq⟩ : ∃ q, s / n = q := ⟨_, rfl⟩
    rw [hb] at i1 b0 ⊢
    rw [hq] at i1 q0 a1 a0 f0 f1 ⊢
    obtain ⟨L, hL⟩ : ∃ L : Int, (l.length : Int) = L := ⟨_, rfl⟩
    have c1 : ((l.length + 1 : Nat) : Int) * b = L * b + b := by rw [← hL]; push_cast; rw [Int.add_mul, Int.one_mul]
    have c2 : d * (m + sm l + ((l.length + 1 : Nat) : Int) * q) = d * (m + q) + d * (sm l + L * q) := by
      rw [← Int.mul_add, ← hL]; congr 1; push_cast; rw [Int.add_mul, Int.one_mul]; omega
    rw [c1, c2]
    rw [hL] at i1
    obtain ⟨P, hP⟩ : ∃ P, d * addI m q = P := ⟨_, rfl⟩
    obtain ⟨R, hR⟩ : ∃ R, d * (m + q) = R := ⟨_, rfl⟩
    obtain ⟨T, hT⟩ : ∃ T, d * (sm l + L * q) = T := ⟨_, rfl⟩
    obtain ⟨U, hU⟩ : ∃ U, L * b = U := ⟨_, rfl⟩
    rw [hP] at f0 f1 ⊢
    rw [hR] at f1 ⊢
    rw [hT, hU] at i1
    rw [hT, hU]
    omega
theorem tk_one (n d s : Int) (h1 : 1 ≤ n) (h2 : 0 ≤ d) (h3 : d ≤ 4294967296) (h5 : 0 ≤ s) (l : List Int) (h : ∀ x ∈ l, 0 ≤ x) (hl : (l.length : Int) ≤ n) (hs : sm l + s ≤ 4294967296) : 0 ≤ tk n d s l ∧ tk n d s l ≤ 4294967296 := by
  obtain ⟨i0, i1⟩ := tk_le n d s h1 h2 h3 h5 l h
  have q0 : 0 ≤ s / n := Int.ediv_nonneg h5 (by omega)
  have b0 : 0 ≤ (4294967296 - d) / n := Int.ediv_nonneg (by omega) (by omega)
  have q1 := (share_mul s n h1).1
  have b1 := (share_mul (4294967296 - d) n h1).1
  have c1 : (l.length : Int) * ((4294967296 - d) / n) ≤ n * ((4294967296 - d) / n) := Int.mul_le_mul_of_nonneg_right hl b0
  have c2 : (l.length : Int) * (s / n) ≤ n * (s / n) := Int.mul_le_mul_of_nonneg_right hl q0
  rw [Int.mul_comm n] at c1 c2
  have e0 := sm_nonneg l h
  have e1 : d * (sm l + (l.length : Int) * (s / n)) ≤ d * 4294967296 := Int.mul_le_mul_of_nonneg_left (by omega) h2
  omega
end Go.Proofs.YtbbmgandkmlojaaGreat.Rk
