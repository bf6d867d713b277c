/-
  What is proved here: plain facts on numbers and their digits to the base 256 ('dg': so many digits, the highest first; 'num': the number of a row of digits). No condition; nothing of the program is met.
-/

namespace Go.Proofs.Ytfbfckdabbaocaa.Fld
def dg : Nat → Nat → List Nat
  | 0, _ => []
  | k + 1, n => dg k (n / 256) ++ [n % 256]
def num (l : List Nat) : Nat := l.foldl (fun a x => a * 256 + x) 0
theorem dg_length (k n : Nat) : (dg k n).length = k := by
  induction k generalizing n with
  | zero => rfl
  | succ k ih => simp [dg, ih]
theorem dg_lt (k n : Nat) : ∀ x ∈ dg k n, x < 256 := by
  induction k generalizing n with
  | zero => intro x hx; cases hx
  | succ k ih =>
    intro x hx
    simp only [dg, List.mem_append, List.mem_singleton] at hx
    rcases hx with hx | rfl
    · exact ih _ x hx
    · omega
theorem num_snoc (l : List Nat) (x : Nat) : num (l ++ [x]) = num l * 256 + x := by simp [num, List.foldl_append]
theorem num_take (l : List Nat) (k : Nat) (h : k < l.length) : num (l.take (k + 1)) = num (l.take k) * 256 + l[k] := by
  rw [List.take_succ_eq_append_getElem h, num_snoc]
theorem num_from (l : List Nat) (a : Nat) : l.foldl (fun a x => a * 256 + x) a = a * 256 ^ l.length + num l := by
  induction l generalizing a with
  | nil => simp [num]
  | cons x l ih =>
    have h0 := ih (a * 256 + x)
    have h1 := ih x
    have h2 : num (x :: l) = l.foldl (fun a x => a * 256 + x) x := by simp [num]
    simp only [List.foldl_cons, List.length_cons]
    rw [h0, h2, h1, Nat.add_mul, Nat.mul_assoc, Nat.pow_succ, Nat.mul_comm 256, Nat.add_assoc]
theorem num_append (a b : List Nat) : num (a ++ b) = num a * 256 ^ b.length + num b := by
  have : num (a ++ b) = b.foldl (fun a x => a * 256 + x) (num a) := by simp [num, List.foldl_append]
  rw [this, num_from]
theorem num_lt (l : List Nat) (h : ∀ x ∈ l, x < 256) : num l < 256 ^ l.length := by
  induction l with
  | nil => simp [num]
  | cons x l ih =>
    have h1 := ih (fun y hy => h y (List.mem_cons_of_mem _ hy))
    have h2 := h x (List.mem_cons_self ..)
    have h3 : num (x :: l) = x * 256 ^ l.length + num l := by have := num_append [x] l; simpa [num] using this
    rw [h3, List.length_cons, Nat.pow_succ]
    have : x * 256 ^ l.length ≤ 255 * 256 ^ l.length := Nat.mul_le_mul_right _ (by omega)
    omega
theorem num_dg (k n : Nat) : num (dg k n) = n % 256 ^ k := by
  induction k generalizing n with
  | zero => simp [dg, num, Nat.mod_one]
  | succ k ih =>
    rw [dg, num_snoc, ih, Nat.pow_succ, Nat.mul_comm (256 ^ k) 256, Nat.mod_mul]
    omega
theorem dg_num_at : ∀ (n : Nat) (l : List Nat), l.length = n → (∀ x ∈ l, x < 256) → dg n (num l) = l
  | 0, l, hn, _ => by
    obtain rfl : l = [] := List.eq_nil_of_length_eq_zero hn
    rfl
  | n + 1, l, hn, h => by
    have hne : l ≠ [] := by intro e; subst e; cases hn
    have hs := List.dropLast_concat_getLast hne
    have h1 : l.dropLast.length = n := by simp [hn]
    have hx := h (l.getLast hne) (List.getLast_mem hne)
    have ih := dg_num_at n l.dropLast h1 (fun y hy => h y (List.dropLast_subset l hy))
    rw [← hs, dg, num_snoc]
    generalize l.getLast hne = x at hx
    have e1 : (num l.dropLast * 256 + x) / 256 = num l.dropLast := by omega
    have e2 : (num l.dropLast * 256 + x) % 256 = x := by omega
    rw [e1, e2, ih]
theorem dg_num (l : List Nat) (h : ∀ x ∈ l, x < 256) : dg l.length (num l) = l := dg_num_at _ l rfl h
def fill (k : Nat) (low : List Nat) : List Nat := List.replicate k 0 ++ low
theorem fill_length (k : Nat) (low : List Nat) : (fill k low).length = k + low.length := by simp [fill]
theorem fill_set (k x : Nat) (low : List Nat) : (fill (k + 1) low).set k x = fill k (x :: low) := by
  unfold fill
  rw [List.replicate_succ', List.append_assoc]
  rw [List.set_append_right _ _ (by simp)]
  simp
theorem fill_step (k n : Nat) (low all : List Nat) (h : dg (k + 1) n ++ low = all) : dg k (n / 256) ++ (n % 256 :: low) = all := by
  rw [← h, dg, List.append_assoc]; rfl
end Go.Proofs.Ytfbfckdabbaocaa.Fld
