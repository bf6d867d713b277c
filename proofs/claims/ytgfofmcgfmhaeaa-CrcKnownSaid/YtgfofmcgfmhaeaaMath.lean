/-
  What is proved here: plain facts on polynomials over two elements, as 32-bit words in reversed order: multiplying by the power 1 ('raise'), products ('tm', 'T'), powers ('pw'), checks of byte rows ('stp', 'sumB'), parities. No condition; nothing of the program is met.
-/
namespace Go.Proofs.Ytgfofmcgfmhaeaa.Crc

def rest : BitVec 32 := 0x82F63B78#32
def one : BitVec 32 := 0x80000000#32
def raise (r : BitVec 32) : BitVec 32 := (r >>> 1) ^^^ (if r.getLsbD 0 then rest else 0#32)

theorem ite_xor (p q : Bool) (c : BitVec 32) : (if (p ^^ q) then c else 0#32) = (if p then c else 0#32) ^^^ (if q then c else 0#32) := by
  cases p <;> cases q <;> simp

theorem raise_xor (a b : BitVec 32) : raise (a ^^^ b) = raise a ^^^ raise b := by
  unfold raise
  rw [BitVec.getLsbD_xor, ite_xor, BitVec.ushiftRight_xor_distrib]
  ac_rfl
theorem raise_zero : raise 0#32 = 0#32 := by decide

def rp : Nat → BitVec 32 → BitVec 32
  | 0, r => r
  | n + 1, r => rp n (raise r)
theorem rp_xor (n : Nat) (a b : BitVec 32) : rp n (a ^^^ b) = rp n a ^^^ rp n b := by
  induction n generalizing a b with
  | zero => rfl
  | succ n ih => simp only [rp, raise_xor, ih]
theorem rp_zero (n : Nat) : rp n 0#32 = 0#32 := by
  induction n with
  | zero => rfl
  | succ n ih => rw [rp, raise_zero, ih]
theorem rp_add (m n : Nat) (a : BitVec 32) : rp (m + n) a = rp m (rp n a) := by
  induction n generalizing a with
  | zero => rfl
  | succ n ih => rw [← Nat.add_assoc]; simp only [rp]; exact ih _
theorem rp_raise (n : Nat) (a : BitVec 32) : rp n (raise a) = raise (rp n a) := by
  induction n generalizing a with
  | zero => rfl
  | succ n ih => simp only [rp, ih]
theorem rp_comm (m n : Nat) (a : BitVec 32) : rp m (rp n a) = rp n (rp m a) := by
  rw [← rp_add, ← rp_add, Nat.add_comm]

def tm : Nat → BitVec 32 → BitVec 32 → BitVec 32
  | 0, _, _ => 0#32
  | n + 1, a, b => (if a.msb then b else 0#32) ^^^ tm n (a <<< 1) (raise b)
theorem tm_zero_left (n : Nat) (b : BitVec 32) : tm n 0#32 b = 0#32 := by
  induction n generalizing b with
  | zero => rfl
  | succ n ih =>
    have h1 : (0#32 : BitVec 32) <<< 1 = 0#32 := by decide
    have h2 : (0#32 : BitVec 32).msb = false := by decide
    rw [tm, h1, h2, ih]; simp
theorem tm_xor_right (n : Nat) (a b c : BitVec 32) : tm n a (b ^^^ c) = tm n a b ^^^ tm n a c := by
  induction n generalizing a b c with
  | zero => simp [tm]
  | succ n ih =>
    simp only [tm, raise_xor, ih]
    cases a.msb
    · simp
    · simp only [if_true]; ac_rfl
theorem tm_xor_left (n : Nat) (a b c : BitVec 32) : tm n (a ^^^ b) c = tm n a c ^^^ tm n b c := by
  induction n generalizing a b c with
  | zero => simp [tm]
  | succ n ih =>
    simp only [tm, BitVec.msb_xor, ite_xor, BitVec.shiftLeft_xor_distrib, ih]
    ac_rfl
theorem tm_zero_right (n : Nat) (a : BitVec 32) : tm n a 0#32 = 0#32 := by
  induction n generalizing a with
  | zero => rfl
  | succ n ih => rw [tm, raise_zero, ih]; simp
theorem tm_raise (n : Nat) (a b : BitVec 32) : tm n a (raise b) = raise (tm n a b) := by
  induction n generalizing a b with
  | zero => simp [tm, raise_zero]
  | succ n ih =>
    simp only [tm, ih, raise_xor]
    cases a.msb
    · simp [raise_zero]
    · simp
def T (a b : BitVec 32) : BitVec 32 := tm 32 a b
theorem T_xor_left (a b c : BitVec 32) : T (a ^^^ b) c = T a c ^^^ T b c := tm_xor_left _ _ _ _
theorem T_xor_right (a b c : BitVec 32) : T a (b ^^^ c) = T a b ^^^ T a c := tm_xor_right _ _ _ _
theorem T_zero_right (a : BitVec 32) : T a 0#32 = 0#32 := tm_zero_right _ _
theorem T_zero_left (a : BitVec 32) : T 0#32 a = 0#32 := tm_zero_left _ _
theorem T_rp (n : Nat) (a b : BitVec 32) : T a (rp n b) = rp n (T a b) := by
  induction n generalizing b with
  | zero => rfl
  | succ n ih => rw [rp, ih]; unfold T; rw [tm_raise]; rfl

/- Every word is the sum of powers. -/
def bs (n : Nat) : BitVec 32 := BitVec.twoPow 32 n
def acc : Nat → BitVec 32 → BitVec 32
  | 0, _ => 0#32
  | n + 1, x => acc n x ^^^ (if x.getLsbD n then bs n else 0#32)
theorem acc_bit (n : Nat) (x : BitVec 32) (i : Nat) (hi : i < 32) : (acc n x).getLsbD i = (decide (i < n) && x.getLsbD i) := by
  induction n with
  | zero => simp [acc]
  | succ n ih =>
    rw [acc, BitVec.getLsbD_xor, ih]
    by_cases h : x.getLsbD n = true
    · rw [if_pos h]
      by_cases e : n = i
      · subst e; simp [bs, h, hi]
      · have : (bs n).getLsbD i = false := by simp [bs, e]
        rw [this]
        by_cases l : i < n
        · have : i < n + 1 := by omega
          simp [l, this]
        · have : ¬ i < n + 1 := by omega
          simp [l, this]
    · rw [if_neg h]
      by_cases e : n = i
      · subst e; simp at h; simp [h]
      · by_cases l : i < n
        · have : i < n + 1 := by omega
          simp [l, this]
        · have : ¬ i < n + 1 := by omega
          simp [l, this]
theorem acc_all (x : BitVec 32) : acc 32 x = x := by
  apply BitVec.eq_of_getLsbD_eq
  intro i hi
  rw [acc_bit 32 x i hi]; simp [hi]
theorem lin_ext {β : Type} (op : β → β → β) (F G : BitVec 32 → β) (hF : ∀ a b, F (a ^^^ b) = op (F a) (F b)) (hG : ∀ a b, G (a ^^^ b) = op (G a) (G b))
    (h0 : F 0#32 = G 0#32) (hb : ∀ i, i < 32 → F (bs i) = G (bs i)) (x : BitVec 32) : F x = G x := by
  have key : ∀ n, n ≤ 32 → F (acc n x) = G (acc n x) := by
    intro n
    induction n with
    | zero => intro _; exact h0
    | succ n ih =>
      intro hn
      rw [acc, hF, hG, ih (by omega)]
      congr 1
      cases x.getLsbD n
      · exact h0
      · exact hb n (by omega)
  have := key 32 (Nat.le_refl _)
  rwa [acc_all] at this

def pw (n : Nat) : BitVec 32 := rp n one
theorem rp_pw (m n : Nat) : rp m (pw n) = pw (m + n) := (rp_add m n one).symm
theorem bs_pw : ∀ i, i < 32 → bs i = pw (31 - i) := by decide +kernel
theorem T_one (a : BitVec 32) : T a one = a :=
  lin_ext (· ^^^ ·) (fun x => T x one) (fun x => x) (fun _ _ => T_xor_left _ _ _) (fun _ _ => rfl) (T_zero_left _) (by decide +kernel) a
theorem tm_bs (k n : Nat) (b : BitVec 32) (hk : k < 32) (hn : k < n) : tm n (bs (31 - k)) b = rp k b := by
  induction k generalizing n b with
  | zero =>
    obtain ⟨n, rfl⟩ : ∃ m, n = m + 1 := ⟨n - 1, by omega⟩
    have h1 : (bs (31 - 0)).msb = true := by decide
    have h2 : (bs (31 - 0)) <<< 1 = 0#32 := by decide
    rw [tm, h1, h2, tm_zero_left]; simp [rp]
  | succ k ih =>
    obtain ⟨n, rfl⟩ : ∃ m, n = m + 1 := ⟨n - 1, by omega⟩
    have h1 : ∀ k, k < 31 → (bs (31 - (k + 1))).msb = false := by decide +kernel
    have h2 : ∀ k, k < 31 → bs (31 - (k + 1)) <<< 1 = bs (31 - k) := by decide +kernel
    rw [tm, h1 k (by omega), h2 k (by omega), ih n _ (by omega) (by omega)]
    simp [rp]
theorem T_bs (i : Nat) (hi : i < 32) (b : BitVec 32) : T (bs i) b = rp (31 - i) b := by
  have := tm_bs (31 - i) 32 b (by omega) (by omega)
  have e : 31 - (31 - i) = i := by omega
  rw [e] at this
  exact this
theorem T_comm (a b : BitVec 32) : T a b = T b a := by
  refine lin_ext (· ^^^ ·) (fun x => T x b) (fun x => T b x) (fun _ _ => T_xor_left _ _ _) (fun _ _ => T_xor_right _ _ _) ?_ ?_ a
  · show T 0#32 b = T b 0#32
    rw [T_zero_left, T_zero_right]
  · intro i hi
    refine lin_ext (· ^^^ ·) (fun x => T (bs i) x) (fun x => T x (bs i)) (fun _ _ => T_xor_right _ _ _) (fun _ _ => T_xor_left _ _ _) ?_ ?_ b
    · show T (bs i) 0#32 = T 0#32 (bs i)
      rw [T_zero_left, T_zero_right]
    · intro j hj
      show T (bs i) (bs j) = T (bs j) (bs i)
      rw [T_bs i hi, T_bs j hj, bs_pw i hi, bs_pw j hj, rp_pw, rp_pw, Nat.add_comm]
theorem T_assoc (a b c : BitVec 32) : T (T a b) c = T a (T b c) := by
  refine lin_ext (· ^^^ ·) (fun x => T (T x b) c) (fun x => T x (T b c)) ?_ (fun _ _ => T_xor_left _ _ _) ?_ ?_ a
  · intro x y
    show T (T (x ^^^ y) b) c = _
    rw [T_xor_left, T_xor_left]
  · show T (T 0#32 b) c = T 0#32 (T b c)
    rw [T_zero_left, T_zero_left, T_zero_left]
  · intro i hi
    show T (T (bs i) b) c = T (bs i) (T b c)
    rw [T_bs i hi, T_bs i hi, T_comm, T_rp, T_comm c b]
theorem T_pw (n : Nat) (a : BitVec 32) : T a (pw n) = rp n a := by rw [pw, T_rp, T_one]
theorem pw_add (m n : Nat) : T (pw m) (pw n) = pw (m + n) := by rw [T_pw, rp_pw, Nat.add_comm]

/- The table of halves of bytes. -/
theorem half (r : BitVec 32) : (r >>> 4) ^^^ rp 4 (r &&& 15#32) = rp 4 r := by
  refine lin_ext (· ^^^ ·) (fun r => (r >>> 4) ^^^ rp 4 (r &&& 15#32)) (fun r => rp 4 r) ?_ (fun _ _ => rp_xor _ _ _) (by decide) (by decide +kernel) r
  intro a b
  show ((a ^^^ b) >>> 4) ^^^ rp 4 ((a ^^^ b) &&& 15#32) = _
  have e : (a ^^^ b) &&& 15#32 = (a &&& 15#32) ^^^ (b &&& 15#32) := by
    apply BitVec.eq_of_getLsbD_eq; intro i hi; simp only [BitVec.getLsbD_and, BitVec.getLsbD_xor]; exact Bool.and_xor_distrib_right ..
  rw [e, rp_xor, BitVec.ushiftRight_xor_distrib]
  ac_rfl

/- Rows of bytes. -/
def stp (r : BitVec 32) (c : Nat) : BitVec 32 := rp 8 (r ^^^ BitVec.ofNat 32 c)
def fld (r : BitVec 32) (l : List Nat) : BitVec 32 := l.foldl stp r
def full : BitVec 32 := 0xFFFFFFFF#32
def sumB (l : List Nat) : BitVec 32 := fld full l ^^^ full
theorem xor_self_left (a b : BitVec 32) : a ^^^ (a ^^^ b) = b := by rw [← BitVec.xor_assoc, BitVec.xor_self, BitVec.zero_xor]
theorem fld_xor (l : List Nat) (r s : BitVec 32) : fld (r ^^^ s) l = fld r l ^^^ rp (8 * l.length) s := by
  induction l generalizing r s with
  | nil => simp [fld, rp]
  | cons c l ih =>
    have e : stp (r ^^^ s) c = stp r c ^^^ rp 8 s := by
      unfold stp; rw [← rp_xor]; congr 1; ac_rfl
    show fld (stp (r ^^^ s) c) l = fld (stp r c) l ^^^ _
    rw [e, ih, ← rp_add]
    congr 2
theorem fld_append (r : BitVec 32) (a b : List Nat) : fld r (a ++ b) = fld (fld r a) b := by simp [fld]
theorem sumB_append (a b : List Nat) : sumB (a ++ b) = T (sumB a) (pw (8 * b.length)) ^^^ sumB b := by
  unfold sumB
  have e : fld full a = full ^^^ (fld full a ^^^ full) := by rw [BitVec.xor_comm (fld full a), xor_self_left]
  rw [fld_append, T_pw]
  conv => lhs; rw [e]
  rw [fld_xor]
  ac_rfl
def joinB (a b : BitVec 32) (n : Nat) : BitVec 32 := T a (pw (8 * n)) ^^^ b
theorem joinB_sum (a b : List Nat) : joinB (sumB a) (sumB b) b.length = sumB (a ++ b) := (sumB_append a b).symm
theorem sumB_nil : sumB [] = 0#32 := by decide

/- Parities. -/
def on : Nat → Nat → Nat
  | 0, _ => 0
  | f + 1, x => x % 2 + on f (x / 2)
theorem on_xor (f x y : Nat) : on f (x ^^^ y) % 2 = (on f x + on f y) % 2 := by
  induction f generalizing x y with
  | zero => rfl
  | succ f ih =>
    have h1 : (x ^^^ y) % 2 = (x % 2 + y % 2) % 2 := by
      have h := Nat.testBit_xor x y 0
      rw [Nat.testBit_zero, Nat.testBit_zero, Nat.testBit_zero] at h
      rcases Nat.mod_two_eq_zero_or_one x with h1 | h1 <;> rcases Nat.mod_two_eq_zero_or_one y with h2 | h2 <;> rcases Nat.mod_two_eq_zero_or_one (x ^^^ y) with h3 | h3 <;> rw [h1, h2, h3] at h <;> first | omega | (exact absurd h (by decide))
    have h2 : (x ^^^ y) / 2 = (x / 2) ^^^ (y / 2) := by
      have := Nat.shiftRight_xor_distrib (a := x) (b := y) (i := 1)
      simpa [Nat.shiftRight_eq_div_pow] using this
    simp only [on]
    rw [h2]
    have := ih (x / 2) (y / 2)
    omega
def par (x : BitVec 32) : Nat := on 32 x.toNat % 2
theorem par_xor (a b : BitVec 32) : par (a ^^^ b) = (par a + par b) % 2 := by
  unfold par; rw [BitVec.toNat_xor, on_xor]; omega
theorem par_raise (a : BitVec 32) : par (raise a) = par a := by
  refine lin_ext (fun a b => (a + b) % 2) (fun x => par (raise x)) par ?_ par_xor (by decide) (by decide +kernel) a
  intro x y
  show par (raise (x ^^^ y)) = _
  rw [raise_xor, par_xor]
theorem par_rp (n : Nat) (a : BitVec 32) : par (rp n a) = par a := by
  induction n generalizing a with
  | zero => rfl
  | succ n ih => rw [rp, ih, par_raise]
theorem par_stp (r s : BitVec 32) (c d : Nat) : par (stp r c ^^^ stp s d) = (par (r ^^^ s) + par (BitVec.ofNat 32 c ^^^ BitVec.ofNat 32 d)) % 2 := by
  unfold stp
  rw [← rp_xor, par_rp, ← par_xor]
  congr 1; ac_rfl

end Go.Proofs.Ytgfofmcgfmhaeaa.Crc
