/-
  What is proved here: the walk of the law FieldsHalves: of any number the law's function returns true, and no block that was there has changed.
-/
import Derived.Test.YtepcfinojifecaaW7
namespace Go.Proofs.Ytepcfinojifecaa
open Go.RowKit

theorem Wr.writes {w w' : World} {lo b lo' c : Nat} {l l' : List Nat} (h : Wr w lo b l) (hr : Wr w lo' c l') (hne : c ≠ b) (hg : w.grownBy w' (some c)) : Wr w' lo b l := by
  obtain ⟨_, q, _, hA, _⟩ := hr
  have key : ∀ (k : Nat) (cs : Array Value) (t : TypeId), w.heap[k]? = some (Obj.cells cs t (0, 0)) → t ≠ 28 → w'.heap[k]? = w.heap[k]? := by
    intro k cs t hk ht
    refine hg.block k (lt_of_block hk) (fun e => ?_)
    injection e with e
    subst e
    rw [hA] at hk
    injection hk with hk
    injection hk with _ hk
    exact ht hk.symm
  obtain ⟨h0, p, ps, h1, h2, h3⟩ := h
  exact ⟨h0, p, ps, (hg.block b (lt_of_block h1) (fun e => by injection e with e; exact hne e.symm)).trans h1, h2.typed (fun k cs t hk ht => key k cs t hk (by rcases ht with rfl | rfl <;> decide)), h3⟩

theorem wrl8 (lo b n : Nat) (q : Int) (l : List Nat) (w : World) (hq : q = (n : Int)) (h : Wr w lo b l) (hn : n < 256) (hlo : lo ≤ w.heap.size) (hm : l.length + 1 ≤ 9223372036854775807) :
    Calls Try.prog 26 #[.pointer (some ⟨b, 0, none⟩), .int .u8 q] w fun e w' => e = .returned (.tuple #[]) ∧ Wr w' lo b (l ++ Fld.dg 1 n) ∧ w.grownBy w' (some b) := by
  subst hq; exact wr8 lo b n l w h hn hlo hm
theorem wrl16 (lo b n : Nat) (q : Int) (l : List Nat) (w : World) (hq : q = (n : Int)) (h : Wr w lo b l) (hn : n < 65536) (hlo : lo ≤ w.heap.size) (hm : l.length + 2 ≤ 9223372036854775807) :
    Calls Try.prog 27 #[.pointer (some ⟨b, 0, none⟩), .int .u16 q] w fun e w' => e = .returned (.tuple #[]) ∧ Wr w' lo b (l ++ Fld.dg 2 n) ∧ w.grownBy w' (some b) := by
  subst hq; exact wr16 lo b n l w h hn hlo hm
theorem wrl32 (lo b n : Nat) (q : Int) (l : List Nat) (w : World) (hq : q = (n : Int)) (h : Wr w lo b l) (hn : n < 4294967296) (hlo : lo ≤ w.heap.size) (hm : l.length + 4 ≤ 9223372036854775807) :
    Calls Try.prog 28 #[.pointer (some ⟨b, 0, none⟩), .int .u32 q] w fun e w' => e = .returned (.tuple #[]) ∧ Wr w' lo b (l ++ Fld.dg 4 n) ∧ w.grownBy w' (some b) := by
  subst hq; exact wr32 lo b n l w h hn hlo hm
theorem wrl64 (lo b n : Nat) (q : Int) (l : List Nat) (w : World) (hq : q = (n : Int)) (h : Wr w lo b l) (hn : n < 18446744073709551616) (hlo : lo ≤ w.heap.size) (hm : l.length + 8 ≤ 9223372036854775807) :
    Calls Try.prog 25 #[.pointer (some ⟨b, 0, none⟩), .int .u64 q] w fun e w' => e = .returned (.tuple #[]) ∧ Wr w' lo b (l ++ Fld.dg 8 n) ∧ w.grownBy w' (some b) := by
  subst hq; exact wr64 lo b n l w h hn hlo hm

/- Out of a writer to which something was put, and a reader of it. -/
theorem out_some (lo b : Nat) (l : List Nat) (w : World) (h : Wr w lo b l) (hne : l ≠ []) (hm : l.length ≤ 140737488355328) :
    Calls Try.prog 12 #[.pointer (some ⟨b, 0, none⟩)] w fun e w' => e = .returned (.slice (some ⟨w.heap.size, 0, none⟩) l.length l.length) ∧ Row w' w.heap.size l ∧ Below w.heap.size w w' := by
  refine (out_any lo b l w h hm).mono ?_
  rintro e w' ⟨v, rfl, ho, hb⟩
  rcases ho with ⟨h, _⟩ | ⟨rfl, hr⟩
  · exact absurd h hne
  · exact ⟨rfl, hr, hb⟩
theorem dg_ne (k n : Nat) : Fld.dg (k + 1) n ≠ [] := by intro e; have := congrArg List.length e; rw [Fld.dg_length] at this; cases this

theorem or_at (i n x m : Nat) (hm : m = 2 ^ i) (h1 : n * m < 18446744073709551616) (h2 : x < m) (h3 : m ≤ 18446744073709551616) : bits .or .u64 ((n : Int) * (m : Int)) (x : Int) = ((n * m + x : Nat) : Int) := by
  have e : (n : Int) * (m : Int) = ((n * m : Nat) : Int) := by rw [Int.natCast_mul]
  rw [e, u64_or_nat _ _ h1 (by omega)]
  have := Nat.shiftLeft_add_eq_or_of_lt (b := x) (i := i) (by omega) n
  rw [Nat.shiftLeft_eq, ← hm] at this
  rw [this]

theorem num_halves (n : Nat) (hn : n < 18446744073709551616) : Fld.num ((Fld.dg 8 n).take 4) = n / 4294967296 ∧ Fld.num (((Fld.dg 8 n).drop 4).take 4) = n % 4294967296 ∧ ((Fld.dg 8 n).drop 4).drop 4 = [] := by
  have h := Fld.dg_add 4 4 n
  have l1 := Fld.dg_length 4 (n / 256 ^ 4)
  have l2 := Fld.dg_length 4 n
  have e : (256 : Nat) ^ 4 = 4294967296 := by decide
  have t1 : (Fld.dg 4 (n / 256 ^ 4) ++ Fld.dg 4 n).take 4 = Fld.dg 4 (n / 256 ^ 4) := by rw [List.take_append_of_le_length (by omega), List.take_of_length_le (by omega)]
  have t2 : (Fld.dg 4 (n / 256 ^ 4) ++ Fld.dg 4 n).drop 4 = Fld.dg 4 n := by rw [List.drop_append_of_le_length (by omega), List.drop_eq_nil_of_le (by omega), List.nil_append]
  rw [show (8 : Nat) = 4 + 4 from rfl, h, t1, t2, List.take_of_length_le (by omega), Fld.num_dg, Fld.num_dg, List.drop_eq_nil_of_le (by omega), e]
  exact ⟨Nat.mod_eq_of_lt (by omega), rfl, rfl⟩
theorem num_step (D : List Nat) (i k : Nat) (hl : i + k ≤ D.length) : Fld.num (D.take (i + k)) = Fld.num (D.take i) * 256 ^ k + Fld.num ((D.drop i).take k) := by
  have : D.take (i + k) = D.take i ++ (D.drop i).take k := by rw [List.take_add]
  rw [this, Fld.num_append]
  congr 3
  rw [List.length_take, List.length_drop]; omega
theorem num_small (D : List Nat) (k : Nat) (hs : ∀ x ∈ D, x < 256) (hl : D.length = 8) (hk : k ≤ 8) : Fld.num (D.take k) < 256 ^ k := by
  have := Fld.num_lt (D.take k) (fun y hy => hs y (List.mem_of_mem_take hy))
  rw [List.length_take, hl, Nat.min_eq_left hk] at this; exact this
theorem num_part (D : List Nat) (i k : Nat) (hs : ∀ x ∈ D, x < 256) (hl : i + k ≤ D.length) : Fld.num ((D.drop i).take k) < 256 ^ k := by
  have := Fld.num_lt ((D.drop i).take k) (fun y hy => hs y (List.mem_of_mem_drop (List.mem_of_mem_take hy)))
  rw [List.length_take, List.length_drop, Nat.min_eq_left (by omega)] at this; exact this
theorem dg_parts (n : Nat) : Fld.dg 4 (n / 4294967296) ++ Fld.dg 2 (n / 65536 % 65536) ++ Fld.dg 1 (n / 256 % 256) ++ Fld.dg 1 (n % 256) = Fld.dg 8 n := by
  have h1 := Fld.dg_add 4 4 n
  have h2 := Fld.dg_add 2 2 n
  have h3 := Fld.dg_add 1 1 n
  have m1 := Fld.dg_mod 2 2 (n / 65536) (by omega)
  have m2 := Fld.dg_mod 1 1 (n / 256) (by omega)
  have m3 := Fld.dg_mod 1 1 n (by omega)
  have e4 : (256 : Nat) ^ 4 = 4294967296 := by decide
  have e2 : (256 : Nat) ^ 2 = 65536 := by decide
  have e1 : (256 : Nat) ^ 1 = 256 := by decide
  rw [e4] at h1
  rw [e2] at h2 m1
  rw [e1] at h3 m2 m3
  rw [m1, m2, m3, List.append_assoc, List.append_assoc, ← h3]
  show Fld.dg 4 (n / 4294967296) ++ (Fld.dg 2 (n / 65536) ++ Fld.dg (1 + 1) n) = Fld.dg (4 + 4) n
  rw [h1]
  congr 1
  exact h2.symm

end Go.Proofs.Ytepcfinojifecaa
