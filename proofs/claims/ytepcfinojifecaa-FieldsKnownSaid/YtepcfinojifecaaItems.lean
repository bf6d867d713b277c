/-
  What is proved here: words for a slice of items (a kind, a number, some bytes each), and the contract of the law's function few: are they at most so many, of at most 3000 bytes in all? Conditions: each item's bytes take at most 2^47.
-/
import Derived.Test.YtepcfinojifecaaW7
namespace Go.Proofs.Ytepcfinojifecaa
open Go.RowKit

structure It where
  kind : Nat
  n : Nat
  b : List Nat

def ItemAt (w : World) (A : Option Addr) (i : Nat) (x : It) : Prop :=
  x.kind < 256 ∧ x.n < 18446744073709551616 ∧ x.b.length ≤ 140737488355328 ∧ ∃ (bk o : Nat) (B : Option Addr) (c : Nat), A = some ⟨bk, o, none⟩ ∧
    w.cell? ⟨bk, o + i * 3, none⟩ = some (.int .u8 (x.kind : Int)) ∧ w.cell? ⟨bk, o + i * 3 + 1, none⟩ = some (.int .u64 (x.n : Int)) ∧ w.cell? ⟨bk, o + i * 3 + 2, none⟩ = some (.slice B x.b.length c) ∧ At w B x.b
def ItemsAt (w : World) (A : Option Addr) (ls : List It) : Prop := ∀ (i : Nat) (x : It), ls[i]? = some x → ItemAt w A i x
theorem ItemAt.below {w w' : World} {A : Option Addr} {i : Nat} {x : It} (h : ItemAt w A i x) (hb : Below w.heap.size w w') : ItemAt w' A i x := by
  obtain ⟨h1, h2, h3, bk, o, B, c, e, c0, c1, c2, ha⟩ := h
  exact ⟨h1, h2, h3, bk, o, B, c, e, (hb.cell (block_lt_of_cell c0)).trans c0, (hb.cell (block_lt_of_cell c1)).trans c1, (hb.cell (block_lt_of_cell c2)).trans c2, ha.below hb⟩
theorem ItemsAt.below {w w' : World} {A : Option Addr} {ls : List It} (h : ItemsAt w A ls) (hb : Below w.heap.size w w') : ItemsAt w' A ls := fun i x hx => (h i x hx).below hb

def weight (ls : List It) : Nat := ls.foldr (fun x s => (8 + x.b.length) + s) 0
theorem weight_take (ls : List It) (i : Nat) (h : i < ls.length) : weight (ls.take (i + 1)) = weight (ls.take i) + 8 + ls[i].b.length := by
  have key : ∀ (l : List It) (s : Nat), l.foldr (fun x s => (8 + x.b.length) + s) s = weight l + s := by
    intro l
    induction l with
    | nil => intro s; simp [weight]
    | cons x l ih => intro s; simp only [weight, List.foldr_cons]; rw [ih s]; simp only [weight]; omega
  rw [List.take_succ_eq_append_getElem h, weight, List.foldr_append, key]
  simp only [List.foldr_cons, List.foldr_nil]; omega
theorem weight_le (ls : List It) (n m : Nat) (h1 : ls.length ≤ n) (h : ∀ x ∈ ls, x.b.length ≤ m) : weight ls ≤ n * (8 + m) := by
  induction ls generalizing n with
  | nil => simp [weight]
  | cons x ls ih =>
    obtain ⟨k, rfl⟩ : ∃ k, n = k + 1 := ⟨n - 1, by simp at h1; omega⟩
    have h2 := ih k (by simpa using h1) (fun y hy => h y (List.mem_cons_of_mem _ hy))
    have h3 := h x (List.mem_cons_self ..)
    simp only [weight, List.foldr_cons]
    rw [Nat.succ_mul]
    simp only [weight] at h2
    omega
theorem weight_take_le (ls : List It) (i : Nat) : weight (ls.take i) ≤ weight ls := by
  induction ls generalizing i with
  | nil => simp [weight]
  | cons x ls ih =>
    cases i with
    | zero => simp [weight]
    | succ i => have := ih i; simp only [weight, List.take_succ_cons, List.foldr_cons] at this ⊢; omega
theorem ItemsAt.len {w : World} {A : Option Addr} {ls : List It} (h : ItemsAt w A ls) : ∀ x ∈ ls, x.b.length ≤ 140737488355328 := by
  intro x hx
  obtain ⟨i, hi⟩ := List.getElem?_of_mem hx
  exact (h i x hi).2.2.1

def FewRel (ls : List It) (w : World) (ex : Bool) (g : Nat) (s i : Value) (wr : World) : Prop :=
  ∃ (j : Nat) (m : Int), j + g = ls.length ∧ i = .int .i64 (j : Int) ∧ s = .int .i64 m ∧ wr = w ∧ (ex = true → m = ((weight (ls.take j) : Nat) : Int))

set_option maxHeartbeats 1000000 in
theorem few_long (A : Option Addr) (c : Nat) (ls : List It) (most : Nat) (w : World) (hl : ItemsAt w A ls) (hm : ls.length ≤ 9223372036854775807) (h : most < ls.length) :
    Calls Try.prog 9 #[.slice A ls.length c, .int .i64 (most : Int)] w fun e w' => e = .returned (.bool false) ∧ w = w' := by
  have HL := Lib.hid hl; clear hl
  go_enter Try.func9, Try.ntmps9
  go_wp2
  go_loopg [5, 6] ls.length (fun g s i wr => FewRel ls w false g s i wr)
  case atStart => exact ⟨0, 0, by omega, rfl, rfl, rfl, fun h => by cases h⟩
  case round =>
    obtain ⟨j, m, hj, rfl, rfl, rfl, _⟩ := hrel
    by_cases hlt : j < ls.length
    · obtain ⟨_, _, _, bk, o, B, d, rfl, c0, c1, c2, _⟩ := HL.out j ls[j] (List.getElem?_eq_getElem hlt)
      go_wp2
      go_roundg (gk - 1)
      case measure => omega
      case rel => exact ⟨j + 1, _, by omega, by go_num, rfl, rfl, fun h => by cases h⟩
    · obtain rfl : j = ls.length := by omega
      go_wp2
      go_ret
      exact ⟨rfl, rfl⟩

set_option maxHeartbeats 1000000 in
theorem few_in (A : Option Addr) (c : Nat) (ls : List It) (most : Nat) (w : World) (hl : ItemsAt w A ls) (hm : most ≤ 60) (h : ls.length ≤ most) :
    Calls Try.prog 9 #[.slice A ls.length c, .int .i64 (most : Int)] w fun e w' => e = .returned (.bool (decide (((weight ls : Nat) : Int) ≤ 3000))) ∧ w = w' := by
  have HL := Lib.hid hl; clear hl
  have hle := weight_le ls 60 140737488355328 (by omega) HL.out.len
  go_enter Try.func9, Try.ntmps9
  go_wp2
  go_loopg [5, 6] ls.length (fun g s i wr => FewRel ls w true g s i wr)
  case atStart => exact ⟨0, 0, by omega, rfl, rfl, rfl, fun _ => rfl⟩
  case round =>
    obtain ⟨j, m, hj, rfl, rfl, rfl, hm2⟩ := hrel
    have hm3 := hm2 rfl
    clear hm2
    by_cases hlt : j < ls.length
    · obtain ⟨_, _, _, bk, o, B, d, rfl, c0, c1, c2, _⟩ := HL.out j ls[j] (List.getElem?_eq_getElem hlt)
      have h1 := weight_take_le ls (j + 1)
      have h2 := weight_take ls j hlt
      have hs : m + 8 + (ls[j].b.length : Int) = ((weight (ls.take (j + 1)) : Nat) : Int) := by rw [h2, hm3]; omega
      have b0 : 0 ≤ m := by omega
      have b1 : m + 8 + (ls[j].b.length : Int) ≤ 9223372036854775807 := by omega
      have HS := Lib.hid hs; clear hs hm3 h1 h2
      go_wp2
      go_roundg (gk - 1)
      case measure => omega
      case rel => exact ⟨j + 1, _, by omega, by go_num, rfl, rfl, fun _ => HS.out⟩
    · obtain rfl : j = ls.length := by omega
      rw [List.take_length] at hm3
      subst hm3
      go_wp2
      go_ret
      exact ⟨rfl, rfl⟩

theorem few_yes (A : Option Addr) (c : Nat) (ls : List It) (most : Nat) (w : World) (hl : ItemsAt w A ls) (hm : most ≤ 60) (h : ls.length ≤ most) (h2 : weight ls ≤ 3000) :
    Calls Try.prog 9 #[.slice A ls.length c, .int .i64 (most : Int)] w fun e w' => e = .returned (.bool true) ∧ w = w' := by
  have := few_in A c ls most w hl hm h
  rw [decide_eq_true (by omega)] at this; exact this
theorem few_no (A : Option Addr) (c : Nat) (ls : List It) (most : Nat) (w : World) (hl : ItemsAt w A ls) (hm : most ≤ 60) (hm2 : ls.length ≤ 9223372036854775807) (h : ¬ (ls.length ≤ most ∧ weight ls ≤ 3000)) :
    Calls Try.prog 9 #[.slice A ls.length c, .int .i64 (most : Int)] w fun e w' => e = .returned (.bool false) ∧ w = w' := by
  by_cases h1 : ls.length ≤ most
  · have := few_in A c ls most w hl hm h1
    rw [decide_eq_false (by omega)] at this; exact this
  · exact few_long A c ls most w hl hm2 (by omega)

/- The bytes of an item. -/
def itb (x : It) : List Nat := if x.kind % 5 = 4 then x.b else Fld.dg (2 ^ (x.kind % 5)) x.n
theorem itb_num (x : It) (r : Nat) (h : x.kind % 5 = r) (hr : r < 4) : itb x = Fld.dg (2 ^ r) x.n := by unfold itb; rw [if_neg (by omega), h]
theorem itb_raw (x : It) (h : x.kind % 5 = 4) : itb x = x.b := by unfold itb; rw [if_pos h]
theorem itb_le (x : It) : (itb x).length ≤ 8 + x.b.length := by
  unfold itb
  split
  · omega
  · rw [Fld.dg_length]
    have h5 : x.kind % 5 < 5 := Nat.mod_lt _ (by decide)
    have : x.kind % 5 = 0 ∨ x.kind % 5 = 1 ∨ x.kind % 5 = 2 ∨ x.kind % 5 = 3 := by omega
    rcases this with h | h | h | h <;> rw [h] <;> omega
theorem kind5 (x : It) : x.kind % 5 = 0 ∨ x.kind % 5 = 1 ∨ x.kind % 5 = 2 ∨ x.kind % 5 = 3 ∨ x.kind % 5 = 4 := by omega
def all_ (ls : List It) : List Nat := (ls.map itb).flatten
theorem all_take (ls : List It) (i : Nat) (h : i < ls.length) : all_ (ls.take (i + 1)) = all_ (ls.take i) ++ itb ls[i] := by
  unfold all_
  rw [List.take_succ_eq_append_getElem h, List.map_append, List.flatten_append]; simp
theorem all_le (ls : List It) : (all_ ls).length ≤ weight ls := by
  induction ls with
  | nil => simp [all_]
  | cons x ls ih =>
    have h1 := itb_le x
    have e : all_ (x :: ls) = itb x ++ all_ ls := by simp [all_]
    rw [e, List.length_append]
    simp only [weight, List.foldr_cons] at ih ⊢
    omega

end Go.Proofs.Ytepcfinojifecaa
