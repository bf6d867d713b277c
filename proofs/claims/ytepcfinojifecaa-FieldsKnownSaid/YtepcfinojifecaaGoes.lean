/-
  What is proved here: how a reader and the document's reader go on, item by item, in one word ('Goes'), for the law FieldsWalk; and what []byte(string(b)) makes. Conditions: at most 3000 bytes.
-/
import Derived.Test.YtepcfinojifecaaNext
import Derived.Deep.QuietTactic
namespace Go.Proofs.Ytepcfinojifecaa
open Go.RowKit

theorem in_of (w : World) (bs : List Nat) (hs : ∀ x ∈ bs, x < 256) : ∃ (cap : Nat) (C : Array Value),
    (convert 9 31 (.string (str bs))).run Try.prog w = .ok (.slice (some ⟨w.heap.size, 0, none⟩) bs.length cap) (w.drew.alloc (.cells C 5 (C.size, C.size + 1))) ∧ bs.length ≤ C.size ∧ bs.length ≤ cap ∧
    ∀ (k x : Nat), bs[k]? = some x → C[k]? = some (.int .u8 (x : Int)) := by
  have h := run_bytes_of_string (P := Try.prog) w 9 31 5 (str bs) Try.underlying9 Try.underlying31 Try.underlying5
  rw [str_size] at h
  refine ⟨_, _, h, ?_, grownCap_ge _ _ _ _, ?_⟩
  · unfold bytesRow
    have : (str bs).data.size = bs.length := str_size bs
    simp [this]
  · intro k x hx
    have hk : k < bs.length := (List.getElem?_eq_some_iff.1 hx).1
    have hk2 : k < (str bs).data.size := by have : (str bs).data.size = bs.length := str_size bs; omega
    rw [bytesRow_at _ _ k hk2]
    have e : (str bs).data[k] = UInt8.ofNat x := by
      have e1 : (str bs).data[k]? = some (UInt8.ofNat x) := by simp [str, hx]
      rw [Array.getElem?_eq_getElem hk2] at e1
      injection e1
    have hx2 := hs x (List.mem_of_getElem? hx)
    rw [e, UInt8.toNat_ofNat', Nat.mod_eq_of_lt hx2]

/- A block of bytes behind which a mark stands: none of its cells is marked. -/
def Marked (w : World) (g n : Nat) : Prop := ∃ C : Array Value, w.heap[g]? = some (.cells C 5 (C.size, C.size + 1)) ∧ n ≤ C.size
theorem Marked.cell {w : World} {g n k : Nat} (h : Marked w g n) (hk : k < n) : ∃ u, w.cell? ⟨g, k, none⟩ = some u ∧ w.frozen? ⟨g, k, none⟩ = false := by
  obtain ⟨C, h1, h2⟩ := h
  have hlt : k < C.size := by omega
  refine ⟨C[k], by rw [cell_of_row w g k C 5 _ h1]; exact Array.getElem?_eq_getElem hlt, ?_⟩
  unfold World.frozen?
  simp only [h1]
  simp; omega
theorem Marked.set {w : World} {g n k : Nat} (h : Marked w g n) (v : Value) : Marked (w.setCell ⟨g, k, none⟩ v) g n := by
  obtain ⟨C, h1, h2⟩ := h
  refine ⟨C.setIfInBounds k v, ?_, by simpa using h2⟩
  rw [setCell_eq_setRow w g k C 5 _ v h1]
  have := setRow_heap w g C (C.setIfInBounds k v) 5 _ h1
  simpa using this

/- An item of so many bytes is asked for: what is told, and where they stand then. -/
def Goes (bs : List Nat) (N a : Nat) (f : Bool) (Q : Int) (X : List Nat) (a2 : Nat) (f2 : Bool) : Prop :=
  (f = false ∧ ∃ k : Nat, Q = (k : Int) ∧ a + k ≤ N ∧ X = (bs.drop a).take k ∧ a2 = a + k ∧ f2 = false) ∨ ((f = true ∨ Q < 0 ∨ (N : Int) - (a : Int) < Q) ∧ X = [] ∧ N = a2 ∧ f2 = true)
theorem goes_some (bs : List Nat) (N a : Nat) (f : Bool) (Q : Int) : ∃ X a2 f2, Goes bs N a f Q X a2 f2 := by
  cases f with
  | true => exact ⟨[], N, true, Or.inr ⟨Or.inl rfl, rfl, rfl, rfl⟩⟩
  | false =>
    by_cases h1 : Q < 0
    · exact ⟨[], N, true, Or.inr ⟨Or.inr (Or.inl h1), rfl, rfl, rfl⟩⟩
    · by_cases h2 : (N : Int) - (a : Int) < Q
      · exact ⟨[], N, true, Or.inr ⟨Or.inr (Or.inr h2), rfl, rfl, rfl⟩⟩
      · exact ⟨_, _, _, Or.inl ⟨rfl, Q.toNat, by omega, by omega, rfl, rfl, rfl⟩⟩
theorem Goes.le {bs : List Nat} {N a : Nat} {f : Bool} {Q : Int} {X : List Nat} {a2 : Nat} {f2 : Bool} (h : Goes bs N a f Q X a2 f2) : a2 ≤ N ∧ (f2 = true → a2 = N) := by
  rcases h with ⟨_, k, _, h2, _, rfl, rfl⟩ | ⟨_, _, rfl, rfl⟩
  · exact ⟨h2, fun h => by cases h⟩
  · exact ⟨Nat.le_refl _, fun _ => rfl⟩
theorem Goes.small {bs : List Nat} {N a : Nat} {f : Bool} {Q : Int} {X : List Nat} {a2 : Nat} {f2 : Bool} (h : Goes bs N a f Q X a2 f2) (hs : ∀ x ∈ bs, x < 256) : ∀ x ∈ X, x < 256 := by
  rcases h with ⟨_, k, _, _, rfl, _⟩ | ⟨_, rfl, _⟩
  · exact fun x hx => hs x (List.mem_of_mem_drop (List.mem_of_mem_take hx))
  · intro x hx; cases hx
theorem Goes.len {bs : List Nat} {N a : Nat} {f : Bool} {Q : Int} {X : List Nat} {a2 : Nat} {f2 : Bool} (h : Goes bs N a f Q X a2 f2) (k : Nat) (hQ : Q = (k : Int)) : X.length ≤ k := by
  rcases h with ⟨_, j, h1, _, rfl, _⟩ | ⟨_, rfl, _⟩
  · rw [List.length_take]; omega
  · simp

def NextGoes (w : World) (b : Nat) (A : Option Addr) (N c : Nat) (X : List Nat) (a2 : Nat) (f2 : Bool) (e : Ending) (w' : World) : Prop :=
  ∃ (A' : Option Addr) (c' : Nat), e = .returned (.slice A' X.length c') ∧ At w' A' X ∧ Mr w' b A N c a2 f2 ∧ w.grownBy w' (some b)
theorem next_goes (b : Nat) (A : Option Addr) (N c a : Nat) (f : Bool) (Q : Int) (bs X : List Nat) (a2 : Nat) (f2 : Bool) (w : World) (h : Mr w b A N c a f) (hl : At w A bs) (hL : bs.length = N) (ha : a ≤ N) (hN : N ≤ 3000) (hc : N ≤ c) (hA : A = none → c = 0) (hg : Goes bs N a f Q X a2 f2) :
    Calls Try.prog 20 #[.pointer (some ⟨b, 0, none⟩), .int .i64 Q] w (NextGoes w b A N c X a2 f2) := by
  rcases hg with ⟨rfl, k, rfl, h2, rfl, rfl, rfl⟩ | ⟨h1, rfl, rfl, rfl⟩
  · refine (next_ok b A N c a k bs w h hl hL h2 hN hc hA).mono ?_
    rintro e w' ⟨A', c', rfl, q1, q2, q3⟩
    exact ⟨A', c', by rw [List.length_take, List.length_drop, Nat.min_eq_left (by omega)], q1, q2, q3⟩
  · have fin : ∀ (e : Ending) (w' : World), NextBad w b A N c e w' → NextGoes w b A N c [] N true e w' := by
      rintro e w' ⟨rfl, q1, q2⟩
      exact ⟨none, 0, rfl, At.nil_, q1, q2⟩
    cases f with
    | true => exact (next_fallen b A N c a Q w h).mono fin
    | false =>
      rcases h1 with h1 | h1 | h1
      · cases h1
      · exact (next_neg b A N c a Q w h h1).mono fin
      · by_cases h0 : Q < 0
        · exact (next_neg b A N c a Q w h h0).mono fin
        · exact (next_far b A N c a Q w h (by omega) h1 hN ha).mono fin

def RawGoes (w : World) (lo b : Nat) (bs X : List Nat) (a2 : Nat) (f2 : Bool) (e : Ending) (w' : World) : Prop :=
  ∃ g, e = .returned (.slice (some ⟨g, 0, none⟩) X.length X.length) ∧ w.heap.size ≤ g ∧ Row w' g X ∧ Rd w' lo b (bs.drop a2) f2 ∧ w.grownBy w' (some b)
theorem raw_goes (lo b N a : Nat) (f : Bool) (Q : Int) (bs X : List Nat) (a2 : Nat) (f2 : Bool) (w : World) (h : Rd w lo b (bs.drop a) f) (hL : bs.length = N) (ha : a ≤ N) (hf : f = true → a = N) (hN : N ≤ 3000) (hg : Goes bs N a f Q X a2 f2) :
    Calls Try.prog 19 #[.pointer (some ⟨b, 0, none⟩), .int .i64 Q] w (RawGoes w lo b bs X a2 f2) := by
  rcases hg with ⟨rfl, k, rfl, h2, rfl, rfl, rfl⟩ | ⟨h1, rfl, rfl, rfl⟩
  · refine (rdRaw lo b k _ _ false w rfl h (by rw [List.length_drop]; omega) (by omega)).mono ?_
    rintro e w' ⟨g, rfl, q1, q2, q3, q4⟩
    have hl : ((bs.drop a).take k).length = k := by rw [List.length_take, List.length_drop, Nat.min_eq_left (by omega)]
    rw [List.drop_drop] at q3
    exact ⟨g, by rw [hl], q1, q2, q3, q4⟩
  · have hz : bs.drop N = [] := List.drop_eq_nil_of_le (by omega)
    by_cases h0 : f = true ∧ Q = 0
    · obtain ⟨rfl, rfl⟩ := h0
      obtain rfl := hf rfl
      rw [hz] at h
      refine (rdRaw lo b 0 _ _ true w rfl h (by simp) (by omega)).mono ?_
      rintro e w' ⟨g, rfl, q1, q2, q3, q4⟩
      exact ⟨g, rfl, q1, q2, by rw [hz]; exact q3, q4⟩
    · refine (rdRaw_bad lo b Q _ f w h ?_).mono ?_
      · rw [List.length_drop, hL]
        cases f with
        | false => rcases h1 with h1 | h1 | h1 <;> first | (cases h1; done) | omega
        | true =>
          have := hf rfl
          have : Q ≠ 0 := fun e => h0 ⟨rfl, e⟩
          omega
      · rintro e w' ⟨g, rfl, q1, q2, q3, q4⟩
        exact ⟨g, rfl, q1, q2, by rw [hz]; exact q3, q4⟩

theorem num8_goes (lo b N a : Nat) (f : Bool) (bs X : List Nat) (a2 : Nat) (f2 : Bool) (w : World) (h : Rd w lo b (bs.drop a) f) (hL : bs.length = N) (ha : a ≤ N) (hf : f = true → a = N) (hg : Goes bs N a f 1 X a2 f2) :
    Calls Try.prog 15 #[.pointer (some ⟨b, 0, none⟩)] w fun e w' => e = .returned (.int .u8 ((Fld.num X : Nat) : Int)) ∧ Rd w' lo b (bs.drop a2) f2 ∧ w.grownBy w' (some b) := by
  rcases hg with ⟨rfl, k, hk, h2, rfl, rfl, rfl⟩ | ⟨h1, rfl, rfl, rfl⟩
  · obtain rfl : k = 1 := by omega
    refine (rd8 lo b _ false w h (by rw [List.length_drop]; omega)).mono ?_
    rintro e w' ⟨rfl, q1, q2⟩
    rw [List.drop_drop] at q1
    exact ⟨rfl, q1, q2⟩
  · have hz : bs.drop N = [] := List.drop_eq_nil_of_le (by omega)
    refine (rd8_bad lo b _ f w h ?_).mono ?_
    · rw [List.length_drop, hL]
      cases f with
      | false => rcases h1 with h1 | h1 | h1 <;> first | (cases h1; done) | omega
      | true => have := hf rfl; omega
    · rintro e w' ⟨rfl, q1, q2⟩
      exact ⟨rfl, by rw [hz]; exact q1, q2⟩
theorem num16_goes (lo b N a : Nat) (f : Bool) (bs X : List Nat) (a2 : Nat) (f2 : Bool) (w : World) (h : Rd w lo b (bs.drop a) f) (hL : bs.length = N) (ha : a ≤ N) (hf : f = true → a = N) (hg : Goes bs N a f 2 X a2 f2) :
    Calls Try.prog 16 #[.pointer (some ⟨b, 0, none⟩)] w fun e w' => e = .returned (.int .u16 ((Fld.num X : Nat) : Int)) ∧ Rd w' lo b (bs.drop a2) f2 ∧ w.grownBy w' (some b) := by
  rcases hg with ⟨rfl, k, hk, h2, rfl, rfl, rfl⟩ | ⟨h1, rfl, rfl, rfl⟩
  · obtain rfl : k = 2 := by omega
    refine (rd16 lo b _ false w h (by rw [List.length_drop]; omega)).mono ?_
    rintro e w' ⟨rfl, q1, q2⟩
    rw [List.drop_drop] at q1
    exact ⟨rfl, q1, q2⟩
  · have hz : bs.drop N = [] := List.drop_eq_nil_of_le (by omega)
    refine (rd16_bad lo b _ f w h ?_).mono ?_
    · rw [List.length_drop, hL]
      cases f with
      | false => rcases h1 with h1 | h1 | h1 <;> first | (cases h1; done) | omega
      | true => have := hf rfl; omega
    · rintro e w' ⟨rfl, q1, q2⟩
      exact ⟨rfl, by rw [hz]; exact q1, q2⟩
theorem num32_goes (lo b N a : Nat) (f : Bool) (bs X : List Nat) (a2 : Nat) (f2 : Bool) (w : World) (h : Rd w lo b (bs.drop a) f) (hL : bs.length = N) (ha : a ≤ N) (hf : f = true → a = N) (hg : Goes bs N a f 4 X a2 f2) :
    Calls Try.prog 17 #[.pointer (some ⟨b, 0, none⟩)] w fun e w' => e = .returned (.int .u32 ((Fld.num X : Nat) : Int)) ∧ Rd w' lo b (bs.drop a2) f2 ∧ w.grownBy w' (some b) := by
  rcases hg with ⟨rfl, k, hk, h2, rfl, rfl, rfl⟩ | ⟨h1, rfl, rfl, rfl⟩
  · obtain rfl : k = 4 := by omega
    refine (rd32 lo b _ false w h (by rw [List.length_drop]; omega)).mono ?_
    rintro e w' ⟨rfl, q1, q2⟩
    rw [List.drop_drop] at q1
    exact ⟨rfl, q1, q2⟩
  · have hz : bs.drop N = [] := List.drop_eq_nil_of_le (by omega)
    refine (rd32_bad lo b _ f w h ?_).mono ?_
    · rw [List.length_drop, hL]
      cases f with
      | false => rcases h1 with h1 | h1 | h1 <;> first | (cases h1; done) | omega
      | true => have := hf rfl; omega
    · rintro e w' ⟨rfl, q1, q2⟩
      exact ⟨rfl, by rw [hz]; exact q1, q2⟩
theorem num64_goes (lo b N a : Nat) (f : Bool) (bs X : List Nat) (a2 : Nat) (f2 : Bool) (w : World) (h : Rd w lo b (bs.drop a) f) (hL : bs.length = N) (ha : a ≤ N) (hf : f = true → a = N) (hg : Goes bs N a f 8 X a2 f2) :
    Calls Try.prog 18 #[.pointer (some ⟨b, 0, none⟩)] w fun e w' => e = .returned (.int .u64 ((Fld.num X : Nat) : Int)) ∧ Rd w' lo b (bs.drop a2) f2 ∧ w.grownBy w' (some b) := by
  rcases hg with ⟨rfl, k, hk, h2, rfl, rfl, rfl⟩ | ⟨h1, rfl, rfl, rfl⟩
  · obtain rfl : k = 8 := by omega
    refine (rd64 lo b _ false w h (by rw [List.length_drop]; omega)).mono ?_
    rintro e w' ⟨rfl, q1, q2⟩
    rw [List.drop_drop] at q1
    exact ⟨rfl, q1, q2⟩
  · have hz : bs.drop N = [] := List.drop_eq_nil_of_le (by omega)
    refine (rd64_bad lo b _ f w h ?_).mono ?_
    · rw [List.length_drop, hL]
      cases f with
      | false => rcases h1 with h1 | h1 | h1 <;> first | (cases h1; done) | omega
      | true => have := hf rfl; omega
    · rintro e w' ⟨rfl, q1, q2⟩
      exact ⟨rfl, by rw [hz]; exact q1, q2⟩

theorem Rd.same {w w' : World} {lo b : Nat} {l : List Nat} {bad : Bool} (h : Rd w lo b l bad) (e : w'.heap = w.heap) : Rd w' lo b l bad := h.kept fun k _ _ => by rw [e]
theorem bad_same (lo b : Nat) (l : List Nat) (bad : Bool) (w : World) (h : Rd w lo b l bad) :
    Calls Try.prog 22 #[.pointer (some ⟨b, 0, none⟩)] w fun e w' => e = .returned (.bool bad) ∧ w' = w := (bad_any lo b l bad w h).mono fun _ _ ⟨h1, h2⟩ => ⟨h1, h2.symm⟩
theorem left_same (lo b K : Nat) (l : List Nat) (bad : Bool) (w : World) (h : Rd w lo b l bad) (hK : l.length = K) :
    Calls Try.prog 23 #[.pointer (some ⟨b, 0, none⟩)] w fun e w' => e = .returned (.int .i64 (K : Int)) ∧ w' = w := by
  subst hK; exact (left_any lo b l bad w h).mono fun _ _ ⟨h1, h2⟩ => ⟨h1, h2.symm⟩

end Go.Proofs.Ytepcfinojifecaa
