/-
  What is proved here: contracts of fields.Open, of fields.take, and of a Reader's Byte, Short, Word, Long, Raw, Left and Bad: what is read begins where the reader stands; or it falls. Conditions: what is opened takes at most 2^47 bytes.
-/
import Derived.Test.YtfbfckdabbaocaaQbFW2
namespace Go.Proofs.Ytfbfckdabbaocaa.Fd
open Go.RowKit
theorem two_cell (w : World) (b : Nat) (x y : Value) (t : TypeId) (h : w.heap[b]? = some (.cells #[x, y] t (0, 0))) :
    w.cell? ⟨b, 0, none⟩ = some x ∧ w.cell? ⟨b, 1, none⟩ = some y ∧ w.frozen? ⟨b, 0, none⟩ = false ∧ w.frozen? ⟨b, 1, none⟩ = false :=
  ⟨cell_of_row w b 0 _ t (0, 0) h, cell_of_row w b 1 _ t (0, 0) h, frozen_of_row w b 0 _ t h, frozen_of_row w b 1 _ t h⟩
theorem two_set0 {w : World} {b : Nat} {x y u : Value} {t : TypeId} (h : w.heap[b]? = some (.cells #[x, y] t (0, 0))) : (w.setCell ⟨b, 0, none⟩ u).heap[b]? = some (.cells #[u, y] t (0, 0)) := by
  rw [heap_setCell_same w b 0 _ t u h]; rfl
theorem two_set1 {w : World} {b : Nat} {x y u : Value} {t : TypeId} (h : w.heap[b]? = some (.cells #[x, y] t (0, 0))) : (w.setCell ⟨b, 1, none⟩ u).heap[b]? = some (.cells #[x, u] t (0, 0)) := by
  rw [heap_setCell_same w b 1 _ t u h]; rfl
set_option maxHeartbeats 400000 in
theorem open_any (A : Option Addr) (c : Nat) (l : List Nat) (w : World) (hn : l.length ≤ 140737488355328) (hl : At w A l) :
    Calls Try.prog 39 #[.slice A l.length c] w fun e w' => ∃ b, e = .returned (.pointer (some ⟨b, 0, none⟩)) ∧ Rd w' w.heap.size b l false ∧ Below w.heap.size w w' ∧ b + 1 = w'.heap.size := by
  have HL := Lib.hid hl; clear hl
  go_enter Try.func39, Try.ntmps39
  go_wp2_with fail
  refine (copied_at A c l w hn HL.out).mono ?_
  rintro e w1 ⟨rfl, hr, hb⟩
  have HR := Lib.hid hr; clear hr
  have HB := Lib.hid hb; clear hb
  go_wp2
  go_ret
  have hlt := HR.out.lt
  refine ⟨w1.heap.size, rfl, ⟨HB.out.size, by omega, Or.inr ⟨w.heap.size, 0, Nat.le_refl _, hlt, heap_alloc_new _ _, ?_⟩⟩, HB.out.alloc HB.out.size _, by simp⟩
  have := (HR.out.at_ HL.out.small)
  exact this.below ((Below.refl _ _).alloc (Nat.le_refl _) _)
set_option maxHeartbeats 400000 in
theorem bad_any (lo b : Nat) (l : List Nat) (bad : Bool) (w : World) (h : Rd w lo b l bad) :
    Calls Try.prog 44 #[.pointer (some ⟨b, 0, none⟩)] w fun e w' => e = .returned (.bool bad) ∧ w = w' := by
  have hc : w.cell? ⟨b, 1, none⟩ = some (.bool bad) := by
    obtain ⟨_, _, h2 | ⟨g, o, _, _, h5, _⟩⟩ := h
    · exact (two_cell _ _ _ _ _ h2.2).2.1
    · exact (two_cell _ _ _ _ _ h5).2.1
  clear h
  go_enter Try.func44, Try.ntmps44
  go_wp2
  go_ret
  exact ⟨rfl, rfl⟩
set_option maxHeartbeats 400000 in
theorem left_any (lo b : Nat) (l : List Nat) (bad : Bool) (w : World) (h : Rd w lo b l bad) :
    Calls Try.prog 46 #[.pointer (some ⟨b, 0, none⟩)] w fun e w' => e = .returned (.int .i64 (l.length : Int)) ∧ w = w' := by
  obtain ⟨_, _, h2 | ⟨g, o, _, _, h5, _⟩⟩ := h
  · obtain ⟨rfl, h2⟩ := h2
    have hc := (two_cell _ _ _ _ _ h2).1
    clear h2
    go_enter Try.func46, Try.ntmps46
    go_wp2
    go_ret
    exact ⟨rfl, rfl⟩
  · have hc := (two_cell _ _ _ _ _ h5).1
    clear h5
    go_enter Try.func46, Try.ntmps46
    go_wp2
    go_ret
    exact ⟨rfl, rfl⟩
def Took (w' : World) (lo b : Nat) (v : Value) (x : List Nat) : Prop := ∃ (A : Option Addr) (c : Nat), v = .slice A x.length c ∧ At w' A x ∧ (∀ ad, A = some ad → lo ≤ ad.block ∧ ad.block < b)
theorem fall_end {w : World} {lo b : Nat} {l : List Nat} {bad : Bool} (h : Rd w lo b l bad) :
    ∃ x, w.heap[b]? = some (.cells #[.slice x l.length l.length, .bool bad] 110 (0, 0)) := by
  obtain ⟨_, _, h2 | ⟨g, o, _, _, h5, _⟩⟩ := h
  · obtain ⟨rfl, h2⟩ := h2; exact ⟨_, h2⟩
  · exact ⟨_, h5⟩
set_option maxHeartbeats 1000000 in
theorem take_bad (lo b : Nat) (l : List Nat) (bad : Bool) (n : Int) (w : World) (h : Rd w lo b l bad) (hn : n < 0 ∨ (l.length : Int) < n) :
    Calls Try.prog 79 #[.pointer (some ⟨b, 0, none⟩), .int .i64 n] w fun e w' => e = .returned (.slice none 0 0) ∧ Rd w' lo b [] true ∧ w.grownBy w' (some b) := by
  have hlo : lo ≤ b := h.1
  obtain ⟨A, hA⟩ := fall_end h
  obtain ⟨c0, c1, f0, f1⟩ := two_cell _ _ _ _ _ hA
  have HA := Lib.hid hA; clear hA h
  have hfin : Rd ((w.setCell ⟨b, 0, none⟩ (.slice none 0 0)).setCell ⟨b, 1, none⟩ (.bool true)) lo b [] true ∧ w.grownBy ((w.setCell ⟨b, 0, none⟩ (.slice none 0 0)).setCell ⟨b, 1, none⟩ (.bool true)) (some b) :=
    ⟨⟨hlo, by simp, Or.inl ⟨rfl, two_set1 (two_set0 HA.out)⟩⟩, only_set (only_set (only_refl _ _) 0 _) 1 _⟩
  have HF := Lib.hid hfin; clear hfin
  by_cases hneg : n < 0
  · clear hn
    go_enter Try.func79, Try.ntmps79
    go_wp2
    go_ret
    exact ⟨rfl, HF.out⟩
  · have hgt : (l.length : Int) < n := by omega
    clear hn
    go_enter Try.func79, Try.ntmps79
    go_wp2
    go_ret
    exact ⟨rfl, HF.out⟩
theorem rd_after {w : World} {lo b g o : Nat} {l : List Nat} {bad : Bool} (hlo : lo ≤ b) (hm : l.length ≤ 9223372036854775807) (h3 : lo ≤ g) (h4 : g < b) (h5 : w.heap[b]? = some (.cells #[.slice (some ⟨g, o, none⟩) l.length l.length, .bool bad] 110 (0, 0)))
    (h6 : At w (some ⟨g, o, none⟩) l) (n o' : Nat) (hn : n ≤ l.length) (ho : n < l.length → o' = o + n) (L : Nat) (hL : L = l.length - n) :
    Rd (w.setCell ⟨b, 0, none⟩ (.slice (some ⟨g, o', none⟩) L L)) lo b (l.drop n) bad ∧ Took (w.setCell ⟨b, 0, none⟩ (.slice (some ⟨g, o', none⟩) L L)) lo b (.slice (some ⟨g, o, none⟩) n l.length) (l.take n) ∧ w.grownBy (w.setCell ⟨b, 0, none⟩ (.slice (some ⟨g, o', none⟩) L L)) (some b) := by
  have hgr := only_set (only_refl w (some b)) 0 (.slice (some ⟨g, o', none⟩) L L)
  have hat : ∀ (x : List Nat) (q : Nat), At w (some ⟨g, q, none⟩) x → At (w.setCell ⟨b, 0, none⟩ (.slice (some ⟨g, o', none⟩) L L)) (some ⟨g, q, none⟩) x := by
    intro x q hx k y hy
    obtain ⟨q1, ad, e, q3⟩ := hx k y hy
    cases e
    refine ⟨q1, _, rfl, ?_⟩
    rw [only_cell hgr (block_lt_of_cell q3) (by rw [add_block]; show g ≠ b; omega)]
    exact q3
  have hdl : (l.drop n).length = L := by rw [List.length_drop, hL]
  refine ⟨⟨hlo, by rw [hdl]; omega, Or.inr ⟨g, o', h3, h4, by rw [hdl]; exact two_set0 h5, ?_⟩⟩, ⟨_, _, by rw [List.length_take, Nat.min_eq_left hn], hat _ _ (h6.take n), fun ad e => by cases e; exact ⟨h3, h4⟩⟩, hgr⟩
  rcases Nat.lt_or_ge n l.length with hlt | hge
  · exact hat _ _ (by rw [ho hlt]; exact h6.drop n)
  · rw [List.drop_eq_nil_of_le hge]; exact At.nil_
set_option maxHeartbeats 1000000 in
theorem take_ok (lo b n : Nat) (l : List Nat) (bad : Bool) (w : World) (h : Rd w lo b l bad) (hn : n ≤ l.length) :
    Calls Try.prog 79 #[.pointer (some ⟨b, 0, none⟩), .int .i64 (n : Int)] w fun e w' => ∃ v, e = .returned v ∧ Took w' lo b v (l.take n) ∧ Rd w' lo b (l.drop n) bad ∧ w.grownBy w' (some b) := by
  obtain ⟨hlo, hm, h2 | ⟨g, o, h3, h4, h5, h6⟩⟩ := h
  · obtain ⟨rfl, h2⟩ := h2
    obtain rfl : n = 0 := by simpa using hn
    obtain ⟨c0, c1, f0, f1⟩ := two_cell _ _ _ _ _ h2
    have H2 := Lib.hid h2; clear h2 hn
    go_enter Try.func79, Try.ntmps79
    go_wp2
    go_ret
    refine ⟨_, rfl, ⟨none, 0, rfl, At.nil_, fun ad e => by cases e⟩, ⟨hlo, by simp, Or.inl ⟨rfl, two_set0 H2.out⟩⟩, only_set (only_refl _ _) 0 _⟩
  · obtain ⟨N, hN⟩ : ∃ N, N = l.length := ⟨_, rfl⟩
    obtain ⟨c0, c1, f0, f1⟩ := two_cell _ _ _ _ _ h5
    rw [← hN] at hm hn c0
    have HF := fun (o' : Nat) (ho : n < l.length → o' = o + n) (L : Nat) (hL : L = l.length - n) => rd_after hlo (by rw [← hN]; exact hm) h3 h4 h5 h6 n o' (by rw [← hN]; exact hn) ho L hL
    rw [← hN] at HF
    have HFF := Lib.hid HF; clear HF h5 h6
    have HN := Lib.hid hN; clear hN
    rcases Nat.lt_or_ge n N with hlt | hge
    · have hne : ¬ N = n := by omega
      have b1 : (n : Int) ≤ (N : Int) := by omega
      go_enter Try.func79, Try.ntmps79
      go_wp2
      go_ret
      obtain ⟨r1, r2, r3⟩ := HFF.out (o + n) (fun _ => rfl) (N - n) rfl
      exact ⟨_, rfl, r2, r1, r3⟩
    · obtain rfl : n = N := by omega
      clear hge
      have b1 : (n : Int) ≤ (n : Int) := by omega
      go_enter Try.func79, Try.ntmps79
      go_wp2
      go_ret
      obtain ⟨r1, r2, r3⟩ := HFF.out o (fun h => absurd h (Nat.lt_irrefl _)) 0 (by omega)
      exact ⟨_, rfl, r2, r1, r3⟩
end Go.Proofs.Ytfbfckdabbaocaa.Fd
