/-
  What is proved here: the contract of the document's reader: Next tells the bytes of an item of so many, or it falls. Conditions: the bytes fit an int.
-/
import Derived.Test.YtepcfinojifecaaRead
import Derived.Deep.QuietTactic
import Derived.BigQuiet
namespace Go.Proofs.Ytepcfinojifecaa
open Go.RowKit

def Mr (w : World) (b : Nat) (A : Option Addr) (N c at_ : Nat) (fallen : Bool) : Prop := w.heap[b]? = some (.cells #[.slice A N c, .int .i64 (at_ : Int), .bool fallen] 40 (0, 0))
theorem Mr.cells {w : World} {b : Nat} {A : Option Addr} {N c at_ : Nat} {fallen : Bool} (h : Mr w b A N c at_ fallen) :
    w.cell? ⟨b, 0, none⟩ = some (.slice A N c) ∧ w.cell? ⟨b, 1, none⟩ = some (.int .i64 (at_ : Int)) ∧ w.cell? ⟨b, 2, none⟩ = some (.bool fallen) ∧ w.frozen? ⟨b, 1, none⟩ = false ∧ w.frozen? ⟨b, 2, none⟩ = false :=
  ⟨cell_of_row w b 0 _ 40 (0, 0) h, cell_of_row w b 1 _ 40 (0, 0) h, cell_of_row w b 2 _ 40 (0, 0) h, frozen_of_row w b 1 _ 40 h, frozen_of_row w b 2 _ 40 h⟩
theorem Mr.set1 {w : World} {b : Nat} {A : Option Addr} {N c at_ k : Nat} {fallen : Bool} (h : Mr w b A N c at_ fallen) : Mr (w.setCell ⟨b, 1, none⟩ (.int .i64 (k : Int))) b A N c k fallen := by
  unfold Mr; rw [heap_setCell_same w b 1 _ 40 _ h]; rfl
theorem Mr.set2 {w : World} {b : Nat} {A : Option Addr} {N c at_ : Nat} {fallen f2 : Bool} (h : Mr w b A N c at_ fallen) : Mr (w.setCell ⟨b, 2, none⟩ (.bool f2)) b A N c at_ f2 := by
  unfold Mr; rw [heap_setCell_same w b 2 _ 40 _ h]; rfl

def NextBad (w : World) (b : Nat) (A : Option Addr) (N c : Nat) (e : Ending) (w' : World) : Prop := e = .returned (.slice none 0 0) ∧ Mr w' b A N c N true ∧ w.grownBy w' (some b)

theorem only_drewN {a w : World} {row : Option Nat} (h : a.grownBy w row) (n : Nat) : a.grownBy (w.drewN n) row := ⟨h.os, h.tape, h.output, h.size, h.block⟩
theorem next_bad_end {w : World} {b : Nat} {A : Option Addr} {N c at_ : Nat} {fallen : Bool} (h : Mr w b A N c at_ fallen) (n : Nat) :
    NextBad w b A N c (.returned (.slice none 0 0)) (((w.drewN n).setCell ⟨b, 2, none⟩ (.bool true)).setCell ⟨b, 1, none⟩ (.int .i64 (N : Int))) := by
  have h0 : Mr (w.drewN n) b A N c at_ fallen := h
  exact ⟨rfl, (h0.set2 (f2 := true)).set1 (k := N), only_set (only_set (only_drewN (only_refl w (some b)) n) 2 (.bool true)) 1 (.int .i64 (N : Int))⟩

set_option maxHeartbeats 1000000 in
theorem next_fallen (b : Nat) (A : Option Addr) (N c at_ : Nat) (n : Int) (w : World) (h : Mr w b A N c at_ true) :
    Calls Try.prog 20 #[.pointer (some ⟨b, 0, none⟩), .int .i64 n] w (NextBad w b A N c) := by
  obtain ⟨c0, c1, c2, f1, f2⟩ := h.cells
  have H := Lib.hid h; clear h
  go_enter Try.func20, Try.ntmps20
  go_wp2
  go_quiet (fail)
  go_wp2
  go_ret
  exact next_bad_end H.out _
set_option maxHeartbeats 1000000 in
theorem next_neg (b : Nat) (A : Option Addr) (N c at_ : Nat) (n : Int) (w : World) (h : Mr w b A N c at_ false) (hn : n < 0) :
    Calls Try.prog 20 #[.pointer (some ⟨b, 0, none⟩), .int .i64 n] w (NextBad w b A N c) := by
  obtain ⟨c0, c1, c2, f1, f2⟩ := h.cells
  have H := Lib.hid h; clear h
  have hd : decide (n < 0) = true := by simpa using hn
  go_enter Try.func20, Try.ntmps20
  go_wp2
  go_quiet (fail)
  go_wp2
  go_ret
  exact next_bad_end H.out _
set_option maxHeartbeats 1000000 in
theorem next_far (b : Nat) (A : Option Addr) (N c at_ : Nat) (n : Int) (w : World) (h : Mr w b A N c at_ false) (h0 : 0 ≤ n) (hn : (N : Int) - (at_ : Int) < n) (hN : N ≤ 3000) (hat : at_ ≤ N) :
    Calls Try.prog 20 #[.pointer (some ⟨b, 0, none⟩), .int .i64 n] w (NextBad w b A N c) := by
  obtain ⟨c0, c1, c2, f1, f2⟩ := h.cells
  have H := Lib.hid h; clear h
  have hd : decide (n < 0) = false := by simpa using h0
  have g5 : IntKind.i64.wrap ((N : Int) - (at_ : Int)) = (N : Int) - (at_ : Int) := IntWalk.i64_in _ (by omega)
  have hd2 : decide ((N : Int) - (at_ : Int) < n) = true := by simpa using hn
  go_enter Try.func20, Try.ntmps20
  go_wp2
  go_quiet (fail)
  go_wp2
  go_ret
  exact next_bad_end H.out _

def NextOk (w : World) (b : Nat) (A : Option Addr) (N c at_ n : Nat) (x : List Nat) (e : Ending) (w' : World) : Prop :=
  ∃ (A' : Option Addr) (c' : Nat), e = .returned (.slice A' n c') ∧ At w' A' x ∧ Mr w' b A N c (at_ + n) false ∧ w.grownBy w' (some b)
theorem At.aside {w w' : World} {A : Option Addr} {l : List Nat} {b : Nat} {A2 : Option Addr} {N c at_ : Nat} {f : Bool} (h : At w A l) (hm : Mr w b A2 N c at_ f) (hg : w.grownBy w' (some b)) : At w' A l := by
  intro k x hx
  obtain ⟨h1, ad, e, h2⟩ := h k x hx
  refine ⟨h1, ad, e, ?_⟩
  rw [only_cell hg (block_lt_of_cell h2) ?_]
  · exact h2
  · intro hb
    generalize ad.add k = p at h2 hb
    obtain ⟨pb, po, ps⟩ := p
    obtain rfl : pb = b := hb
    unfold World.cell? at h2
    unfold Mr at hm
    simp only [hm] at h2
    split at h2
    · cases h2
    · rcases po with _ | _ | _ | po <;> simp at h2
theorem At.cut {w : World} {ad : Addr} {l : List Nat} (h : At w (some ad) l) (k n : Nat) : At w (some (ad.add k)) ((l.drop k).take n) := by
  intro i x hx
  rw [List.getElem?_take] at hx
  split at hx
  · rw [List.getElem?_drop] at hx
    obtain ⟨h1, bd, e, h2⟩ := h _ x hx
    cases e
    refine ⟨h1, _, rfl, ?_⟩
    have : (ad.add k).add i = ad.add (k + i) := by
      unfold Addr.add
      by_cases hk : k = 0 <;> by_cases hi : i = 0 <;> simp [hk, hi, Nat.add_assoc]
    rw [this]; exact h2
  · cases hx

set_option maxHeartbeats 1000000 in
theorem next_ok (b : Nat) (A : Option Addr) (N c at_ n : Nat) (l : List Nat) (w : World) (h : Mr w b A N c at_ false) (hl : At w A l) (hL : l.length = N) (hn : at_ + n ≤ N) (hN : N ≤ 3000) (hc : N ≤ c) (hA : A = none → c = 0) :
    Calls Try.prog 20 #[.pointer (some ⟨b, 0, none⟩), .int .i64 (n : Int)] w (NextOk w b A N c at_ n ((l.drop at_).take n)) := by
  obtain ⟨c0, c1, c2, f1, f2⟩ := h.cells
  have H := Lib.hid h; clear h
  have HL := Lib.hid hl; clear hl
  have HLL := Lib.hid hL; clear hL
  have HA := Lib.hid hA; clear hA
  have h0 : ¬ (n : Int) < 0 := by omega
  have hd : decide ((n : Int) < 0) = false := by simp
  have g5 : IntKind.i64.wrap ((N : Int) - (at_ : Int)) = (N : Int) - (at_ : Int) := IntWalk.i64_in _ (by omega)
  have hd2 : decide ((N : Int) - (at_ : Int) < (n : Int)) = false := by simp; omega
  go_enter Try.func20, Try.ntmps20
  go_wp2
  go_quiet (fail)
  clear g5 hd hd2
  go_wp2
  have hm1 : Mr ((w.drewN nq).setCell ⟨b, 1, none⟩ (.int .i64 ((at_ : Int) + (n : Int)))) b A N c (at_ + n) false := by
    have h0 : Mr (w.drewN nq) b A N c at_ false := H.out
    have := h0.set1 (k := at_ + n)
    rw [Int.natCast_add] at this; exact this
  have hg1 : w.grownBy ((w.drewN nq).setCell ⟨b, 1, none⟩ (.int .i64 ((at_ : Int) + (n : Int)))) (some b) := only_set (only_drewN (only_refl w (some b)) nq) 1 _
  have ha1 := HL.out.aside H.out hg1
  generalize (w.drewN nq).setCell ⟨b, 1, none⟩ (.int .i64 ((at_ : Int) + (n : Int))) = w1 at hm1 hg1 ha1 ⊢
  obtain ⟨e0, e1, e2, _, _⟩ := hm1.cells
  rw [Int.natCast_add] at e1
  clear c0 c1 c2 f1 f2 e2
  have HM1 := Lib.hid hm1; clear hm1
  have HG1 := Lib.hid hg1; clear hg1
  have HA1 := Lib.hid ha1; clear ha1
  rcases A with _ | ad
  · obtain rfl : c = 0 := HA.out rfl
    obtain rfl : N = 0 := by omega
    obtain rfl : at_ = 0 := by omega
    obtain rfl : n = 0 := by omega
    clear hn hN hc h0
    simp only [Int.natCast_zero, Int.add_zero, Nat.add_zero] at e1 HM1
    go_quiet (fail)
    go_wp2
    go_ret
    exact ⟨_, _, rfl, At.nil_, HM1.out, only_drewN HG1.out _⟩
  · have b1 : (0 : Int) ≤ (at_ : Int) := by omega
    have b2 : (at_ : Int) ≤ (at_ : Int) + (n : Int) := by omega
    have b3 : (at_ : Int) + (n : Int) ≤ (c : Int) := by omega
    have g5 : IntKind.i64.wrap (at_ : Int) = (at_ : Int) := IntWalk.i64_in _ (by omega)
    have g6 : ((at_ : Int) + (n : Int)).toNat = at_ + n := by omega
    by_cases hcc : c = at_
    · subst hcc
      obtain rfl : n = 0 := by omega
      clear g6 b3
      have b3 : (c : Int) ≤ (c : Int) := by omega
      simp only [Int.natCast_zero, Int.add_zero, Nat.add_zero] at e1 HM1
      go_quiet (fail)
      clear g5
      go_wp2
      go_ret
      exact ⟨_, _, rfl, by rw [List.take_zero]; exact At.nil_, HM1.out, only_drewN HG1.out _⟩
    · go_quiet (fail)
      clear g5 g6
      go_wp2
      go_ret
      exact ⟨_, _, rfl, HA1.out.cut at_ n, HM1.out, only_drewN HG1.out _⟩

end Go.Proofs.Ytepcfinojifecaa
