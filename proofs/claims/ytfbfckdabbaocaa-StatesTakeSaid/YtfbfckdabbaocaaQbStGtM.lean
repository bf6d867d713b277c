/-
  What is proved here: contracts of a Reader's Byte, Short, Word and Long, whether there are so many bytes or not; plain facts on one entry more. Condition: what is opened takes at most 2^47 bytes.
-/
import Derived.Test.YtfbfckdabbaocaaQbStR5x
import Derived.Test.YtfbfckdabbaocaaQbFW5
namespace Go.Proofs.Ytfbfckdabbaocaa.St
open Go.RowKit Gr Wd Ws Fx Rk Lb Al In
open Sq (BAt BOwn QOwn bls)
open Fld (dg num)
def rv (k : Nat) (l : List Nat) : Nat := if k ≤ l.length then num (l.take k) else 0
def rl (k : Nat) (l : List Nat) : List Nat := if k ≤ l.length then l.drop k else []
def rb (k : Nat) (l : List Nat) (bad : Bool) : Bool := if k ≤ l.length then bad else true
theorem rv_lt {k : Nat} {l : List Nat} (h : ∀ x ∈ l, x < 256) : rv k l < 256 ^ k := by
  unfold rv
  split
  · rename_i hk
    have := num_fit h 0 k (by omega)
    rwa [List.drop_zero] at this
  · exact Nat.pow_pos (by decide)
theorem rl_small {k : Nat} {l : List Nat} (h : ∀ x ∈ l, x < 256) : ∀ x ∈ rl k l, x < 256 := by
  unfold rl
  split
  · exact fun x hx => h x (List.mem_of_mem_drop hx)
  · exact fun x hx => by cases hx
theorem rb_true (k : Nat) (l : List Nat) : rb k l true = true := by unfold rb; split <;> rfl
theorem word_u (lo b : Nat) (l : List Nat) (bad : Bool) (w : World) (h : Fd.Rd w lo b l bad) :
    Calls Try.prog 40 #[.pointer (some ⟨b, 0, none⟩)] w fun e w' => e = .returned (.int .u32 ((rv 4 l : Nat) : Int)) ∧ Fd.Rd w' lo b (rl 4 l) (rb 4 l bad) ∧ w.grownBy w' (some b) := by
  unfold rv rl rb
  by_cases hk : 4 ≤ l.length
  · rw [if_pos hk, if_pos hk, if_pos hk]; exact Fd.rd32 lo b l bad w h hk
  · rw [if_neg hk, if_neg hk, if_neg hk]; exact Fd.rd32_bad lo b l bad w h (by omega)
theorem short_u (lo b : Nat) (l : List Nat) (bad : Bool) (w : World) (h : Fd.Rd w lo b l bad) :
    Calls Try.prog 41 #[.pointer (some ⟨b, 0, none⟩)] w fun e w' => e = .returned (.int .u16 ((rv 2 l : Nat) : Int)) ∧ Fd.Rd w' lo b (rl 2 l) (rb 2 l bad) ∧ w.grownBy w' (some b) := by
  unfold rv rl rb
  by_cases hk : 2 ≤ l.length
  · rw [if_pos hk, if_pos hk, if_pos hk]; exact Fd.rd16 lo b l bad w h hk
  · rw [if_neg hk, if_neg hk, if_neg hk]; exact Fd.rd16_bad lo b l bad w h (by omega)
theorem byte_u (lo b : Nat) (l : List Nat) (bad : Bool) (w : World) (h : Fd.Rd w lo b l bad) :
    Calls Try.prog 43 #[.pointer (some ⟨b, 0, none⟩)] w fun e w' => e = .returned (.int .u8 ((rv 1 l : Nat) : Int)) ∧ Fd.Rd w' lo b (rl 1 l) (rb 1 l bad) ∧ w.grownBy w' (some b) := by
  unfold rv rl rb
  by_cases hk : 1 ≤ l.length
  · rw [if_pos hk, if_pos hk, if_pos hk]; exact Fd.rd8 lo b l bad w h hk
  · rw [if_neg hk, if_neg hk, if_neg hk]; exact Fd.rd8_bad lo b l bad w h (by omega)
theorem long_u (lo b : Nat) (l : List Nat) (bad : Bool) (w : World) (h : Fd.Rd w lo b l bad) :
    Calls Try.prog 42 #[.pointer (some ⟨b, 0, none⟩)] w fun e w' => e = .returned (.int .u64 ((rv 8 l : Nat) : Int)) ∧ Fd.Rd w' lo b (rl 8 l) (rb 8 l bad) ∧ w.grownBy w' (some b) := by
  unfold rv rl rb
  by_cases hk : 8 ≤ l.length
  · rw [if_pos hk, if_pos hk, if_pos hk]; exact Fd.rd64 lo b l bad w h hk
  · rw [if_neg hk, if_neg hk, if_neg hk]; exact Fd.rd64_bad lo b l bad w h (by omega)
def r3 (l : List Nat) : List Nat := rl 1 (rl 8 (rl 2 l))
def b3 (l : List Nat) (bad : Bool) : Bool := rb 1 (rl 8 (rl 2 l)) (rb 8 (rl 2 l) (rb 2 l bad))
def f3 (l : List Nat) : Nat := rv 1 (rl 8 (rl 2 l))
theorem b3_true (l : List Nat) : b3 l true = true := by unfold b3; rw [rb_true, rb_true, rb_true]
theorem b3_iff (l : List Nat) : b3 l false = decide (l.length < 11) := by
  unfold b3 rb rl
  by_cases h2 : 2 ≤ l.length
  · rw [if_pos h2, if_pos h2, List.length_drop]
    by_cases h8 : 8 ≤ l.length - 2
    · rw [if_pos h8, if_pos h8, List.length_drop, List.length_drop]
      by_cases h1 : 1 ≤ l.length - 2 - 8
      · rw [if_pos h1]; exact (decide_eq_false (by omega)).symm
      · rw [if_neg h1]; exact (decide_eq_true (by omega)).symm
    · rw [if_neg h8, if_neg h8, if_neg (by simp)]; exact (decide_eq_true (by omega)).symm
  · rw [if_neg h2, if_neg h2]
    rw [decide_eq_true (show l.length < 11 by omega)]
    split <;> (try split) <;> first | rfl | simp_all
theorem parts11 {l : List Nat} (h : 11 ≤ l.length) : rv 2 l = num (l.take 2) ∧ rv 8 (rl 2 l) = num ((l.drop 2).take 8) ∧ f3 l = l.getD 10 0 ∧ r3 l = l.drop 11 := by
  have e2 : rl 2 l = l.drop 2 := by unfold rl; rw [if_pos (by omega)]
  have e8 : rl 8 (l.drop 2) = l.drop 10 := by unfold rl; rw [if_pos (by rw [List.length_drop]; omega), List.drop_drop]
  refine ⟨by unfold rv; rw [if_pos (by omega)], by rw [e2]; unfold rv; rw [if_pos (by rw [List.length_drop]; omega)], ?_, ?_⟩
  · unfold f3
    rw [e2, e8]
    unfold rv
    rw [if_pos (by rw [List.length_drop]; omega), cut_at l 10 (by omega)]
    simp [Fld.num]
  · unfold r3
    rw [e2, e8]
    unfold rl
    rw [if_pos (by rw [List.length_drop]; omega), List.drop_drop]
theorem getE_few {l : List Nat} (h : l.length < 11) : getE l = none := by unfold getE; rw [if_pos h]
theorem getE_odd {l : List Nat} (h : 11 ≤ l.length) (hf : 3 < f3 l) : getE l = none := by
  rw [(parts11 h).2.2.1] at hf
  unfold getE; rw [if_neg (by omega), if_pos hf]
theorem getE_bare {l : List Nat} (h : 11 ≤ l.length) (hf : f3 l < 2) : getE l = some (⟨(rv 2 l : Nat), (rv 8 (rl 2 l) : Nat), decide (f3 l % 2 = 1), (false, 0)⟩, r3 l) := by
  obtain ⟨p1, p2, p3, p4⟩ := parts11 h
  rw [p3] at hf
  unfold getE; rw [if_neg (by omega), if_neg (by omega), if_pos hf, p1, p2, p3, p4]
theorem getE_mail {l : List Nat} (h : 11 ≤ l.length) (hf : 2 ≤ f3 l) (hf2 : f3 l ≤ 3) : getE l = if rb 8 (r3 l) false = true then none else some (⟨(rv 2 l : Nat), (rv 8 (rl 2 l) : Nat), decide (f3 l % 2 = 1), (true, (rv 8 (r3 l) : Nat))⟩, rl 8 (r3 l)) := by
  obtain ⟨p1, p2, p3, p4⟩ := parts11 h
  rw [p3] at hf hf2
  unfold getE; rw [if_neg (by omega), if_neg (by omega), if_neg (by omega), p1, p2, p3, p4]
  unfold rb rv rl
  rw [List.length_drop]
  by_cases h8 : 8 ≤ l.length - 11
  · rw [if_neg (by omega), if_pos h8, if_pos h8, if_pos h8, if_neg (by simp), List.drop_drop]
  · rw [if_pos (by omega), if_neg h8, if_pos rfl]
def getR (b : List Nat) : Pr × Int := match getP b with | some p => (p, 0) | none => (noneP, 140)
theorem getR_no {b : List Nat} (h : getP b = none) : getR b = (noneP, 140) := by unfold getR; rw [h]
theorem getR_yes {b : List Nat} {p : Pr} (h : getP b = some p) : getR b = (p, 0) := by unfold getR; rw [h]
def GtP (L : List Nat) (k : Nat) (M : List En) (rest : List Nat) (bad : Bool) : Prop :=
  (bad = false ∧ 6 ≤ L.length ∧ ∃ l, M = l.map wrE ∧ getN k (L.drop 6) = some (l, rest)) ∨ (bad = true ∧ getP L = none)
theorem gtp_start (L : List Nat) : GtP L 0 [] (rl 2 (rl 4 L)) (rb 2 (rl 4 L) (rb 4 L false)) := by
  unfold GtP rl rb
  by_cases h4 : 4 ≤ L.length
  · rw [if_pos h4, if_pos h4, List.length_drop]
    by_cases h2 : 2 ≤ L.length - 4
    · rw [if_pos h2, if_pos h2, List.drop_drop]
      exact .inl ⟨rfl, by omega, [], rfl, rfl⟩
    · rw [if_neg h2, if_neg h2]
      exact .inr ⟨rfl, getP_few (by omega)⟩
  · rw [if_neg h4, if_neg h4]
    refine .inr ⟨?_, getP_few (by omega)⟩
    split <;> rfl
theorem gt_count {L : List Nat} (h : 6 ≤ L.length) : rv 4 L = num (L.take 4) ∧ rv 2 (rl 4 L) = num ((L.drop 4).take 2) := by
  have h4 : 4 ≤ L.length := by omega
  have h2 : 2 ≤ (L.drop 4).length := by rw [List.length_drop]; omega
  simp only [rv, rl, if_pos h4, if_pos h2, and_self]
theorem none_next {L : List Nat} {k : Nat} {l : List En} {rest : List Nat} (h6 : 6 ≤ L.length) (hk : k < rv 2 (rl 4 L)) (h : getN k (L.drop 6) = some (l, rest)) (he : getE rest = none) : getP L = none := by
  refine getP_no (getN_none (n := k + 1) ?_ _ ?_)
  · rw [getN_snoc, h]; simp only [Option.bind_some, he, Option.map_none]
  · rw [← (gt_count h6).2]; omega
theorem some_next {L : List Nat} {k : Nat} {l : List En} {rest r' : List Nat} {e : En} (h : getN k (L.drop 6) = some (l, rest)) (he : getE rest = some (e, r')) : getN (k + 1) (L.drop 6) = some (l ++ [e], r') := by
  rw [getN_snoc, h]; simp only [Option.bind_some, he, Option.map_some]
theorem addE_wr (st : Int) (l : List En) (v x : Int) (c : Bool) : addE (ofE st (l.map wrE)) ⟨v, wI x, c, (false, 0)⟩ = ofE st ((l ++ ([⟨v, x, c, (false, 0)⟩] : List En)).map wrE) := by
  rw [addE_of, List.map_append]; rfl
end Go.Proofs.Ytfbfckdabbaocaa.St
