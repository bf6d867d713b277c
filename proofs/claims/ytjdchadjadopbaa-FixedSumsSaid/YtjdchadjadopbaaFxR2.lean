/-
  What is proved here: contracts of the document's own digits and Text: a number's text. No condition.
-/
import Derived.Test.YtjdchadjadopbaaFxW3
namespace Go.Proofs.Ytjdchadjadopbaa.Fx
open Go.RowKit

theorem ret_str {a b : ByteArray} (h : a = b) : Ending.returned (.string a) = .returned (.string b) := by rw [h]
theorem conv_one (w : World) (d : Nat) (h : d < 10) : (convert 41 9 (.slice (some ⟨w.heap.size, 0, none⟩) 1 1)).run Try.prog (w.alloc (.cells #[.int .u8 (48 + (d : Int))] 5)) = .ok (.string (sb [byt d])) (w.alloc (.cells #[.int .u8 (48 + (d : Int))] 5)) :=
  conv_row (T := 5) _ w.heap.size 0 1 1 [byt d] [byt d] (by show _ = some (Obj.cells #[.int .u8 ((byt d).toNat : Int)] 5 (0, 0)); rw [byt_int d h]; exact heap_alloc_new w _) rfl rfl

def DgRel (w : World) (n g : Nat) (v s : Value) (wr : World) : Prop :=
  ∃ (m : Nat) (t : List UInt8), m = g ∧ m ≤ n ∧ v = .int .i64 (m : Int) ∧ s = .string (sb t) ∧ pd 1 n = pd 1 m ++ t ∧ Below w.heap.size w wr

set_option maxRecDepth 100000 in
set_option maxHeartbeats 1000000 in
theorem digits_nat (n : Nat) (w : World) (hn : n ≤ 9223372036854775807) : Calls Try.prog 25 #[.int .i64 (n : Int)] w fun r w' => r = .returned (.string (sb (pd 1 n))) ∧ Below w.heap.size w w' := by
  have hlen : (pd 1 n).length ≤ 19 := by have := pd_le 19 1 n (by omega); omega
  have HN := Lib.hid hlen; clear hlen
  go_enter Try.func25, Try.ntmps25
  go_wp2_with fail
  go_loopg [0, 3] n (fun g v s wr => DgRel w n g v s wr)
  case atStart => exact ⟨n, [], rfl, Nat.le_refl _, rfl, rfl, by simp, Below.refl _ w⟩
  case round =>
    obtain ⟨m, t, hmg, hmn, rfl, rfl, hd, hb⟩ := hrel
    subst hmg
    have HB := Lib.hid hb; clear hb
    have htl : t.length ≤ 19 := by have := congrArg List.length hd; rw [List.length_append] at this; have := HN.out; omega
    have HD := Lib.hid hd; clear hd
    have hz2 : (sb t).size ≤ 19 := by rw [sb_size]; exact htl
    by_cases hm : 9 < m
    · obtain ⟨q, d, hq, hd10, hqm⟩ : ∃ q d : Nat, m = 10 * q + d ∧ d < 10 ∧ q < m := ⟨m / 10, m % 10, by omega, by omega, by omega⟩
      have g1 : (m : Int) % 10 = (d : Int) := by omega
      have g2 : (m : Int) / 10 = (q : Int) := by omega
      have HQ := Lib.hid (show m / 10 = q ∧ m % 10 = d by omega); clear hq
      have hcv := conv_one wr d hd10
      have hz1 : (sb [byt d]).size ≤ 1 := by rw [sb_size]; simp
      go_wp2
      all_goals (try (exfalso; omega))
      go_roundg q
      case measure => omega
      case rel =>
        refine ⟨q, byt d :: t, rfl, by omega, rfl, ?_, ?_, HB.out.alloc HB.out.size _⟩
        · rw [sb_append]; rfl
        · rw [HD.out, pd_big m (by omega), HQ.out.1, HQ.out.2, List.append_assoc]; rfl
    · have hcv := conv_one wr m (by omega)
      have hz1 : (sb [byt m]).size ≤ 1 := by rw [sb_size]; simp
      go_wp2
      all_goals (try (exfalso; omega))
      go_ret
      refine ⟨ret_str ?_, HB.out.alloc HB.out.size _⟩
      rw [sb_append, HD.out, pd_small m (by omega)]; rfl

theorem digits_at (n : Nat) (N : Int) (t : List UInt8) (w : World) (hN : N = (n : Int)) (ht : Hid (pd 1 n = t)) (hn : n ≤ 9223372036854775807) : Calls Try.prog 25 #[.int .i64 N] w fun r w' => r = .returned (.string (sb t)) ∧ Hid (Below w.heap.size w w') := by
  subst hN; rw [← ht.out]
  exact (digits_nat n w hn).mono fun _ _ ⟨h1, h2⟩ => ⟨h1, Lib.hid h2⟩

/-- The loop of the document's Text: behind i digits. -/
def TxRel (w : World) (W R : Nat) (g : Nat) (s r i : Value) (wr : World) : Prop :=
  ∃ (k q p : Nat), k + g = 9 ∧ i = .int .i64 (k : Int) ∧ s = .string (sb (pd 1 W ++ 46 :: pd k q)) ∧ r = .int .i64 (p : Int) ∧ p < 4294967296 ∧ R * 10 ^ k = q * 4294967296 + p ∧ Below w.heap.size w wr

theorem tx_q (R k q p : Nat) (hR : R < 4294967296) (h : R * 10 ^ k = q * 4294967296 + p) : q < 10 ^ k := by
  have h1 : q * 4294967296 ≤ R * 10 ^ k := by omega
  have h2 : R * 10 ^ k < 4294967296 * 10 ^ k := Nat.mul_lt_mul_of_pos_right hR (Nat.pow_pos (by omega))
  have h3 : q * 4294967296 < 10 ^ k * 4294967296 := by rw [Nat.mul_comm (10 ^ k)]; omega
  exact Nat.lt_of_mul_lt_mul_right h3
theorem tx_next (R k q p d z : Nat) (h : R * 10 ^ k = q * 4294967296 + p) (hd : p * 10 / 4294967296 = d) (hz : p * 10 % 4294967296 = z) : R * 10 ^ (k + 1) = (10 * q + d) * 4294967296 + z := by
  rw [Nat.pow_succ, ← Nat.mul_assoc, h]; omega

set_option maxRecDepth 100000 in
set_option maxHeartbeats 1000000 in
theorem rtext_nat (a : Nat) (w : World) (h : a ≤ 9223372036854775807) : Calls Try.prog 19 #[.int .i64 (a : Int)] w fun r w' => r = .returned (.string (sb (txtN a))) ∧ Below w.heap.size w w' := by
  obtain ⟨R, hR, hR1⟩ : ∃ R : Nat, a % 4294967296 = R ∧ R < 4294967296 := ⟨_, rfl, by omega⟩
  obtain ⟨W, hW, hW1⟩ : ∃ W : Nat, a / 4294967296 = W ∧ W < 2147483648 := ⟨_, rfl, by omega⟩
  have f1 : (a : Int) % 4294967296 = (R : Int) := by omega
  have f2 : (a : Int) / 4294967296 = (W : Int) := by omega
  have HE := Lib.hid (show txtN a = pd 1 W ++ 46 :: pd 9 (R * 1000000000 / 4294967296) by unfold txtN; rw [hR, hW])
  have n1 := (pd_ten W (by omega)).2
  clear hR hW
  obtain ⟨t1, h1⟩ : ∃ t, pd 1 W = t := ⟨_, rfl⟩
  rw [h1] at n1
  have H1 := Lib.hid h1; clear h1
  have hz1 : (sb t1).size ≤ 10 := by rw [sb_size]; exact n1
  go_enter Try.func19, Try.ntmps19
  go_wp2_with fail
  refine (digits_at W (W : Int) t1 _ rfl H1 (by omega)).mono ?_
  rintro r w1 ⟨rfl, HB1⟩
  go_wp2_with fail
  clear f2 hz1
  have F1 := Lib.hid f1; clear f1
  go_loopg [3, 4, 5] 9 (fun g s r i wr => TxRel w W R g s r i wr)
  case atStart => exact ⟨0, 0, R, rfl, rfl, by rw [H1.out, pd_nil, show (⟨#[46]⟩ : ByteArray) = sb [46] from rfl, sb_append], by rw [F1.out], hR1, by simp, HB1.out⟩
  case round =>
    obtain ⟨k, q, p, hk, rfl, rfl, rfl, hp, hq, hb⟩ := hrel
    have HB := Lib.hid hb; clear hb
    have HQ := Lib.hid hq; clear hq
    by_cases hk9 : k < 9
    · obtain ⟨d, hd, hd1⟩ : ∃ d : Nat, p * 10 / 4294967296 = d ∧ d < 10 := ⟨_, rfl, by omega⟩
      obtain ⟨z, hz, hz1⟩ : ∃ z : Nat, p * 10 % 4294967296 = z ∧ z < 4294967296 := ⟨_, rfl, by omega⟩
      have f1 : (p : Int) * 10 / 4294967296 = (d : Int) := by omega
      have f2 : (p : Int) * 10 % 4294967296 = (z : Int) := by omega
      have hq1 := pd_le k k q (tx_q R k q p hR1 HQ.out)
      have HQ2 := Lib.hid (tx_next R k q p d z HQ.out hd hz)
      have HT := Lib.hid (show pd 1 d = [byt d] from pd_small d hd1)
      have s1 : (sb (pd 1 W ++ 46 :: pd k q)).size ≤ 40 := by rw [sb_size, List.length_append, List.length_cons, H1.out]; omega
      have s2 : (sb [byt d]).size ≤ 1 := by rw [sb_size]; simp
      clear hd hz hq1
      go_wp2_with fail
      all_goals (try (exfalso; omega))
      refine (digits_at d (d : Int) [byt d] _ rfl HT (by omega)).mono ?_
      rintro r w2 ⟨rfl, HB2⟩
      go_wp2
      all_goals (try (exfalso; omega))
      go_roundg (8 - k)
      case measure => omega
      case rel =>
        refine ⟨k + 1, 10 * q + d, z, by omega, by go_num, ?_, by go_num, hz1, HQ2.out, below_trans HB.out HB2.out⟩
        rw [pd_step k q d hd1, sb_append, List.append_assoc]; rfl
    · obtain rfl : k = 9 := by omega
      have HQ2 := Lib.hid (show R * 1000000000 / 4294967296 = q by have := HQ.out; omega)
      go_wp2
      all_goals (try (exfalso; omega))
      go_ret
      rw [HE.out, HQ2.out]
      exact ⟨rfl, HB.out⟩

set_option maxRecDepth 100000 in
theorem rtext_neg (a : Int) (w : World) (h : a < 0) : Calls Try.prog 19 #[.int .i64 a] w fun r w' => r = .returned (.string (sb [])) ∧ w = w' := by
  go_enter Try.func19, Try.ntmps19
  go_wp2
  go_ret
  exact ⟨rfl, rfl⟩
theorem rtext_any (a : Int) (w : World) (h1 : a ≤ 9223372036854775807) : Calls Try.prog 19 #[.int .i64 a] w fun r w' => r = .returned (.string (sb (txt a))) ∧ Below w.heap.size w w' := by
  by_cases h : a < 0
  · rw [txt_neg a h]
    refine (rtext_neg a w h).mono fun e w' ⟨he, hb⟩ => ⟨he, ?_⟩
    rw [← hb]; exact Below.refl _ _
  · obtain ⟨m, rfl⟩ : ∃ m : Nat, a = (m : Int) := ⟨a.toNat, by omega⟩
    rw [txt_nat]
    exact rtext_nat m w (by omega)

end Go.Proofs.Ytjdchadjadopbaa.Fx
