/-
  What is proved here: the walk of the law FieldsKnown: the law's function returns true, and no block that was there has changed, where the law FieldsOrdered's function does so for all numbers (which YtepcfinojifecaaOrdWalk proves).
-/
import Derived.Test.YtepcfinojifecaaKBase
import Derived.Test.YtepcfinojifecaaNil
import Derived.Test.YtepcfinojifecaaHalfWalk
import Derived.Test.YtepcfinojifecaaCut
import Derived.Test.YtepcfinojifecaaStand
import Derived.Test.YtepcfinojifecaaWalk
import Derived.Lib.SlBytesConst
namespace Go.Proofs.Ytepcfinojifecaa
open Go.RowKit

def Ord : Prop := ∀ (a b : Nat) (w : World), a < 18446744073709551616 → b < 18446744073709551616 → Calls Try.prog 6 #[.int .u64 (a : Int), .int .u64 (b : Int)] w fun e w' => e = .returned (.bool true) ∧ Below w.heap.size w w'
theorem Ord.at_ (h : Ord) (a b : Nat) (p q : Int) (w : World) (hp : p = (a : Int)) (hq : q = (b : Int)) (ha : a < 18446744073709551616) (hb : b < 18446744073709551616) : Calls Try.prog 6 #[.int .u64 p, .int .u64 q] w fun e w' => e = .returned (.bool true) ∧ Below w.heap.size w w' := by
  subst hp hq; exact h a b w ha hb
theorem halves_at (a : Nat) (p : Int) (w : World) (hp : p = (a : Int)) (ha : a < 18446744073709551616) : Calls Try.prog 7 #[.int .u64 p] w fun e w' => e = .returned (.bool true) ∧ Below w.heap.size w w' := by
  subst hp; exact halves_any a w ha
theorem cut_n (A : Option Addr) (c n : Nat) (ls : List It) (q : Int) (w : World) (hl : ItemsAt w A ls) (hn : ls.length = n) (hm : n ≤ 20) :
    Calls Try.prog 5 #[.slice A n c, .int .i64 q] w fun e w' => e = .returned (.bool true) ∧ Below w.heap.size w w' := by
  subst hn; exact cut_any A c ls q w hl (by unfold maxLen; omega)
theorem walk_n (Ab : Option Addr) (cb N : Nat) (bs : List Nat) (A : Option Addr) (c n : Nat) (ls : List It) (w : World) (HN : bs.length = N) (hN : N ≤ 56) (hb : At w Ab bs) (hcb : N ≤ cb) (hnb : Ab = none → cb = 0) (hl : ItemsAt w A ls) (hn : ls.length = n) (hm : n ≤ 20) :
    Calls Try.prog 4 #[.slice Ab N cb, .slice A n c] w fun e w' => e = .returned (.bool true) ∧ Below w.heap.size w w' := by
  subst hn; exact walk_any Ab cb N bs A c ls w HN (by omega) hb hcb hnb hl (by unfold maxLen; omega)
theorem stand_n (A : Option Addr) (c n : Nat) (ls : List It) (w : World) (hl : ItemsAt w A ls) (hn : ls.length = n) (hm : n ≤ 20) :
    Calls Try.prog 3 #[.slice A n c] w fun e w' => e = .returned (.bool true) ∧ Below w.heap.size w w' := by
  subst hn; exact stand_any A c ls w hl (by unfold maxLen; omega)
theorem items_none (w : World) : ItemsAt w none [] := fun i x h => by simp at h
theorem info33 : (Try.prog.info? 33).map (fun i => (i.zero, i.size, i.bytes)) = some (some (.agg #[.int .u8 0, .int .u64 0, .slice none 0 0]), 3, 40) := by kernel_rfl

def KnRel (w : World) (g : Nat) (l i : Value) (wr : World) : Prop :=
  ∃ (j : Nat) (ks : List Ki), j + g = 64 ∧ i = .int .i64 (j : Int) ∧ ks.length = min j 20 ∧ KOwn wr w.heap.size l ks ∧ Below w.heap.size w wr
theorem pow_ok (j : Nat) (h : j < 64) : 1 ≤ 2 ^ j ∧ 2 ^ j < 18446744073709551616 := by
  have h1 : 2 ^ j ≤ 2 ^ 63 := Nat.pow_le_pow_right (by omega) (by omega)
  have h2 : (2 : Nat) ^ 63 = 9223372036854775808 := by decide
  have h3 : 0 < 2 ^ j := Nat.two_pow_pos j
  omega

set_option maxRecDepth 100000 in
set_option maxHeartbeats 2000000 in
theorem known_walk (ORD : Ord) (w : World) : Calls Try.prog 8 #[] w fun e w' => e = .returned (.bool true) ∧ Below w.heap.size w w' := by
  have HORD := Lib.hid ORD; clear ORD
  go_enter Try.func8, Try.ntmps8
  go_wp2_with fail
  refine (wr64_nil _ 5 w rfl (by decide)).mono ?_
  rintro e w1 ⟨rfl, hb1⟩
  have HB1 := Lib.hid hb1; clear hb1
  go_wp2_with fail
  have hb2 : Below w1.heap.size w1 (w1.alloc (.cells #[.int .u8 1] 5)) := (Below.refl _ _).alloc (Nat.le_refl _) _
  refine (wrRaw_nil (some ⟨w1.heap.size, 0, none⟩) 1 1 [1] _ rfl (by decide) (by decide) (row_build w1 [1] (0, 0) (by decide))).mono ?_
  rintro e w3 ⟨rfl, hb3⟩
  have HB3 := Lib.hid (below_trans (below_trans HB1.out hb2) hb3); clear hb2 hb3 HB1
  go_wp2_with fail
  refine (out_nil _).mono ?_
  rintro e w' ⟨rfl, rfl⟩
  go_wp2_with fail
  refine (bad_nil _).mono ?_
  rintro e w' ⟨rfl, rfl⟩
  go_wp2_with fail
  refine (left_nil _).mono ?_
  rintro e w' ⟨rfl, rfl⟩
  go_wp2_with fail
  refine (rd64_nil _).mono ?_
  rintro e w' ⟨rfl, rfl⟩
  go_wp2_with fail
  refine (rd8_nil _).mono ?_
  rintro e w' ⟨rfl, rfl⟩
  go_wp2_with fail
  refine (rdRaw_nil _ _).mono ?_
  rintro e w4 ⟨rfl, hb4⟩
  have HB4 := Lib.hid (below_trans HB3.out hb4); clear hb4 HB3
  go_wp2
  go_loopg [3, 4] 64 (fun g l i wr => KnRel w g l i wr)
  case atStart => exact ⟨0, [], by omega, rfl, rfl, KOwn.none_ _ _, HB4.out⟩
  case round =>
    clear HB4
    obtain ⟨j, ks, hj, rfl, hkl, hown, hb⟩ := hrel
    have HKL := Lib.hid hkl; clear hkl
    have HO := Lib.hid hown; clear hown
    have HB := Lib.hid hb; clear hb
    by_cases hlt : j < 64
    · obtain ⟨P1, P2⟩ := pow_ok j hlt
      obtain ⟨P, hP⟩ : ∃ P, P = 2 ^ j := ⟨_, rfl⟩
      rw [← hP] at P1 P2
      have HP := Lib.hid hP; clear hP
      have hw : IntKind.u64.wrap ((2 : Int) ^ j) = (P : Int) := by
        have e : ((2 : Int) ^ j) = (P : Int) := by rw [HP.out]; simp
        rw [e, IntKind.wrap_u64]; omega
      go_wp2_with fail
      refine (HORD.out.at_ P (P - 1) _ _ _ rfl ?_ P2 (by omega)).mono ?_
      · omega
      rintro e w5 ⟨rfl, hb5⟩
      have HO5 := Lib.hid (HO.out.below hb5)
      have HB5 := Lib.hid (below_trans HB.out hb5); clear hb5 HO HB
      go_wp2_with fail
      refine (HORD.out.at_ (P - 1) P _ _ _ ?_ rfl (by omega) P2).mono ?_
      · omega
      rintro e w6 ⟨rfl, hb6⟩
      have HO6 := Lib.hid (HO5.out.below hb6)
      have HB6 := Lib.hid (below_trans HB5.out hb6); clear hb6 HO5 HB5
      go_wp2_with fail
      refine (halves_at P _ _ rfl P2).mono ?_
      rintro e w7 ⟨rfl, hb7⟩
      have HO7 := Lib.hid (HO6.out.below hb7)
      have HB7 := Lib.hid (below_trans HB6.out hb7); clear hb7 HO6 HB6
      go_wp2_with fail
      refine (halves_at (P - 1) _ _ ?_ (by omega)).mono ?_
      · omega
      rintro e w8 ⟨rfl, hb8⟩
      have HO8 := Lib.hid (HO7.out.below hb8)
      have HB8 := Lib.hid (below_trans HB7.out hb8); clear hb8 HO7 HB7
      by_cases h20 : j < 20
      · have hwj : IntKind.u8.wrap (j : Int) = (j : Int) := by rw [IntKind.wrap_u8]; omega
        have hk20 : ks.length ≤ 20 := by rw [HKL.out]; omega
        obtain ⟨M, hM, hM2⟩ : ∃ M : Nat, IntKind.u64.wrap (IntKind.u64.wrap ((P : Int) * 72623859790382857) + (j : Int)) = (M : Int) ∧ M < 18446744073709551616 := by
          refine ⟨(IntKind.u64.wrap (IntKind.u64.wrap ((P : Int) * 72623859790382857) + (j : Int))).toNat, ?_, ?_⟩
          · generalize IntKind.u64.wrap ((P : Int) * 72623859790382857) + (j : Int) = t
            rw [IntKind.wrap_u64]; omega
          · generalize IntKind.u64.wrap ((P : Int) * 72623859790382857) + (j : Int) = t
            rw [IntKind.wrap_u64]; omega
        obtain ⟨i0, hi, hz0, hz1, hz2⟩ := info_parts info33
        have hbA : Below w8.heap.size w8 ((w8.alloc (.cells #[.int .u8 (j : Int), .int .u8 255, .int .u8 0] 5)).alloc (.cells #[.int .u8 (j : Int), .int .u64 (M : Int), .slice (some ⟨w8.heap.size, 0, none⟩) (j % 4) 3] 33)) := ((Below.refl _ _).alloc (Nat.le_refl _) _).alloc (by simp) _
        have HOA := Lib.hid (HO8.out.below hbA)
        have HBA := Lib.hid (below_trans HB8.out hbA)
        have hkk : KOk ((w8.alloc (.cells #[.int .u8 (j : Int), .int .u8 255, .int .u8 0] 5)).alloc (.cells #[.int .u8 (j : Int), .int .u64 (M : Int), .slice (some ⟨w8.heap.size, 0, none⟩) (j % 4) 3] 33)) ⟨j, M, w8.heap.size, j % 4⟩ := ⟨by show j < 256; omega, hM2, by show j % 4 ≤ 3; omega, heap_alloc2_old w8 _ _⟩
        have HKK := Lib.hid hkk; clear hkk hbA
        have hnews : ∀ (q : Nat) (u : Value), (kcells ⟨j, M, w8.heap.size, j % 4⟩)[q]? = some u → ((w8.alloc (.cells #[.int .u8 (j : Int), .int .u8 255, .int .u8 0] 5)).alloc (.cells #[.int .u8 (j : Int), .int .u64 (M : Int), .slice (some ⟨w8.heap.size, 0, none⟩) (j % 4) 3] 33)).cell? ((⟨w8.heap.size + 1, 0, none⟩ : Addr).add q) = some u := by
          intro q u hu
          rw [add_plain, Nat.zero_add, cell_of_row _ _ q _ 33 (0, 0) (heap_alloc2_new w8 _ _)]
          rw [← hu]; simp [kcells]
        have HNW := Lib.hid hnews; clear hnews
        have hone : ∀ u ∈ kcells ⟨j, M, w8.heap.size, j % 4⟩, u.oneCell' = true := by
          intro u hu
          simp [kcells] at hu
          rcases hu with rfl | rfl | rfl <;> rfl
        have HON := Lib.hid hone; clear hone
        go_wp2_with (at_builtin; refine wpList_append_own _ rfl (.tmp 74) (.tmp 89) 22 rfl w.heap.size 33 i0 (.agg #[.int .u8 0, .int .u64 0, .slice none 0 0]) 3 40 Try.underlying22 hi hz0 hz1 hz2 rfl (by decide) u3 ks.length (flat ks) rfl HOA.out.1 ⟨w8.heap.size + 1, 0, none⟩ 1 1 (kcells ⟨j, M, w8.heap.size, j % 4⟩) rfl rfl HNW.out HON.out ?c1 ?c2 ?c3 ?_)
        case c1 => unfold maxLen; omega
        case c2 => omega
        case c3 => exact HBA.out.size
        intro v' w9 hown' hgrow _
        have HO9 := Lib.hid (HOA.out.snoc HKK.out hown' hgrow)
        have HB9 := Lib.hid (Below.grown HBA.out hgrow HBA.out.size (fun k hk => (HOA.out.1.lt k hk).1))
        clear hown' hgrow
        go_wp2
        go_roundg (gk - 1)
        case measure => omega
        case rel => exact ⟨j + 1, ks ++ [⟨j, M, w8.heap.size, j % 4⟩], by omega, by go_num, by rw [List.length_append, HKL.out]; simp; omega, HO9.out, HB9.out⟩
      · go_wp2
        go_roundg (gk - 1)
        case measure => omega
        case rel => exact ⟨j + 1, ks, by omega, by go_num, by rw [HKL.out]; omega, HO8.out, HB8.out⟩
    · obtain rfl : j = 64 := by omega
      have hk20 : ks.length = 20 := by rw [HKL.out]; rfl
      obtain ⟨g, c, hv, hcl, hit⟩ := HO.out.items (by omega)
      rw [hk20] at hv hcl
      subst hv
      have hll : (ks.map kit).length = 20 := by simp [hk20]
      generalize ks.map kit = ls at hit hll
      have HLL := Lib.hid hll; clear hll
      have HIT := Lib.hid hit; clear hit HO HKL hk20
      clear hlt hj
      go_wp2
      go_loopg [6] 90 (fun gg i wr => ∃ j2 : Nat, j2 + gg = 90 ∧ i = .int .i64 (j2 : Int) ∧ ItemsAt wr (some ⟨g, 0, none⟩) ls ∧ Below w.heap.size w wr)
      case atStart => exact ⟨0, by omega, rfl, HIT.out, HB.out⟩
      case round =>
        clear HIT HB
        obtain ⟨j2, hj2, rfl, hit, hb⟩ := hrel
        have HIT := Lib.hid hit; clear hit
        have HB := Lib.hid hb; clear hb
        by_cases hlt2 : j2 < 90
        · have b1 : (0 : Int) ≤ (j2 : Int) % 20 := by omega
          have b2 : (j2 : Int) % 20 ≤ (c : Int) := by omega
          have b3 : (0 : Int) ≤ (j2 : Int) % 50 := by omega
          have b4 : (j2 : Int) % 50 ≤ 56 := by omega
          have kc := fun (w : World) (C : Array Value) (n c : Nat) => Lib.run_convert_bytes_const (P := Try.prog) w 31 5 C n c Try.underlying31 Try.underlying5
          go_wp2_with fail
          refine (cut_n (some ⟨g, 0, none⟩) c 20 ls _ _ HIT.out HLL.out (by decide)).mono ?_
          rintro e x1 ⟨rfl, hb1⟩
          have HIT1 := Lib.hid (HIT.out.below hb1)
          have HB1 := Lib.hid (below_trans HB.out hb1); clear hb1 HIT HB
          go_wp2_with fail
          refine (cut_n (some ⟨g, 0, none⟩) c (j2 % 20) (ls.take (j2 % 20)) _ _ (HIT1.out.take _) (by rw [List.length_take, HLL.out]; omega) (by omega)).mono ?_
          rintro e x2 ⟨rfl, hb2⟩
          have HIT2 := Lib.hid (HIT1.out.below hb2)
          have HB2 := Lib.hid (below_trans HB1.out hb2); clear hb2 HIT1 HB1
          go_wp2_with fail
          clear kc
          have hba : Below x2.heap.size x2 (x2.alloc (.cells #[.int .u8 119, .int .u8 104, .int .u8 97, .int .u8 116, .int .u8 32, .int .u8 115, .int .u8 116, .int .u8 97, .int .u8 110, .int .u8 100, .int .u8 115, .int .u8 32, .int .u8 104, .int .u8 101, .int .u8 114, .int .u8 101, .int .u8 44, .int .u8 32, .int .u8 97, .int .u8 110, .int .u8 100, .int .u8 32, .int .u8 119, .int .u8 104, .int .u8 97, .int .u8 116, .int .u8 32, .int .u8 100, .int .u8 111, .int .u8 101, .int .u8 115, .int .u8 32, .int .u8 110, .int .u8 111, .int .u8 116, .int .u8 44, .int .u8 32, .int .u8 102, .int .u8 111, .int .u8 114, .int .u8 32, .int .u8 97, .int .u8 32, .int .u8 119, .int .u8 97, .int .u8 108, .int .u8 107, .int .u8 32, .int .u8 111, .int .u8 102, .int .u8 32, .int .u8 105, .int .u8 116, .int .u8 101, .int .u8 109, .int .u8 115] 5 (56, 57))) := (Below.refl _ _).alloc (Nat.le_refl _) _
          have HIT3 := Lib.hid (HIT2.out.below hba)
          have HB3 := Lib.hid (below_trans HB2.out hba); clear hba HIT2 HB2
          refine (walk_n (some ⟨x2.heap.size, 0, none⟩) 56 (j2 % 50) (([119, 104, 97, 116, 32, 115, 116, 97, 110, 100, 115, 32, 104, 101, 114, 101, 44, 32, 97, 110, 100, 32, 119, 104, 97, 116, 32, 100, 111, 101, 115, 32, 110, 111, 116, 44, 32, 102, 111, 114, 32, 97, 32, 119, 97, 108, 107, 32, 111, 102, 32, 105, 116, 101, 109, 115] : List Nat).take (j2 % 50)) (some ⟨g, 0, none⟩) c 20 ls _ (by rw [List.length_take]; show min (j2 % 50) 56 = j2 % 50; omega) (by omega) ((row_build x2 [119, 104, 97, 116, 32, 115, 116, 97, 110, 100, 115, 32, 104, 101, 114, 101, 44, 32, 97, 110, 100, 32, 119, 104, 97, 116, 32, 100, 111, 101, 115, 32, 110, 111, 116, 44, 32, 102, 111, 114, 32, 97, 32, 119, 97, 108, 107, 32, 111, 102, 32, 105, 116, 101, 109, 115] (56, 57) (by decide)).take _) (by omega) (fun h => by cases h) HIT3.out HLL.out (by decide)).mono ?_
          rintro e x3 ⟨rfl, hb3⟩
          have HIT4 := Lib.hid (HIT3.out.below hb3)
          have HB4 := Lib.hid (below_trans HB3.out hb3); clear hb3 HIT3 HB3
          go_wp2
          go_roundg (gk - 1)
          case measure => omega
          case rel => exact ⟨j2 + 1, by omega, by go_num, HIT4.out, HB4.out⟩
        · go_wp2_with fail
          refine (stand_n (some ⟨g, 0, none⟩) c 20 ls _ HIT.out HLL.out (by decide)).mono ?_
          rintro e x1 ⟨rfl, hb1⟩
          have HIT1 := Lib.hid (HIT.out.below hb1)
          have HB1 := Lib.hid (below_trans HB.out hb1); clear hb1 HIT HB
          go_wp2_with fail
          refine (stand_n none 0 0 [] _ (items_none _) rfl (by decide)).mono ?_
          rintro e x2 ⟨rfl, hb2⟩
          have HIT2 := Lib.hid (HIT1.out.below hb2)
          have HB2 := Lib.hid (below_trans HB1.out hb2); clear hb2 HIT1 HB1
          go_wp2_with fail
          refine (cut_n none 0 0 [] _ _ (items_none _) rfl (by decide)).mono ?_
          rintro e x3 ⟨rfl, hb3⟩
          have HIT3 := Lib.hid (HIT2.out.below hb3)
          have HB3 := Lib.hid (below_trans HB2.out hb3); clear hb3 HIT2 HB2
          go_wp2_with fail
          refine (cut_n (some ⟨g, 0, none⟩) c 20 ls _ _ HIT3.out HLL.out (by decide)).mono ?_
          rintro e x4 ⟨rfl, hb4⟩
          have HIT4 := Lib.hid (HIT3.out.below hb4)
          have HB4 := Lib.hid (below_trans HB3.out hb4); clear hb4 HIT3 HB3
          go_wp2_with fail
          refine (walk_n none 0 0 [] (some ⟨g, 0, none⟩) c 20 ls _ rfl (by decide) At.nil_ (by decide) (fun _ => rfl) HIT4.out HLL.out (by decide)).mono ?_
          rintro e x5 ⟨rfl, hb5⟩
          have HB5 := Lib.hid (below_trans HB4.out hb5); clear hb5 HIT4 HB4
          go_wp2_with fail
          refine (works_any _).mono ?_
          rintro e x6 ⟨rfl, hb6⟩
          have HB6 := Lib.hid (below_trans HB5.out hb6); clear hb6
          go_wp2
          go_ret
          exact ⟨rfl, HB6.out⟩

end Go.Proofs.Ytepcfinojifecaa
