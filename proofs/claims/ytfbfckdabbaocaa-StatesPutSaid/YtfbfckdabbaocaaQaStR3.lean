/-
  What is proved here: a contract of the document's number: so many bytes of a number, the highest first. Condition: at most 8 bytes.
-/
import Derived.Test.YtfbfckdabbaocaaQaStMem
namespace Go.Proofs.Ytfbfckdabbaocaa.St
open Go.RowKit Gr Wd Ws Fx Rk Lb Al In
open Fld (dg num)
theorem dg_at : ∀ (k n j : Nat), j < k → (dg k n)[j]? = some (n / 256 ^ (k - 1 - j) % 256)
  | 0, _, _, h => absurd h (Nat.not_lt_zero _)
  | k + 1, n, j, h => by
    show (dg k (n / 256) ++ [n % 256])[j]? = _
    rcases Nat.lt_or_ge j k with hj | hj
    · rw [List.getElem?_append_left (by rw [Fld.dg_length]; exact hj), dg_at k _ _ hj, Nat.div_div_eq_div_mul, ← Nat.pow_succ']
      congr 4; omega
    · obtain rfl : j = k := by omega
      rw [List.getElem?_append_right (by rw [Fld.dg_length]; exact Nat.le_refl _), Fld.dg_length]
      simp
structure RnH (w wr : World) (l : List Nat) (v : Value) : Prop where
  below : Below w.heap.size w wr
  row : UOwn wr w.heap.size v l
def RnRel (w : World) (k n g : Nat) (v i : Value) (wr : World) : Prop :=
  ∃ (j : Nat) (I : Int), j + g = k ∧ i = .int .i64 I ∧ I + 1 = (g : Int) ∧ Hid (RnH w wr ((dg k n).take j) v)
set_option maxRecDepth 100000 in
set_option maxHeartbeats 8000000 in
theorem rnumber_any (n k : Nat) (w : World) (hn : n < 18446744073709551616) (hk : k ≤ 8) :
    Calls Try.prog 32 #[.int .u64 (n : Int), .int .i64 (k : Int)] w fun e w' => ∃ v, e = .returned v ∧ Hid (UOwn w' w.heap.size v (dg k n)) ∧ Hid (Below w.heap.size w w') := by
  have HN0 : Hid (RnH w w ((dg k n).take 0) (.slice none 0 0)) := Lib.hid ⟨Below.refl _ w, UOwn.none_ _ _⟩
  go_enter Try.func32, Try.ntmps32
  go_wp2
  go_loopg [5, 6] k (fun g v i wr => RnRel w k n g v i wr)
  case atStart => exact ⟨0, (k : Int) - 1, by omega, by go_num, by omega, HN0⟩
  case round =>
    obtain ⟨j, I, hj, rfl, hI, HH⟩ := hrel
    by_cases h0 : 0 ≤ I
    · have hjk : j < k := by omega
      have hat := dg_at k n j hjk
      have hlen : ((dg k n).take j).length < 1000000000 := by rw [List.length_take, Fld.dg_length]; omega
      have HSC := Lib.hid (take_at hat)
      have HLn := Lib.hid hlen
      clear hat hlen
      have hcs : I = 0 ∨ I = 1 ∨ I = 2 ∨ I = 3 ∨ I = 4 ∨ I = 5 ∨ I = 6 ∨ I = 7 := by omega
      rcases hcs with rfl | rfl | rfl | rfl | rfl | rfl | rfl | rfl
      · have he : k - 1 - j = 0 := by omega
        obtain ⟨y, hy⟩ : ∃ y : Nat, n % 256 = y := ⟨_, rfl⟩
        have hyc : (n : Int) % 256 = (y : Int) := by rw [← hy]; omega
        have hyb : y < 256 := by omega
        have HS2 : Hid ((dg k n).take (j + 1) = (dg k n).take j ++ [y]) := Lib.hid (by rw [HSC.out, he]; rw [Nat.pow_zero, Nat.div_one, hy])
        have HO := Lib.hid (HH.out.row.alloc (.cells #[.int .u8 (y : Int)] 5))
        have HB := Lib.hid (HH.out.below.alloc HH.out.below.size (.cells #[.int .u8 (y : Int)] 5))
        have HN := Lib.hid (heap_alloc_new wr (.cells #[.int .u8 (y : Int)] 5))
        clear hy he
        go_wp2_with (at_builtin; refine app_u rfl (.tmp 13) (.tmp 19) rfl w.heap.size _ _ y rfl HO.out hyb _ rfl HN.out HLn.out HB.out.size ?_)
        intro v' w2 ho2 hg2
        have HH2 : Hid (RnH w w2 ((dg k n).take (j + 1)) v') := Lib.hid ⟨Below.grown HB.out hg2 HB.out.size fun q e => (own_lt HO.out.1 q e).1, by rw [HS2.out]; exact ho2⟩
        clear ho2 hg2
        go_wp2
        go_roundg (gk - 1)
        case measure => omega
        case rel => exact ⟨j + 1, (-1 : Int), by omega, by go_num, by omega, HH2⟩
      · have he : k - 1 - j = 1 := by omega
        obtain ⟨y, hy⟩ : ∃ y : Nat, n / 256 % 256 = y := ⟨_, rfl⟩
        have hyc : (n : Int) / 256 % 256 = (y : Int) := by rw [← hy]; omega
        have hyb : y < 256 := by omega
        have HS2 : Hid ((dg k n).take (j + 1) = (dg k n).take j ++ [y]) := Lib.hid (by rw [HSC.out, he]; exact congrArg _ (congrArg (fun q => [q]) hy))
        have HO := Lib.hid (HH.out.row.alloc (.cells #[.int .u8 (y : Int)] 5))
        have HB := Lib.hid (HH.out.below.alloc HH.out.below.size (.cells #[.int .u8 (y : Int)] 5))
        have HN := Lib.hid (heap_alloc_new wr (.cells #[.int .u8 (y : Int)] 5))
        clear hy he
        go_wp2_with (at_builtin; refine app_u rfl (.tmp 13) (.tmp 19) rfl w.heap.size _ _ y rfl HO.out hyb _ rfl HN.out HLn.out HB.out.size ?_)
        intro v' w2 ho2 hg2
        have HH2 : Hid (RnH w w2 ((dg k n).take (j + 1)) v') := Lib.hid ⟨Below.grown HB.out hg2 HB.out.size fun q e => (own_lt HO.out.1 q e).1, by rw [HS2.out]; exact ho2⟩
        clear ho2 hg2
        go_wp2
        go_roundg (gk - 1)
        case measure => omega
        case rel => exact ⟨j + 1, (0 : Int), by omega, by go_num, by omega, HH2⟩
      · have he : k - 1 - j = 2 := by omega
        obtain ⟨y, hy⟩ : ∃ y : Nat, n / 65536 % 256 = y := ⟨_, rfl⟩
        have hyc : (n : Int) / 65536 % 256 = (y : Int) := by rw [← hy]; omega
        have hyb : y < 256 := by omega
        have HS2 : Hid ((dg k n).take (j + 1) = (dg k n).take j ++ [y]) := Lib.hid (by rw [HSC.out, he]; exact congrArg _ (congrArg (fun q => [q]) hy))
        have HO := Lib.hid (HH.out.row.alloc (.cells #[.int .u8 (y : Int)] 5))
        have HB := Lib.hid (HH.out.below.alloc HH.out.below.size (.cells #[.int .u8 (y : Int)] 5))
        have HN := Lib.hid (heap_alloc_new wr (.cells #[.int .u8 (y : Int)] 5))
        clear hy he
        go_wp2_with (at_builtin; refine app_u rfl (.tmp 13) (.tmp 19) rfl w.heap.size _ _ y rfl HO.out hyb _ rfl HN.out HLn.out HB.out.size ?_)
        intro v' w2 ho2 hg2
        have HH2 : Hid (RnH w w2 ((dg k n).take (j + 1)) v') := Lib.hid ⟨Below.grown HB.out hg2 HB.out.size fun q e => (own_lt HO.out.1 q e).1, by rw [HS2.out]; exact ho2⟩
        clear ho2 hg2
        go_wp2
        go_roundg (gk - 1)
        case measure => omega
        case rel => exact ⟨j + 1, (1 : Int), by omega, by go_num, by omega, HH2⟩
      · have he : k - 1 - j = 3 := by omega
        obtain ⟨y, hy⟩ : ∃ y : Nat, n / 16777216 % 256 = y := ⟨_, rfl⟩
        have hyc : (n : Int) / 16777216 % 256 = (y : Int) := by rw [← hy]; omega
        have hyb : y < 256 := by omega
        have HS2 : Hid ((dg k n).take (j + 1) = (dg k n).take j ++ [y]) := Lib.hid (by rw [HSC.out, he]; exact congrArg _ (congrArg (fun q => [q]) hy))
        have HO := Lib.hid (HH.out.row.alloc (.cells #[.int .u8 (y : Int)] 5))
        have HB := Lib.hid (HH.out.below.alloc HH.out.below.size (.cells #[.int .u8 (y : Int)] 5))
        have HN := Lib.hid (heap_alloc_new wr (.cells #[.int .u8 (y : Int)] 5))
        clear hy he
        go_wp2_with (at_builtin; refine app_u rfl (.tmp 13) (.tmp 19) rfl w.heap.size _ _ y rfl HO.out hyb _ rfl HN.out HLn.out HB.out.size ?_)
        intro v' w2 ho2 hg2
        have HH2 : Hid (RnH w w2 ((dg k n).take (j + 1)) v') := Lib.hid ⟨Below.grown HB.out hg2 HB.out.size fun q e => (own_lt HO.out.1 q e).1, by rw [HS2.out]; exact ho2⟩
        clear ho2 hg2
        go_wp2
        go_roundg (gk - 1)
        case measure => omega
        case rel => exact ⟨j + 1, (2 : Int), by omega, by go_num, by omega, HH2⟩
      · have he : k - 1 - j = 4 := by omega
        obtain ⟨y, hy⟩ : ∃ y : Nat, n / 4294967296 % 256 = y := ⟨_, rfl⟩
        have hyc : (n : Int) / 4294967296 % 256 = (y : Int) := by rw [← hy]; omega
        have hyb : y < 256 := by omega
        have HS2 : Hid ((dg k n).take (j + 1) = (dg k n).take j ++ [y]) := Lib.hid (by rw [HSC.out, he]; exact congrArg _ (congrArg (fun q => [q]) hy))
        have HO := Lib.hid (HH.out.row.alloc (.cells #[.int .u8 (y : Int)] 5))
        have HB := Lib.hid (HH.out.below.alloc HH.out.below.size (.cells #[.int .u8 (y : Int)] 5))
        have HN := Lib.hid (heap_alloc_new wr (.cells #[.int .u8 (y : Int)] 5))
        clear hy he
        go_wp2_with (at_builtin; refine app_u rfl (.tmp 13) (.tmp 19) rfl w.heap.size _ _ y rfl HO.out hyb _ rfl HN.out HLn.out HB.out.size ?_)
        intro v' w2 ho2 hg2
        have HH2 : Hid (RnH w w2 ((dg k n).take (j + 1)) v') := Lib.hid ⟨Below.grown HB.out hg2 HB.out.size fun q e => (own_lt HO.out.1 q e).1, by rw [HS2.out]; exact ho2⟩
        clear ho2 hg2
        go_wp2
        go_roundg (gk - 1)
        case measure => omega
        case rel => exact ⟨j + 1, (3 : Int), by omega, by go_num, by omega, HH2⟩
      · have he : k - 1 - j = 5 := by omega
        obtain ⟨y, hy⟩ : ∃ y : Nat, n / 1099511627776 % 256 = y := ⟨_, rfl⟩
        have hyc : (n : Int) / 1099511627776 % 256 = (y : Int) := by rw [← hy]; omega
        have hyb : y < 256 := by omega
        have HS2 : Hid ((dg k n).take (j + 1) = (dg k n).take j ++ [y]) := Lib.hid (by rw [HSC.out, he]; exact congrArg _ (congrArg (fun q => [q]) hy))
        have HO := Lib.hid (HH.out.row.alloc (.cells #[.int .u8 (y : Int)] 5))
        have HB := Lib.hid (HH.out.below.alloc HH.out.below.size (.cells #[.int .u8 (y : Int)] 5))
        have HN := Lib.hid (heap_alloc_new wr (.cells #[.int .u8 (y : Int)] 5))
        clear hy he
        go_wp2_with (at_builtin; refine app_u rfl (.tmp 13) (.tmp 19) rfl w.heap.size _ _ y rfl HO.out hyb _ rfl HN.out HLn.out HB.out.size ?_)
        intro v' w2 ho2 hg2
        have HH2 : Hid (RnH w w2 ((dg k n).take (j + 1)) v') := Lib.hid ⟨Below.grown HB.out hg2 HB.out.size fun q e => (own_lt HO.out.1 q e).1, by rw [HS2.out]; exact ho2⟩
        clear ho2 hg2
        go_wp2
        go_roundg (gk - 1)
        case measure => omega
        case rel => exact ⟨j + 1, (4 : Int), by omega, by go_num, by omega, HH2⟩
      · have he : k - 1 - j = 6 := by omega
        obtain ⟨y, hy⟩ : ∃ y : Nat, n / 281474976710656 % 256 = y := ⟨_, rfl⟩
        have hyc : (n : Int) / 281474976710656 % 256 = (y : Int) := by rw [← hy]; omega
        have hyb : y < 256 := by omega
        have HS2 : Hid ((dg k n).take (j + 1) = (dg k n).take j ++ [y]) := Lib.hid (by rw [HSC.out, he]; exact congrArg _ (congrArg (fun q => [q]) hy))
        have HO := Lib.hid (HH.out.row.alloc (.cells #[.int .u8 (y : Int)] 5))
        have HB := Lib.hid (HH.out.below.alloc HH.out.below.size (.cells #[.int .u8 (y : Int)] 5))
        have HN := Lib.hid (heap_alloc_new wr (.cells #[.int .u8 (y : Int)] 5))
        clear hy he
        go_wp2_with (at_builtin; refine app_u rfl (.tmp 13) (.tmp 19) rfl w.heap.size _ _ y rfl HO.out hyb _ rfl HN.out HLn.out HB.out.size ?_)
        intro v' w2 ho2 hg2
        have HH2 : Hid (RnH w w2 ((dg k n).take (j + 1)) v') := Lib.hid ⟨Below.grown HB.out hg2 HB.out.size fun q e => (own_lt HO.out.1 q e).1, by rw [HS2.out]; exact ho2⟩
        clear ho2 hg2
        go_wp2
        go_roundg (gk - 1)
        case measure => omega
        case rel => exact ⟨j + 1, (5 : Int), by omega, by go_num, by omega, HH2⟩
      · have he : k - 1 - j = 7 := by omega
        obtain ⟨y, hy⟩ : ∃ y : Nat, n / 72057594037927936 % 256 = y := ⟨_, rfl⟩
        have hyc : (n : Int) / 72057594037927936 = (y : Int) := by rw [← hy]; omega
        have hyb : y < 256 := by omega
        have HS2 : Hid ((dg k n).take (j + 1) = (dg k n).take j ++ [y]) := Lib.hid (by rw [HSC.out, he]; exact congrArg _ (congrArg (fun q => [q]) hy))
        have HO := Lib.hid (HH.out.row.alloc (.cells #[.int .u8 (y : Int)] 5))
        have HB := Lib.hid (HH.out.below.alloc HH.out.below.size (.cells #[.int .u8 (y : Int)] 5))
        have HN := Lib.hid (heap_alloc_new wr (.cells #[.int .u8 (y : Int)] 5))
        clear hy he
        go_wp2_with (at_builtin; refine app_u rfl (.tmp 13) (.tmp 19) rfl w.heap.size _ _ y rfl HO.out hyb _ rfl HN.out HLn.out HB.out.size ?_)
        intro v' w2 ho2 hg2
        have HH2 : Hid (RnH w w2 ((dg k n).take (j + 1)) v') := Lib.hid ⟨Below.grown HB.out hg2 HB.out.size fun q e => (own_lt HO.out.1 q e).1, by rw [HS2.out]; exact ho2⟩
        clear ho2 hg2
        go_wp2
        go_roundg (gk - 1)
        case measure => omega
        case rel => exact ⟨j + 1, (6 : Int), by omega, by go_num, by omega, HH2⟩
    · have hjk : j = k := by omega
      have hv := HH.out
      rw [hjk, List.take_of_length_le (by rw [Fld.dg_length]; exact Nat.le_refl _)] at hv
      have HV := Lib.hid hv
      clear hv
      go_wp2
      go_ret
      exact ⟨_, rfl, Lib.hid HV.out.row, Lib.hid HV.out.below⟩
end Go.Proofs.Ytfbfckdabbaocaa.St
