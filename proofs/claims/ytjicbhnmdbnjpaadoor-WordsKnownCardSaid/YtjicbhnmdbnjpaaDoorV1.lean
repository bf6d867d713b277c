/-
  What is proved here: the contract of works: the chapter's examples hold. Condition: the package variables lie as their texts lay them.
-/
import Derived.Test.YtjicbhnmdbnjpaaDoorW4
import Derived.Test.YtjicbhnmdbnjpaaDoorW7
import Derived.Test.YtjicbhnmdbnjpaaDoorW8
namespace Go.Proofs.YtjicbhnmdbnjpaaDoor
open Go.RowKit Wd

namespace Wd
def rgB : List UInt8 → List Ch → Bool
  | l, [] => l.isEmpty
  | l, c :: cs => l.take c.bs.length == c.bs && !c.bs.isEmpty && dec l == (c.r, c.bs.length) && rgB (l.drop c.bs.length) cs
theorem rg_of_B : ∀ (cs : List Ch) (l : List UInt8), rgB l cs = true → Rg l cs
  | [], l, h => by show l = []; simpa [rgB] using h
  | c :: cs, l, h => by
    simp only [rgB, Bool.and_eq_true, beq_iff_eq, Bool.not_eq_true', List.isEmpty_eq_false_iff] at h
    obtain ⟨⟨⟨h1, h2⟩, h3⟩, h4⟩ := h
    exact ⟨l.drop c.bs.length, by rw [← h1, List.length_take]; rw [← h1] at h2; exact (by
      have : min (min c.bs.length l.length) l.length = min c.bs.length l.length := by omega
      rw [h1]
      conv => lhs; rw [← List.take_append_drop c.bs.length l]
      rw [h1]
      congr 1
      have hl := congrArg List.length h1
      rw [List.length_take] at hl
      rw [hl]), h2, h3, rg_of_B cs _ h4⟩
def asc (l : List UInt8) : List Ch := l.map fun b => ⟨b.toNat, [b]⟩
end Wd

theorem below_step {B : Nat} {a b c : World} (h : Below B a b) (hB : B ≤ b.heap.size) (k : Below b.heap.size b c) : Below B a c := h.trans (k.mono hB)

theorem same_yes (v v' : Value) (L M : List (List UInt8)) (w : World) (h : Hid (Txt w v L)) (h' : Hid (Txt w v' M)) (e : Hid (L = M)) (hl : L.length ≤ 1000000) :
    Calls Tryd.prog 11 #[v, v'] w fun e w' => e = .returned (.bool true) ∧ Below w.heap.size w w' := by
  have := same_any v v' L M w h.out h'.out hl (by rw [← e.out]; exact hl)
  rw [decide_eq_true e.out] at this
  exact this

/- Texts that were just laid out. -/
theorem lit_txt (w : World) (L : List (List UInt8)) (n : Nat) (hn : L.length = n) : Txt (w.alloc (.cells (strs L).toArray 9)) (.slice (some ⟨w.heap.size, 0, none⟩) n n) L := by
  subst hn
  refine ⟨some ⟨w.heap.size, 0, none⟩, L.length, rfl, fun k x hx => ⟨_, rfl, ?_⟩⟩
  rw [add_plain, Nat.zero_add, cell_of_row _ _ k _ 9 (0, 0) (heap_alloc_new w _), List.getElem?_toArray, strs_at, hx]; rfl

theorem lines_at (s : ByteArray) (l : List UInt8) (L : List (List UInt8)) (w : World) (hs : s = sb l) (hl : l.length ≤ 100000) (hL : ln [] l = L) :
    Calls Tryd.prog 10 #[.string s] w fun e w' => ∃ v, e = .returned v ∧ Hid (Own w' w.heap.size v L) ∧ Hid (Below w.heap.size w w') := by
  subst hs hL; exact (lines_any l w hl).mono fun e w' ⟨v, h1, h2, h3⟩ => ⟨v, h1, Lib.hid h2, Lib.hid h3⟩
theorem words_at (s : ByteArray) (l : List UInt8) (cs : List Ch) (L : List (List UInt8)) (E : Int) (w : World) (hs : s = sb l) (h : rgB l cs = true) (hl : l.length ≤ 100000) (hL : wordsOf cs = (L, E)) :
    Calls Tryd.prog 13 #[.string s] w fun e w' => ∃ v, e = .returned (.tuple #[v, .int .i64 E]) ∧ Hid (Own w' w.heap.size v L) ∧ Hid (Below w.heap.size w w') := by
  subst hs
  refine (words_any l cs w (rg_of_B cs l h) hl).mono fun e w' ⟨v, h1, h2, h3⟩ => ?_
  rw [hL] at h1 h2
  exact ⟨v, h1, Lib.hid h2, Lib.hid h3⟩
theorem number_at (s : ByteArray) (l : List UInt8) (cs : List Ch) (n : Nat) (E : Int) (w : World) (hs : s = sb l) (hLd : Hid (Laid w)) (h : rgB l cs = true) (hl : l.length ≤ 100000) (hL : numOf cs = (n, E)) :
    Calls Tryd.prog 17 #[.string s] w fun e w' => e = .returned (.tuple #[.int .i64 (n : Int), .int .i64 E]) ∧ Hid (Below w.heap.size w w') := by
  subst hs
  refine (number_any l cs w hLd.out (rg_of_B cs l h) hl).mono fun e w' ⟨h1, h3⟩ => ?_
  rw [hL] at h1
  exact ⟨h1, Lib.hid h3⟩

theorem ex1 : ln [] [97, 13, 10, 10, 98] = [[97], [], [98]] := by decide +kernel
theorem ex2 : wordsOf [⟨32, [32]⟩, ⟨97, [97]⟩, ⟨160, [194, 160]⟩, ⟨98, [98]⟩, ⟨32, [32]⟩, ⟨35, [35]⟩, ⟨32, [32]⟩, ⟨99, [99]⟩] = ([[97], [98]], 0) := by decide +kernel
theorem ex3 : numOf (asc [49, 50]) = (12, 0) := by decide +kernel
theorem ex4 : numOf [⟨1633, [217, 161]⟩, ⟨1634, [217, 162]⟩] = (12, 0) := by decide +kernel
theorem ex5 : numOf [⟨1633, [217, 161]⟩, ⟨50, [50]⟩] = (0, 30) := by decide +kernel
theorem ex6 : numOf (asc [48, 49]) = (0, 30) := by decide +kernel
theorem ex7 : numOf (asc []) = (0, 30) := by decide +kernel
theorem ex8 : numOf (asc [52, 54, 49, 49, 54, 56, 54, 48, 49, 56, 52, 50, 55, 51, 56, 55, 57, 48, 53]) = (0, 50) := by decide +kernel

set_option maxRecDepth 100000 in
set_option maxHeartbeats 4000000 in
theorem works_any (w : World) (hL : Laid w) : Calls Tryd.prog 9 #[] w fun e w' => e = .returned (.bool true) ∧ Below w.heap.size w w' := by
  have HL := Lib.hid hL; clear hL
  go_enter Tryd.func9, Tryd.ntmps9
  go_wp2_with fail
  refine (lines_at _ [97, 13, 10, 10, 98] _ _ rfl (by decide) ex1).mono ?_
  rintro e w1 ⟨v1, rfl, HO1, HB1⟩
  have HT1 := Lib.hid HO1.out.txt; clear HO1
  go_wp2_with fail
  refine (words_at _ [32, 97, 194, 160, 98, 32, 35, 32, 99] [⟨32, [32]⟩, ⟨97, [97]⟩, ⟨160, [194, 160]⟩, ⟨98, [98]⟩, ⟨32, [32]⟩, ⟨35, [35]⟩, ⟨32, [32]⟩, ⟨99, [99]⟩] _ _ _ rfl (by decide +kernel) (by decide) ex2).mono ?_
  rintro e w2 ⟨v2, rfl, HO2, HB⟩
  have HT1 := Lib.hid (HT1.out.below HB.out)
  have HT2 := Lib.hid HO2.out.txt
  have HB2 := Lib.hid (below_trans HB1.out HB.out); clear HB HO2 HB1
  go_wp2_with fail
  refine (number_at _ [49, 50] (asc [49, 50]) _ _ _ rfl (Lib.hid (HL.out.bel HB2.out)) (by decide +kernel) (by decide) ex3).mono ?_
  rintro e w3 ⟨rfl, HB⟩
  have HT1 := Lib.hid (HT1.out.below HB.out)
  have HT2 := Lib.hid (HT2.out.below HB.out)
  have HB3 := Lib.hid (below_trans HB2.out HB.out); clear HB
  go_wp2_with fail
  refine (number_at _ [217, 161, 217, 162] [⟨1633, [217, 161]⟩, ⟨1634, [217, 162]⟩] _ _ _ rfl (Lib.hid (HL.out.bel HB3.out)) (by decide +kernel) (by decide) ex4).mono ?_
  rintro e w4 ⟨rfl, HB⟩
  have HT1 := Lib.hid (HT1.out.below HB.out)
  have HT2 := Lib.hid (HT2.out.below HB.out)
  have HB4 := Lib.hid (below_trans HB3.out HB.out); clear HB
  go_wp2_with fail
  refine (number_at _ [217, 161, 50] [⟨1633, [217, 161]⟩, ⟨50, [50]⟩] _ _ _ rfl (Lib.hid (HL.out.bel HB4.out)) (by decide +kernel) (by decide) ex5).mono ?_
  rintro e w5 ⟨rfl, HB⟩
  have HT1 := Lib.hid (HT1.out.below HB.out)
  have HT2 := Lib.hid (HT2.out.below HB.out)
  have HB5 := Lib.hid (below_trans HB4.out HB.out); clear HB
  go_wp2_with fail
  refine (number_at _ [48, 49] (asc [48, 49]) _ _ _ rfl (Lib.hid (HL.out.bel HB5.out)) (by decide +kernel) (by decide) ex6).mono ?_
  rintro e w6 ⟨rfl, HB⟩
  have HT1 := Lib.hid (HT1.out.below HB.out)
  have HT2 := Lib.hid (HT2.out.below HB.out)
  have HB6 := Lib.hid (below_trans HB5.out HB.out); clear HB
  go_wp2_with fail
  refine (number_at _ [] (asc []) _ _ _ rfl (Lib.hid (HL.out.bel HB6.out)) (by decide +kernel) (by decide) ex7).mono ?_
  rintro e w7 ⟨rfl, HB⟩
  have HT1 := Lib.hid (HT1.out.below HB.out)
  have HT2 := Lib.hid (HT2.out.below HB.out)
  have HB7 := Lib.hid (below_trans HB6.out HB.out); clear HB
  go_wp2_with fail
  refine (number_at _ [52, 54, 49, 49, 54, 56, 54, 48, 49, 56, 52, 50, 55, 51, 56, 55, 57, 48, 53] (asc [52, 54, 49, 49, 54, 56, 54, 48, 49, 56, 52, 50, 55, 51, 56, 55, 57, 48, 53]) _ _ _ rfl (Lib.hid (HL.out.bel HB7.out)) (by decide +kernel) (by decide) ex8).mono ?_
  rintro e w8 ⟨rfl, HB⟩
  have HT1 := Lib.hid (HT1.out.below HB.out)
  have HT2 := Lib.hid (HT2.out.below HB.out)
  have HB8 := Lib.hid (below_trans HB7.out HB.out); clear HB
  have hal : Below w8.heap.size w8 (w8.alloc (.cells #[.string ⟨#[97]⟩, .string ⟨#[]⟩, .string ⟨#[98]⟩] 9)) := (Below.refl _ _).alloc (Nat.le_refl _) _
  have HT1 := Lib.hid (HT1.out.below hal)
  have HT2 := Lib.hid (HT2.out.below hal)
  have HT3 := Lib.hid (show Txt (w8.alloc (.cells #[.string ⟨#[97]⟩, .string ⟨#[]⟩, .string ⟨#[98]⟩] 9)) (.slice (some ⟨w8.heap.size, 0, none⟩) 3 3) [[97], [], [98]] from lit_txt w8 [[97], [], [98]] 3 rfl)
  have HB9 := Lib.hid (below_trans HB8.out hal); clear hal
  go_wp2_with fail
  refine (same_yes _ _ [[97], [], [98]] [[97], [], [98]] _ HT1 HT3 (Lib.hid rfl) (by decide)).mono ?_
  rintro e w10 ⟨rfl, hb⟩
  have HT2 := Lib.hid (HT2.out.below hb)
  have HB10 := Lib.hid (below_trans HB9.out hb); clear hb HT1 HT3
  have hal : Below w10.heap.size w10 (w10.alloc (.cells #[.string ⟨#[97]⟩, .string ⟨#[98]⟩] 9)) := (Below.refl _ _).alloc (Nat.le_refl _) _
  have HT2 := Lib.hid (HT2.out.below hal)
  have HT3 := Lib.hid (show Txt (w10.alloc (.cells #[.string ⟨#[97]⟩, .string ⟨#[98]⟩] 9)) (.slice (some ⟨w10.heap.size, 0, none⟩) 2 2) [[97], [98]] from lit_txt w10 [[97], [98]] 2 rfl)
  have HB11 := Lib.hid (below_trans HB10.out hal); clear hal
  go_wp2_with fail
  refine (same_yes _ _ [[97], [98]] [[97], [98]] _ HT2 HT3 (Lib.hid rfl) (by decide)).mono ?_
  rintro e w12 ⟨rfl, hb⟩
  have HB12 := Lib.hid (below_trans HB11.out hb); clear hb HT2 HT3
  go_wp2_with fail
  refine (print_ok 12 0 _ (HL.out.bel HB12.out) (by decide) (by decide)).mono ?_
  rintro e w13 ⟨rfl, hb⟩
  have HB13 := Lib.hid (below_trans HB12.out hb); clear hb
  rw [show pr 0 12 = [49, 50] by decide +kernel]
  have hst : (sb [49, 50]).toList = [49, 50] := sb_toList _
  go_wp2_with fail
  refine (digit_i 55 7 _ (HL.out.bel HB13.out) (by decide) (by decide) (by decide)).mono ?_
  rintro e w14 ⟨rfl, rfl⟩
  go_wp2
  go_ret
  exact ⟨rfl, HB13.out⟩

end Go.Proofs.YtjicbhnmdbnjpaaDoor
