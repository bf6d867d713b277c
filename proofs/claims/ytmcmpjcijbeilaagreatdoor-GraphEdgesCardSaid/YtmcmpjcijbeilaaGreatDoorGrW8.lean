/-
  What is proved here: the contract of graph.Print: a graph's text, or the error of Check. Conditions: the package variables lie as their texts lay them; numbers and counts fit an int.
-/
import Derived.Test.YtmcmpjcijbeilaaGreatDoorGrW2
import Derived.Test.YtmcmpjcijbeilaaGreatDoorGrW7
namespace Go.Proofs.YtmcmpjcijbeilaaGreatDoor.Gr
open Go.RowKit Wd Ws

def edgeT (e : Ed) : List UInt8 := lineN edgeB [e.1.toNat, e.2.1.toNat, e.2.2.toNat] ++ [10]
def textP (V : Int) (L : List Ed) : List UInt8 := lineN vertB [V.toNat] ++ [10] ++ L.flatMap edgeT
def printB (V : Int) (L : List Ed) : List UInt8 := if chk V L = 0 then textP V L else []
theorem textP_snoc (V : Int) (L : List Ed) (e : Ed) : textP V (L ++ [e]) = textP V L ++ edgeT e := by simp [textP]
theorem fit_nat {V : Int} {e : Ed} (h : fitE V e = true) : ∃ a b c : Nat, e = ((a : Int), (b : Int), (c : Int)) ∧ (a : Int) < V ∧ (b : Int) < V ∧ c < 2147483648 := by
  obtain ⟨x, y, z⟩ := e
  rw [fitE_iff] at h
  simp only at h
  exact ⟨x.toNat, y.toNat, z.toNat, by rw [Int.toNat_of_nonneg h.1, Int.toNat_of_nonneg h.2.2.1, Int.toNat_of_nonneg h.2.2.2.2.1], by omega, by omega, by omega⟩
theorem edgeT_len (a b c : Nat) (ha : a ≤ 9223372036854775807) (hb : b ≤ 9223372036854775807) (hc : c ≤ 9223372036854775807) : (edgeT ((a : Int), (b : Int), (c : Int))).length ≤ 180 := by
  have := blnk_len [a, b, c] (by simp; omega)
  show (edgeB ++ blnk [a, b, c] ++ [10]).length ≤ _
  simp only [List.length_append, List.length_cons, List.length_nil] at this ⊢
  have e : edgeB.length = 4 := rfl
  omega

def PnRel (w1 : World) (V : Int) (L : List Ed) (g : Nat) (i : Value) (wr : World) : Prop :=
  ∃ k : Nat, k + g = L.length ∧ i = .int .i64 (k : Int) ∧ Bld w1.heap.size w1.heap.size (textP V (L.take k)) wr ∧ Below w1.heap.size w1 wr ∧ (textP V (L.take k)).length ≤ 100 + 180 * k

set_option maxRecDepth 100000 in
set_option maxHeartbeats 600000 in
theorem print_any (V : Int) (A : Option Addr) (c : Nat) (L : List Ed) (w : World) (hL : EAt w A L) (hLd : Laid w) (hm : L.length ≤ 9223372036854775807) :
    Calls Tryz.prog 11 #[.agg #[.int .i64 V, .slice A L.length c]] w fun e w' => e = .returned (.tuple #[.string (sb (printB V L)), .int .i64 (chk V L)]) ∧ Below w.heap.size w w' := by
  have hz : Below w.heap.size w (w.alloc (.cells #[.int .i64 V, .slice A L.length c] 24)) := (Below.refl _ w).alloc (Nat.le_refl _) _
  obtain ⟨R, hR⟩ : ∃ R, chk V L = R := ⟨_, rfl⟩
  have hC := check_any V A c L _ (hL.below hz) hm
  rw [hR] at hC
  rw [hR]
  have HC := Lib.hid hC; have HL := Lib.hid hL; have HLD := Lib.hid hLd; have HZ := Lib.hid hz
  have hbx := Lib.hid (heap_alloc_new w (.cells #[.int .i64 V, .slice A L.length c] 24))
  clear hC hL hLd hz
  by_cases h0 : R = 0
  · subst h0
    obtain ⟨v1, v2, v3, v4, v5⟩ := (chk_zero V L).1 hR
    have hT : printB V L = textP V L := by unfold printB; rw [if_pos hR]
    rw [hT]
    clear hT hR
    obtain ⟨v, rfl⟩ : ∃ v : Nat, V = (v : Int) := ⟨V.toNat, by rw [Int.toNat_of_nonneg (by omega)]⟩
    have HF := Lib.hid v4; clear v4 v5
    go_enter Tryz.func11, Tryz.ntmps11
    go_wp2_with fail
    refine HC.out.mono ?_
    rintro e w1 ⟨rfl, hb1⟩
    have hsz : w.heap.size < w1.heap.size := by have := hb1.size; simp at this; omega
    have hB1 := HZ.out.trans (hb1.mono (by simp))
    have hbx1 := (hb1.block _ (by simp)).trans hbx.out
    obtain ⟨x0, x1, _⟩ := Bx.cells hbx1
    have HX1 := Lib.hid hbx1
    have HLd : Hid (∀ w', Below w1.heap.size w1 w' → Laid w') := Lib.hid fun w' h => (HLD.out.bel hB1).bel h
    have HI0 := Lib.hid (Lib.fresh_isBuilder 48 5 w1)
    have hb0 : Below w1.heap.size w1 (w1.alloc (.cells #[.pointer none, .slice none 0 0] 48)) := (Below.refl _ w1).alloc (Nat.le_refl _) _
    have hb2 : Below w1.heap.size w1 ((w1.alloc (.cells #[.pointer none, .slice none 0 0] 48)).alloc (.cells #[.int .i64 (v : Int)] 2)) := hb0.alloc hb0.size _
    have HI2 : Hid (Bld w1.heap.size w1.heap.size [] ((w1.alloc (.cells #[.pointer none, .slice none 0 0] 48)).alloc (.cells #[.int .i64 (v : Int)] 2))) := Lib.hid (build_below HI0.out ((Below.refl _ _).alloc (Nat.le_refl _) _))
    have HG2 := Lib.hid (heap_alloc_new (w1.alloc (.cells #[.pointer none, .slice none 0 0] 48)) (.cells #[.int .i64 (v : Int)] 2))
    have HLd2 : Hid (∀ w', Below w1.heap.size ((w1.alloc (.cells #[.pointer none, .slice none 0 0] 48)).alloc (.cells #[.int .i64 (v : Int)] 2)) w' → Laid w') := Lib.hid fun w' h => HLd.out w' (hb2.trans h)
    have HB1 := Lib.hid hB1; have HB2 := Lib.hid hb2
    have hs2 : ((w1.alloc (.cells #[.pointer none, .slice none 0 0] 48))).heap.size = w1.heap.size + 1 := by simp
    rw [hs2] at HG2
    clear hb1 hB1 hbx1 hb0 hb2 HI0 HC hs2
    go_wp2_with fail
    refine (writeLine_any w1.heap.size w1.heap.size (w1.heap.size + 1) [] vertB _ [v] 1 _ rfl rfl HLd2 HI2 HG2.out (by omega) (by simp; omega) (by omega) (by decide) (by simp; omega)).mono ?_
    rintro e w3 ⟨rfl, HI3, HB3, _⟩
    have HI3' : Hid (Bld w1.heap.size w1.heap.size (textP (v : Int) []) w3) := Lib.hid (by simpa [textP] using HI3.out)
    have HB3' := Lib.hid (HB2.out.trans HB3.out)
    have hlen0 : (textP (v : Int) []).length ≤ 100 := by
      have := blnk_len [v] (by simp; omega)
      show (vertB ++ blnk [v] ++ [10] ++ []).length ≤ _
      simp only [List.length_append, List.length_cons, List.length_nil] at this ⊢
      have e : vertB.length = 8 := rfl
      omega
    have hbx3 := (HB3'.out.block _ hsz).trans HX1.out
    clear x0 x1
    obtain ⟨x0, x1, _⟩ := Bx.cells hbx3
    clear hbx3
    go_wp2
    go_loopg [20] L.length (fun g i wr => PnRel w1 (v : Int) L g i wr)
    case atStart => exact ⟨0, by omega, rfl, HI3'.out, HB3'.out, by simpa using hlen0⟩
    case round =>
      obtain ⟨k, hk, rfl, hi, hb, hln⟩ := hrel
      have hsr := hb.size
      by_cases hlt : k < L.length
      · obtain ⟨e, he⟩ := at_lt L k hlt
        obtain ⟨bk, o, rfl, c0, c1, c2⟩ := (HL.out.below (HB1.out.trans (hb.mono (by omega)))) k e he
        have hfe := HF.out e (List.mem_of_getElem? he)
        obtain ⟨a0, a1, a2, rfl, h1, h2, h3⟩ := fit_nat hfe
        have hbA : Below w1.heap.size w1 (wr.alloc (.cells #[.int .i64 (a0 : Int), .int .i64 (a1 : Int), .int .i64 (a2 : Int)] 42)) := hb.alloc hsr _
        have hbB : Below w1.heap.size w1 ((wr.alloc (.cells #[.int .i64 (a0 : Int), .int .i64 (a1 : Int), .int .i64 (a2 : Int)] 42)).alloc (.cells #[.int .i64 (a0 : Int), .int .i64 (a1 : Int), .int .i64 (a2 : Int)] 2)) := hbA.alloc hbA.size _
        have HI4 : Hid (Bld w1.heap.size w1.heap.size (textP (v : Int) (L.take k)) ((wr.alloc (.cells #[.int .i64 (a0 : Int), .int .i64 (a1 : Int), .int .i64 (a2 : Int)] 42)).alloc (.cells #[.int .i64 (a0 : Int), .int .i64 (a1 : Int), .int .i64 (a2 : Int)] 2))) :=
          Lib.hid (build_below (build_below hi ((Below.refl _ _).alloc (Nat.le_refl _) _)) ((Below.refl _ _).alloc (Nat.le_refl _) _))
        have HG4 := Lib.hid (heap_alloc_new (wr.alloc (.cells #[.int .i64 (a0 : Int), .int .i64 (a1 : Int), .int .i64 (a2 : Int)] 42)) (.cells #[.int .i64 (a0 : Int), .int .i64 (a1 : Int), .int .i64 (a2 : Int)] 2))
        have hs4 : (wr.alloc (.cells #[.int .i64 (a0 : Int), .int .i64 (a1 : Int), .int .i64 (a2 : Int)] 42)).heap.size = wr.heap.size + 1 := by simp
        rw [hs4] at HG4
        have HLd4 : Hid (∀ w', Below w1.heap.size ((wr.alloc (.cells #[.int .i64 (a0 : Int), .int .i64 (a1 : Int), .int .i64 (a2 : Int)] 42)).alloc (.cells #[.int .i64 (a0 : Int), .int .i64 (a1 : Int), .int .i64 (a2 : Int)] 2)) w' → Laid w') := Lib.hid fun w' h => HLd.out w' (hbB.trans h)
        have hel := edgeT_len a0 a1 a2 (by omega) (by omega) (by omega)
        have HE := Lib.hid he; have HB4 := Lib.hid hbB; have HLN := Lib.hid hln
        have hll : (textP (v : Int) (L.take k)).length + edgeB.length ≤ 10000000 := by have e : edgeB.length = 4 := rfl; omega
        clear he hi hb hbA hbB hs4 hln hfe
        go_wp2_with fail
        refine (writeLine_any w1.heap.size w1.heap.size (wr.heap.size + 1) _ edgeB _ [a0, a1, a2] 3 _ rfl rfl HLd4 HI4 HG4.out (by omega) (by simp; omega) (by omega) hll (by simp; omega)).mono ?_
        rintro e w5 ⟨rfl, HI5, HB5, _⟩
        go_wp2
        go_roundg (gk - 1)
        case measure => omega
        case rel =>
          have ee : textP (v : Int) (L.take (k + 1)) = textP (v : Int) (L.take k) ++ edgeT ((a0 : Int), (a1 : Int), (a2 : Int)) := by rw [take_at HE.out, textP_snoc]
          refine ⟨k + 1, by omega, by go_num, ?_, HB4.out.trans HB5.out, ?_⟩
          · rw [ee]; exact HI5.out
          · rw [ee, List.length_append]; have := HLN.out; omega
      · have hkn : k = L.length := by omega
        have HI6 : Hid (Bld w1.heap.size w1.heap.size (textP (v : Int) L) wr) := Lib.hid (by have := hi; rw [hkn, List.take_length] at this; exact this)
        have HB6 := Lib.hid (HB1.out.trans (hb.mono (by omega)))
        clear hi hb hln
        go_wp2_with fail
        refine (Tryz.Builder_String_any _ _ _ _ HI6.out hsr).mono ?_
        rintro e w7 ⟨rfl, hb7⟩
        have HB7 := Lib.hid hb7; clear hb7
        go_wp2
        go_ret2
        exact ⟨rfl, HB6.out.trans (HB7.out.mono (by omega))⟩
  · have hT : printB V L = [] := by unfold printB; rw [if_neg (by rw [hR]; exact h0)]
    rw [hT]
    clear hT hR
    go_enter Tryz.func11, Tryz.ntmps11
    go_wp2_with fail
    refine HC.out.mono ?_
    rintro e w1 ⟨rfl, hb1⟩
    have hB1 := Lib.hid (HZ.out.trans (hb1.mono (by simp)))
    clear hb1
    go_wp2
    go_ret2
    exact ⟨rfl, hB1.out⟩

end Go.Proofs.YtmcmpjcijbeilaaGreatDoor.Gr
