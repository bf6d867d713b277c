/-
  What is proved here: the walk of WordsLines: it returns true for every text. Condition: the package variables lie as their texts lay them.
-/
import Derived.Test.YtjicbhnmdbnjpaaDoorV3
namespace Go.Proofs.YtjicbhnmdbnjpaaDoor
open Go.RowKit Wd

theorem lns_append (a b : List (List UInt8)) : lns (a ++ b) = lns a ++ lns b := by simp [lns]
theorem lns_take (L : List (List UInt8)) (k : Nat) : (lns (L.take k)).length ≤ (lns L).length := by
  conv => rhs; rw [← List.take_append_drop k L, lns_append, List.length_append]
  omega
theorem lns_mem (L : List (List UInt8)) (k : Nat) (x : List UInt8) (h : L[k]? = some x) : x.length ≤ (lns L).length := by
  obtain ⟨h1, h2⟩ := List.getElem?_eq_some_iff.1 h
  have := lns_take L (k + 1)
  rw [List.take_succ_eq_append_getElem h1, h2, lns_snoc] at this
  simp only [List.length_append] at this
  omega
theorem take_more {α : Type} (L : List α) (k : Nat) (x : α) (h : L[k]? = some x) : L.take (k + 1) = L.take k ++ [x] := by
  obtain ⟨h1, h2⟩ := List.getElem?_eq_some_iff.1 h
  rw [List.take_succ_eq_append_getElem h1, h2]
def sm (x : List UInt8) : Bool := decide (trim x = x)
theorem sm_nil : sm [] = true := by decide
theorem sm_13 (t : List UInt8) : sm (t ++ [13]) = false := by
  unfold sm; rw [trim_13, decide_eq_false]
  intro h
  have := congrArg List.length h
  simp at this
theorem sm_other (t : List UInt8) (b : UInt8) (h : b ≠ 13) : sm (t ++ [b]) = true := by
  unfold sm; rw [trim_other t b h]; simp

def L1Rel (w1 : World) (n : Nat) (L : List (List UInt8)) (g : Nat) (t i : Value) (wr : World) : Prop :=
  ∃ k : Nat, k + g = n ∧ i = .int .i64 (k : Int) ∧ t = .string (sb (lns (L.take k))) ∧ wr = w1
def L2Rel (w1 : World) (n : Nat) (L : List (List UInt8)) (g : Nat) (b i : Value) (wr : World) : Prop :=
  ∃ (k : Nat) (o : Bool), k + g = n ∧ i = .int .i64 (k : Int) ∧ b = .bool o ∧ o = (L.take k).all sm ∧ wr = w1

set_option maxRecDepth 100000 in
set_option maxHeartbeats 4000000 in
theorem lines_law (s : ByteArray) (w : World) (hL : Laid w) (_hs : s.size ≤ 9223372036854775807) : Calls Tryd.prog 3 #[.string s] w fun e w' => e = .returned (.bool true) ∧ Below w.heap.size w w' := by
  have HL := Lib.hid hL; clear hL
  by_cases hbig : 2000 < s.size
  · go_enter Tryd.func3, Tryd.ntmps3
    go_wp2_with fail
    all_goals (try (exfalso; omega))
    refine (works_any _ HL.out).mono ?_
    rintro e w1 ⟨rfl, hb⟩
    have HB := Lib.hid hb; clear hb
    go_wp2
    go_ret
    exact ⟨rfl, HB.out⟩
  · obtain ⟨l, rfl⟩ : ∃ l, s = sb l := ⟨_, sb_list s⟩
    rw [sb_size] at hbig
    have hsz := sb_size l
    obtain ⟨L, hLl⟩ : ∃ L, ln [] l = L := ⟨_, rfl⟩
    have htot : (lns L).length ≤ l.length + 1 := by rw [← hLl]; have := ln_total l []; simp only [List.length_nil] at this; omega
    have HLE := Lib.hid hLl
    have HN10 := Lib.hid (show ∀ x ∈ L, ∀ b ∈ x, b ≠ 10 by rw [← hLl]; exact ln_no10 l [] (by simp))
    clear hLl
    have hnl : L.length ≤ (lns L).length := lns_len L
    obtain ⟨n, hn⟩ : ∃ n, n = L.length := ⟨_, rfl⟩
    rw [← hn] at hnl
    go_enter Tryd.func3, Tryd.ntmps3
    go_wp2_with fail
    all_goals (try (exfalso; omega))
    refine (lines_hid _ l L _ rfl (by omega) HLE).mono ?_
    rintro e w1 ⟨v, rfl, HO, HB1⟩
    obtain ⟨A, c, rfl, hat⟩ := HO.out.txt
    rw [← hn]
    have HAT := Lib.hid hat; clear hat HO
    have HTX := Lib.hid (show Txt w1 (.slice A n c) L from ⟨A, c, by rw [hn], HAT.out⟩)
    have HN := Lib.hid hn; clear hn
    go_wp2
    go_loopg [4, 5] n (fun g t i wr => L1Rel w1 n L g t i wr)
    case atStart => exact ⟨0, by omega, rfl, rfl, rfl⟩
    case round =>
      obtain ⟨k, hk, rfl, rfl, rfl⟩ := hrel
      by_cases hkn : k < n
      · obtain ⟨x, hx⟩ : ∃ x, L[k]? = some x := ⟨_, List.getElem?_eq_getElem (by rw [← HN.out]; exact hkn)⟩
        obtain ⟨ad, rfl, hc⟩ := HAT.out k x hx
        have hz1 : (sb (lns (L.take k))).size ≤ 2001 := by rw [sb_size]; have := lns_take L k; omega
        have hz2 : (sb x).size ≤ 2001 := by rw [sb_size]; have := lns_mem L k x hx; omega
        have HX := Lib.hid hx; clear hx
        go_wp2
        all_goals (try (exfalso; omega))
        go_roundg (gk - 1)
        case measure => omega
        case rel =>
          refine ⟨k + 1, by omega, by go_num, ?_, rfl⟩
          rw [take_more L k x HX.out, lns_snoc, ← sb_append, ← sb_append]; rfl
      · obtain rfl : k = n := by omega
        have HT := Lib.hid (show L.take k = L by rw [HN.out, List.take_length])
        go_wp2
        all_goals (try (exfalso; omega))
        rw [HT.out]
        go_loopg [6, 7] k (fun g b i wr2 => L2Rel wr k L g b i wr2)
        case atStart => exact ⟨0, true, by omega, rfl, rfl, rfl, rfl⟩
        case round =>
          obtain ⟨j, o, hj, rfl, rfl, ho, rfl⟩ := hrel
          have HOO := Lib.hid ho; clear ho
          by_cases hjn : j < k
          · obtain ⟨x, hx⟩ : ∃ x, L[j]? = some x := ⟨_, List.getElem?_eq_getElem (by rw [← HN.out]; exact hjn)⟩
            obtain ⟨ad, rfl, hc⟩ := HAT.out j x hx
            have hz2 : (sb x).size ≤ 2001 := by rw [sb_size]; have := lns_mem L j x hx; omega
            have HX := Lib.hid hx; clear hx
            have HS := Lib.hid (show (L.take (j + 1)).all sm = (o && sm x) by rw [take_more L j x HX.out, List.all_append, ← HOO.out]; simp)
            cases o with
            | false =>
              go_wp2
              all_goals (try (exfalso; omega))
              all_goals go_roundg (gk - 1)
              all_goals first
                | omega
                | exact ⟨j + 1, false, by omega, by go_num, rfl, by rw [HS.out]; rfl, rfl⟩
            | true =>
              rcases snoc_cases x with hx0 | ⟨t, b, hx0⟩
              · have hsx : (sb x).size = 0 := by rw [sb_size, hx0]; rfl
                have HX0 := Lib.hid hx0; clear hx0
                go_wp2
                all_goals (try (exfalso; omega))
                all_goals go_roundg (gk - 1)
                all_goals first
                  | omega
                  | exact ⟨j + 1, true, by omega, by go_num, rfl, by rw [HS.out, HX0.out, sm_nil]; rfl, rfl⟩
              · obtain ⟨m, hm⟩ : ∃ m, m = t.length := ⟨_, rfl⟩
                have hsx : (sb x).size = m + 1 := by rw [sb_size, hx0, hm]; simp
                obtain ⟨hlt, hby⟩ := sb_at x m b (by rw [hx0, hm]; simp)
                have HX0 := Lib.hid hx0; clear hx0 hm
                by_cases hb13 : b = 13
                · subst hb13
                  go_wp2
                  all_goals (try (exfalso; omega))
                  all_goals go_roundg (gk - 1)
                  all_goals first
                    | omega
                    | exact ⟨j + 1, false, by omega, by go_num, rfl, by rw [HS.out, HX0.out, sm_13]; rfl, rfl⟩
                · have hb3 : b.toNat ≠ 13 := fun e => hb13 (by rw [← UInt8.toNat_inj]; exact e)
                  have hb4 : ((b.toNat : Int) != 13) = true := by simp; omega
                  have HB13 := Lib.hid hb13; clear hb13
                  go_wp2
                  all_goals (try (exfalso; omega))
                  all_goals go_roundg (gk - 1)
                  all_goals first
                    | omega
                    | exact ⟨j + 1, true, by omega, by go_num, rfl, by rw [HS.out, HX0.out, sm_other t b HB13.out]; rfl, rfl⟩
          · obtain rfl : j = k := by omega
            have HO2 := Lib.hid (show o = L.all sm by rw [HOO.out, HT.out])
            clear hsz
            have hll : L.length ≤ 1000000 := by rw [← HN.out]; omega
            go_wp2_with fail
            all_goals (try (exfalso; omega))
            refine (rlines_at _ l L _ rfl (by omega) HLE).mono ?_
            rintro e w3 ⟨v3, rfl, HO3, HB⟩
            have HTX3 := Lib.hid (HTX.out.below HB.out)
            have HV3 := Lib.hid HO3.out.txt; clear HO3
            have HB3 := Lib.hid (below_trans HB1.out HB.out); clear HB
            go_wp2_with fail
            refine (same_yes _ _ L L _ HTX3 HV3 (Lib.hid rfl) hll).mono ?_
            rintro e w4 ⟨rfl, hb⟩
            have HTX4 := Lib.hid (HTX3.out.below hb)
            have HB4 := Lib.hid (below_trans HB3.out hb); clear hb HV3 HTX3 HB3
            cases o with
            | false =>
              go_wp2_with fail
              refine (works_any _ (HL.out.bel HB4.out)).mono ?_
              rintro e w5 ⟨rfl, hb⟩
              have HB5 := Lib.hid (below_trans HB4.out hb); clear hb
              go_wp2
              go_ret
              exact ⟨rfl, HB5.out⟩
            | true =>
              have HBK := Lib.hid (show ln [] (lns L) = L from ln_back L HN10.out fun x hx => by
                have h1 : L.all sm = true := HO2.out.symm
                have := List.all_eq_true.1 h1 x hx
                simpa [sm] using this)
              go_wp2_with fail
              refine (lines_hid _ (lns L) L _ rfl (by omega) HBK).mono ?_
              rintro e w5 ⟨v5, rfl, HO5, HB⟩
              have HTX5 := Lib.hid (HTX4.out.below HB.out)
              have HV5 := Lib.hid HO5.out.txt; clear HO5
              have HB5 := Lib.hid (below_trans HB4.out HB.out); clear HB
              go_wp2_with fail
              refine (same_yes _ _ L L _ HV5 HTX5 (Lib.hid rfl) hll).mono ?_
              rintro e w6 ⟨rfl, hb⟩
              have HB6 := Lib.hid (below_trans HB5.out hb); clear hb
              go_wp2_with fail
              refine (works_any _ (HL.out.bel HB6.out)).mono ?_
              rintro e w7 ⟨rfl, hb⟩
              have HB7 := Lib.hid (below_trans HB6.out hb); clear hb
              go_wp2
              go_ret
              exact ⟨rfl, HB7.out⟩

end Go.Proofs.YtjicbhnmdbnjpaaDoor
