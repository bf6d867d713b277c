/-
  What is proved here: the walks of WordsDigit, WordsPrint and WordsNumber: each returns true for every input. Condition: the package variables lie as their texts lay them.
-/
import Derived.Test.YtjicbhnmdbnjpaaDoorV1
import Derived.Test.YtjicbhnmdbnjpaaDoorR7
namespace Go.Proofs.YtjicbhnmdbnjpaaDoor
open Go.RowKit Wd

set_option maxRecDepth 100000 in
theorem digit_law (r : Int) (w : World) (hL : Laid w) (h0 : -2147483648 ≤ r) (h1 : r ≤ 2147483647) : Calls Tryd.prog 5 #[.int .i32 r] w fun e w' => e = .returned (.bool true) ∧ Below w.heap.size w w' := by
  have HL := Lib.hid hL; clear hL
  obtain ⟨V, hV⟩ : ∃ V, dvOf r = V := ⟨_, rfl⟩
  have HV := Lib.hid hV; clear hV
  go_enter Tryd.func5, Tryd.ntmps5
  go_wp2_with fail
  refine (digit_i r V _ HL.out h0 h1 HV.out).mono ?_
  rintro e w1 ⟨rfl, rfl⟩
  go_wp2_with fail
  refine (rdigit_at r V _ h0 h1 HV.out).mono ?_
  rintro e w1 ⟨rfl, hb⟩
  have HB := Lib.hid hb; clear hb
  go_wp2_with fail
  refine (works_any _ (HL.out.bel HB.out)).mono ?_
  rintro e w2 ⟨rfl, hb⟩
  have HB2 := Lib.hid (below_trans HB.out hb); clear hb
  go_wp2
  go_ret
  exact ⟨rfl, HB2.out⟩

theorem number_hid (s : ByteArray) (l : List UInt8) (cs : List Ch) (n : Nat) (E : Int) (w : World) (hs : s = sb l) (hLd : Hid (Laid w)) (h : Hid (Rg l cs)) (hl : l.length ≤ 100000) (hL : Hid (numOf cs = (n, E))) :
    Calls Tryd.prog 17 #[.string s] w fun e w' => e = .returned (.tuple #[.int .i64 (n : Int), .int .i64 E]) ∧ Hid (Below w.heap.size w w') := by
  subst hs
  refine (number_any l cs w hLd.out h.out hl).mono fun e w' ⟨h1, h3⟩ => ?_
  rw [hL.out] at h1
  exact ⟨h1, Lib.hid h3⟩
theorem rnumber_hid (s : ByteArray) (l : List UInt8) (cs : List Ch) (n : Nat) (E : Int) (w : World) (hs : s = sb l) (h : Hid (Rg l cs)) (hl : l.length ≤ 100000) (hL : Hid (numOf cs = (n, E))) :
    Calls Tryd.prog 18 #[.string s] w fun e w' => e = .returned (.tuple #[.int .i64 (n : Int), .int .i64 E]) ∧ Hid (Below w.heap.size w w') := by
  subst hs
  refine (rnumber_any l cs w h.out hl).mono fun e w' ⟨h1, h3⟩ => ?_
  rw [hL.out] at h1
  exact ⟨h1, Lib.hid h3⟩

theorem pr_len (k n : Nat) (hk : k < 3) (hn : n ≤ 9223372036854775807) : (pr k n).length ≤ 57 := by
  have h1 := flat_chs_len k hk (dg n) (dg_lt n)
  have h2 := dg_len n 18 (by omega)
  unfold pr; omega

set_option maxRecDepth 100000 in
set_option maxHeartbeats 1000000 in
theorem print_law (n k : Int) (w : World) (hL : Laid w) (h0 : -9223372036854775808 ≤ n) (h1 : n ≤ 9223372036854775807) : Calls Tryd.prog 7 #[.int .i64 n, .int .i64 k] w fun e w' => e = .returned (.bool true) ∧ Below w.heap.size w w' := by
  have HL := Lib.hid hL; clear hL
  by_cases hbad : n < 0 ∨ k < 0 ∨ 3 ≤ k
  · have HB := Lib.hid hbad; clear hbad
    have hst : (sb []).toList = [] := sb_toList _
    go_enter Tryd.func7, Tryd.ntmps7
    go_wp2_with fail
    refine (print_bad n k _ HB.out).mono ?_
    rintro e w1 ⟨rfl, rfl⟩
    go_wp2_with fail
    refine (number_at _ [] (asc []) 0 30 _ rfl (Lib.hid HL.out) (by decide +kernel) (by decide) ex7).mono ?_
    rintro e w1 ⟨rfl, HB1⟩
    go_wp2_with fail
    refine (rprint_bad n k _ HB.out).mono ?_
    rintro e w2 ⟨rfl, rfl⟩
    go_wp2_with fail
    refine (works_any _ (HL.out.bel HB1.out)).mono ?_
    rintro e w2 ⟨rfl, hb⟩
    have HB2 := Lib.hid (below_trans HB1.out hb); clear hb
    go_wp2
    go_ret
    exact ⟨rfl, HB2.out⟩
  · obtain ⟨m, rfl⟩ : ∃ m : Nat, n = (m : Int) := ⟨n.toNat, by omega⟩
    obtain ⟨j, rfl⟩ : ∃ j : Nat, k = (j : Int) := ⟨k.toNat, by omega⟩
    have hm : m ≤ 9223372036854775807 := by omega
    have hj : j < 3 := by omega
    clear hbad h0 h1
    obtain ⟨l, hl⟩ : ∃ l, l = pr j m := ⟨_, rfl⟩
    have hll : l.length ≤ 57 := by rw [hl]; exact pr_len j m hj hm
    have HN := Lib.hid (numOf_pr j m hj)
    have HG := Lib.hid (show Rg l (chs j (dg m)) by rw [hl]; exact rg_pr j m hj)
    have t1 : (sb l).toList ≠ [] := by rw [sb_toList, hl]; exact pr_ne j m hj
    have t2 : (sb l).toList.isEmpty = false := by simpa using t1
    have HE := Lib.hid hl; clear hl
    by_cases hov : 4611686018427387904 < m
    · have HN := Lib.hid (show numOf (chs j (dg m)) = (0, 50) by rw [HN.out, if_pos hov])
      go_enter Tryd.func7, Tryd.ntmps7
      go_wp2_with fail
      refine (print_ok m j _ HL.out hm hj).mono ?_
      rw [← HE.out]
      rintro e w1 ⟨rfl, hb⟩
      have HB1 := Lib.hid hb; clear hb
      go_wp2_with fail
      refine (number_hid _ l _ 0 50 _ rfl (Lib.hid (HL.out.bel HB1.out)) HG (by omega) HN).mono ?_
      rintro e w2 ⟨rfl, HB⟩
      have HB2 := Lib.hid (below_trans HB1.out HB.out); clear HB
      go_wp2_with fail
      refine (rprint_ok m j _ hm hj).mono ?_
      rw [← HE.out]
      rintro e w3 ⟨rfl, hb⟩
      have HB3 := Lib.hid (below_trans HB2.out hb); clear hb
      go_wp2_with fail
      refine (works_any _ (HL.out.bel HB3.out)).mono ?_
      rintro e w4 ⟨rfl, hb⟩
      have HB4 := Lib.hid (below_trans HB3.out hb); clear hb
      go_wp2
      go_ret
      exact ⟨rfl, HB4.out⟩
    · have HN := Lib.hid (show numOf (chs j (dg m)) = (m, 0) by rw [HN.out, if_neg hov])
      go_enter Tryd.func7, Tryd.ntmps7
      go_wp2_with fail
      refine (print_ok m j _ HL.out hm hj).mono ?_
      rw [← HE.out]
      rintro e w1 ⟨rfl, hb⟩
      have HB1 := Lib.hid hb; clear hb
      go_wp2_with fail
      refine (number_hid _ l _ m 0 _ rfl (Lib.hid (HL.out.bel HB1.out)) HG (by omega) HN).mono ?_
      rintro e w2 ⟨rfl, HB⟩
      have HB2 := Lib.hid (below_trans HB1.out HB.out); clear HB
      go_wp2_with fail
      refine (rprint_ok m j _ hm hj).mono ?_
      rw [← HE.out]
      rintro e w3 ⟨rfl, hb⟩
      have HB3 := Lib.hid (below_trans HB2.out hb); clear hb
      go_wp2_with fail
      refine (works_any _ (HL.out.bel HB3.out)).mono ?_
      rintro e w4 ⟨rfl, hb⟩
      have HB4 := Lib.hid (below_trans HB3.out hb); clear hb
      go_wp2
      go_ret
      exact ⟨rfl, HB4.out⟩

end Go.Proofs.YtjicbhnmdbnjpaaDoor
