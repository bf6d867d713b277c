/-
  What is proved here: contracts of what tells which parts are right: the program's. Conditions: lengths fit an int.
-/
import Derived.Test.YtfbfckdabbaocaaQbSqErx
namespace Go.Proofs.Ytfbfckdabbaocaa.St
open Go.RowKit Gr Wd Ws Fx Rk Lb Al In
open Sq (BAt BOwn QOwn bls)
theorem five {w : World} {b : Nat} {T : TypeId} {a0 a1 a2 a3 a4 : Value} (h : w.heap[b]? = some (.cells #[a0, a1, a2, a3, a4] T (0, 0))) :
    w.cell? ⟨b, 0, none⟩ = some a0 ∧ w.cell? ⟨b, 1, none⟩ = some a1 ∧ w.cell? ⟨b, 2, none⟩ = some a2 ∧ w.cell? ⟨b, 3, none⟩ = some a3 ∧ w.cell? ⟨b, 4, none⟩ = some a4 ∧ b < w.heap.size :=
  ⟨by rw [Lib.cell_of_heap h]; rfl, by rw [Lib.cell_of_heap h]; rfl, by rw [Lib.cell_of_heap h]; rfl, by rw [Lib.cell_of_heap h]; rfl, by rw [Lib.cell_of_heap h]; rfl, lt_of_block h⟩
theorem outB_no {x : Int} (h : InR x) : outB x = false := by unfold outB; rw [decide_eq_true h]; rfl
theorem outB_yes {x : Int} (h : ¬ InR x) : outB x = true := by unfold outB; rw [decide_eq_false h]; rfl
theorem noDist_any (x : Int) (w : World) : Calls Try.prog 35 #[.int .i64 x] w fun e w' => e = .returned (.bool (outB x)) ∧ w = w' := by
  by_cases h0 : 0 ≤ x
  · by_cases h1 : x ≤ 4611686018427387904
    · rw [outB_no ⟨h0, h1⟩]
      go_enter Try.func35, Try.ntmps35
      go_wp2
      go_ret
      first | exact ⟨rfl, rfl⟩ | exact ⟨by simp [h0, h1], rfl⟩
    · rw [outB_yes fun h => h1 h.2]
      go_enter Try.func35, Try.ntmps35
      go_wp2
      go_ret
      first | exact ⟨rfl, rfl⟩ | exact ⟨by simp [h0, h1], rfl⟩
  · rw [outB_yes fun h => h0 h.1]
    go_enter Try.func35, Try.ntmps35
    go_wp2
    go_ret
    first | exact ⟨rfl, rfl⟩ | exact ⟨by simp [h0], rfl⟩
theorem isBadM_any (p : Bool) (x : Int) (w : World) : Calls Try.prog 37 #[.agg #[.bool p, .int .i64 x]] w fun e w' => e = .returned (.bool (badM (p, x))) ∧ Hid (Below w.heap.size w w') := by
  have hd := fun W => noDist_any x W
  obtain ⟨r, hr⟩ : ∃ r, outB x = r := ⟨_, rfl⟩
  unfold badM
  simp only []
  rw [hr] at hd ⊢
  have HD := Lib.hid hd; clear hd hr
  have HB := Lib.hid ((Below.refl _ w).alloc (Nat.le_refl _) (.cells #[.bool p, .int .i64 x] 61))
  obtain ⟨W1, hW1⟩ : ∃ W1, W1 = w.alloc (.cells #[.bool p, .int .i64 x] 61) := ⟨_, rfl⟩
  obtain ⟨c0, c1, _⟩ := ml_cells (show W1.heap[w.heap.size]? = some (.cells #[.bool p, .int .i64 x] 61 (0, 0)) by rw [hW1]; exact heap_alloc_new w _)
  rw [← hW1] at HB
  cases p with
  | true =>
    go_enter Try.func37, Try.ntmps37
    go_upto_region 1 with fail
    rw [← hW1]
    clear hW1
    go_wp2_with fail
    refine (HD.out _).mono ?_
    rintro e w' ⟨rfl, rfl⟩
    go_wp2
    go_ret
    exact ⟨rfl, HB⟩
  | false =>
    go_enter Try.func37, Try.ntmps37
    go_upto_region 1 with fail
    rw [← hW1]
    clear hW1
    go_wp2_with fail
    go_ret
    exact ⟨rfl, HB⟩
def AyRel (w : World) {α : Type} (p : α → Bool) (l : List α) (gk : Nat) (i : Value) (wr : World) : Prop :=
  ∃ q : Nat, q + gk = l.length ∧ i = .int .i64 (q : Int) ∧ Hid (Below w.heap.size w wr) ∧ Hid (l.any p = (l.drop q).any p)
set_option maxRecDepth 100000 in
set_option maxHeartbeats 4000000 in
theorem indexO_any (A : Option Addr) (n c : Nat) (l : List Int) (w : World) (hA : IAt w A l) (hn : l.length = n) (hn2 : n ≤ 9223372036854775807) :
    Calls Try.prog 62 #[.slice A n c, .func (.func 35) #[] #[]] w fun e w' => ∃ r : Int, e = .returned (.int .i64 r) ∧ Hid (decide (0 ≤ r) = l.any outB) ∧ Hid (Below w.heap.size w w') := by
  have HA := Lib.hid hA; have HN := Lib.hid hn
  clear hA hn
  go_enter Try.func62, Try.ntmps62
  go_wp2
  go_loopg [8] n (fun gk i wr => AyRel w outB l gk i wr)
  case atStart => exact ⟨0, by have := HN.out; omega, rfl, Lib.hid (Below.refl _ w), Lib.hid rfl⟩
  case round =>
    obtain ⟨q, hq, rfl, HB, HD⟩ := hrel
    rw [HN.out] at hq
    by_cases hlt : q < n
    · obtain ⟨x, hx⟩ := at_lt l q (by rw [HN.out]; exact hlt)
      obtain ⟨bk, o, rfl, c0⟩ := (HA.out.below HB.out) q x hx
      obtain ⟨t, ht⟩ : ∃ t, outB x = t := ⟨_, rfl⟩
      have HC := Lib.hid (fun W => noDist_any x W)
      have HD2 : Hid ((l.any outB) = (t || (l.drop (q + 1)).any outB)) := Lib.hid (by rw [HD.out, drop_at hx, List.any_cons, ht])
      rw [ht] at HC
      clear hx ht HD
      go_wp2_with fail
      refine (HC.out _).mono ?_
      rintro e w3 ⟨rfl, rfl⟩
      clear c0
      cases t with
      | false =>
        have HD3 := Lib.hid (HD2.out.trans (Bool.false_or _))
        go_wp2
        go_roundg (gk - 1)
        case measure => omega
        case rel => exact ⟨q + 1, by have := HN.out; omega, by go_num, HB, HD3⟩
      | true =>
        have HD3 := Lib.hid (HD2.out.trans (Bool.true_or _))
        go_wp2
        go_ret
        exact ⟨_, rfl, Lib.hid (by rw [HD3.out]; exact decide_eq_true (by omega)), HB⟩
    · have HD3 : Hid ((l.any outB) = false) := Lib.hid (by rw [HD.out, List.drop_eq_nil_of_le (by rw [HN.out]; omega)]; rfl)
      go_wp2
      go_ret
      exact ⟨_, rfl, Lib.hid (by rw [HD3.out]; rfl), HB⟩
set_option maxRecDepth 100000 in
theorem containsO_any (A : Option Addr) (n c : Nat) (l : List Int) (w : World) (hA : IAt w A l) (hn : l.length = n) (hn2 : n ≤ 9223372036854775807) :
    Calls Try.prog 34 #[.slice A n c, .func (.func 35) #[] #[]] w fun e w' => e = .returned (.bool (l.any outB)) ∧ Hid (Below w.heap.size w w') := by
  have HC := Lib.hid (indexO_any A n c l w hA hn hn2)
  obtain ⟨t, ht⟩ : ∃ t, (l.any outB) = t := ⟨_, rfl⟩
  rw [ht] at HC ⊢
  clear ht
  clear hA hn
  go_enter Try.func34, Try.ntmps34
  go_wp2_with fail
  refine HC.out.mono ?_
  rintro e w' ⟨r, rfl, hr, hb⟩
  have hr2 := hr.out
  subst hr2
  clear hr HC
  by_cases h0 : 0 ≤ r
  · go_wp2
    go_ret
    exact ⟨by simp [h0], hb⟩
  · go_wp2
    go_ret
    exact ⟨by simp, hb⟩
set_option maxRecDepth 100000 in
set_option maxHeartbeats 4000000 in
theorem indexD_any (A : Option Addr) (n c : Nat) (l : List Ml) (w : World) (hA : KAt w A l) (hn : l.length = n) (hn2 : n ≤ 9223372036854775807) :
    Calls Try.prog 63 #[.slice A n c, .func (.func 37) #[] #[]] w fun e w' => ∃ r : Int, e = .returned (.int .i64 r) ∧ Hid (decide (0 ≤ r) = l.any badM) ∧ Hid (Below w.heap.size w w') := by
  have HA := Lib.hid hA; have HN := Lib.hid hn
  clear hA hn
  go_enter Try.func63, Try.ntmps63
  go_wp2
  go_loopg [8] n (fun gk i wr => AyRel w badM l gk i wr)
  case atStart => exact ⟨0, by have := HN.out; omega, rfl, Lib.hid (Below.refl _ w), Lib.hid rfl⟩
  case round =>
    obtain ⟨q, hq, rfl, HB, HD⟩ := hrel
    rw [HN.out] at hq
    by_cases hlt : q < n
    · obtain ⟨⟨p, x⟩, hx⟩ := at_lt l q (by rw [HN.out]; exact hlt)
      obtain ⟨bk, o, rfl, c0, c1⟩ := (HA.out.below HB.out) q _ hx
      simp only at c0 c1
      obtain ⟨t, ht⟩ : ∃ t, badM (p, x) = t := ⟨_, rfl⟩
      have HC := Lib.hid (fun W => isBadM_any p x W)
      have HD2 : Hid (l.any badM = (t || (l.drop (q + 1)).any badM)) := Lib.hid (by rw [HD.out, drop_at hx, List.any_cons, ht])
      rw [ht] at HC
      clear hx ht HD
      go_wp2_with fail
      refine (HC.out _).mono ?_
      rintro e w3 ⟨rfl, hb3⟩
      have HB3 := Lib.hid (step_below HB.out HB.out.size hb3.out)
      clear c0 c1 hb3
      cases t with
      | false =>
        have HD3 := Lib.hid (HD2.out.trans (Bool.false_or _))
        go_wp2
        go_roundg (gk - 1)
        case measure => omega
        case rel => exact ⟨q + 1, by have := HN.out; omega, by go_num, HB3, HD3⟩
      | true =>
        have HD3 := Lib.hid (HD2.out.trans (Bool.true_or _))
        go_wp2
        go_ret
        exact ⟨_, rfl, Lib.hid (by rw [HD3.out]; exact decide_eq_true (by omega)), HB3⟩
    · have HD3 : Hid (l.any badM = false) := Lib.hid (by rw [HD.out, List.drop_eq_nil_of_le (by rw [HN.out]; omega)]; rfl)
      go_wp2
      go_ret
      exact ⟨_, rfl, Lib.hid (by rw [HD3.out]; rfl), HB⟩
set_option maxRecDepth 100000 in
theorem containsD_any (A : Option Addr) (n c : Nat) (l : List Ml) (w : World) (hA : KAt w A l) (hn : l.length = n) (hn2 : n ≤ 9223372036854775807) :
    Calls Try.prog 36 #[.slice A n c, .func (.func 37) #[] #[]] w fun e w' => e = .returned (.bool (l.any badM)) ∧ Hid (Below w.heap.size w w') := by
  have HC := Lib.hid (indexD_any A n c l w hA hn hn2)
  obtain ⟨t, ht⟩ : ∃ t, l.any badM = t := ⟨_, rfl⟩
  rw [ht] at HC ⊢
  clear ht
  clear hA hn
  go_enter Try.func36, Try.ntmps36
  go_wp2_with fail
  refine HC.out.mono ?_
  rintro e w' ⟨r, rfl, hr, hb⟩
  have hr2 := hr.out
  subst hr2
  clear hr HC
  by_cases h0 : 0 ≤ r
  · go_wp2
    go_ret
    exact ⟨by simp [h0], hb⟩
  · go_wp2
    go_ret
    exact ⟨by simp, hb⟩
def AvRel (w : World) (l : List Int) (g : Nat) (m i : Value) (wr : World) : Prop :=
  ∃ (k : Nat) (M : Int), k + g = l.length ∧ m = .int .i64 M ∧ i = .int .i64 (k : Int) ∧ w = wr ∧ Hid (asc l 0 = asc (l.drop k) M) ∧ 0 ≤ M ∧ M ≤ 512
set_option maxRecDepth 100000 in
theorem areV_any (A : Option Addr) (n c : Nat) (l : List Int) (w : World) (hA : IAt w A l) (hn : l.length = n) (hn2 : n ≤ 9223372036854775807) :
    Calls Try.prog 33 #[.slice A n c] w fun e w' => e = .returned (.bool (asc l 0)) ∧ w = w' := by
  have HA := Lib.hid hA; have HN := Lib.hid hn
  clear hA hn
  obtain ⟨R, hR⟩ : ∃ R, asc l 0 = R := ⟨_, rfl⟩
  rw [hR]
  have HR := Lib.hid hR; clear hR
  go_enter Try.func33, Try.ntmps33
  go_wp2
  go_loopg [3, 8] n (fun g m i wr => AvRel w l g m i wr)
  case atStart => exact ⟨0, 0, by have := HN.out; omega, rfl, rfl, rfl, Lib.hid rfl, by omega, by omega⟩
  case round =>
    obtain ⟨k, M, hk, rfl, rfl, rfl, HD, hM0, hM1⟩ := hrel
    rw [HN.out] at hk
    by_cases hlt : k < n
    · obtain ⟨x, hx⟩ := at_lt l k (by rw [HN.out]; exact hlt)
      obtain ⟨bk, o, rfl, c0⟩ := HA.out k x hx
      have HD2 : Hid (asc l 0 = if x < M ∨ 512 ≤ x then false else asc (l.drop (k + 1)) (x + 1)) := Lib.hid (by rw [HD.out, drop_at hx]; rfl)
      clear hx HD
      by_cases h1 : x < M
      · have e3 : R = false := by rw [← HR.out, HD2.out, if_pos (Or.inl h1)]
        subst e3
        go_wp2
        go_ret
        exact ⟨rfl, rfl⟩
      · by_cases h2 : 512 ≤ x
        · have e3 : R = false := by rw [← HR.out, HD2.out, if_pos (Or.inr h2)]
          subst e3
          go_wp2
          go_ret
          exact ⟨rfl, rfl⟩
        · have HD3 : Hid (asc l 0 = asc (l.drop (k + 1)) (x + 1)) := Lib.hid (by rw [HD2.out, if_neg (by omega)])
          go_wp2
          go_roundg (gk - 1)
          case measure => omega
          case rel => exact ⟨k + 1, x + 1, by have := HN.out; omega, by go_num, by go_num, rfl, HD3, by omega, by omega⟩
    · have e3 : R = true := by rw [← HR.out, HD.out, List.drop_eq_nil_of_le (by rw [HN.out]; omega)]; rfl
      subst e3
      go_wp2
      go_ret
      exact ⟨rfl, rfl⟩
end Go.Proofs.Ytfbfckdabbaocaa.St
