/-
  What is proved here: the walk of the law FieldsStand: of any slice of items the law's function returns true, and no block that was there has changed.
-/
import Derived.Test.YtepcfinojifecaaCutWalk
import Derived.Test.YtepcfinojifecaaOrd
import Derived.Deep.QuietTactic
import Derived.BigQuiet
namespace Go.Proofs.Ytepcfinojifecaa
open Go.RowKit

theorem below_dn {B : Nat} {a w : World} (h : Below B a w) (n : Nat) : Below B a (w.drewN n) := ⟨h.os, h.tape, h.output, h.size, h.block⟩
def StandPut (w : World) (ls : List It) (g : Nat) (half i : Value) (wr : World) : Prop :=
  ∃ (j t : Nat) (s : ByteArray), j + g = ls.length ∧ i = .int .i64 (j : Int) ∧ half = .string s ∧ s = str (all_ (ls.take t)) ∧ Wr wr (w.heap.size + 1) w.heap.size (all_ (ls.take j)) ∧ Below w.heap.size w wr
def SpoilRel (wz : World) (T n g : Nat) (i : Value) (wr : World) : Prop :=
  ∃ (j : Nat) (cur : List Nat), j + g = n ∧ i = .int .i64 (j : Int) ∧ cur.length = n ∧ Row wr T cur ∧ Below T wz wr
theorem spoil_cell {wr : World} {T j n : Nat} {cur : List Nat} (h : Row wr T cur) (hl : cur.length = n) (hj : j < n) : ∃ u, wr.cell? ⟨T, j, none⟩ = some (.int .u8 u) ∧ wr.frozen? ⟨T, j, none⟩ = false :=
  ⟨_, h.cell j _ (List.getElem?_eq_getElem (by omega)), h.free j⟩
def StandRel (w : World) (ls : List It) (A : Option Addr) (g : Nat) (at_ i : Value) (wr : World) : Prop :=
  ∃ j : Nat, j + g = ls.length ∧ i = .int .i64 (j : Int) ∧ at_ = .int .i64 (((all_ (ls.take j)).length : Nat) : Int) ∧ At wr A (all_ ls) ∧ Below w.heap.size w wr
theorem stand_piece (ls : List It) (j : Nat) (h : j < ls.length) : ((all_ ls).drop (all_ (ls.take j)).length).take (itb ls[j]).length = itb ls[j] ∧ (all_ (ls.take j)).length + (itb ls[j]).length ≤ (all_ ls).length := by
  have h1 := all_split ls j h
  constructor
  · rw [h1, List.drop_append_of_le_length (Nat.le_refl _), List.drop_eq_nil_of_le (Nat.le_refl _), List.nil_append, List.take_append_of_le_length (Nat.le_refl _), List.take_of_length_le (Nat.le_refl _)]
  · rw [h1, List.length_append, List.length_append]; omega
theorem all_front (ls : List It) (t : Nat) : (all_ (ls.take t)).length ≤ (all_ ls).length ∧ (all_ ls).take (all_ (ls.take t)).length = all_ (ls.take t) := by
  have h : all_ ls = all_ (ls.take t) ++ all_ (ls.drop t) := by
    unfold all_; rw [← List.flatten_append, ← List.map_append, List.take_append_drop]
  constructor
  · rw [h, List.length_append]; omega
  · conv => lhs; rw [h]
    rw [List.take_append_of_le_length (Nat.le_refl _), List.take_of_length_le (Nat.le_refl _)]
theorem all_small {w : World} {A : Option Addr} {ls : List It} (h : ItemsAt w A ls) : ∀ x ∈ all_ ls, x < 256 := by
  intro x hx
  unfold all_ at hx
  rw [List.mem_flatten] at hx
  obtain ⟨l, hl, hx⟩ := hx
  rw [List.mem_map] at hl
  obtain ⟨y, hy, rfl⟩ := hl
  obtain ⟨i, hi⟩ := List.getElem?_of_mem hy
  obtain ⟨_, _, _, bk, o, B, d, _, _, _, _, ha⟩ := h i y hi
  unfold itb at hx
  split at hx
  · exact ha.small x hx
  · exact Fld.dg_lt _ _ x hx

set_option maxRecDepth 100000 in
set_option maxHeartbeats 1000000 in
theorem stand_few (A : Option Addr) (c : Nat) (ls : List It) (w : World) (hl : ItemsAt w A ls) (h1 : ls.length ≤ 60) (h2 : weight ls ≤ 3000) :
    Calls Try.prog 3 #[.slice A ls.length c] w fun e w' => e = .returned (.bool true) ∧ Below w.heap.size w w' := by
  have HL := Lib.hid hl; clear hl
  go_enter Try.func3, Try.ntmps3
  go_wp2_with fail
  refine (few_yes A c ls 60 w HL.out (by decide) h1 h2).mono ?_
  rintro e w' ⟨rfl, rfl⟩
  go_wp2
  go_loopg [5, 6] ls.length (fun g h i wr => StandPut w ls g h i wr)
  case atStart => exact ⟨0, 0, _, by omega, rfl, rfl, rfl, Wr.new _ _ _ (heap_alloc_new w _) (by omega), (Below.refl _ _).alloc (Nat.le_refl _) _⟩
  case round =>
    obtain ⟨j, t, s, hj, rfl, rfl, hs, hw, hb⟩ := hrel
    obtain ⟨G, rfl⟩ : ∃ G : Nat, G = gk := ⟨_, rfl⟩
    obtain ⟨wo, rfl⟩ : ∃ wo : World, wo = wr := ⟨_, rfl⟩
    have HS := Lib.hid hs; clear hs
    have HW := Lib.hid hw; clear hw
    have HB := Lib.hid hb; clear hb
    have hz : w.heap.size + 1 ≤ wo.heap.size := HW.out.lt
    by_cases hlt : j < ls.length
    · obtain ⟨k1, k2, k3, bk, o, B, d, rfl, c0, c1, c2, ha⟩ := (HL.out j ls[j] (List.getElem?_eq_getElem hlt)).below HB.out
      have HA := Lib.hid ha; clear ha
      have hle := all_take_le ls j
      have hle2 := all_take_le ls (j + 1)
      have HT := Lib.hid (all_take ls j hlt)
      go_wp2_with fail
      refine (put_any (w.heap.size + 1) w.heap.size d B ls[j] (all_ (ls.take j)) wo k1 k2 k3 HA.out HW.out hz (by omega)).mono ?_
      rintro e wz ⟨rfl, hw2, hg2⟩
      rw [← HT.out] at hw2
      have HW2 := Lib.hid hw2; clear hw2
      have HB2 := Lib.hid (below_only HB.out hg2 HB.out.size (Nat.le_refl _)); clear hg2
      clear HA c0 c1 c2 HW HB
      by_cases hh : j = ls.length / 2
      · have hbt : ((j : Int) == (ls.length : Int) / 2) = true := by simp; omega
        have HH := Lib.hid hh; clear hh
        go_wp2_with fail
        refine (out_any _ _ _ _ HW2.out (by omega)).mono ?_
        rintro e w3 ⟨v, rfl, ho, hb3⟩
        have HW3 := Lib.hid (HW2.out.below hb3)
        have HB3 := Lib.hid (below_trans HB2.out hb3)
        obtain ⟨s2, hs2⟩ : ∃ s2, s2 = str (all_ (ls.take (j + 1))) := ⟨_, rfl⟩
        rcases ho with ⟨hnil, rfl⟩ | ⟨rfl, hrow⟩
        · have hcv : (convert 31 9 (.slice none 0 0)).run Try.prog w3 = .ok (.string s2) w3 := by
            have := conv_at w3 none [] 0 At.nil_
            rw [hs2, hnil]; exact this
          have HS2 := Lib.hid hs2; clear hs2
          clear hnil hb3
          go_wp2
          clear hcv
          go_loopg [8] 0 (fun _ i wr => i = .int .i64 0 ∧ w3 = wr)
          case atStart => exact ⟨rfl, rfl⟩
          case round =>
            obtain ⟨rfl, rfl⟩ := hrel
            go_wp2
            go_roundg (G - 1)
            case measure => omega
            case rel => exact ⟨j + 1, j + 1, s2, by omega, by go_num, rfl, HS2.out, HW3.out, HB3.out⟩
        · have hcv : (convert 31 9 (.slice (some ⟨wz.heap.size, 0, none⟩) (all_ (ls.take (j + 1))).length (all_ (ls.take (j + 1))).length)).run Try.prog w3 = .ok (.string s2) w3 := by
            rw [hs2]; exact conv_at w3 _ _ _ (hrow.at_ HW2.out.small)
          have HS2 := Lib.hid hs2; clear hs2
          obtain ⟨n, hn⟩ : ∃ n, n = (all_ (ls.take (j + 1))).length := ⟨_, rfl⟩
          rw [← hn] at hcv hle2
          rw [← hn]
          have HN := Lib.hid hn; clear hn
          have HR3 := Lib.hid hrow; clear hrow
          have HB33 := Lib.hid hb3; clear hb3
          obtain ⟨T, hT⟩ : ∃ T, T = wz.heap.size := ⟨_, rfl⟩
          rw [← hT] at hcv HR3 HB33
          rw [← hT]
          have HTT := Lib.hid hT; clear hT
          go_wp2
          clear hcv
          go_loopg [8] n (fun g i wr => SpoilRel wz T n g i wr)
          case atStart => exact ⟨0, _, by omega, rfl, HN.out.symm, HR3.out, HB33.out⟩
          case round =>
            obtain ⟨k, cur, hk, rfl, hcl, hcr, hcb⟩ := hrel
            have HCR := Lib.hid hcr; clear hcr
            have HCL := Lib.hid hcl; clear hcl
            have HCB := Lib.hid hcb; clear hcb
            by_cases hkn : k < n
            · obtain ⟨u, hcu, hfu⟩ := spoil_cell HCR.out HCL.out hkn
              go_wp2
              go_roundg (gk - 1)
              case measure => omega
              case rel =>
                refine ⟨k + 1, cur.set k 0, by omega, by go_num, by rw [List.length_set]; exact HCL.out, ?_, HCB.out.setCell (p := ⟨T, k, none⟩) (Nat.le_refl _) _⟩
                exact HCR.out.set k 0
            · have hbz := HCB.out
              rw [HTT.out] at hbz
              have HW4 := Lib.hid (HW2.out.below hbz)
              have HB4 := Lib.hid (below_trans HB2.out hbz)
              clear hbz
              go_wp2
              go_roundg (G - 1)
              case measure => omega
              case rel => exact ⟨j + 1, j + 1, s2, by omega, by go_num, rfl, HS2.out, HW4.out, HB4.out⟩
      · have hbt : ((j : Int) == (ls.length : Int) / 2) = false := by simp; omega
        clear hh
        go_wp2
        go_roundg (G - 1)
        case measure => omega
        case rel => exact ⟨j + 1, t, s, by omega, by go_num, rfl, HS.out, HW2.out, HB2.out⟩
    · obtain rfl : j = ls.length := by omega
      rw [List.take_length] at HW
      have hle := all_le ls
      have HSM := Lib.hid (all_small HL.out)
      obtain ⟨f1, f2⟩ := all_front ls t
      go_wp2_with fail
      refine (out_any _ _ _ _ HW.out (by omega)).mono ?_
      rintro e w2 ⟨v, rfl, ho, hb2⟩
      have HB2 := Lib.hid (below_trans HB.out hb2); clear hb2
      clear HW HB hz hlt hj
      obtain ⟨L, hL⟩ : ∃ L, L = (all_ ls).length := ⟨_, rfl⟩
      have hL3 : L ≤ 3000 := by omega
      obtain ⟨hl2, hh2⟩ : ∃ h, h = (all_ (ls.take t)).length := ⟨_, rfl⟩
      rw [← hh2] at f1 f2
      rw [← hL] at f1
      have hsz : s.size = hl2 := by rw [HS.out, str_size, hh2]
      have F2 := Lib.hid f2; clear f2
      have HH2 := Lib.hid hh2; clear hh2
      rcases ho with ⟨hnil, rfl⟩ | ⟨rfl, hrow⟩
      · obtain rfl : L = 0 := by rw [hL, hnil]; rfl
        obtain rfl : hl2 = 0 := by omega
        have HNL := Lib.hid hnil; clear hnil
        have HLL := Lib.hid hL; clear hL
        clear hle f1
        go_wp2
        go_loopg [4, 10] ls.length (fun g a i wr => StandRel w ls none g a i wr)
        case atStart => exact ⟨0, by omega, rfl, rfl, (by rw [HNL.out]; exact At.nil_), HB2.out⟩
        case round =>
          clear HB2 
          obtain ⟨j, hj, rfl, rfl, hat, hb⟩ := hrel
          have HAT := Lib.hid hat; clear hat
          have HB := Lib.hid hb; clear hb
          by_cases hlt : j < ls.length
          · obtain ⟨k1, k2, k3, bk, o, B, d, hA, c0, c1, c2, ha⟩ := (HL.out j ls[j] (List.getElem?_eq_getElem hlt)).below HB.out
            subst hA
            have HA := Lib.hid ha; clear ha
            have HT := Lib.hid (all_take ls j hlt)
            obtain ⟨p1, p2⟩ := stand_piece ls j hlt
            rw [← HLL.out] at p2
            obtain ⟨at_, hat_⟩ : ∃ t, t = (all_ (ls.take j)).length := ⟨_, rfl⟩
            rw [← hat_] at p1 p2
            rw [← hat_]
            have HAT_ := Lib.hid hat_; clear hat_
            go_wp2_with fail
            refine (bytes_any d B ls[j] _ k1 k2 HA.out).mono ?_
            rintro e w4 ⟨v4, rfl, ⟨A4, d4, rfl, h4⟩, hb4⟩
            have HB4 := Lib.hid (below_trans HB.out hb4)
            have hat4 := HAT.out.below hb4
            have HAT4 := Lib.hid hat4
            clear c0 c1 c2 HA HB HAT hb4
            obtain ⟨m, hm⟩ : ∃ m, m = (itb ls[j]).length := ⟨_, rfl⟩
            obtain ⟨s4, hs4⟩ : ∃ s4, s4 = str (itb ls[j]) := ⟨_, rfl⟩
            rw [← hm] at p1 p2
            rw [← hm]
            have v2 : ∀ n, (convert 31 9 (.slice A4 m d4)).run Try.prog (w4.drewN n) = .ok (.string s4) (w4.drewN n) := fun n => by
              rw [hs4, hm]; exact conv_at (w4.drewN n) A4 _ d4 h4
            obtain rfl : at_ = 0 := by omega
            obtain rfl : m = 0 := by omega
            have v1 : ∀ n, (convert 31 9 (.slice none 0 0)).run Try.prog (w4.drewN n) = .ok (.string s4) (w4.drewN n) := fun n => by
              have hz : itb ls[j] = [] := List.eq_nil_of_length_eq_zero hm.symm
              rw [hs4, hz]; exact conv_at (w4.drewN n) none [] 0 At.nil_
            have HM := Lib.hid hm; clear hm
            have HS4 := Lib.hid hs4; clear hs4
            have HP1 := Lib.hid p1; clear p1 h4 hat4
            go_wp2
            go_quiet (fail)
            clear v1 v2
            go_wp2
            go_roundg (gk - 1)
            case measure => omega
            case rel =>
              have hlen2 : (all_ (ls.take (j + 1))).length = 0 + 0 := by rw [HT.out, List.length_append, ← HM.out, ← HAT_.out]
              exact ⟨j + 1, by omega, by go_num, by rw [hlen2]; go_num, HAT4.out, below_dn HB4.out _⟩
          · obtain rfl : j = ls.length := by omega
            rw [List.take_length, ← HLL.out]
            have hsx := HS.out
            have hcv : (convert 31 9 (.slice none 0 0)).run Try.prog wr = .ok (.string s) wr := by
              have hz : all_ (ls.take t) = [] := List.eq_nil_of_length_eq_zero HH2.out.symm
              rw [hsx, hz]; exact conv_at wr none [] 0 At.nil_
            clear hsx
            go_wp2_with fail
            refine (works_any _).mono ?_
            rintro e w9 ⟨rfl, hb9⟩
            have HB9 := Lib.hid (below_trans HB.out hb9); clear hb9
            go_wp2
            go_ret
            exact ⟨rfl, HB9.out⟩
      · have hat := hrow.at_ HSM.out
        clear hrow hle
        have HAT := Lib.hid hat; clear hat
        rw [← hL]
        have HLL := Lib.hid hL; clear hL
        go_wp2
        go_loopg [4, 10] ls.length (fun g a i wr => StandRel w ls (some ⟨wo.heap.size, 0, none⟩) g a i wr)
        case atStart => exact ⟨0, by omega, rfl, rfl, HAT.out, HB2.out⟩
        case round =>
          clear HB2 HAT
          obtain ⟨j, hj, rfl, rfl, hat, hb⟩ := hrel
          have HAT := Lib.hid hat; clear hat
          have HB := Lib.hid hb; clear hb
          by_cases hlt : j < ls.length
          · obtain ⟨k1, k2, k3, bk, o, B, d, hA, c0, c1, c2, ha⟩ := (HL.out j ls[j] (List.getElem?_eq_getElem hlt)).below HB.out
            subst hA
            have HA := Lib.hid ha; clear ha
            have HT := Lib.hid (all_take ls j hlt)
            obtain ⟨p1, p2⟩ := stand_piece ls j hlt
            rw [← HLL.out] at p2
            obtain ⟨at_, hat_⟩ : ∃ t, t = (all_ (ls.take j)).length := ⟨_, rfl⟩
            rw [← hat_] at p1 p2
            rw [← hat_]
            have HAT_ := Lib.hid hat_; clear hat_
            go_wp2_with fail
            refine (bytes_any d B ls[j] _ k1 k2 HA.out).mono ?_
            rintro e w4 ⟨v4, rfl, ⟨A4, d4, rfl, h4⟩, hb4⟩
            have HB4 := Lib.hid (below_trans HB.out hb4)
            have hat4 := HAT.out.below hb4
            have HAT4 := Lib.hid hat4
            clear c0 c1 c2 HA HB HAT hb4
            obtain ⟨m, hm⟩ : ∃ m, m = (itb ls[j]).length := ⟨_, rfl⟩
            obtain ⟨s4, hs4⟩ : ∃ s4, s4 = str (itb ls[j]) := ⟨_, rfl⟩
            rw [← hm] at p1 p2
            rw [← hm]
            have v2 : ∀ n, (convert 31 9 (.slice A4 m d4)).run Try.prog (w4.drewN n) = .ok (.string s4) (w4.drewN n) := fun n => by
              rw [hs4, hm]; exact conv_at (w4.drewN n) A4 _ d4 h4
            have b1 : (0 : Int) ≤ (at_ : Int) := by omega
            have b2 : (at_ : Int) ≤ (at_ : Int) + (m : Int) := by omega
            have b3 : (at_ : Int) + (m : Int) ≤ (L : Int) := by omega
            have b4 : ¬ (L : Int) < (at_ : Int) + (m : Int) := by omega
            rcases Nat.lt_or_ge at_ L with hSN | hSN
            · have hNS : ¬ L = at_ := by omega
              have g5 : IntKind.i64.wrap ((at_ : Int) + (m : Int)) = (at_ : Int) + (m : Int) := IntWalk.i64_in _ (by omega)
              have g6 : ((at_ : Int) + (m : Int)).toNat = at_ + m := by omega
              have v1 : ∀ n, (convert 31 9 (.slice (some ⟨wo.heap.size, at_, none⟩) m (L - at_))).run Try.prog (w4.drewN n) = .ok (.string s4) (w4.drewN n) := fun n => by
                rw [hs4]; exact conv_row (w4.drewN n) wo.heap.size at_ m (L - at_) (all_ ls) _ hat4 hm.symm p1
              have HM := Lib.hid hm; clear hm
              have HS4 := Lib.hid hs4; clear hs4
              have HP1 := Lib.hid p1; clear p1 h4 hat4
              go_wp2
              go_quiet (fail)
              clear v1 v2 g5 g6
              go_wp2
              go_roundg (gk - 1)
              case measure => omega
              case rel =>
                have hlen2 : (all_ (ls.take (j + 1))).length = at_ + m := by rw [HT.out, List.length_append, ← HM.out, ← HAT_.out]
                exact ⟨j + 1, by omega, by go_num, by rw [hlen2]; go_num, HAT4.out, below_dn HB4.out _⟩
            · obtain rfl : at_ = L := by omega
              obtain rfl : m = 0 := by omega
              clear b1 b2 b3 b4 p2
              have b1 : (0 : Int) ≤ (at_ : Int) := by omega
              have g5 : IntKind.i64.wrap (at_ : Int) = (at_ : Int) := IntWalk.i64_in _ (by omega)
              have v1 : ∀ n, (convert 31 9 (.slice (some ⟨wo.heap.size, 0, none⟩) 0 0)).run Try.prog (w4.drewN n) = .ok (.string s4) (w4.drewN n) := fun n => by
                have hz : itb ls[j] = [] := List.eq_nil_of_length_eq_zero hm.symm
                rw [hs4, hz]; exact conv_at (w4.drewN n) _ [] 0 At.nil_
              have HM := Lib.hid hm; clear hm
              have HS4 := Lib.hid hs4; clear hs4
              have HP1 := Lib.hid p1; clear p1 h4 hat4
              go_wp2
              go_quiet (fail)
              clear v1 v2 g5
              go_wp2
              go_roundg (gk - 1)
              case measure => omega
              case rel =>
                have hlen2 : (all_ (ls.take (j + 1))).length = at_ + 0 := by rw [HT.out, List.length_append, ← HM.out, ← HAT_.out]
                exact ⟨j + 1, by omega, by go_num, by rw [hlen2]; go_num, HAT4.out, below_dn HB4.out _⟩
          · obtain rfl : j = ls.length := by omega
            rw [List.take_length, ← HLL.out]
            have hsx := HS.out
            have hcv : (convert 31 9 (.slice (some ⟨wo.heap.size, 0, none⟩) hl2 L)).run Try.prog wr = .ok (.string s) wr := by
              rw [hsx]; exact conv_row wr wo.heap.size 0 hl2 L (all_ ls) _ HAT.out HH2.out.symm (by rw [List.drop_zero]; exact F2.out)
            have e1 : (0 : Int) ≤ (hl2 : Int) := by omega
            have e2 : (hl2 : Int) ≤ (L : Int) := by omega
            clear hsx
            go_wp2_with fail
            refine (works_any _).mono ?_
            rintro e w9 ⟨rfl, hb9⟩
            have HB9 := Lib.hid (below_trans HB.out hb9); clear hb9
            go_wp2
            go_ret
            exact ⟨rfl, HB9.out⟩

end Go.Proofs.Ytepcfinojifecaa
