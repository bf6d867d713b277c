/-
  What is proved here: the walk of the law FieldsCut: of any slice of items and any number the law's function returns true, and no block that was there has changed.
-/
import Derived.Test.YtepcfinojifecaaRead
namespace Go.Proofs.Ytepcfinojifecaa
open Go.RowKit

theorem At.reads {w w' : World} {A : Option Addr} {l : List Nat} {lo r : Nat} {l' : List Nat} {bad : Bool} (h : At w A l) (hr : Rd w lo r l' bad) (hg : w.grownBy w' (some r)) : At w' A l := by
  obtain ⟨X, hX⟩ := fall_end hr
  intro k x hx
  obtain ⟨h1, ad, e, h2⟩ := h k x hx
  refine ⟨h1, ad, e, ?_⟩
  rw [only_cell hg (block_lt_of_cell h2) ?_]
  · exact h2
  · intro hb
    generalize ad.add k = p at h2 hb
    obtain ⟨pb, po, ps⟩ := p
    obtain rfl : pb = r := hb
    unfold World.cell? at h2
    simp only [hX] at h2
    split at h2
    · cases h2
    · rcases po with _ | _ | po <;> simp at h2
theorem Bytes.reads {w w' : World} {v : Value} {l : List Nat} {lo r : Nat} {l' : List Nat} {bad : Bool} (h : Bytes w v l) (hr : Rd w lo r l' bad) (hg : w.grownBy w' (some r)) : Bytes w' v l := by
  obtain ⟨A, c, e, ha⟩ := h
  exact ⟨A, c, e, ha.reads hr hg⟩

def CutPut (w : World) (ls : List It) (g : Nat) (i : Value) (wr : World) : Prop :=
  ∃ j : Nat, j + g = ls.length ∧ i = .int .i64 (j : Int) ∧ Wr wr (w.heap.size + 1) w.heap.size (all_ (ls.take j)) ∧ Below w.heap.size w wr
theorem all_take_le (ls : List It) (i : Nat) : (all_ (ls.take i)).length ≤ weight ls := Nat.le_trans (all_le _) (weight_take_le ls i)

/- Where a row is cut. -/
theorem cut_at (q : Int) (L : Nat) (h2 : L ≤ 3000) : ∃ n : Nat, n ≤ L ∧ (wrap64 (wrap64 (q.tmod ((L : Int) + 1) + (L : Int)) + 1)).tmod ((L : Int) + 1) = (n : Int) := by
  have a1 : -((L : Int) + 1) < q.tmod ((L : Int) + 1) := by
    have := Int.lt_tmod_of_pos q (b := (L : Int) + 1) (by omega)
    omega
  have a2 : q.tmod ((L : Int) + 1) < (L : Int) + 1 := Int.tmod_lt_of_pos _ (by omega)
  generalize q.tmod ((L : Int) + 1) = t at a1 a2
  have e : wrap64 (wrap64 (t + (L : Int)) + 1) = t + (L : Int) + 1 := by unfold wrap64; omega
  rw [e]
  have a3 : 0 ≤ (t + (L : Int) + 1).tmod ((L : Int) + 1) := Int.tmod_nonneg _ (by omega)
  have a4 : (t + (L : Int) + 1).tmod ((L : Int) + 1) < (L : Int) + 1 := Int.tmod_lt_of_pos _ (by omega)
  exact ⟨((t + (L : Int) + 1).tmod ((L : Int) + 1)).toNat, by omega, by omega⟩
theorem open_n (A : Option Addr) (c n : Nat) (l : List Nat) (w : World) (hl : l.length = n) (hn : n ≤ 140737488355328) (ha : At w A l) :
    Calls Try.prog 14 #[.slice A n c] w fun e w' => ∃ b, e = .returned (.pointer (some ⟨b, 0, none⟩)) ∧ Rd w' w.heap.size b l false ∧ Below w.heap.size w w' := by
  subst hl
  refine (open_any A c l w hn ha).mono ?_
  rintro e w' ⟨b, h1, h2, h3, _⟩
  exact ⟨b, h1, h2, h3⟩

def CutRel (w : World) (ls : List It) (n lo r g : Nat) (at_ i : Value) (wr : World) : Prop :=
  ∃ j : Nat, j + g = ls.length ∧ i = .int .i64 (j : Int) ∧ at_ = .int .i64 (((all_ (ls.take j)).length : Nat) : Int) ∧ (all_ (ls.take j)).length ≤ n ∧ Rd wr lo r (((all_ ls).take n).drop (all_ (ls.take j)).length) false ∧ Below w.heap.size w wr
theorem all_split (ls : List It) (j : Nat) (h : j < ls.length) : all_ ls = all_ (ls.take j) ++ (itb ls[j] ++ all_ (ls.drop (j + 1))) := by
  unfold all_
  have : ls = ls.take j ++ (ls[j] :: ls.drop (j + 1)) := by rw [← List.drop_eq_getElem_cons h, List.take_append_drop]
  conv => lhs; rw [this]
  rw [List.map_append, List.flatten_append, List.map_cons, List.flatten_cons]
theorem cut_piece (ls : List It) (j n : Nat) (h : j < ls.length) (hn : (all_ (ls.take j)).length + (itb ls[j]).length ≤ n) :
    (((all_ ls).take n).drop (all_ (ls.take j)).length).take (itb ls[j]).length = itb ls[j] := by
  rw [all_split ls j h, List.drop_take, List.drop_append_of_le_length (Nat.le_refl _), List.drop_eq_nil_of_le (Nat.le_refl _), List.nil_append, List.take_take, Nat.min_eq_left (by omega), List.take_append_of_le_length (Nat.le_refl _), List.take_of_length_le (Nat.le_refl _)]

set_option maxRecDepth 100000 in
set_option maxHeartbeats 1000000 in
theorem cut_few (A : Option Addr) (c : Nat) (ls : List It) (q : Int) (w : World) (hl : ItemsAt w A ls) (h1 : ls.length ≤ 40) (h2 : weight ls ≤ 3000) :
    Calls Try.prog 5 #[.slice A ls.length c, .int .i64 q] w fun e w' => e = .returned (.bool true) ∧ Below w.heap.size w w' := by
  have HL := Lib.hid hl; clear hl
  go_enter Try.func5, Try.ntmps5
  go_wp2_with fail
  refine (few_yes A c ls 40 w HL.out (by decide) h1 h2).mono ?_
  rintro e w' ⟨rfl, rfl⟩
  go_wp2
  go_loopg [6] ls.length (fun g i wr => CutPut w ls g i wr)
  case atStart => exact ⟨0, by omega, rfl, Wr.new _ _ _ (heap_alloc_new w _) (by omega), (Below.refl _ _).alloc (Nat.le_refl _) _⟩
  case round =>
    obtain ⟨j, hj, rfl, hw, hb⟩ := hrel
    have HW := Lib.hid hw; clear hw
    have HB := Lib.hid hb; clear hb
    have hz : w.heap.size + 1 ≤ wr.heap.size := HW.out.lt
    by_cases hlt : j < ls.length
    · obtain ⟨k1, k2, k3, bk, o, B, d, rfl, c0, c1, c2, ha⟩ := (HL.out j ls[j] (List.getElem?_eq_getElem hlt)).below HB.out
      have HA := Lib.hid ha; clear ha
      have hle := all_take_le ls j
      have HT := Lib.hid (all_take ls j hlt)
      go_wp2_with fail
      refine (put_any (w.heap.size + 1) w.heap.size d B ls[j] (all_ (ls.take j)) wr k1 k2 k3 HA.out HW.out hz (by omega)).mono ?_
      rintro e wz ⟨rfl, hw2, hg2⟩
      rw [← HT.out] at hw2
      have HW2 := Lib.hid hw2; clear hw2
      have HB2 := Lib.hid (below_only HB.out hg2 HB.out.size (Nat.le_refl _)); clear hg2
      go_wp2
      go_roundg (gk - 1)
      case measure => omega
      case rel => exact ⟨j + 1, by omega, by go_num, HW2.out, HB2.out⟩
    · obtain rfl : j = ls.length := by omega
      rw [List.take_length] at HW
      have hle := all_le ls
      go_wp2_with fail
      refine (out_any _ _ _ _ HW.out (by omega)).mono ?_
      rintro e w2 ⟨v, rfl, ho, hb2⟩
      have HB2 := Lib.hid (below_trans HB.out hb2); clear hb2
      clear HW HB hz hlt hj
      obtain ⟨L, hL⟩ : ∃ L, L = (all_ ls).length := ⟨_, rfl⟩
      have hL3 : L ≤ 3000 := by omega
      have hsm : ∀ x ∈ all_ ls, x < 256 := by
        intro x hx
        unfold all_ at hx
        rw [List.mem_flatten] at hx
        obtain ⟨l, hl, hx⟩ := hx
        rw [List.mem_map] at hl
        obtain ⟨y, hy, rfl⟩ := hl
        obtain ⟨i, hi⟩ := List.getElem?_of_mem hy
        obtain ⟨_, _, _, bk, o, B, d, _, _, _, _, ha⟩ := HL.out i y hi
        unfold itb at hx
        split at hx
        · exact ha.small x hx
        · exact Fld.dg_lt _ _ x hx
      have HSM := Lib.hid hsm; clear hsm
      rcases ho with ⟨hnil, rfl⟩ | ⟨rfl, hrow⟩
      · obtain rfl : L = 0 := by rw [hL, hnil]; rfl
        have HNL := Lib.hid hnil; clear hnil
        clear hL hle
        have hNL : 0 ≤ (all_ ls).length := Nat.zero_le _
        go_wp2_with fail
        refine (open_n none 0 0 ((all_ ls).take 0) w2 (by rw [HNL.out]; rfl) (by omega) (by rw [HNL.out]; exact At.nil_)).mono ?_
        rintro e w3 ⟨r, rfl, hr3, hb3⟩
        have hlo : w.heap.size ≤ r := Nat.le_trans HB2.out.size hr3.1
        have HR := Lib.hid hr3; clear hr3
        have HB3 := Lib.hid (below_trans HB2.out hb3); clear hb3
        generalize w2.heap.size = lo at HR
        go_wp2
        go_loopg [10, 11] ls.length (fun g a i wr => CutRel w ls 0 lo r g a i wr)
        case atStart => exact ⟨0, by omega, rfl, rfl, Nat.zero_le _, HR.out, HB3.out⟩
        case round =>
          clear HR HB3
          obtain ⟨j, hj, rfl, rfl, hle, hr, hb⟩ := hrel
          have HR := Lib.hid hr; clear hr
          have HB := Lib.hid hb; clear hb
          by_cases hlt : j < ls.length
          · obtain ⟨k1, k2, k3, bk, o, B, d, hA, d0, d1, d2, ha⟩ := HL.out j ls[j] (List.getElem?_eq_getElem hlt)
            subst hA
            have hbk : bk < w.heap.size := block_lt_of_cell d0
            have c0 := (HB.out.cell (block_lt_of_cell d0)).trans d0
            have c1 := (HB.out.cell (block_lt_of_cell d1)).trans d1
            have c2 := (HB.out.cell (block_lt_of_cell d2)).trans d2
            have HA := Lib.hid (ha.below HB.out); clear ha d0 d1 d2
            have HT := Lib.hid (all_take ls j hlt)
            have hpc := cut_piece ls j 0 hlt
            have HPC := Lib.hid hpc; clear hpc
            obtain ⟨at_, hat_⟩ : ∃ t, t = (all_ (ls.take j)).length := ⟨_, rfl⟩
            rw [← hat_] at hle HR HPC
            rw [← hat_]
            have HAT_ := Lib.hid hat_; clear hat_
            go_wp2_with fail
            refine (bytes_any d B ls[j] _ k1 k2 HA.out).mono ?_
            rintro e w4 ⟨v4, rfl, ⟨A4, d4, rfl, h4⟩, hb4⟩
            have HX4 := Lib.hid h4; clear h4
            have HR4 := Lib.hid (HR.out.below hb4); clear HR
            have HB4 := Lib.hid (below_trans HB.out hb4)
            have c0' := (hb4.cell (block_lt_of_cell c0)).trans c0
            have c1' := (hb4.cell (block_lt_of_cell c1)).trans c1
            have c2' := (hb4.cell (block_lt_of_cell c2)).trans c2
            clear c0 c1 c2 HA hb4 HB
            have hil := itb_le ls[j]
            obtain ⟨m, hm⟩ : ∃ m, m = (itb ls[j]).length := ⟨_, rfl⟩
            rw [← hm] at hil HPC
            rw [← hm]
            have HM := Lib.hid hm; clear hm
            go_wp2_with fail
            rcases Nat.lt_or_ge 0 (at_ + m) with hfall | hfit
            · refine (readit_bad lo r d B ls[j] _ false w4 k1 HR4.out (by rw [← HM.out, List.length_drop, List.length_take]; omega)).mono ?_
              rintro e w5 ⟨v5, rfl, ⟨A5, d5, rfl, h5⟩, hr5, hg5⟩
              have HB5 := Lib.hid (below_only HB4.out hg5 HB4.out.size hlo)
              have c0'' := (only_cell hg5 (block_lt_of_cell c0') (by show bk ≠ r; omega)).trans c0'
              have HR5 := Lib.hid hr5; clear hr5 hg5
              clear c0' c1' c2' HR4 HB4 HX4 HPC HT HAT_
              obtain ⟨z1, z2, z3⟩ := zeros_num ls[j]
              have hgt : (0 : Int) < (at_ : Int) + (m : Int) := by omega
              by_cases hk4 : ls[j].kind % 5 = 4
              · have hr4 : (ls[j].kind : Int) % 5 = 4 := by omega
                have hz := z3 hk4
                rw [hz]
                clear z1 z2 z3 hz h5 hk4
                go_wp2_with fail
                refine (bad_any _ _ _ _ _ HR5.out).mono ?_
                rintro e w' ⟨rfl, rfl⟩
                go_wp2_with fail
                refine (left_any _ _ _ _ _ HR5.out).mono ?_
                rintro e w' ⟨rfl, rfl⟩
                go_wp2_with fail
                refine (rd64_bad _ _ _ _ _ HR5.out (by decide)).mono ?_
                rintro e w6 ⟨rfl, hr6, hg6⟩
                have HB6 := Lib.hid (below_only HB5.out hg6 HB5.out.size hlo)
                have HR6 := Lib.hid hr6; clear hr6 hg6
                go_wp2_with fail
                refine (bad_any _ _ _ _ _ HR6.out).mono ?_
                rintro e w' ⟨rfl, rfl⟩
                go_wp2_with fail
                refine (works_any _).mono ?_
                rintro e w9 ⟨rfl, hb9⟩
                have HB9 := Lib.hid (below_trans HB6.out hb9); clear hb9
                go_wp2
                go_ret
                exact ⟨rfl, HB9.out⟩
              · have hr4 : ((ls[j].kind : Int) % 5 == 4) = false := by simp; omega
                have HX5 := Lib.hid h5; clear h5
                have Z1 := Lib.hid z1; clear z1
                clear z3 hk4
                go_wp2_with fail
                refine (bad_any _ _ _ _ _ HR5.out).mono ?_
                rintro e w' ⟨rfl, rfl⟩
                go_wp2_with fail
                refine (left_any _ _ _ _ _ HR5.out).mono ?_
                rintro e w' ⟨rfl, rfl⟩
                go_wp2_with fail
                refine (number_any A5 d5 (zeros ls[j]) w5 z2 HX5.out).mono ?_
                rintro e w' ⟨rfl, rfl⟩
                rw [Z1.out]
                go_wp2_with fail
                refine (rd64_bad _ _ _ _ _ HR5.out (by decide)).mono ?_
                rintro e w6 ⟨rfl, hr6, hg6⟩
                have HB6 := Lib.hid (below_only HB5.out hg6 HB5.out.size hlo)
                have HR6 := Lib.hid hr6; clear hr6 hg6
                go_wp2_with fail
                refine (bad_any _ _ _ _ _ HR6.out).mono ?_
                rintro e w' ⟨rfl, rfl⟩
                go_wp2_with fail
                refine (works_any _).mono ?_
                rintro e w9 ⟨rfl, hb9⟩
                have HB9 := Lib.hid (below_trans HB6.out hb9); clear hb9
                go_wp2
                go_ret
                exact ⟨rfl, HB9.out⟩
            · refine (readit lo r d B ls[j] _ false w4 k1 k3 HR4.out (by rw [← HM.out, List.length_drop, List.length_take]; omega)).mono ?_
              rintro e w5 ⟨v5, rfl, ⟨A5, d5, rfl, h5⟩, hr5, hg5⟩
              have HB5 := Lib.hid (below_only HB4.out hg5 HB4.out.size hlo)
              have HX4' := Lib.hid (HX4.out.reads HR4.out hg5); clear HX4
              rw [← HM.out] at h5 hr5 ⊢
              rw [HPC.out hfit] at h5 ⊢
              rw [← HM.out]
              have HR5 := Lib.hid hr5; clear hr5 hg5
              have HX5 := Lib.hid h5; clear h5
              clear c0' c1' c2' HR4 HB4 HPC
              have v1 := conv_at w5 A5 _ d5 HX5.out
              have v2 := conv_at w5 A4 _ d4 HX4'.out
              rw [← HM.out] at v1 v2
              obtain ⟨K, hK⟩ : ∃ K, at_ + m + K = 0 := ⟨0 - (at_ + m), by omega⟩
              have hLen : ((((all_ ls).take 0).drop at_).drop m).length = K := by rw [List.length_drop, List.length_drop, List.length_take]; omega
              have HLen := Lib.hid hLen; clear hLen
              obtain rfl : at_ = 0 := by omega
              obtain rfl : m = 0 := by omega
              obtain rfl : K = 0 := by omega
              clear hK hfit hle hil
              go_wp2_with fail
              refine (bad_any _ _ _ _ _ HR5.out).mono ?_
              rintro e w' ⟨rfl, rfl⟩
              go_wp2_with fail
              refine (left_any _ _ _ _ _ HR5.out).mono ?_
              rintro e w' ⟨rfl, rfl⟩
              rw [HLen.out]
              go_wp2
              go_roundg (gk - 1)
              case measure => omega
              case rel =>
                have hlen2 : (all_ (ls.take (j + 1))).length = 0 + 0 := by rw [HT.out, List.length_append, ← HM.out, ← HAT_.out]
                refine ⟨j + 1, by omega, by go_num, by rw [hlen2]; go_num, by rw [hlen2]; omega, ?_, HB5.out⟩
                rw [hlen2]
                have := HR5.out; rw [List.drop_drop] at this; exact this
          · obtain rfl : j = ls.length := by omega
            go_wp2_with fail
            refine (bad_any _ _ _ _ _ HR.out).mono ?_
            rintro e w' ⟨rfl, rfl⟩
            go_wp2_with fail
            refine (works_any _).mono ?_
            rintro e w9 ⟨rfl, hb9⟩
            have HB9 := Lib.hid (below_trans HB.out hb9); clear hb9
            go_wp2
            go_ret
            exact ⟨rfl, HB9.out⟩
      · have hat := hrow.at_ HSM.out
        clear hrow hle
        have HAT := Lib.hid hat; clear hat
        rw [← hL]
        have HLL := Lib.hid hL; clear hL
        by_cases hz : L = 0
        · subst hz
          have hNL : 0 ≤ (all_ ls).length := Nat.zero_le _
          go_wp2_with fail
          refine (open_n (some ⟨wr.heap.size, 0, none⟩) 0 0 ((all_ ls).take 0) w2 (by rw [List.length_take, ← HLL.out]; rfl) (by omega) (HAT.out.take 0)).mono ?_
          rintro e w3 ⟨r, rfl, hr3, hb3⟩
          have hlo : w.heap.size ≤ r := Nat.le_trans HB2.out.size hr3.1
          have HR := Lib.hid hr3; clear hr3
          have HB3 := Lib.hid (below_trans HB2.out hb3); clear hb3
          generalize w2.heap.size = lo at HR
          go_wp2
          go_loopg [10, 11] ls.length (fun g a i wr => CutRel w ls 0 lo r g a i wr)
          case atStart => exact ⟨0, by omega, rfl, rfl, Nat.zero_le _, HR.out, HB3.out⟩
          case round =>
            clear HR HB3
            obtain ⟨j, hj, rfl, rfl, hle, hr, hb⟩ := hrel
            have HR := Lib.hid hr; clear hr
            have HB := Lib.hid hb; clear hb
            by_cases hlt : j < ls.length
            · obtain ⟨k1, k2, k3, bk, o, B, d, hA, d0, d1, d2, ha⟩ := HL.out j ls[j] (List.getElem?_eq_getElem hlt)
              subst hA
              have hbk : bk < w.heap.size := block_lt_of_cell d0
              have c0 := (HB.out.cell (block_lt_of_cell d0)).trans d0
              have c1 := (HB.out.cell (block_lt_of_cell d1)).trans d1
              have c2 := (HB.out.cell (block_lt_of_cell d2)).trans d2
              have HA := Lib.hid (ha.below HB.out); clear ha d0 d1 d2
              have HT := Lib.hid (all_take ls j hlt)
              have hpc := cut_piece ls j 0 hlt
              have HPC := Lib.hid hpc; clear hpc
              obtain ⟨at_, hat_⟩ : ∃ t, t = (all_ (ls.take j)).length := ⟨_, rfl⟩
              rw [← hat_] at hle HR HPC
              rw [← hat_]
              have HAT_ := Lib.hid hat_; clear hat_
              go_wp2_with fail
              refine (bytes_any d B ls[j] _ k1 k2 HA.out).mono ?_
              rintro e w4 ⟨v4, rfl, ⟨A4, d4, rfl, h4⟩, hb4⟩
              have HX4 := Lib.hid h4; clear h4
              have HR4 := Lib.hid (HR.out.below hb4); clear HR
              have HB4 := Lib.hid (below_trans HB.out hb4)
              have c0' := (hb4.cell (block_lt_of_cell c0)).trans c0
              have c1' := (hb4.cell (block_lt_of_cell c1)).trans c1
              have c2' := (hb4.cell (block_lt_of_cell c2)).trans c2
              clear c0 c1 c2 HA hb4 HB
              have hil := itb_le ls[j]
              obtain ⟨m, hm⟩ : ∃ m, m = (itb ls[j]).length := ⟨_, rfl⟩
              rw [← hm] at hil HPC
              rw [← hm]
              have HM := Lib.hid hm; clear hm
              go_wp2_with fail
              rcases Nat.lt_or_ge 0 (at_ + m) with hfall | hfit
              · refine (readit_bad lo r d B ls[j] _ false w4 k1 HR4.out (by rw [← HM.out, List.length_drop, List.length_take]; omega)).mono ?_
                rintro e w5 ⟨v5, rfl, ⟨A5, d5, rfl, h5⟩, hr5, hg5⟩
                have HB5 := Lib.hid (below_only HB4.out hg5 HB4.out.size hlo)
                have c0'' := (only_cell hg5 (block_lt_of_cell c0') (by show bk ≠ r; omega)).trans c0'
                have HR5 := Lib.hid hr5; clear hr5 hg5
                clear c0' c1' c2' HR4 HB4 HX4 HPC HT HAT_
                obtain ⟨z1, z2, z3⟩ := zeros_num ls[j]
                have hgt : (0 : Int) < (at_ : Int) + (m : Int) := by omega
                by_cases hk4 : ls[j].kind % 5 = 4
                · have hr4 : (ls[j].kind : Int) % 5 = 4 := by omega
                  have hz := z3 hk4
                  rw [hz]
                  clear z1 z2 z3 hz h5 hk4
                  go_wp2_with fail
                  refine (bad_any _ _ _ _ _ HR5.out).mono ?_
                  rintro e w' ⟨rfl, rfl⟩
                  go_wp2_with fail
                  refine (left_any _ _ _ _ _ HR5.out).mono ?_
                  rintro e w' ⟨rfl, rfl⟩
                  go_wp2_with fail
                  refine (rd64_bad _ _ _ _ _ HR5.out (by decide)).mono ?_
                  rintro e w6 ⟨rfl, hr6, hg6⟩
                  have HB6 := Lib.hid (below_only HB5.out hg6 HB5.out.size hlo)
                  have HR6 := Lib.hid hr6; clear hr6 hg6
                  go_wp2_with fail
                  refine (bad_any _ _ _ _ _ HR6.out).mono ?_
                  rintro e w' ⟨rfl, rfl⟩
                  go_wp2_with fail
                  refine (works_any _).mono ?_
                  rintro e w9 ⟨rfl, hb9⟩
                  have HB9 := Lib.hid (below_trans HB6.out hb9); clear hb9
                  go_wp2
                  go_ret
                  exact ⟨rfl, HB9.out⟩
                · have hr4 : ((ls[j].kind : Int) % 5 == 4) = false := by simp; omega
                  have HX5 := Lib.hid h5; clear h5
                  have Z1 := Lib.hid z1; clear z1
                  clear z3 hk4
                  go_wp2_with fail
                  refine (bad_any _ _ _ _ _ HR5.out).mono ?_
                  rintro e w' ⟨rfl, rfl⟩
                  go_wp2_with fail
                  refine (left_any _ _ _ _ _ HR5.out).mono ?_
                  rintro e w' ⟨rfl, rfl⟩
                  go_wp2_with fail
                  refine (number_any A5 d5 (zeros ls[j]) w5 z2 HX5.out).mono ?_
                  rintro e w' ⟨rfl, rfl⟩
                  rw [Z1.out]
                  go_wp2_with fail
                  refine (rd64_bad _ _ _ _ _ HR5.out (by decide)).mono ?_
                  rintro e w6 ⟨rfl, hr6, hg6⟩
                  have HB6 := Lib.hid (below_only HB5.out hg6 HB5.out.size hlo)
                  have HR6 := Lib.hid hr6; clear hr6 hg6
                  go_wp2_with fail
                  refine (bad_any _ _ _ _ _ HR6.out).mono ?_
                  rintro e w' ⟨rfl, rfl⟩
                  go_wp2_with fail
                  refine (works_any _).mono ?_
                  rintro e w9 ⟨rfl, hb9⟩
                  have HB9 := Lib.hid (below_trans HB6.out hb9); clear hb9
                  go_wp2
                  go_ret
                  exact ⟨rfl, HB9.out⟩
              · refine (readit lo r d B ls[j] _ false w4 k1 k3 HR4.out (by rw [← HM.out, List.length_drop, List.length_take]; omega)).mono ?_
                rintro e w5 ⟨v5, rfl, ⟨A5, d5, rfl, h5⟩, hr5, hg5⟩
                have HB5 := Lib.hid (below_only HB4.out hg5 HB4.out.size hlo)
                have HX4' := Lib.hid (HX4.out.reads HR4.out hg5); clear HX4
                rw [← HM.out] at h5 hr5 ⊢
                rw [HPC.out hfit] at h5 ⊢
                rw [← HM.out]
                have HR5 := Lib.hid hr5; clear hr5 hg5
                have HX5 := Lib.hid h5; clear h5
                clear c0' c1' c2' HR4 HB4 HPC
                have v1 := conv_at w5 A5 _ d5 HX5.out
                have v2 := conv_at w5 A4 _ d4 HX4'.out
                rw [← HM.out] at v1 v2
                obtain ⟨K, hK⟩ : ∃ K, at_ + m + K = 0 := ⟨0 - (at_ + m), by omega⟩
                have hLen : ((((all_ ls).take 0).drop at_).drop m).length = K := by rw [List.length_drop, List.length_drop, List.length_take]; omega
                have HLen := Lib.hid hLen; clear hLen
                obtain rfl : at_ = 0 := by omega
                obtain rfl : m = 0 := by omega
                obtain rfl : K = 0 := by omega
                clear hK hfit hle hil
                go_wp2_with fail
                refine (bad_any _ _ _ _ _ HR5.out).mono ?_
                rintro e w' ⟨rfl, rfl⟩
                go_wp2_with fail
                refine (left_any _ _ _ _ _ HR5.out).mono ?_
                rintro e w' ⟨rfl, rfl⟩
                rw [HLen.out]
                go_wp2
                go_roundg (gk - 1)
                case measure => omega
                case rel =>
                  have hlen2 : (all_ (ls.take (j + 1))).length = 0 + 0 := by rw [HT.out, List.length_append, ← HM.out, ← HAT_.out]
                  refine ⟨j + 1, by omega, by go_num, by rw [hlen2]; go_num, by rw [hlen2]; omega, ?_, HB5.out⟩
                  rw [hlen2]
                  have := HR5.out; rw [List.drop_drop] at this; exact this
            · obtain rfl : j = ls.length := by omega
              go_wp2_with fail
              refine (bad_any _ _ _ _ _ HR.out).mono ?_
              rintro e w' ⟨rfl, rfl⟩
              go_wp2_with fail
              refine (works_any _).mono ?_
              rintro e w9 ⟨rfl, hb9⟩
              have HB9 := Lib.hid (below_trans HB.out hb9); clear hb9
              go_wp2
              go_ret
              exact ⟨rfl, HB9.out⟩
        · have hp : 0 < L := by omega
          clear hz
          obtain ⟨n, hn, hcut⟩ := cut_at q L hL3
          have n1 : (0 : Int) ≤ (n : Int) := by omega
          have n2 : (n : Int) ≤ (L : Int) := by omega
          have hNL : n ≤ (all_ ls).length := (by rw [← HLL.out]; exact hn)
          go_wp2_with fail
          refine (open_n (some ⟨wr.heap.size, 0, none⟩) L n ((all_ ls).take n) w2 (by rw [List.length_take, ← HLL.out]; omega) (by omega) (HAT.out.take n)).mono ?_
          rintro e w3 ⟨r, rfl, hr3, hb3⟩
          have hlo : w.heap.size ≤ r := Nat.le_trans HB2.out.size hr3.1
          have HR := Lib.hid hr3; clear hr3
          have HB3 := Lib.hid (below_trans HB2.out hb3); clear hb3
          generalize w2.heap.size = lo at HR
          go_wp2
          go_loopg [10, 11] ls.length (fun g a i wr => CutRel w ls n lo r g a i wr)
          case atStart => exact ⟨0, by omega, rfl, rfl, Nat.zero_le _, HR.out, HB3.out⟩
          case round =>
            clear HR HB3
            obtain ⟨j, hj, rfl, rfl, hle, hr, hb⟩ := hrel
            have HR := Lib.hid hr; clear hr
            have HB := Lib.hid hb; clear hb
            by_cases hlt : j < ls.length
            · obtain ⟨k1, k2, k3, bk, o, B, d, hA, d0, d1, d2, ha⟩ := HL.out j ls[j] (List.getElem?_eq_getElem hlt)
              subst hA
              have hbk : bk < w.heap.size := block_lt_of_cell d0
              have c0 := (HB.out.cell (block_lt_of_cell d0)).trans d0
              have c1 := (HB.out.cell (block_lt_of_cell d1)).trans d1
              have c2 := (HB.out.cell (block_lt_of_cell d2)).trans d2
              have HA := Lib.hid (ha.below HB.out); clear ha d0 d1 d2
              have HT := Lib.hid (all_take ls j hlt)
              have hpc := cut_piece ls j n hlt
              have HPC := Lib.hid hpc; clear hpc
              obtain ⟨at_, hat_⟩ : ∃ t, t = (all_ (ls.take j)).length := ⟨_, rfl⟩
              rw [← hat_] at hle HR HPC
              rw [← hat_]
              have HAT_ := Lib.hid hat_; clear hat_
              go_wp2_with fail
              refine (bytes_any d B ls[j] _ k1 k2 HA.out).mono ?_
              rintro e w4 ⟨v4, rfl, ⟨A4, d4, rfl, h4⟩, hb4⟩
              have HX4 := Lib.hid h4; clear h4
              have HR4 := Lib.hid (HR.out.below hb4); clear HR
              have HB4 := Lib.hid (below_trans HB.out hb4)
              have c0' := (hb4.cell (block_lt_of_cell c0)).trans c0
              have c1' := (hb4.cell (block_lt_of_cell c1)).trans c1
              have c2' := (hb4.cell (block_lt_of_cell c2)).trans c2
              clear c0 c1 c2 HA hb4 HB
              have hil := itb_le ls[j]
              obtain ⟨m, hm⟩ : ∃ m, m = (itb ls[j]).length := ⟨_, rfl⟩
              rw [← hm] at hil HPC
              rw [← hm]
              have HM := Lib.hid hm; clear hm
              go_wp2_with fail
              rcases Nat.lt_or_ge n (at_ + m) with hfall | hfit
              · refine (readit_bad lo r d B ls[j] _ false w4 k1 HR4.out (by rw [← HM.out, List.length_drop, List.length_take]; omega)).mono ?_
                rintro e w5 ⟨v5, rfl, ⟨A5, d5, rfl, h5⟩, hr5, hg5⟩
                have HB5 := Lib.hid (below_only HB4.out hg5 HB4.out.size hlo)
                have c0'' := (only_cell hg5 (block_lt_of_cell c0') (by show bk ≠ r; omega)).trans c0'
                have HR5 := Lib.hid hr5; clear hr5 hg5
                clear c0' c1' c2' HR4 HB4 HX4 HPC HT HAT_
                obtain ⟨z1, z2, z3⟩ := zeros_num ls[j]
                have hgt : (n : Int) < (at_ : Int) + (m : Int) := by omega
                by_cases hk4 : ls[j].kind % 5 = 4
                · have hr4 : (ls[j].kind : Int) % 5 = 4 := by omega
                  have hz := z3 hk4
                  rw [hz]
                  clear z1 z2 z3 hz h5 hk4
                  go_wp2_with fail
                  refine (bad_any _ _ _ _ _ HR5.out).mono ?_
                  rintro e w' ⟨rfl, rfl⟩
                  go_wp2_with fail
                  refine (left_any _ _ _ _ _ HR5.out).mono ?_
                  rintro e w' ⟨rfl, rfl⟩
                  go_wp2_with fail
                  refine (rd64_bad _ _ _ _ _ HR5.out (by decide)).mono ?_
                  rintro e w6 ⟨rfl, hr6, hg6⟩
                  have HB6 := Lib.hid (below_only HB5.out hg6 HB5.out.size hlo)
                  have HR6 := Lib.hid hr6; clear hr6 hg6
                  go_wp2_with fail
                  refine (bad_any _ _ _ _ _ HR6.out).mono ?_
                  rintro e w' ⟨rfl, rfl⟩
                  go_wp2_with fail
                  refine (works_any _).mono ?_
                  rintro e w9 ⟨rfl, hb9⟩
                  have HB9 := Lib.hid (below_trans HB6.out hb9); clear hb9
                  go_wp2
                  go_ret
                  exact ⟨rfl, HB9.out⟩
                · have hr4 : ((ls[j].kind : Int) % 5 == 4) = false := by simp; omega
                  have HX5 := Lib.hid h5; clear h5
                  have Z1 := Lib.hid z1; clear z1
                  clear z3 hk4
                  go_wp2_with fail
                  refine (bad_any _ _ _ _ _ HR5.out).mono ?_
                  rintro e w' ⟨rfl, rfl⟩
                  go_wp2_with fail
                  refine (left_any _ _ _ _ _ HR5.out).mono ?_
                  rintro e w' ⟨rfl, rfl⟩
                  go_wp2_with fail
                  refine (number_any A5 d5 (zeros ls[j]) w5 z2 HX5.out).mono ?_
                  rintro e w' ⟨rfl, rfl⟩
                  rw [Z1.out]
                  go_wp2_with fail
                  refine (rd64_bad _ _ _ _ _ HR5.out (by decide)).mono ?_
                  rintro e w6 ⟨rfl, hr6, hg6⟩
                  have HB6 := Lib.hid (below_only HB5.out hg6 HB5.out.size hlo)
                  have HR6 := Lib.hid hr6; clear hr6 hg6
                  go_wp2_with fail
                  refine (bad_any _ _ _ _ _ HR6.out).mono ?_
                  rintro e w' ⟨rfl, rfl⟩
                  go_wp2_with fail
                  refine (works_any _).mono ?_
                  rintro e w9 ⟨rfl, hb9⟩
                  have HB9 := Lib.hid (below_trans HB6.out hb9); clear hb9
                  go_wp2
                  go_ret
                  exact ⟨rfl, HB9.out⟩
              · refine (readit lo r d B ls[j] _ false w4 k1 k3 HR4.out (by rw [← HM.out, List.length_drop, List.length_take]; omega)).mono ?_
                rintro e w5 ⟨v5, rfl, ⟨A5, d5, rfl, h5⟩, hr5, hg5⟩
                have HB5 := Lib.hid (below_only HB4.out hg5 HB4.out.size hlo)
                have HX4' := Lib.hid (HX4.out.reads HR4.out hg5); clear HX4
                rw [← HM.out] at h5 hr5 ⊢
                rw [HPC.out hfit] at h5 ⊢
                rw [← HM.out]
                have HR5 := Lib.hid hr5; clear hr5 hg5
                have HX5 := Lib.hid h5; clear h5
                clear c0' c1' c2' HR4 HB4 HPC
                have v1 := conv_at w5 A5 _ d5 HX5.out
                have v2 := conv_at w5 A4 _ d4 HX4'.out
                rw [← HM.out] at v1 v2
                obtain ⟨K, hK⟩ : ∃ K, at_ + m + K = n := ⟨n - (at_ + m), by omega⟩
                have hLen : ((((all_ ls).take n).drop at_).drop m).length = K := by rw [List.length_drop, List.length_drop, List.length_take]; omega
                have HLen := Lib.hid hLen; clear hLen
                have hne : ((K : Int) != (n : Int) - ((at_ : Int) + (m : Int))) = false := by simp; omega
                go_wp2_with fail
                refine (bad_any _ _ _ _ _ HR5.out).mono ?_
                rintro e w' ⟨rfl, rfl⟩
                go_wp2_with fail
                refine (left_any _ _ _ _ _ HR5.out).mono ?_
                rintro e w' ⟨rfl, rfl⟩
                rw [HLen.out]
                go_wp2
                go_roundg (gk - 1)
                case measure => omega
                case rel =>
                  have hlen2 : (all_ (ls.take (j + 1))).length = at_ + m := by rw [HT.out, List.length_append, ← HM.out, ← HAT_.out]
                  refine ⟨j + 1, by omega, by go_num, by rw [hlen2]; go_num, by rw [hlen2]; omega, ?_, HB5.out⟩
                  rw [hlen2]
                  have := HR5.out; rw [List.drop_drop] at this; exact this
            · obtain rfl : j = ls.length := by omega
              go_wp2_with fail
              refine (bad_any _ _ _ _ _ HR.out).mono ?_
              rintro e w' ⟨rfl, rfl⟩
              go_wp2_with fail
              refine (works_any _).mono ?_
              rintro e w9 ⟨rfl, hb9⟩
              have HB9 := Lib.hid (below_trans HB.out hb9); clear hb9
              go_wp2
              go_ret
              exact ⟨rfl, HB9.out⟩

end Go.Proofs.Ytepcfinojifecaa
