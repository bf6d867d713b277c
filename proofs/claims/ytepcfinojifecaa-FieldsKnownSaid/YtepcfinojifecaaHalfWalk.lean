/-
  What is proved here: the walk of the law FieldsHalves: of any number the law's function returns true, and no block that was there has changed.
-/
import Derived.Test.YtepcfinojifecaaHalf
namespace Go.Proofs.Ytepcfinojifecaa
open Go.RowKit

def HalfRel (w : World) (B lo lo2 r2 lo3 r3 : Nat) (D : List Nat) (k g : Nat) (a i : Value) (wr : World) : Prop :=
  ∃ j : Nat, j + g = 8 / k ∧ i = .int .i64 (j : Int) ∧ a = .int .u64 ((Fld.num (D.take (k * j)) : Nat) : Int) ∧ Rd wr lo2 r2 (D.drop (k * j)) false ∧ (k = 2 → Rd wr lo3 r3 D false) ∧ Wr wr lo (B + 1) [] ∧ Below B w wr

set_option maxRecDepth 100000 in
set_option maxHeartbeats 4000000 in
theorem halves_any (n : Nat) (w : World) (hn : n < 18446744073709551616) :
    Calls Try.prog 7 #[.int .u64 (n : Int)] w fun e w' => e = .returned (.bool true) ∧ Below w.heap.size w w' := by
  obtain ⟨N1, N2, N3⟩ := num_halves n hn
  have hDl : (Fld.dg 8 n).length = 8 := Fld.dg_length 8 n
  have hDs := Fld.dg_lt 8 n
  have hDn : Fld.num (Fld.dg 8 n) = n := by rw [Fld.num_dg]; exact Nat.mod_eq_of_lt hn
  have hDe := dg_ne 7 n
  have hDp := dg_parts n
  obtain ⟨D, hD⟩ : ∃ D, D = Fld.dg 8 n := ⟨_, rfl⟩
  rw [← hD] at N1 N2 N3 hDl hDs hDn hDe hDp
  have HD := Lib.hid hD; clear hD
  have HN1 := Lib.hid N1; clear N1
  have HN2 := Lib.hid N2; clear N2
  have HN3 := Lib.hid N3; clear N3
  have HDl := Lib.hid hDl; clear hDl
  have HDs := Lib.hid hDs; clear hDs
  have HDn := Lib.hid hDn; clear hDn
  have HDe := Lib.hid hDe; clear hDe
  have HDp := Lib.hid hDp; clear hDp
  go_enter Try.func7, Try.ntmps7
  go_wp2_with fail
  have hw0 : Wr ((w.alloc (.cells #[.pointer none] 28)).alloc (.cells #[.pointer none] 28)) (w.heap.size + 2) w.heap.size [] := Wr.new _ _ _ (heap_alloc2_old w _ _) (by omega)
  have hv0 : Wr ((w.alloc (.cells #[.pointer none] 28)).alloc (.cells #[.pointer none] 28)) (w.heap.size + 2) (w.heap.size + 1) [] := Wr.new _ _ _ (heap_alloc2_new w _ _) (by omega)
  have hb0 : Below w.heap.size w ((w.alloc (.cells #[.pointer none] 28)).alloc (.cells #[.pointer none] 28)) := ((Below.refl _ _).alloc (Nat.le_refl _) _).alloc (by simp) _
  have hz0 : ((w.alloc (.cells #[.pointer none] 28)).alloc (.cells #[.pointer none] 28)).heap.size = w.heap.size + 2 := by simp
  generalize ((w.alloc (.cells #[.pointer none] 28)).alloc (.cells #[.pointer none] 28)) = w0 at hw0 hv0 hb0 hz0 ⊢
  refine (wr64 (w.heap.size + 2) w.heap.size n [] w0 hw0 hn (by omega) (by decide)).mono ?_
  rintro e w1 ⟨rfl, hw1, hg1⟩
  have hv1 := hv0.other hg1 (by omega) (by omega)
  have hb1 : Below w.heap.size w w1 := below_only hb0 hg1 (by omega) (Nat.le_refl _)
  have hz1 : w.heap.size + 2 ≤ w1.heap.size := by have := hg1.size; omega
  rw [List.nil_append, ← HD.out] at hw1
  have HW := Lib.hid hw1; clear hw1 hw0
  have HV := Lib.hid hv1; clear hv1 hv0
  have HB := Lib.hid hb1; clear hb1 hb0 hg1 hz0
  go_wp2_with fail
  refine (out_some _ _ D w1 HW.out HDe.out (by rw [HDl.out]; decide)).mono ?_
  rintro e w2 ⟨rfl, hr2, hb2⟩
  have HR := Lib.hid (hr2.at_ HDs.out); clear hr2
  have HW2 := Lib.hid (HW.out.below hb2); clear HW
  have HV2 := Lib.hid (HV.out.below hb2); clear HV
  have HB2 := Lib.hid (below_trans HB.out hb2); clear HB
  have hz2 : w.heap.size + 2 ≤ w2.heap.size := by have := hb2.size; omega
  clear hb2
  go_wp2_with fail
  refine (open_any _ D.length D w2 (by rw [HDl.out]; decide) HR.out).mono ?_
  rintro e w3 ⟨r1, rfl, hr3, hb3, hs3⟩
  have HR1 := Lib.hid hr3; clear hr3 HR
  have HW3 := Lib.hid (HW2.out.below hb3); clear HW2
  have HV3 := Lib.hid (HV2.out.below hb3); clear HV2
  have HB3 := Lib.hid (below_trans HB2.out hb3); clear HB2
  have hz3 : w.heap.size + 2 ≤ w3.heap.size := by have := hb3.size; omega
  have hq1 : r1 < w3.heap.size := by omega
  have hlo1 : w.heap.size ≤ r1 := by have := HR1.out.1; omega
  clear hb3 hs3
  go_wp2_with fail
  refine (out_some _ _ D w3 HW3.out HDe.out (by rw [HDl.out]; decide)).mono ?_
  rintro e w4 ⟨rfl, hr4, hb4⟩
  have HR := Lib.hid (hr4.at_ HDs.out); clear hr4
  have HW4 := Lib.hid (HW3.out.below hb4); clear HW3
  have HV4 := Lib.hid (HV3.out.below hb4); clear HV3
  have HB4 := Lib.hid (below_trans HB3.out hb4); clear HB3
  have HR14 := Lib.hid (HR1.out.below hb4); clear HR1
  have hz4 : w.heap.size + 2 ≤ w4.heap.size := by have := hb4.size; omega
  have hq14 : r1 < w4.heap.size := by have := hb4.size; omega
  clear hb4
  go_wp2_with fail
  refine (open_any _ D.length D w4 (by rw [HDl.out]; decide) HR.out).mono ?_
  rintro e w5 ⟨r2, rfl, hr5, hb5, hs5⟩
  have HR2 := Lib.hid hr5; clear hr5 HR
  have HW5 := Lib.hid (HW4.out.below hb5); clear HW4
  have HV5 := Lib.hid (HV4.out.below hb5); clear HV4
  have HB5 := Lib.hid (below_trans HB4.out hb5); clear HB4
  have HR15 := Lib.hid (HR14.out.below hb5); clear HR14
  have hz5 : w.heap.size + 2 ≤ w5.heap.size := by have := hb5.size; omega
  have hq25 : r2 < w5.heap.size := by omega
  have hlo2 : w.heap.size ≤ r2 := by have := HR2.out.1; omega
  have hq15 : r1 < w5.heap.size := by have := hb5.size; omega
  clear hb5 hs5
  go_wp2_with fail
  refine (out_some _ _ D w5 HW5.out HDe.out (by rw [HDl.out]; decide)).mono ?_
  rintro e w6 ⟨rfl, hr6, hb6⟩
  have HR := Lib.hid (hr6.at_ HDs.out); clear hr6 HW5
  have HV6 := Lib.hid (HV5.out.below hb6); clear HV5
  have HB6 := Lib.hid (below_trans HB5.out hb6); clear HB5
  have HR16 := Lib.hid (HR15.out.below hb6); clear HR15
  have HR26 := Lib.hid (HR2.out.below hb6); clear HR2
  have hq16 : r1 < w6.heap.size := by have := hb6.size; omega
  have hq26 : r2 < w6.heap.size := by have := hb6.size; omega
  have hz6 : w.heap.size + 2 ≤ w6.heap.size := by have := hb6.size; omega
  clear hb6
  go_wp2_with fail
  refine (open_any _ D.length D w6 (by rw [HDl.out]; decide) HR.out).mono ?_
  rintro e w7 ⟨r3, rfl, hr7, hb7, hs7⟩
  have HR3 := Lib.hid hr7; clear hr7 HR
  have HV7 := Lib.hid (HV6.out.below hb7); clear HV6
  have HB7 := Lib.hid (below_trans HB6.out hb7); clear HB6
  have HR17 := Lib.hid (HR16.out.below hb7); clear HR16
  have HR27 := Lib.hid (HR26.out.below hb7); clear HR26
  have hz7 : w.heap.size + 2 ≤ w7.heap.size := by have := hb7.size; omega
  have hlo3 : w.heap.size ≤ r3 := by have := HR3.out.1; omega
  clear hb7 hs7
  generalize w6.heap.size = lo3 at HR3 hq16 hq26
  generalize w4.heap.size = lo2 at HR27 hq14
  generalize w2.heap.size = lo1 at HR17
  clear hz1 hz2 hz3 hz4 hz5 hz6 hq15 hq25 hq1
  go_wp2_with fail
  refine (rd32 lo1 r1 D false w7 HR17.out (by rw [HDl.out]; decide)).mono ?_
  rintro e w8 ⟨rfl, hr8, hg8⟩
  have HV8 := Lib.hid (HV7.out.reads HR17.out hg8); clear HV7
  have HB8 := Lib.hid (below_only HB7.out hg8 HB7.out.size hlo1); clear HB7
  have HR28 := Lib.hid (HR27.out.other hg8 (Or.inl hq14)); clear HR27
  have HR38 := Lib.hid (HR3.out.other hg8 (Or.inl hq16)); clear HR3
  have HR18 := Lib.hid hr8; clear hr8 hg8 HR17
  rw [HN1.out]
  obtain ⟨hi, hhi⟩ : ∃ hi, hi = n / 4294967296 := ⟨_, rfl⟩
  rw [← hhi]
  have hhl : hi < 4294967296 := by omega
  have HH := Lib.hid hhi; clear hhi
  go_wp2_with fail
  refine (rd32 lo1 r1 (D.drop 4) false w8 HR18.out (by rw [List.length_drop, HDl.out]; decide)).mono ?_
  rintro e w9 ⟨rfl, hr9, hg9⟩
  have HV9 := Lib.hid (HV8.out.reads HR18.out hg9); clear HV8
  have HB9 := Lib.hid (below_only HB8.out hg9 HB8.out.size hlo1); clear HB8
  have HR29 := Lib.hid (HR28.out.other hg9 (Or.inl hq14)); clear HR28
  have HR39 := Lib.hid (HR38.out.other hg9 (Or.inl hq16)); clear HR38
  rw [HN3.out] at hr9
  have HR19 := Lib.hid hr9; clear hr9 hg9 HR18
  rw [HN2.out]
  obtain ⟨lw, hlw⟩ : ∃ lw, lw = n % 4294967296 := ⟨_, rfl⟩
  rw [← hlw]
  have hll : lw < 4294967296 := by omega
  have ho : bits .or .u64 ((hi : Int) * 4294967296) (lw : Int) = (n : Int) := by
    have := or_at 32 hi lw 4294967296 (by decide) (by omega) hll (by decide)
    rw [show hi * 4294967296 + lw = n by have := HH.out; omega] at this
    exact this
  clear hlw HN1 HN2 HN3
  go_wp2_with fail
  refine (left_any _ _ _ _ _ HR19.out).mono ?_
  rintro e w' ⟨rfl, rfl⟩
  clear HR19 HH
  go_wp2
  clear ho hll hhl
  go_loopg [8, 9] 4 (fun g a i wr => HalfRel w w.heap.size (w.heap.size + 2) lo2 r2 lo3 r3 D 2 g a i wr)
  case atStart => exact ⟨0, by decide, rfl, rfl, HR29.out, fun _ => HR39.out, HV9.out, HB9.out⟩
  case round =>
    clear HR29 HR39 HV9 HB9
    obtain ⟨j, hj, rfl, rfl, q1, q2, q3, q4⟩ := hrel
    have hj4 : j + gk = 4 := hj
    have Q1 := Lib.hid q1; clear q1
    have Q2 := Lib.hid (q2 rfl); clear q2
    have Q3 := Lib.hid q3; clear q3
    have Q4 := Lib.hid q4; clear q4
    clear hj
    by_cases hlt : j < 4
    · have hs1 := num_step D (2 * j) 2 (by rw [HDl.out]; omega)
      have hs2 := num_small D (2 * j) HDs.out HDl.out (by omega)
      have hs3 := num_part D (2 * j) 2 HDs.out (by rw [HDl.out]; omega)
      have hp : 256 ^ (2 * j) ≤ 256 ^ 6 := Nat.pow_le_pow_right (by omega) (by omega)
      have e6 : (256 : Nat) ^ 6 = 281474976710656 := by decide
      have e2 : (256 : Nat) ^ 2 = 65536 := by decide
      rw [e2] at hs1 hs3
      rw [e6] at hp
      obtain ⟨m, hm⟩ : ∃ m, m = Fld.num (D.take (2 * j)) := ⟨_, rfl⟩
      rw [← hm]
      rw [← hm] at hs1 hs2
      have hroom : m * 65536 < 18446744073709551616 := by omega
      have HS := Lib.hid hs1; clear hs1 hs2 hp e6 e2 hm
      go_wp2_with fail
      refine (rd16 lo2 r2 (D.drop (2 * j)) false wr Q1.out (by rw [List.length_drop, HDl.out]; omega)).mono ?_
      rintro e wz ⟨rfl, hrz, hgz⟩
      have R1 := Lib.hid hrz; clear hrz
      have R2 := Lib.hid (Q2.out.other hgz (Or.inl hq26)); clear Q2
      have R3 := Lib.hid (Q3.out.reads Q1.out hgz); clear Q3
      have R4 := Lib.hid (below_only Q4.out hgz Q4.out.size hlo2); clear Q4 Q1 hgz
      obtain ⟨y, hy⟩ : ∃ y, y = Fld.num ((D.drop (2 * j)).take 2) := ⟨_, rfl⟩
      rw [← hy]
      rw [← hy] at hs3 HS
      have ho : bits .or .u64 ((m : Int) * 65536) (y : Int) = ((m * 65536 + y : Nat) : Int) := or_at 16 m y 65536 (by decide) hroom hs3 (by decide)
      clear hy
      go_wp2
      go_roundg (gk - 1)
      case measure => omega
      case rel =>
        refine ⟨j + 1, by show j + 1 + (gk - 1) = 4; omega, by go_num, ?_, ?_, fun _ => R2.out, R3.out, R4.out⟩
        · rw [show 2 * (j + 1) = 2 * j + 2 by omega, HS.out]; rfl
        · have := R1.out; rw [List.drop_drop] at this; exact this
    · obtain rfl : j = 4 := by omega
      rw [show 2 * 4 = D.length from HDl.out.symm, List.take_length, HDn.out]
      clear hlt hj4 Q1
      go_wp2
      go_loopg [10, 11] 8 (fun g a i wr => HalfRel w w.heap.size (w.heap.size + 2) lo3 r3 lo3 r3 D 1 g a i wr)
      case atStart => exact ⟨0, by decide, rfl, rfl, Q2.out, (fun h => absurd h (by decide)), Q3.out, Q4.out⟩
      case round =>
        clear Q2 Q3 Q4
        obtain ⟨j, hj, rfl, rfl, q1, _, q3, q4⟩ := hrel
        have hj8 : j + gk = 8 := hj
        have Q1 := Lib.hid q1; clear q1
        have Q3 := Lib.hid q3; clear q3
        have Q4 := Lib.hid q4; clear q4
        clear hj
        rw [Nat.one_mul] at Q1 ⊢
        by_cases hlt : j < 8
        · have hs1 := num_step D j 1 (by rw [HDl.out]; omega)
          have hs2 := num_small D j HDs.out HDl.out (by omega)
          have hs3 := num_part D j 1 HDs.out (by rw [HDl.out]; omega)
          have hp : 256 ^ j ≤ 256 ^ 7 := Nat.pow_le_pow_right (by omega) (by omega)
          have e6 : (256 : Nat) ^ 7 = 72057594037927936 := by decide
          have e2 : (256 : Nat) ^ 1 = 256 := by decide
          rw [e2] at hs1 hs3
          rw [e6] at hp
          obtain ⟨m, hm⟩ : ∃ m, m = Fld.num (D.take j) := ⟨_, rfl⟩
          rw [← hm]
          rw [← hm] at hs1 hs2
          have hroom : m * 256 < 18446744073709551616 := by omega
          have HS := Lib.hid hs1; clear hs1 hs2 hp e6 e2 hm
          go_wp2_with fail
          refine (rd8 lo3 r3 (D.drop j) false wr Q1.out (by rw [List.length_drop, HDl.out]; omega)).mono ?_
          rintro e wz ⟨rfl, hrz, hgz⟩
          have R1 := Lib.hid hrz; clear hrz
          have R3 := Lib.hid (Q3.out.reads Q1.out hgz); clear Q3
          have R4 := Lib.hid (below_only Q4.out hgz Q4.out.size hlo3); clear Q4 Q1 hgz
          obtain ⟨y, hy⟩ : ∃ y, y = Fld.num ((D.drop j).take 1) := ⟨_, rfl⟩
          rw [← hy]
          rw [← hy] at hs3 HS
          have ho := or8 m y hroom hs3
          clear hy
          go_wp2
          go_roundg (gk - 1)
          case measure => omega
          case rel =>
            refine ⟨j + 1, by show j + 1 + (gk - 1) = 8; omega, by go_num, ?_, ?_, (fun h => absurd h (by decide)), R3.out, R4.out⟩
            · rw [Nat.one_mul, HS.out]; rfl
            · have := R1.out; rw [List.drop_drop] at this; rw [Nat.one_mul]; exact this
        · obtain rfl : j = 8 := by omega
          rw [show D.take 8 = D from List.take_of_length_le (by rw [HDl.out]; exact Nat.le_refl _), HDn.out]
          clear hlt hj8 Q1
          have hz : w.heap.size + 2 ≤ wr.heap.size := by
            have := Q3.out.lt; omega
          go_wp2_with fail
          refine (wrl32 (w.heap.size + 2) (w.heap.size + 1) (n / 4294967296) _ [] wr ?_ Q3.out (by omega) hz (by decide)).mono ?_
          · omega
          rintro e wa ⟨rfl, hwa, hga⟩
          have R4 := Lib.hid (below_only Q4.out hga Q4.out.size (by omega)); clear Q4 Q3
          have hza : w.heap.size + 2 ≤ wa.heap.size := Nat.le_trans hz hga.size
          have R3 := Lib.hid hwa; clear hwa hga hz
          go_wp2_with fail
          refine (wrl16 (w.heap.size + 2) (w.heap.size + 1) (n / 65536 % 65536) _ _ wa ?_ R3.out (by omega) hza (by rw [List.nil_append, Fld.dg_length]; decide)).mono ?_
          · rw [IntKind.wrap_u16]; omega
          rintro e wb ⟨rfl, hwb, hgb⟩
          have S4 := Lib.hid (below_only R4.out hgb R4.out.size (by omega)); clear R4 R3
          have hzb : w.heap.size + 2 ≤ wb.heap.size := Nat.le_trans hza hgb.size
          have S3 := Lib.hid hwb; clear hwb hgb hza
          go_wp2_with fail
          refine (wrl8 (w.heap.size + 2) (w.heap.size + 1) (n / 256 % 256) _ _ wb ?_ S3.out (by omega) hzb (by rw [List.nil_append, List.length_append, Fld.dg_length, Fld.dg_length]; decide)).mono ?_
          · omega
          rintro e wc ⟨rfl, hwc, hgc⟩
          have T4 := Lib.hid (below_only S4.out hgc S4.out.size (by omega)); clear S4 S3
          have hzc : w.heap.size + 2 ≤ wc.heap.size := Nat.le_trans hzb hgc.size
          have T3 := Lib.hid hwc; clear hwc hgc hzb
          go_wp2_with fail
          refine (wrl8 (w.heap.size + 2) (w.heap.size + 1) (n % 256) _ _ wc ?_ T3.out (by omega) hzc (by rw [List.nil_append, List.length_append, List.length_append, Fld.dg_length, Fld.dg_length, Fld.dg_length]; decide)).mono ?_
          · omega
          rintro e wd ⟨rfl, hwd, hgd⟩
          have U4 := Lib.hid (below_only T4.out hgd T4.out.size (by omega)); clear T4 T3
          have hzd : w.heap.size + 2 ≤ wd.heap.size := Nat.le_trans hzc hgd.size
          rw [List.nil_append, HDp.out] at hwd
          have U3 := Lib.hid hwd; clear hwd hgd hzc
          go_wp2_with fail
          refine (out_some _ _ D wd U3.out HDe.out (by rw [HDl.out]; decide)).mono ?_
          rintro e we ⟨rfl, hre, hbe⟩
          have HR := Lib.hid (hre.at_ HDs.out); clear hre
          have V4 := Lib.hid (below_trans U4.out hbe); clear U4 U3 hbe
          go_wp2_with fail
          refine (open_any _ D.length D we (by rw [HDl.out]; decide) HR.out).mono ?_
          rintro e wf ⟨r4, rfl, hrf, hbf, hsf⟩
          have W4 := Lib.hid (below_trans V4.out hbf); 
          have hl4 : w.heap.size ≤ r4 := by have := hrf.1; have := V4.out.size; omega
          have HR4 := Lib.hid hrf; clear hrf hbf hsf HR V4
          go_wp2_with fail
          refine (rd64 _ r4 D false wf HR4.out (by rw [HDl.out]; decide)).mono ?_
          rintro e wg ⟨rfl, _, hgg⟩
          have X4 := Lib.hid (below_only W4.out hgg W4.out.size hl4); clear W4 hgg HR4
          rw [show D.take 8 = D from List.take_of_length_le (by rw [HDl.out]; exact Nat.le_refl _), HDn.out]
          go_wp2_with fail
          refine (works_any _).mono ?_
          rintro e wh ⟨rfl, hbh⟩
          have Y4 := Lib.hid (below_trans X4.out hbh); clear X4 hbh
          go_wp2
          go_ret
          exact ⟨rfl, Y4.out⟩

end Go.Proofs.Ytepcfinojifecaa
