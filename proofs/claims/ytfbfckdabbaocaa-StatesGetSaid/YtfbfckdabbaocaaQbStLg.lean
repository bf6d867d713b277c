/-
  What is proved here: the law's function StatesGet returns true: any bytes are the part that the document says, or are refused. Condition: the bytes can be read.
-/
import Derived.Test.YtfbfckdabbaocaaQbStPlx
import Derived.Test.YtfbfckdabbaocaaQbStR6
import Derived.Lib.ConvBytes
namespace Go.Proofs.Ytfbfckdabbaocaa.St
open Go.RowKit Gr Wd Ws Fx Rk Lb Al In
open Sq (BAt BOwn QOwn bls)
open Fld (dg num)
theorem own_bytes (w : World) (L : List Nat) (h : ∀ x ∈ L, x < 256) : ∃ W c, (convert 9 30 (.string (Fd.str L))).run Try.prog w = .ok (.slice (some ⟨w.heap.size, 0, none⟩) L.length c) W ∧ Fd.At W (some ⟨w.heap.size, 0, none⟩) L ∧ Below w.heap.size w W := by
  have hc := Lib.run_convert_string_bytes (P := Try.prog) w 9 30 5 (Fd.str L) Try.underlying9 Try.underlying30 Try.underlying5
  have hz : (Fd.str L).size = L.length := Fd.str_size L
  refine ⟨Lib.bytesWorld w 5 (Fd.str L), grownCap w (Fd.str L).size 0 5, by rw [← hz]; exact hc, fun k x hx => ⟨h x (List.mem_of_getElem? hx), _, rfl, ?_⟩, ⟨rfl, rfl, rfl, by rw [Lib.bytesWorld_size]; omega, fun k hk => Lib.bytesWorld_at_old w 5 (Fd.str L) k hk⟩⟩
  have hk : k < L.length := (List.getElem?_eq_some_iff.1 hx).1
  rw [Fd.add_plain]
  show (Lib.bytesWorld w 5 (Fd.str L)).cell? ⟨w.heap.size, 0 + k, none⟩ = _
  rw [Nat.zero_add, Lib.bytesWorld_cell w 5 (Fd.str L) k (by omega)]
  have hb := h x (List.mem_of_getElem? hx)
  have e : (Fd.str L).data.toList.getD k 0 = UInt8.ofNat x := by
    unfold Fd.str
    simp [List.getD, hx]
  rw [e]
  have e2 : (UInt8.ofNat x).toNat = x := by rw [UInt8.toNat_ofNat']; omega
  rw [e2]
theorem getR_few (L : List Nat) (hb : ∀ x ∈ L, x < 256) : (getR L).1.own.length ≤ 512 ∧ (getR L).1.vals.length = (getR L).1.own.length ∧ (getR L).1.chg.length = (getR L).1.own.length ∧ (getR L).1.inb.length = (getR L).1.own.length := by
  cases h : getP L with
  | none => rw [getR_no h]; exact ⟨by decide, rfl, rfl, rfl⟩
  | some p =>
    rw [getR_yes h]
    have hr := (getP_back hb h).1
    exact ⟨rgt_few hr, hr.2.1⟩
set_option maxRecDepth 100000 in
set_option maxHeartbeats 16000000 in
theorem law_get (A : Option Addr) (n c : Nat) (L : List Nat) (w : World) (hL : UAt w A L) (hn : L.length = n) (hm : n ≤ 9223372036854775807) :
    Calls Try.prog 4 #[.slice A n c] w fun e w' => e = .returned (.bool true) ∧ Hid (Below w.heap.size w w') := by
  have mixed := mixedI
  have HL := Lib.hid hL
  have HN := Lib.hid hn
  clear hL
  by_cases hle : n ≤ 1200
  · obtain ⟨K, hK⟩ : ∃ S, Fd.str L = S := ⟨_, rfl⟩
    obtain ⟨W1, c1, hcv, ha1, hb1⟩ := own_bytes w L HL.out.at_.small
    have hcs := Fd.conv_at w A L c HL.out.at_
    rw [hn, hK] at hcs
    rw [hn, hK] at hcv
    obtain ⟨g, hg⟩ : ∃ g, w.heap.size = g := ⟨_, rfl⟩
    have hb1' := hb1
    rw [hg] at hcv ha1 hb1'
    have HA1 := Lib.hid ha1
    have HB1 := Lib.hid hb1
    have HK := Lib.hid hK
    have HG1 := Lib.hid (pget_any (some ⟨g, 0, none⟩) n c1 L W1 ha1 hn (by omega))
    obtain ⟨gp, hgp⟩ : ∃ gp, (getR L).1 = gp := ⟨_, rfl⟩
    obtain ⟨E, hE⟩ : ∃ E, (getR L).2 = E := ⟨_, rfl⟩
    have hRR : getR L = (gp, E) := by rw [← hgp, ← hE]
    have hFW := getR_few L HL.out.at_.small
    rw [hgp] at hFW
    rw [hRR] at HG1
    obtain ⟨no, i0⟩ : ∃ no, gp.own.length = no := ⟨_, rfl⟩
    obtain ⟨nv, i1⟩ : ∃ no, gp.vals.length = no := ⟨_, rfl⟩
    obtain ⟨nc, i2⟩ : ∃ no, gp.chg.length = no := ⟨_, rfl⟩
    obtain ⟨ni, i3⟩ : ∃ no, gp.inb.length = no := ⟨_, rfl⟩
    obtain ⟨S, i4⟩ : ∃ no, gp.st = no := ⟨_, rfl⟩
    rw [i0, i1, i2, i3] at hFW
    have HFW := Lib.hid hFW
    have HII := Lib.hid (And.intro i0 (And.intro i1 (And.intro i2 (And.intro i3 i4))))
    have HRR := Lib.hid hRR
    clear hb1 hb1' ha1 hK hgp hE hRR hFW i0 i1 i2 i3 i4 hg hn
    go_enter Try.func4, Try.ntmps4
    go_wp2_with fail
    refine HG1.out.mono ?_
    rintro e w2 ⟨x, rfl, hx, hb2⟩
    have HQ : Hid (∃ Ao eo Av ev Ac ec Ai ei, x = .agg #[.int .i64 S, .slice Ao no eo, .slice Av nv ev, .slice Ac nc ec, .slice Ai ni ei] ∧ PAt w2 Ao Av Ac Ai no nv nc ni gp) := Lib.hid (by
      have h := POwn.at hx.out
      obtain ⟨i0, i1, i2, i3, i4⟩ := HII.out
      rw [i0, i1, i2, i3, i4] at h
      exact h)
    obtain ⟨Ao, eo, Av, ev, Ac, ec, Ai, ei, rfl, hq⟩ := HQ.out
    have HB2 := Lib.hid (step_below HB1.out HB1.out.size hb2.out)
    have hb3 := (Below.refl _ w2).alloc (Nat.le_refl _) (.cells #[.int .i64 S, .slice Ao no eo, .slice Av nv ev, .slice Ac nc ec, .slice Ai ni ei] 27)
    have hx3 := heap_alloc_new w2 (.cells #[.int .i64 S, .slice Ao no eo, .slice Av nv ev, .slice Ac nc ec, .slice Ai ni ei] 27)
    go_upto_region 5 with fail
    obtain ⟨W3, hW3⟩ : ∃ W, W = w2.alloc (.cells #[.int .i64 S, .slice Ao no eo, .slice Av nv ev, .slice Ac nc ec, .slice Ai ni ei] 27) := ⟨_, rfl⟩
    obtain ⟨b3, e3⟩ : ∃ b, b = w2.heap.size := ⟨_, rfl⟩
    rw [← hW3] at hb3 hx3
    rw [← e3] at hx3
    rw [← hW3, show w2.heap.size = b3 from e3.symm]
    have hb23 := step_below hb2.out hb2.out.size hb3
    have HB3 := Lib.hid (step_below HB2.out HB2.out.size hb3)
    have HX3 := Lib.hid hx3
    have HQ3 := Lib.hid (hq.below hb3)
    have HA3 := Lib.hid (HA1.out.below hb23)
    clear hW3 e3 hb3 hx3 hb23 hx hb2 hq HQ HG1 HA1 hcs hcv
    have HG2 := Lib.hid (rget_any A n c L W3 (HL.out.below HB3.out) HN.out (by omega))
    rw [HRR.out] at HG2
    go_wp2_with fail
    refine HG2.out.mono ?_
    rintro e w4 ⟨x, rfl, hx, hb4⟩
    have HQ : Hid (∃ Bo fo Bv fv Bc fc Bi fi, x = .agg #[.int .i64 S, .slice Bo no fo, .slice Bv nv fv, .slice Bc nc fc, .slice Bi ni fi] ∧ PAt w4 Bo Bv Bc Bi no nv nc ni gp) := Lib.hid (by
      have h := POwn.at hx.out
      obtain ⟨i0, i1, i2, i3, i4⟩ := HII.out
      rw [i0, i1, i2, i3, i4] at h
      exact h)
    obtain ⟨Bo, fo, Bv, fv, Bc, fc, Bi, fi, rfl, hq⟩ := HQ.out
    have HB4 := Lib.hid (step_below HB3.out HB3.out.size hb4.out)
    have hb5 := (Below.refl _ w4).alloc (Nat.le_refl _) (.cells #[.int .i64 S, .slice Bo no fo, .slice Bv nv fv, .slice Bc nc fc, .slice Bi ni fi] 35)
    have hx5 := heap_alloc_new w4 (.cells #[.int .i64 S, .slice Bo no fo, .slice Bv nv fv, .slice Bc nc fc, .slice Bi ni fi] 35)
    go_upto_region 6 with fail
    obtain ⟨W5, hW5⟩ : ∃ W, W = w4.alloc (.cells #[.int .i64 S, .slice Bo no fo, .slice Bv nv fv, .slice Bc nc fc, .slice Bi ni fi] 35) := ⟨_, rfl⟩
    obtain ⟨b5, e5⟩ : ∃ b, b = w4.heap.size := ⟨_, rfl⟩
    rw [← hW5] at hb5 hx5
    rw [← e5] at hx5
    rw [← hW5, show w4.heap.size = b5 from e5.symm]
    have hb45 := step_below hb4.out hb4.out.size hb5
    have HB5 := Lib.hid (step_below HB4.out HB4.out.size hb5)
    have cvA := conS (c := c1) (HA3.out.below hb45) HN.out.symm HK.out
    have cvB := conS (c := c) (HL.out.below HB5.out).at_ HN.out.symm HK.out
    have HQA := Lib.hid (HQ3.out.below hb45)
    have HQB := Lib.hid (hq.below hb5)
    have HX5 := Lib.hid (keep HX3.out hb45)
    obtain ⟨c0, c1', c2, c3, c4, _⟩ := five HX5.out
    obtain ⟨d0, d1, d2, d3, d4, _⟩ := five hx5
    clear hW5 e5 hb5 hx5 hb45 hx hb4 hq HQ HG2 HX3 HQ3 HA3
    have HC1 := Lib.hid (regS (w := W5) fun W _ => plain_any S Ao Av Ac Ai no nv nc ni eo ev ec ei W)
    have HC2 := Lib.hid (regS (w := W5) fun W hW => (show Calls Try.prog 18 #[.agg #[.int .i64 S, .slice Ao no eo, .slice Av nv ev, .slice Ac nc ec, .slice Ai ni ei], .agg #[.int .i64 S, .slice Bo no fo, .slice Bv nv fv, .slice Bc nc fc, .slice Bi ni fi]] W fun e w' => e = .returned (.bool true) ∧ Hid (Below W.heap.size W w') from by
      obtain ⟨k0, k1, k2, k3⟩ := HFW.out
      have := rpsame_any gp gp S S HII.out.2.2.2.2 HII.out.2.2.2.2 Ao Av Ac Ai Bo Bv Bc Bi no nv nc ni eo ev ec ei no nv nc ni fo fv fc fi W (HQA.out.below hW) (HQB.out.below hW) (by omega) (by omega) (by omega) (by omega) (by omega) (by omega) (by omega) (by omega)
      rw [decide_eq_true (show sameP gp gp from (sameP_iff _ _).2 rfl)] at this
      exact this))
    have HC4 := Lib.hid (regS (w := W5) fun W _ => works_any W)
    have z0 := cell_regrown c0; have z1 := cell_regrown c1'; have z2 := cell_regrown c2; have z3 := cell_regrown c3; have z4 := cell_regrown c4
    have y0 := cell_regrown d0; have y1 := cell_regrown d1; have y2 := cell_regrown d2; have y3 := cell_regrown d3; have y4 := cell_regrown d4
    clear c0 c1' c2 c3 c4 d0 d1 d2 d3 d4
    refine wp_region_quiet_below mixed (by kernel_rfl) ?_
    repeat (go_big_quiet_step ((with_reducible first | exact HC1.out _ _ | exact HC2.out _ _ | exact HC4.out _ _)))
    refine wpQuiet_nil ?_
    intro _ hw'
    obtain ⟨⟨dq, osq⟩, hw''⟩ := hw'
    subst hw''
    have HB6 := Lib.hid (step_below HB5.out HB5.out.size (below_regrown W5 dq osq))
    clear z0 z1 z2 z3 z4 y0 y1 y2 y3 y4 HC1 HC2 HC4 cvA cvB
    go_wp2
    go_ret
    exact ⟨rfl, HB6⟩
  · go_enter Try.func4, Try.ntmps4
    go_wp2_with fail
    refine (works_any _).mono ?_
    rintro e wz ⟨rfl, hbz⟩
    clear HL HN
    go_wp2_with fail
    go_ret
    exact ⟨rfl, hbz⟩
end Go.Proofs.Ytfbfckdabbaocaa.St
