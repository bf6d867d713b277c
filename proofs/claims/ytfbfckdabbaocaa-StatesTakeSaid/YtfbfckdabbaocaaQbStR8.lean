/-
  What is proved here: a contract of the document's Take: a worker's part of a state, or an error. Condition: lengths fit an int.
-/
import Derived.Test.YtfbfckdabbaocaaQbStR7
import Derived.Test.YtfbfckdabbaocaaQbSqErx
import Derived.Test.YtfbfckdabbaocaaQbPtW2x
namespace Go.Proofs.Ytfbfckdabbaocaa.St
open Go.RowKit Gr Wd Ws Fx Rk Lb Al In
open Pt (vs vs_len vs_succ ow ow_succ ow_len isW ofI rof_any)
open Sq (BAt BOwn QOwn bls app_q app_b)
theorem takeN_snoc (s : Stt) (L : List Int) (v : Int) : takeN s (L ++ [v]) = ⟨s.st, (takeN s L).own ++ [v], (takeN s L).vals ++ [nu s.vals v.toNat], (takeN s L).chg ++ [bo s.chg v.toNat], (takeN s L).inb ++ [mi s.inb v.toNat]⟩ := by
  unfold takeN; simp
def RtRel (w W5 : World) (b9 B : Nat) (s : Stt) (k x : Int) (nv : Nat) (g : Nat) (i : Value) (wr : World) : Prop :=
  ∃ (j : Nat) (vo vv vc vi : Value), j + g = nv ∧ i = .int .i64 (j : Int) ∧ Hid (Bx4 35 w.heap.size 0 W5 wr b9 B #[.int .i64 s.st, vo, vv, vc, vi] vo vv vc vi (takeN s (ow k x j)))
set_option maxRecDepth 100000 in
set_option maxHeartbeats 16000000 in
theorem rtake_any (s : Stt) (Av Ac Ai : Option Addr) (nv nc ni cv cc ci : Nat) (z1 z2 k x : Int) (w : World) (h : TAt w Av Ac Ai nv nc ni s) (hv : nv ≤ 9223372036854775807) (hc : nc ≤ 9223372036854775807) (hi : ni ≤ 9223372036854775807) :
    Calls Try.prog 22 #[.agg #[.int .i64 s.st, .slice Av nv cv, .slice Ac nc cc, .slice Ai ni ci, .int .i64 z1, .int .i64 z2], .int .i64 k, .int .i64 x] w fun e w' => ResP w w' e (rtakeR s k x) := by
  have mixed := mixedI
  have hal := al2 w (.cells #[.int .i64 s.st, .slice Av nv cv, .slice Ac nc cc, .slice Ai ni ci, .int .i64 z1, .int .i64 z2] 48) (.cells #[.int .i64 0, .slice none 0 0, .slice none 0 0, .slice none 0 0, .slice none 0 0] 35)
  obtain ⟨W1, hW1⟩ : ∃ W1, W1 = (w.alloc (.cells #[.int .i64 s.st, .slice Av nv cv, .slice Ac nc cc, .slice Ai ni ci, .int .i64 z1, .int .i64 z2] 48)).alloc (.cells #[.int .i64 0, .slice none 0 0, .slice none 0 0, .slice none 0 0, .slice none 0 0] 35) := ⟨_, rfl⟩
  rw [← hW1] at hal
  obtain ⟨b0, e0⟩ : ∃ b0, b0 = w.heap.size := ⟨_, rfl⟩
  obtain ⟨b1, e1⟩ : ∃ b1, b1 = w.heap.size + 1 := ⟨_, rfl⟩
  obtain ⟨y0, y1, hb1⟩ := hal
  rw [← e0] at y0; rw [← e1] at y1
  have HL : Hid (w.heap.size ≤ b0 ∧ w.heap.size ≤ b1 ∧ b0 ≠ b1) := Lib.hid ⟨by omega, by omega, by omega⟩
  have HB1 := Lib.hid hb1
  have HS := Lib.hid y0
  have HZ := Lib.hid y1
  have HT := Lib.hid h
  have HE : ∀ (r : Int) (W : World), Hid (Below W1.heap.size W1 W) → Hid ((put5 W b1 (.int .i64 0) (.slice none 0 0) (.slice none 0 0) (.slice none 0 0) (.slice none 0 0)).heap[b1]? = some (.cells #[.int .i64 0, .slice none 0 0, .slice none 0 0, .slice none 0 0, .slice none 0 0] 35 (0, 0)) ∧ Below w.heap.size w (put5 W b1 (.int .i64 0) (.slice none 0 0) (.slice none 0 0) (.slice none 0 0) (.slice none 0 0))) := fun _ W hW => Lib.hid
    ⟨put5_heap (keep HZ.out hW.out) _ _ _ _ _, put5_below (step_below HB1.out HB1.out.size hW.out) HL.out.2.1 _ _ _ _ _⟩
  have HE1 := HE 0 W1 (Lib.hid (Below.refl _ _))
  have HEH := Lib.hid HE
  obtain ⟨s0, s1, s2, s3, s4, s5, _⟩ := Sq.six y0
  obtain ⟨p0, p1, p2, p3, p4, _⟩ := five y1
  have fz0 := Lib.frozen_of_heap y1 0
  have fz1 := Lib.frozen_of_heap y1 1
  have fz2 := Lib.frozen_of_heap y1 2
  have fz3 := Lib.frozen_of_heap y1 3
  have fz4 := Lib.frozen_of_heap y1 4
  clear y0 y1 hb1 h HE
  by_cases hk : 1 ≤ k ∧ k ≤ 64 ∧ 0 ≤ x ∧ x < k
  · obtain ⟨k1, k2, k3, k4⟩ := hk
    have HR : Hid (rtakeR s k x = if MayP s then (takeP s k x, 0) else (noneP, 4)) := Lib.hid (by unfold rtakeR; rw [if_pos ⟨k1, k2, k3, k4⟩])
    have HSW : Hid (∀ W, Below W1.heap.size W1 W → (W.cell? ⟨b0, 0, none⟩ = some (.int .i64 s.st) ∧ W.cell? ⟨b0, 1, none⟩ = some (.slice Av nv cv) ∧ W.cell? ⟨b0, 2, none⟩ = some (.slice Ac nc cc) ∧ W.cell? ⟨b0, 3, none⟩ = some (.slice Ai ni ci))) := Lib.hid (by
      intro W hb
      obtain ⟨j0, j1, j2, j3, _, _, _⟩ := Sq.six (keep HS.out hb)
      exact ⟨j0, j1, j2, j3⟩)
    go_enter Try.func22, Try.ntmps22
    go_upto_region 1 with fail
    rw [← hW1, show w.heap.size + 1 = b1 from e1.symm, show w.heap.size = b0 from e0.symm]
    clear hW1 e0 e1
    go_upto_region 3 with fail
    have HWh := Lib.hid (rwhole_any s.st Av Ac Ai nv nc ni cv cc ci z1 z2 W1 hv)
    by_cases hnv : nv = 0
    · have q0 : ((nv : Int) == 0) = true := by simp [hnv]
      have HM : Hid (rtakeR s k x = (noneP, 4)) := Lib.hid (by rw [HR.out, if_neg (fun h => by have := h.1; rw [HT.out.nv] at this; omega)])
      have HF := HEH.out 0 W1 (Lib.hid (Below.refl _ _))
      clear hnv p0 p1 p2 p3 p4 fz0 fz1 fz2 fz3 fz4 HWh
      obtain ⟨p0, p1, p2, p3, p4, _⟩ := five HZ.out
      have fz0 := Lib.frozen_of_heap HZ.out 0
      have fz1 := Lib.frozen_of_heap HZ.out 1
      have fz2 := Lib.frozen_of_heap HZ.out 2
      have fz3 := Lib.frozen_of_heap HZ.out 3
      have fz4 := Lib.frozen_of_heap HZ.out 4
      go_wp2_with fail
      refine bodyPost_ret (v := .tuple #[.agg #[.int .i64 0, .slice none 0 0, .slice none 0 0, .slice none 0 0, .slice none 0 0], .int .i64 4]) (res2_r _ 6 7 _ _ b1 _ _ _ _ _ _ rfl rfl rfl HF.out.1) rfl ?_
      rw [HM.out]
      exact ⟨_, rfl, Lib.hid (POwn.zero _ _), Lib.hid HF.out.2⟩
    · have q0 : ((nv : Int) == 0) = false := by simp [hnv]
      clear p0 p1 p2 p3 p4 fz0 fz1 fz2 fz3 fz4
      go_wp2_with fail
      refine HWh.out.mono ?_
      rintro e w3 ⟨A, c, rfl, hat, hb3⟩
      have HB3 : Hid (Below W1.heap.size W1 w3) := hb3
      have HT3 := Lib.hid (HT.out.below (HB1.out.trans (hb3.out.mono HB1.out.size)))
      have HZ3 := Lib.hid (keep HZ.out hb3.out)
      have HS3 := Lib.hid (keep HS.out hb3.out)
      obtain ⟨n, hn⟩ : ∃ n, min nv 600 = n := ⟨_, rfl⟩
      rw [hn] at hat
      rw [hn]
      have hpw : PAt w3 A Av Ac Ai n nv nc ni (wholeC 600 s) := by
        refine ⟨?_, HT3.out.v, HT3.out.c, HT3.out.i, ?_, HT.out.nv, HT.out.nc, HT.out.ni⟩
        · show IAt w3 A (vs (min s.vals.length 600))
          rw [HT.out.nv, hn]; exact hat.out
        · show (vs (min s.vals.length 600)).length = n
          rw [vs_len, HT.out.nv, hn]
      have HRt : Hid (Calls Try.prog 15 #[.agg #[.int .i64 s.st, .slice A n c, .slice Av nv cv, .slice Ac nc cc, .slice Ai ni ci]] w3 fun e w' => e = .returned (.bool (decide (Rgt (wholeP s)))) ∧ Hid (Below w3.heap.size w3 w')) := Lib.hid (by
        have h1 := rright_any (wholeC 600 s) A Av Ac Ai n nv nc ni c cv cc ci w3 hpw (by omega) hv hc hi
        rw [show decide (Rgt (wholeC 600 s)) = decide (Rgt (wholeP s)) from decide_eq_decide.2 (wholeC_iff (by omega) s)] at h1
        exact h1)
      obtain ⟨r, hr⟩ : ∃ r, decide (Rgt (wholeP s)) = r := ⟨_, rfl⟩
      rw [hr] at HRt
      have HRr := Lib.hid hr
      clear hpw hr hat hb3 hn s0 s1 s2 s3 s4 s5 HWh HSW
      go_wp2_with fail
      refine HRt.out.mono ?_
      rintro e w4 ⟨rfl, hb4⟩
      have HB4 : Hid (Below W1.heap.size W1 w4) := Lib.hid (step_below HB3.out HB3.out.size hb4.out)
      have HS4 := Lib.hid (keep HS3.out hb4.out)
      have HZ4 := Lib.hid (keep HZ3.out hb4.out)
      clear hb4 HRt HS3 HZ3 HT3
      cases r with
      | false =>
        have HM : Hid (rtakeR s k x = (noneP, 4)) := Lib.hid (by rw [HR.out, if_neg (fun h => of_decide_eq_false HRr.out h.2)])
        have HF := HEH.out 0 w4 HB4
        obtain ⟨p0, p1, p2, p3, p4, _⟩ := five HZ4.out
        have fz0 := Lib.frozen_of_heap HZ4.out 0
        have fz1 := Lib.frozen_of_heap HZ4.out 1
        have fz2 := Lib.frozen_of_heap HZ4.out 2
        have fz3 := Lib.frozen_of_heap HZ4.out 3
        have fz4 := Lib.frozen_of_heap HZ4.out 4
        go_wp2_with fail
        refine bodyPost_ret (v := .tuple #[.agg #[.int .i64 0, .slice none 0 0, .slice none 0 0, .slice none 0 0, .slice none 0 0], .int .i64 4]) (res2_r _ 6 7 _ _ b1 _ _ _ _ _ _ rfl rfl rfl HF.out.1) rfl ?_
        rw [HM.out]
        exact ⟨_, rfl, Lib.hid (POwn.zero _ _), Lib.hid HF.out.2⟩
      | true =>
        have hmay : MayP s := ⟨by rw [HT.out.nv]; omega, of_decide_eq_true HRr.out⟩
        have HM : Hid (rtakeR s k x = (takeP s k x, 0)) := Lib.hid (by rw [HR.out, if_pos hmay])
        have HMay := Lib.hid hmay
        clear hmay
        obtain ⟨s0, s1, s2, s3, s4, s5, _⟩ := Sq.six HS4.out
        go_upto_region 6 with fail
        have hx5 := heap_alloc_new w4 (.cells #[.int .i64 s.st, .slice none 0 0, .slice none 0 0, .slice none 0 0, .slice none 0 0] 35)
        have HB5 : Hid (Below W1.heap.size W1 (w4.alloc (.cells #[.int .i64 s.st, .slice none 0 0, .slice none 0 0, .slice none 0 0, .slice none 0 0] 35))) := Lib.hid (HB4.out.alloc HB4.out.size _)
        have hs5 : (w4.alloc (.cells #[.int .i64 s.st, .slice none 0 0, .slice none 0 0, .slice none 0 0, .slice none 0 0] 35)).heap.size = w4.heap.size + 1 := by simp
        obtain ⟨W5, hW5⟩ : ∃ W5, W5 = w4.alloc (.cells #[.int .i64 s.st, .slice none 0 0, .slice none 0 0, .slice none 0 0, .slice none 0 0] 35) := ⟨_, rfl⟩
        obtain ⟨b9, h9⟩ : ∃ b9, b9 = w4.heap.size := ⟨_, rfl⟩
        rw [← hW5] at hx5 HB5 hs5
        rw [← h9] at hx5 hs5
        have HG9 : Hid (w.heap.size ≤ b9 ∧ b0 < b9 ∧ b1 < b9) := Lib.hid (by
          have g0 := lt_of_block HS4.out
          have g1 := lt_of_block HZ4.out
          have := HB1.out.size
          have := HB4.out.size
          rw [h9]; exact ⟨by omega, g0, g1⟩)
        obtain ⟨B, hB⟩ : ∃ B, W5.heap.size = B := ⟨_, rfl⟩
        have HBB : Hid (b9 < B ∧ w.heap.size ≤ B ∧ W5.heap.size = B) := Lib.hid (by have := HG9.out; exact ⟨by omega, by omega, hB⟩)
        have HX5 : Hid (Bx4 35 w.heap.size 0 W5 W5 b9 B #[.int .i64 s.st, .slice none 0 0, .slice none 0 0, .slice none 0 0, .slice none 0 0] (.slice none 0 0) (.slice none 0 0) (.slice none 0 0) (.slice none 0 0) (takeN s (ow k x 0))) := Lib.hid ⟨hx5, ⟨IOwn.none_ _ _, QOwn.none_ _ _, BOwn.none_ _ _, KOwn.none_ _ _⟩, Below.refl _ _, ⟨HG9.out.1, HBB.out.2.1, by rw [hB]; exact HBB.out.2.1, by omega, rfl⟩, fun _ _ _ => rfl⟩
        rw [← hW5, show w4.heap.size = b9 from h9.symm]
        clear hW5 h9 hx5 hs5 hB s0 s1 s2 s3 s4 s5
        have HS5 := Lib.hid (keep HS.out HB5.out)
        have HZ5 := Lib.hid (keep HZ.out HB5.out)
        have HTw := Lib.hid (HB1.out.trans (HB5.out.mono HB1.out.size))
        have hf512 : nv ≤ 512 := by have := (may_few HMay.out).1; rw [HT.out.nv] at this; exact this
        go_wp2_with fail
        go_loopg [9] nv (fun g i wr => RtRel w W5 b9 B s k x nv g i wr)
        case atStart => exact ⟨0, _, _, _, _, by omega, rfl, HX5⟩
        case round =>
          obtain ⟨m, vo, vv, vc, vi, hj, rfl, HH⟩ := hrel
          clear HX5
          have HSr := Lib.hid ((HH.out.kept b0 (by have := HG9.out; have := HBB.out; omega) (by have := HG9.out; omega)).trans HS5.out)
          have HZr := Lib.hid ((HH.out.kept b1 (by have := HG9.out; have := HBB.out; omega) (by have := HG9.out; omega)).trans HZ5.out)
          obtain ⟨s0, s1, s2, s3, s4, s5, _⟩ := Sq.six HSr.out
          by_cases hlt : m < nv
          · go_wp2_with fail
            refine (rof_any _ _ _).mono ?_
            rintro e wq ⟨rfl, rfl⟩
            obtain ⟨oo, hoo⟩ : ∃ oo, ofI (m : Int) k = oo := ⟨_, rfl⟩
            rw [hoo]
            by_cases hox : oo = x
            · subst hox
              have hiw : isW k oo (m : Int) = true := by simp [isW, hoo]; omega
              have hmn : m < nv := hlt
              have hlen := (may_few HMay.out).2
              have hTr := HT.out.below (HTw.out.trans HH.out.below)
              obtain ⟨xv, hxv⟩ := at_lt s.vals m (by rw [HT.out.nv]; exact hmn)
              obtain ⟨xc, hxc⟩ := at_lt s.chg m (by rw [hlen.1, HT.out.nv]; exact hmn)
              obtain ⟨⟨mh, my⟩, hxm⟩ := at_lt s.inb m (by rw [hlen.2, HT.out.nv]; exact hmn)
              have hmc : m < nc := by have := HT.out.nc; have := HT.out.nv; omega
              have hmi : m < ni := by have := HT.out.ni; have := HT.out.nv; omega
              obtain ⟨bv, ov, rfl, d0⟩ := hTr.v m _ hxv
              obtain ⟨bc, oc, rfl, d1⟩ := hTr.c m _ hxc
              obtain ⟨bi, oi, rfl, d2, d3⟩ := hTr.i m _ hxm
              have HNX : Hid (takeN s (ow k oo (m + 1)) = ⟨s.st, (takeN s (ow k oo m)).own ++ [(m : Int)], (takeN s (ow k oo m)).vals ++ [xv], (takeN s (ow k oo m)).chg ++ [xc], (takeN s (ow k oo m)).inb ++ [(mh, my)]⟩) := Lib.hid (by
                rw [ow_succ, hiw, if_pos rfl, takeN_snoc, Int.toNat_natCast, nu_of hxv, bo_of hxc, mi_of hxm])
              have HLj : Hid ((ow k oo m).length < 1000000000) := Lib.hid (by have := ow_len k oo m; omega)
              have HSB : Hid (∀ W, Below w.heap.size W5 W → (∀ k, k < B → k ≠ b9 → W.heap[k]? = W5.heap[k]?) → (W.cell? ⟨b0, 1, none⟩ = some (.slice (some ⟨bv, ov, none⟩) nv cv) ∧ W.cell? ⟨b0, 2, none⟩ = some (.slice (some ⟨bc, oc, none⟩) nc cc) ∧ W.cell? ⟨b0, 3, none⟩ = some (.slice (some ⟨bi, oi, none⟩) ni ci) ∧ W.cell? ⟨bv, ov + m, none⟩ = some (.int .i64 xv) ∧ W.cell? ⟨bc, oc + m, none⟩ = some (.bool xc) ∧ W.cell? ⟨bi, oi + m * 2, none⟩ = some (.bool mh) ∧ W.cell? ⟨bi, oi + m * 2 + 1, none⟩ = some (.int .i64 my))) := Lib.hid (by
                intro W hb hk
                obtain ⟨_, t1, t2, t3, _, _, _⟩ := Sq.six ((hk b0 (by have := HG9.out; have := HBB.out; omega) (by have := HG9.out; omega)).trans HS5.out)
                have hTW := HT.out.below (HTw.out.trans hb)
                obtain ⟨_, _, e0, f0⟩ := hTW.v m _ hxv
                obtain ⟨_, _, e1, f1⟩ := hTW.c m _ hxc
                obtain ⟨_, _, e2, f2, f3⟩ := hTW.i m _ hxm
                cases e0; cases e1; cases e2
                exact ⟨t1, t2, t3, f0, f1, f2, f3⟩)
              clear hxv hxc hxm hlen hTr hoo d0 d1 d2 d3 hiw
              obtain ⟨c0, c1, c2, c3, c4, _⟩ := five HH.out.box
              have HA := Lib.hid (HH.out.alloc (.cells #[.int .i64 (m : Int)] 3))
              have HN := Lib.hid (heap_alloc_new wr (.cells #[.int .i64 (m : Int)] 3))
              go_wp2_with (at_builtin; refine app_i rfl (.tmp 53) (.tmp 55) rfl B _ _ (m : Int) rfl HA.out.rows.1 _ rfl HN.out HLj.out HA.out.lo.2.2.2.1 ?_)
              intro vo' w2 ho2 hg2
              have hx2 := HA.out.appI offR ho2 hg2
              obtain ⟨F0, N0, f0, rfl⟩ := row_sl ho2
              have HXt := Lib.hid hx2
              clear ho2 hg2 hx2 HA HN c0 c1 c2 c3 c4 s0 s1 s2 s3 s4 s5
              obtain ⟨c0, c1, c2, c3, c4, _⟩ := five HXt.out.box
              have fz : w2.frozen? ⟨b9, 1, none⟩ = false := Lib.frozen_of_heap HXt.out.box _
              obtain ⟨w3', hw3⟩ : ∃ W, W = w2.setCell ⟨b9, 1, none⟩ (.slice F0 N0 f0) := ⟨_, rfl⟩
              have HX2 := Lib.hid (HXt.out.put offR 1 (.slice F0 N0 f0))
              rw [← hw3] at HX2
              go_upto_region 11 with fail
              rw [← hw3]
              clear hw3 HXt fz c0 c1 c2 c3 c4
              have hbd : Below w3'.heap.size w3' w3'.drew := (Below.refl _ w3').drew
              have HXd := Lib.hid (HX2.out.step hbd)
              have HA := Lib.hid (HXd.out.alloc (.cells #[.int .i64 xv] 2))
              have HN := Lib.hid (heap_alloc_new w3'.drew (.cells #[.int .i64 xv] 2))
              obtain ⟨_, _, x2, x3, x4, _⟩ := five HXd.out.box
              have HSC : Hid (∀ W : World, W.heap[b9]? = w3'.drew.heap[b9]? → W.cell? ⟨b9, 2, none⟩ = some vv) := Lib.hid (by
                intro W hb
                obtain ⟨_, _, y2, y3, y4, _⟩ := five (hb.trans HXd.out.box)
                exact y2)
              have hS : (fun W : World => W.cell? ⟨b9, 2, none⟩ = some vv ∧ W.cell? ⟨b0, 1, none⟩ = some (.slice (some ⟨bv, ov, none⟩) nv cv) ∧ W.cell? ⟨b0, 2, none⟩ = some (.slice (some ⟨bc, oc, none⟩) nc cc) ∧ W.cell? ⟨b0, 3, none⟩ = some (.slice (some ⟨bi, oi, none⟩) ni ci) ∧ W.cell? ⟨bv, ov + m, none⟩ = some (.int .i64 xv) ∧ W.cell? ⟨bc, oc + m, none⟩ = some (.bool xc) ∧ W.cell? ⟨bi, oi + m * 2, none⟩ = some (.bool mh) ∧ W.cell? ⟨bi, oi + m * 2 + 1, none⟩ = some (.int .i64 my)) w3'.drew := ⟨x2, HSB.out _ HXd.out.below HXd.out.kept⟩
              have HS9 : Hid ((fun W : World => W.cell? ⟨b9, 2, none⟩ = some vv ∧ W.cell? ⟨b0, 1, none⟩ = some (.slice (some ⟨bv, ov, none⟩) nv cv) ∧ W.cell? ⟨b0, 2, none⟩ = some (.slice (some ⟨bc, oc, none⟩) nc cc) ∧ W.cell? ⟨b0, 3, none⟩ = some (.slice (some ⟨bi, oi, none⟩) ni ci) ∧ W.cell? ⟨bv, ov + m, none⟩ = some (.int .i64 xv) ∧ W.cell? ⟨bc, oc + m, none⟩ = some (.bool xc) ∧ W.cell? ⟨bi, oi + m * 2, none⟩ = some (.bool mh) ∧ W.cell? ⟨bi, oi + m * 2 + 1, none⟩ = some (.int .i64 my)) (w3'.drew.alloc (.cells #[.int .i64 xv] 2))) := Lib.hid ⟨HSC.out _ (HA.out.box.trans HXd.out.box.symm), HSB.out _ HA.out.below HA.out.kept⟩
              refine Tl.headX_region (S := (fun W : World => W.cell? ⟨b9, 2, none⟩ = some vv ∧ W.cell? ⟨b0, 1, none⟩ = some (.slice (some ⟨bv, ov, none⟩) nv cv) ∧ W.cell? ⟨b0, 2, none⟩ = some (.slice (some ⟨bc, oc, none⟩) nc cc) ∧ W.cell? ⟨b0, 3, none⟩ = some (.slice (some ⟨bi, oi, none⟩) ni ci) ∧ W.cell? ⟨bv, ov + m, none⟩ = some (.int .i64 xv) ∧ W.cell? ⟨bc, oc + m, none⟩ = some (.bool xc) ∧ W.cell? ⟨bi, oi + m * 2, none⟩ = some (.bool mh) ∧ W.cell? ⟨bi, oi + m * 2 + 1, none⟩ = some (.int .i64 my))) 9 mixed (by decide) ?_
              try dsimp only
              clear x2 x3 x4 hbd
              refine Tl.headX_tk 0 ?v0_1 rfl (by kernel_rfl) (by decide) (by kernel_rfl) (by kernel_rfl) (by kernel_rfl) (fun _ _ _ h => h) (by rfl) (fun W hSw => ?hy0_1) hS ?_
              case hy0_1 => ((try dsimp only at hSw); go_simp; try with_reducible rfl)
              simp only [Act.put, List.setIfInBounds_toArray, List.set_cons_zero, List.set_cons_succ]
              refine Tl.headX_tk 1 ?v1_2 rfl (by kernel_rfl) (by decide) (by kernel_rfl) (by kernel_rfl) (by kernel_rfl) (fun _ _ _ h => h) (by rfl) (fun W hSw => ?hy1_2) hS ?_
              case hy1_2 => ((try dsimp only at hSw); go_simp; try with_reducible rfl)
              simp only [Act.put, List.setIfInBounds_toArray, List.set_cons_zero, List.set_cons_succ]
              refine Tl.headX_tk 2 ?v2_3 rfl (by kernel_rfl) (by decide) (by kernel_rfl) (by kernel_rfl) (by kernel_rfl) (fun _ _ _ h => h) (by rfl) (fun W hSw => ?hy2_3) hS ?_
              case hy2_3 => ((try dsimp only at hSw); go_simp; try with_reducible rfl)
              simp only [Act.put, List.setIfInBounds_toArray, List.set_cons_zero, List.set_cons_succ]
              refine Tl.headX_tk 3 ?v3_4 rfl (by kernel_rfl) (by decide) (by kernel_rfl) (by kernel_rfl) (by kernel_rfl) (fun _ _ _ h => h) (by rfl) (fun W hSw => ?hy3_4) hS ?_
              case hy3_4 => ((try dsimp only at hSw); go_simp; try with_reducible rfl)
              simp only [Act.put, List.setIfInBounds_toArray, List.set_cons_zero, List.set_cons_succ]
              refine Tl.headX_tk 4 ?v4_5 rfl (by kernel_rfl) (by decide) (by kernel_rfl) (by kernel_rfl) (by kernel_rfl) (fun _ _ _ h => h) (by rfl) (fun W hSw => ?hy4_5) hS ?_
              case hy4_5 => ((try dsimp only at hSw); go_simp; try with_reducible rfl)
              simp only [Act.put, List.setIfInBounds_toArray, List.set_cons_zero, List.set_cons_succ]
              refine Tl.headX_tk 5 ?v5_6 rfl (by kernel_rfl) (by decide) (by kernel_rfl) (by kernel_rfl) (by kernel_rfl) (fun _ _ _ h => h) (by rfl) (fun W hSw => ?hy5_6) hS ?_
              case hy5_6 => ((try dsimp only at hSw); go_simp; try with_reducible rfl)
              simp only [Act.put, List.setIfInBounds_toArray, List.set_cons_zero, List.set_cons_succ]
              refine Tl.headX_tk 6 ?v6_7 rfl (by kernel_rfl) (by decide) (by kernel_rfl) (by kernel_rfl) (by kernel_rfl) (fun _ _ _ h => h) (by rfl) (fun W hSw => ?hy6_7) hS ?_
              case hy6_7 => ((try dsimp only at hSw); go_simp; try with_reducible rfl)
              simp only [Act.put, List.setIfInBounds_toArray, List.set_cons_zero, List.set_cons_succ]
              refine Tl.headX_vl 7 ?v7_22 ?w7_22 rfl (by decide) (by kernel_rfl) (by rfl) ?hy7_22 ?hs7_22 ?_
              case hy7_22 => (go_simp; first | (constructor <;> with_reducible rfl) | with_reducible rfl)
              case hs7_22 => exact HS9.out
              simp only [Act.put, List.setIfInBounds_toArray, List.set_cons_zero, List.set_cons_succ]
              refine Tl.headX_one (i := 8) (by rfl) (by decide) (by kernel_rfl) (by rfl) fun K hK => ?_
              refine xapp_q (.tmp 59) (.tmp 65) rfl B _ _ xv rfl HA.out.rows.2.1 _ rfl HN.out (by show (List.map _ (ow k oo m)).length < _; rw [List.length_map]; exact HLj.out) HA.out.lo.2.2.2.1 ?_
              intro vq w9 ho9 hg9
              have hx9 := HA.out.appQ offR ho9 hg9
              obtain ⟨F1, N1, f1, rfl⟩ : ∃ F N f, vq = .slice F N f := by
                obtain ⟨F, f, e, _⟩ := Sq.QOwn.form ho9
                exact ⟨F, _, f, e⟩
              have HX9 := Lib.hid hx9
              clear hS
              have hS : (fun W : World => W.cell? ⟨b9, 2, none⟩ = some vv ∧ W.cell? ⟨b0, 1, none⟩ = some (.slice (some ⟨bv, ov, none⟩) nv cv) ∧ W.cell? ⟨b0, 2, none⟩ = some (.slice (some ⟨bc, oc, none⟩) nc cc) ∧ W.cell? ⟨b0, 3, none⟩ = some (.slice (some ⟨bi, oi, none⟩) ni ci) ∧ W.cell? ⟨bv, ov + m, none⟩ = some (.int .i64 xv) ∧ W.cell? ⟨bc, oc + m, none⟩ = some (.bool xc) ∧ W.cell? ⟨bi, oi + m * 2, none⟩ = some (.bool mh) ∧ W.cell? ⟨bi, oi + m * 2 + 1, none⟩ = some (.int .i64 my)) w9 := ⟨HSC.out _ (hx9.box.trans HXd.out.box.symm), HSB.out _ hx9.below hx9.kept⟩
              refine hK (Act.put _ (some 66) _) _ hS ?_
              simp only [Act.put, List.setIfInBounds_toArray, List.set_cons_zero, List.set_cons_succ]
              refine Tl.headX_rest (by kernel_rfl) ?_
              simp only [List.drop_succ_cons, List.drop_zero]
              clear ho9 hg9 hx9 hS HA HN HS9 HSC HXd HX2
              obtain ⟨c0, c1, c2, c3, c4, _⟩ := five HX9.out.box
              have fz : w9.frozen? ⟨b9, 2, none⟩ = false := Lib.frozen_of_heap HX9.out.box _
              have HX3 := Lib.hid (HX9.out.put offR 2 (.slice F1 N1 f1))
              obtain ⟨w30, hw3⟩ : ∃ W, W = w9.setCell ⟨b9, 2, none⟩ (.slice F1 N1 f1) := ⟨_, rfl⟩
              rw [← hw3] at HX3
              go_upto_region 12 with fail
              rw [← hw3]
              clear hw3 HX9 fz c0 c1 c2 c3 c4
              have hbd : Below w30.heap.size w30 w30.drew := (Below.refl _ w30).drew
              have HXd := Lib.hid (HX3.out.step hbd)
              have HA := Lib.hid (HXd.out.alloc (.cells #[.bool xc] 4))
              have HN := Lib.hid (heap_alloc_new w30.drew (.cells #[.bool xc] 4))
              obtain ⟨_, _, x2, x3, x4, _⟩ := five HXd.out.box
              have HSC : Hid (∀ W : World, W.heap[b9]? = w30.drew.heap[b9]? → W.cell? ⟨b9, 3, none⟩ = some vc) := Lib.hid (by
                intro W hb
                obtain ⟨_, _, y2, y3, y4, _⟩ := five (hb.trans HXd.out.box)
                exact y3)
              have hS : (fun W : World => W.cell? ⟨b9, 3, none⟩ = some vc ∧ W.cell? ⟨b0, 1, none⟩ = some (.slice (some ⟨bv, ov, none⟩) nv cv) ∧ W.cell? ⟨b0, 2, none⟩ = some (.slice (some ⟨bc, oc, none⟩) nc cc) ∧ W.cell? ⟨b0, 3, none⟩ = some (.slice (some ⟨bi, oi, none⟩) ni ci) ∧ W.cell? ⟨bv, ov + m, none⟩ = some (.int .i64 xv) ∧ W.cell? ⟨bc, oc + m, none⟩ = some (.bool xc) ∧ W.cell? ⟨bi, oi + m * 2, none⟩ = some (.bool mh) ∧ W.cell? ⟨bi, oi + m * 2 + 1, none⟩ = some (.int .i64 my)) w30.drew := ⟨x3, HSB.out _ HXd.out.below HXd.out.kept⟩
              have HS9 : Hid ((fun W : World => W.cell? ⟨b9, 3, none⟩ = some vc ∧ W.cell? ⟨b0, 1, none⟩ = some (.slice (some ⟨bv, ov, none⟩) nv cv) ∧ W.cell? ⟨b0, 2, none⟩ = some (.slice (some ⟨bc, oc, none⟩) nc cc) ∧ W.cell? ⟨b0, 3, none⟩ = some (.slice (some ⟨bi, oi, none⟩) ni ci) ∧ W.cell? ⟨bv, ov + m, none⟩ = some (.int .i64 xv) ∧ W.cell? ⟨bc, oc + m, none⟩ = some (.bool xc) ∧ W.cell? ⟨bi, oi + m * 2, none⟩ = some (.bool mh) ∧ W.cell? ⟨bi, oi + m * 2 + 1, none⟩ = some (.int .i64 my)) (w30.drew.alloc (.cells #[.bool xc] 4))) := Lib.hid ⟨HSC.out _ (HA.out.box.trans HXd.out.box.symm), HSB.out _ HA.out.below HA.out.kept⟩
              refine Tl.headX_region (S := (fun W : World => W.cell? ⟨b9, 3, none⟩ = some vc ∧ W.cell? ⟨b0, 1, none⟩ = some (.slice (some ⟨bv, ov, none⟩) nv cv) ∧ W.cell? ⟨b0, 2, none⟩ = some (.slice (some ⟨bc, oc, none⟩) nc cc) ∧ W.cell? ⟨b0, 3, none⟩ = some (.slice (some ⟨bi, oi, none⟩) ni ci) ∧ W.cell? ⟨bv, ov + m, none⟩ = some (.int .i64 xv) ∧ W.cell? ⟨bc, oc + m, none⟩ = some (.bool xc) ∧ W.cell? ⟨bi, oi + m * 2, none⟩ = some (.bool mh) ∧ W.cell? ⟨bi, oi + m * 2 + 1, none⟩ = some (.int .i64 my))) 9 mixed (by decide) ?_
              try dsimp only
              clear x2 x3 x4 hbd
              refine Tl.headX_tk 0 ?v0_8 rfl (by kernel_rfl) (by decide) (by kernel_rfl) (by kernel_rfl) (by kernel_rfl) (fun _ _ _ h => h) (by rfl) (fun W hSw => ?hy0_8) hS ?_
              case hy0_8 => ((try dsimp only at hSw); go_simp; try with_reducible rfl)
              simp only [Act.put, List.setIfInBounds_toArray, List.set_cons_zero, List.set_cons_succ]
              refine Tl.headX_tk 1 ?v1_9 rfl (by kernel_rfl) (by decide) (by kernel_rfl) (by kernel_rfl) (by kernel_rfl) (fun _ _ _ h => h) (by rfl) (fun W hSw => ?hy1_9) hS ?_
              case hy1_9 => ((try dsimp only at hSw); go_simp; try with_reducible rfl)
              simp only [Act.put, List.setIfInBounds_toArray, List.set_cons_zero, List.set_cons_succ]
              refine Tl.headX_tk 2 ?v2_10 rfl (by kernel_rfl) (by decide) (by kernel_rfl) (by kernel_rfl) (by kernel_rfl) (fun _ _ _ h => h) (by rfl) (fun W hSw => ?hy2_10) hS ?_
              case hy2_10 => ((try dsimp only at hSw); go_simp; try with_reducible rfl)
              simp only [Act.put, List.setIfInBounds_toArray, List.set_cons_zero, List.set_cons_succ]
              refine Tl.headX_tk 3 ?v3_11 rfl (by kernel_rfl) (by decide) (by kernel_rfl) (by kernel_rfl) (by kernel_rfl) (fun _ _ _ h => h) (by rfl) (fun W hSw => ?hy3_11) hS ?_
              case hy3_11 => ((try dsimp only at hSw); go_simp; try with_reducible rfl)
              simp only [Act.put, List.setIfInBounds_toArray, List.set_cons_zero, List.set_cons_succ]
              refine Tl.headX_tk 4 ?v4_12 rfl (by kernel_rfl) (by decide) (by kernel_rfl) (by kernel_rfl) (by kernel_rfl) (fun _ _ _ h => h) (by rfl) (fun W hSw => ?hy4_12) hS ?_
              case hy4_12 => ((try dsimp only at hSw); go_simp; try with_reducible rfl)
              simp only [Act.put, List.setIfInBounds_toArray, List.set_cons_zero, List.set_cons_succ]
              refine Tl.headX_tk 5 ?v5_13 rfl (by kernel_rfl) (by decide) (by kernel_rfl) (by kernel_rfl) (by kernel_rfl) (fun _ _ _ h => h) (by rfl) (fun W hSw => ?hy5_13) hS ?_
              case hy5_13 => ((try dsimp only at hSw); go_simp; try with_reducible rfl)
              simp only [Act.put, List.setIfInBounds_toArray, List.set_cons_zero, List.set_cons_succ]
              refine Tl.headX_tk 6 ?v6_14 rfl (by kernel_rfl) (by decide) (by kernel_rfl) (by kernel_rfl) (by kernel_rfl) (fun _ _ _ h => h) (by rfl) (fun W hSw => ?hy6_14) hS ?_
              case hy6_14 => ((try dsimp only at hSw); go_simp; try with_reducible rfl)
              simp only [Act.put, List.setIfInBounds_toArray, List.set_cons_zero, List.set_cons_succ]
              refine Tl.headX_vl 7 ?v7_23 ?w7_23 rfl (by decide) (by kernel_rfl) (by rfl) ?hy7_23 ?hs7_23 ?_
              case hy7_23 => (go_simp; first | (constructor <;> with_reducible rfl) | with_reducible rfl)
              case hs7_23 => exact HS9.out
              simp only [Act.put, List.setIfInBounds_toArray, List.set_cons_zero, List.set_cons_succ]
              refine Tl.headX_one (i := 8) (by rfl) (by decide) (by kernel_rfl) (by rfl) fun K hK => ?_
              refine xapp_b (.tmp 69) (.tmp 75) rfl B _ _ xc rfl HA.out.rows.2.2.1 _ rfl HN.out (by show (List.map _ (ow k oo m)).length < _; rw [List.length_map]; exact HLj.out) HA.out.lo.2.2.2.1 ?_
              intro vb w9 ho9 hg9
              have hx9 := HA.out.appB offR ho9 hg9
              obtain ⟨F2, N2, f2, rfl⟩ : ∃ F N f, vb = .slice F N f := by
                obtain ⟨F, f, e, _⟩ := Sq.BOwn.form ho9
                exact ⟨F, _, f, e⟩
              have HX9 := Lib.hid hx9
              clear hS
              have hS : (fun W : World => W.cell? ⟨b9, 3, none⟩ = some vc ∧ W.cell? ⟨b0, 1, none⟩ = some (.slice (some ⟨bv, ov, none⟩) nv cv) ∧ W.cell? ⟨b0, 2, none⟩ = some (.slice (some ⟨bc, oc, none⟩) nc cc) ∧ W.cell? ⟨b0, 3, none⟩ = some (.slice (some ⟨bi, oi, none⟩) ni ci) ∧ W.cell? ⟨bv, ov + m, none⟩ = some (.int .i64 xv) ∧ W.cell? ⟨bc, oc + m, none⟩ = some (.bool xc) ∧ W.cell? ⟨bi, oi + m * 2, none⟩ = some (.bool mh) ∧ W.cell? ⟨bi, oi + m * 2 + 1, none⟩ = some (.int .i64 my)) w9 := ⟨HSC.out _ (hx9.box.trans HXd.out.box.symm), HSB.out _ hx9.below hx9.kept⟩
              refine hK (Act.put _ (some 76) _) _ hS ?_
              simp only [Act.put, List.setIfInBounds_toArray, List.set_cons_zero, List.set_cons_succ]
              refine Tl.headX_rest (by kernel_rfl) ?_
              simp only [List.drop_succ_cons, List.drop_zero]
              clear ho9 hg9 hx9 hS HA HN HS9 HSC HXd HX3
              obtain ⟨c0, c1, c2, c3, c4, _⟩ := five HX9.out.box
              have fz : w9.frozen? ⟨b9, 3, none⟩ = false := Lib.frozen_of_heap HX9.out.box _
              have HX4 := Lib.hid (HX9.out.put offR 3 (.slice F2 N2 f2))
              obtain ⟨w40, hw4⟩ : ∃ W, W = w9.setCell ⟨b9, 3, none⟩ (.slice F2 N2 f2) := ⟨_, rfl⟩
              rw [← hw4] at HX4
              go_upto_region 13 with fail
              rw [← hw4]
              clear hw4 HX9 fz c0 c1 c2 c3 c4
              have hbd : Below w40.heap.size w40 w40.drew := (Below.refl _ w40).drew
              have HXd := Lib.hid (HX4.out.step hbd)
              have HA := Lib.hid (HXd.out.alloc (.cells #[.bool mh, .int .i64 my] 61))
              have HN := Lib.hid (heap_alloc_new w40.drew (.cells #[.bool mh, .int .i64 my] 61))
              obtain ⟨_, _, x2, x3, x4, _⟩ := five HXd.out.box
              have HSC : Hid (∀ W : World, W.heap[b9]? = w40.drew.heap[b9]? → W.cell? ⟨b9, 4, none⟩ = some vi) := Lib.hid (by
                intro W hb
                obtain ⟨_, _, y2, y3, y4, _⟩ := five (hb.trans HXd.out.box)
                exact y4)
              have hS : (fun W : World => W.cell? ⟨b9, 4, none⟩ = some vi ∧ W.cell? ⟨b0, 1, none⟩ = some (.slice (some ⟨bv, ov, none⟩) nv cv) ∧ W.cell? ⟨b0, 2, none⟩ = some (.slice (some ⟨bc, oc, none⟩) nc cc) ∧ W.cell? ⟨b0, 3, none⟩ = some (.slice (some ⟨bi, oi, none⟩) ni ci) ∧ W.cell? ⟨bv, ov + m, none⟩ = some (.int .i64 xv) ∧ W.cell? ⟨bc, oc + m, none⟩ = some (.bool xc) ∧ W.cell? ⟨bi, oi + m * 2, none⟩ = some (.bool mh) ∧ W.cell? ⟨bi, oi + m * 2 + 1, none⟩ = some (.int .i64 my)) w40.drew := ⟨x4, HSB.out _ HXd.out.below HXd.out.kept⟩
              have HS9 : Hid ((fun W : World => W.cell? ⟨b9, 4, none⟩ = some vi ∧ W.cell? ⟨b0, 1, none⟩ = some (.slice (some ⟨bv, ov, none⟩) nv cv) ∧ W.cell? ⟨b0, 2, none⟩ = some (.slice (some ⟨bc, oc, none⟩) nc cc) ∧ W.cell? ⟨b0, 3, none⟩ = some (.slice (some ⟨bi, oi, none⟩) ni ci) ∧ W.cell? ⟨bv, ov + m, none⟩ = some (.int .i64 xv) ∧ W.cell? ⟨bc, oc + m, none⟩ = some (.bool xc) ∧ W.cell? ⟨bi, oi + m * 2, none⟩ = some (.bool mh) ∧ W.cell? ⟨bi, oi + m * 2 + 1, none⟩ = some (.int .i64 my)) (w40.drew.alloc (.cells #[.bool mh, .int .i64 my] 61))) := Lib.hid ⟨HSC.out _ (HA.out.box.trans HXd.out.box.symm), HSB.out _ HA.out.below HA.out.kept⟩
              refine Tl.headX_region (S := (fun W : World => W.cell? ⟨b9, 4, none⟩ = some vi ∧ W.cell? ⟨b0, 1, none⟩ = some (.slice (some ⟨bv, ov, none⟩) nv cv) ∧ W.cell? ⟨b0, 2, none⟩ = some (.slice (some ⟨bc, oc, none⟩) nc cc) ∧ W.cell? ⟨b0, 3, none⟩ = some (.slice (some ⟨bi, oi, none⟩) ni ci) ∧ W.cell? ⟨bv, ov + m, none⟩ = some (.int .i64 xv) ∧ W.cell? ⟨bc, oc + m, none⟩ = some (.bool xc) ∧ W.cell? ⟨bi, oi + m * 2, none⟩ = some (.bool mh) ∧ W.cell? ⟨bi, oi + m * 2 + 1, none⟩ = some (.int .i64 my))) 9 mixed (by decide) ?_
              try dsimp only
              clear x2 x3 x4 hbd
              refine Tl.headX_tk 0 ?v0_15 rfl (by kernel_rfl) (by decide) (by kernel_rfl) (by kernel_rfl) (by kernel_rfl) (fun _ _ _ h => h) (by rfl) (fun W hSw => ?hy0_15) hS ?_
              case hy0_15 => ((try dsimp only at hSw); go_simp; try with_reducible rfl)
              simp only [Act.put, List.setIfInBounds_toArray, List.set_cons_zero, List.set_cons_succ]
              refine Tl.headX_tk 1 ?v1_16 rfl (by kernel_rfl) (by decide) (by kernel_rfl) (by kernel_rfl) (by kernel_rfl) (fun _ _ _ h => h) (by rfl) (fun W hSw => ?hy1_16) hS ?_
              case hy1_16 => ((try dsimp only at hSw); go_simp; try with_reducible rfl)
              simp only [Act.put, List.setIfInBounds_toArray, List.set_cons_zero, List.set_cons_succ]
              refine Tl.headX_tk 2 ?v2_17 rfl (by kernel_rfl) (by decide) (by kernel_rfl) (by kernel_rfl) (by kernel_rfl) (fun _ _ _ h => h) (by rfl) (fun W hSw => ?hy2_17) hS ?_
              case hy2_17 => ((try dsimp only at hSw); go_simp; try with_reducible rfl)
              simp only [Act.put, List.setIfInBounds_toArray, List.set_cons_zero, List.set_cons_succ]
              refine Tl.headX_tk 3 ?v3_18 rfl (by kernel_rfl) (by decide) (by kernel_rfl) (by kernel_rfl) (by kernel_rfl) (fun _ _ _ h => h) (by rfl) (fun W hSw => ?hy3_18) hS ?_
              case hy3_18 => ((try dsimp only at hSw); go_simp; try with_reducible rfl)
              simp only [Act.put, List.setIfInBounds_toArray, List.set_cons_zero, List.set_cons_succ]
              refine Tl.headX_tk 4 ?v4_19 rfl (by kernel_rfl) (by decide) (by kernel_rfl) (by kernel_rfl) (by kernel_rfl) (fun _ _ _ h => h) (by rfl) (fun W hSw => ?hy4_19) hS ?_
              case hy4_19 => ((try dsimp only at hSw); go_simp; try with_reducible rfl)
              simp only [Act.put, List.setIfInBounds_toArray, List.set_cons_zero, List.set_cons_succ]
              refine Tl.headX_tk 5 ?v5_20 rfl (by kernel_rfl) (by decide) (by kernel_rfl) (by kernel_rfl) (by kernel_rfl) (fun _ _ _ h => h) (by rfl) (fun W hSw => ?hy5_20) hS ?_
              case hy5_20 => ((try dsimp only at hSw); go_simp; try with_reducible rfl)
              simp only [Act.put, List.setIfInBounds_toArray, List.set_cons_zero, List.set_cons_succ]
              refine Tl.headX_tk 6 ?v6_21 rfl (by kernel_rfl) (by decide) (by kernel_rfl) (by kernel_rfl) (by kernel_rfl) (fun _ _ _ h => h) (by rfl) (fun W hSw => ?hy6_21) hS ?_
              case hy6_21 => ((try dsimp only at hSw); go_simp; try with_reducible rfl)
              simp only [Act.put, List.setIfInBounds_toArray, List.set_cons_zero, List.set_cons_succ]
              refine Tl.headX_vl 7 ?v7_24 ?w7_24 rfl (by decide) (by kernel_rfl) (by rfl) ?hy7_24 ?hs7_24 ?_
              case hy7_24 => (go_simp; first | (constructor <;> with_reducible rfl) | with_reducible rfl)
              case hs7_24 => exact HS9.out
              simp only [Act.put, List.setIfInBounds_toArray, List.set_cons_zero, List.set_cons_succ]
              refine Tl.headX_one (i := 8) (by rfl) (by decide) (by kernel_rfl) (by rfl) fun K hK => ?_
              refine xapp_k (.tmp 79) (.tmp 85) rfl B _ _ mh my rfl HA.out.rows.2.2.2 _ rfl HN.out (by show (List.map _ (ow k oo m)).length < _; rw [List.length_map]; exact HLj.out) HA.out.lo.2.2.2.1 ?_
              intro vk w9 ho9 hg9
              have hx9 := HA.out.appK offR ho9 hg9
              obtain ⟨F3, N3, f3, rfl⟩ : ∃ F N f, vk = .slice F N f := by
                obtain ⟨F, f, e, _⟩ := KOwn.room ho9
                exact ⟨F, _, f, e⟩
              have HX9 := Lib.hid hx9
              clear hS
              have hS : (fun W : World => W.cell? ⟨b9, 4, none⟩ = some vi ∧ W.cell? ⟨b0, 1, none⟩ = some (.slice (some ⟨bv, ov, none⟩) nv cv) ∧ W.cell? ⟨b0, 2, none⟩ = some (.slice (some ⟨bc, oc, none⟩) nc cc) ∧ W.cell? ⟨b0, 3, none⟩ = some (.slice (some ⟨bi, oi, none⟩) ni ci) ∧ W.cell? ⟨bv, ov + m, none⟩ = some (.int .i64 xv) ∧ W.cell? ⟨bc, oc + m, none⟩ = some (.bool xc) ∧ W.cell? ⟨bi, oi + m * 2, none⟩ = some (.bool mh) ∧ W.cell? ⟨bi, oi + m * 2 + 1, none⟩ = some (.int .i64 my)) w9 := ⟨HSC.out _ (hx9.box.trans HXd.out.box.symm), HSB.out _ hx9.below hx9.kept⟩
              refine hK (Act.put _ (some 86) _) _ hS ?_
              simp only [Act.put, List.setIfInBounds_toArray, List.set_cons_zero, List.set_cons_succ]
              refine Tl.headX_rest (by kernel_rfl) ?_
              simp only [List.drop_succ_cons, List.drop_zero]
              clear ho9 hg9 hx9 hS HA HN HS9 HSC HXd HX4
              obtain ⟨c0, c1, c2, c3, c4, _⟩ := five HX9.out.box
              have fz : w9.frozen? ⟨b9, 4, none⟩ = false := Lib.frozen_of_heap HX9.out.box _
              have HX5 := Lib.hid (HX9.out.put offR 4 (.slice F3 N3 f3))
              have HH2 : Hid (Bx4 35 w.heap.size 0 W5 (w9.setCell ⟨b9, 4, none⟩ (.slice F3 N3 f3)) b9 B #[.int .i64 s.st, .slice F0 N0 f0, .slice F1 N1 f1, .slice F2 N2 f2, .slice F3 N3 f3] (.slice F0 N0 f0) (.slice F1 N1 f1) (.slice F2 N2 f2) (.slice F3 N3 f3) (takeN s (ow k oo (m + 1)))) := Lib.hid (by
                rw [HNX.out]; exact HX5.out)
              clear HX5 HSB HNX HLj
              go_wp2_with fail
              go_roundg (gk - 1)
              case measure => omega
              case rel => exact ⟨m + 1, _, _, _, _, by omega, by go_num, HH2⟩
            · have hiw : isW k x (m : Int) = false := by simp [isW, hoo, hox]
              have HH2 : Hid (Bx4 35 w.heap.size 0 W5 wr b9 B #[.int .i64 s.st, vo, vv, vc, vi] vo vv vc vi (takeN s (ow k x (m + 1)))) := Lib.hid (by
                rw [ow_succ, hiw]
                simp only [Bool.false_eq_true, if_false, List.append_nil]
                exact HH.out)
              have q1 : (oo == x) = false := by simp [hox]
              clear hiw hoo
              go_wp2_with fail
              go_roundg (gk - 1)
              case measure => omega
              case rel => exact ⟨m + 1, _, _, _, _, by omega, by go_num, HH2⟩
          · obtain rfl : m = nv := by omega
            obtain ⟨r1, r2, r3, r4⟩ := HH.out.rows
            obtain ⟨F0, N0, f0, rfl⟩ := row_sl r1
            obtain ⟨F1, N1, f1, rfl⟩ : ∃ F N f, vv = .slice F N f := by
              obtain ⟨F, f, e, _⟩ := Sq.QOwn.form r2
              exact ⟨F, _, f, e⟩
            obtain ⟨F2, N2, f2, rfl⟩ : ∃ F N f, vc = .slice F N f := by
              obtain ⟨F, f, e, _⟩ := Sq.BOwn.form r3
              exact ⟨F, _, f, e⟩
            obtain ⟨F3, N3, f3, rfl⟩ : ∃ F N f, vi = .slice F N f := by
              obtain ⟨F, f, e, _⟩ := KOwn.room r4
              exact ⟨F, _, f, e⟩
            obtain ⟨x0, x1, x2, x3, x4, _⟩ := five HH.out.box
            obtain ⟨p0, p1, p2, p3, p4, _⟩ := five HZr.out
            have fz0 := Lib.frozen_of_heap HZr.out 0
            have fz1 := Lib.frozen_of_heap HZr.out 1
            have fz2 := Lib.frozen_of_heap HZr.out 2
            have fz3 := Lib.frozen_of_heap HZr.out 3
            have fz4 := Lib.frozen_of_heap HZr.out 4
            have HPW : Hid (POwn (put5 wr b1 (.int .i64 s.st) (.slice F0 N0 f0) (.slice F1 N1 f1) (.slice F2 N2 f2) (.slice F3 N3 f3)) w.heap.size (.agg #[.int .i64 s.st, .slice F0 N0 f0, .slice F1 N1 f1, .slice F2 N2 f2, .slice F3 N3 f3]) (takeP s k x) ∧ (put5 wr b1 (.int .i64 s.st) (.slice F0 N0 f0) (.slice F1 N1 f1) (.slice F2 N2 f2) (.slice F3 N3 f3)).heap[b1]? = some (.cells #[.int .i64 s.st, .slice F0 N0 f0, .slice F1 N1 f1, .slice F2 N2 f2, .slice F3 N3 f3] 35 (0, 0)) ∧ Below w.heap.size w (put5 wr b1 (.int .i64 s.st) (.slice F0 N0 f0) (.slice F1 N1 f1) (.slice F2 N2 f2) (.slice F3 N3 f3))) := Lib.hid (by
              have hw6 : w.heap.size ≤ B := HBB.out.2.1
              rw [← HT.out.nv, takeN_all] at r1 r2 r3 r4
              refine ⟨put5_rows ⟨_, _, _, _, rfl, own_mono r1 hw6, own_mono r2 hw6, own_mono r3 hw6, r4.mono hw6⟩ HZr.out offR _ _ _ _ _, put5_heap HZr.out _ _ _ _ _, put5_below (HTw.out.trans HH.out.below) HL.out.2.1 _ _ _ _ _⟩)
            clear r1 r2 r3 r4
            go_wp2_with fail
            refine bodyPost_ret (v := .tuple #[.agg #[.int .i64 s.st, .slice F0 N0 f0, .slice F1 N1 f1, .slice F2 N2 f2, .slice F3 N3 f3], .int .i64 0]) (res2_r _ 6 7 _ _ b1 _ _ _ _ _ _ rfl rfl rfl HPW.out.2.1) rfl ?_
            rw [HM.out]
            exact ⟨_, rfl, Lib.hid HPW.out.1, Lib.hid HPW.out.2.2⟩
  · have HR : Hid (rtakeR s k x = (noneP, 2)) := Lib.hid (by unfold rtakeR; rw [if_neg hk])
    have HF := HE1
    go_enter Try.func22, Try.ntmps22
    go_upto_region 1 with fail
    rw [← hW1, show w.heap.size + 1 = b1 from e1.symm, show w.heap.size = b0 from e0.symm]
    clear hW1 e0 e1
    by_cases k1 : 1 ≤ k
    · by_cases k2 : k ≤ 64
      · by_cases k3 : 0 ≤ x
        · have k4 : ¬ x < k := fun h => hk ⟨k1, k2, k3, h⟩
          clear hk
          go_wp2
          refine bodyPost_ret (v := .tuple #[.agg #[.int .i64 0, .slice none 0 0, .slice none 0 0, .slice none 0 0, .slice none 0 0], .int .i64 2]) (res2_r _ 6 7 _ _ b1 _ _ _ _ _ _ rfl rfl rfl HF.out.1) rfl ?_
          rw [HR.out]
          exact ⟨_, rfl, Lib.hid (POwn.zero _ _), Lib.hid HF.out.2⟩
        · clear hk
          go_wp2
          refine bodyPost_ret (v := .tuple #[.agg #[.int .i64 0, .slice none 0 0, .slice none 0 0, .slice none 0 0, .slice none 0 0], .int .i64 2]) (res2_r _ 6 7 _ _ b1 _ _ _ _ _ _ rfl rfl rfl HF.out.1) rfl ?_
          rw [HR.out]
          exact ⟨_, rfl, Lib.hid (POwn.zero _ _), Lib.hid HF.out.2⟩
      · clear hk
        go_wp2
        refine bodyPost_ret (v := .tuple #[.agg #[.int .i64 0, .slice none 0 0, .slice none 0 0, .slice none 0 0, .slice none 0 0], .int .i64 2]) (res2_r _ 6 7 _ _ b1 _ _ _ _ _ _ rfl rfl rfl HF.out.1) rfl ?_
        rw [HR.out]
        exact ⟨_, rfl, Lib.hid (POwn.zero _ _), Lib.hid HF.out.2⟩
    · clear hk
      go_wp2
      refine bodyPost_ret (v := .tuple #[.agg #[.int .i64 0, .slice none 0 0, .slice none 0 0, .slice none 0 0, .slice none 0 0], .int .i64 2]) (res2_r _ 6 7 _ _ b1 _ _ _ _ _ _ rfl rfl rfl HF.out.1) rfl ?_
      rw [HR.out]
      exact ⟨_, rfl, Lib.hid (POwn.zero _ _), Lib.hid HF.out.2⟩
end Go.Proofs.Ytfbfckdabbaocaa.St
