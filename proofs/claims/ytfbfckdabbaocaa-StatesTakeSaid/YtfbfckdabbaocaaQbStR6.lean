/-
  What is proved here: a contract of the document's Get: the part of which these are the bytes, or none. Condition: at most 1000000 bytes.
-/
import Derived.Test.YtfbfckdabbaocaaQbStR5x
import Derived.Test.YtfbfckdabbaocaaQbStR2
import Derived.Test.YtfbfckdabbaocaaQbStGt
namespace Go.Proofs.Ytfbfckdabbaocaa.St
open Go.RowKit Gr Wd Ws Fx Rk Lb Al In
open Sq (BAt BOwn QOwn bls app_q app_b)
open Fld (dg num)
theorem offR : Off 35 := ⟨by decide, by decide, by decide, by decide⟩
theorem wI_zero : wI 0 = 0 := by unfold wI; rw [if_pos (by decide)]
structure RgH (w wr : World) (b2 b8 B : Nat) (p : Pr) : Prop where
  below : Below w.heap.size w wr
  rbox : wr.heap[b2]? = some (.cells #[.int .i64 0, .slice none 0 0, .slice none 0 0, .slice none 0 0, .slice none 0 0] 35 (0, 0))
  bx : PBx 35 wr b8 B p
  size : B ≤ wr.heap.size
  ord : w.heap.size ≤ b2 ∧ b2 < b8 ∧ b8 < B
theorem RgH.step {w wr w' : World} {b2 b8 B : Nat} {p : Pr} (h : RgH w wr b2 b8 B p) (hb : Below wr.heap.size wr w') : RgH w w' b2 b8 B p :=
  ⟨step_below h.below h.below.size hb, keep h.rbox hb, h.bx.below hb, Nat.le_trans h.size hb.size, h.ord⟩
def RgRel (w : World) (b2 b8 B sn cn : Nat) (L : List Nat) (g : Nat) (at_ i : Value) (wr : World) : Prop :=
  ∃ (k pos : Nat) (l : List En), k + g = cn ∧ at_ = .int .i64 (pos : Int) ∧ i = .int .u64 (k : Int) ∧ Hid (RgH w wr b2 b8 B (ofE (sn : Int) (l.map wrE))) ∧ Hid (getN k (L.drop 6) = some (l, L.drop pos) ∧ l.length = k) ∧ pos ≤ L.length
theorem rdv_rv (p k : Nat) (l : List Nat) (h : p + k ≤ l.length) : rdv p k l = rv k (l.drop p) := by
  unfold rdv rv
  rw [if_pos h, if_pos (by rw [List.length_drop]; omega)]
theorem rdv3 {p : Nat} {l : List Nat} (h : p + 11 ≤ l.length) : rdv p 2 l = rv 2 (l.drop p) ∧ rdv (p + 2) 8 l = rv 8 (rl 2 (l.drop p)) ∧ rdv (p + 10) 1 l = f3 (l.drop p) ∧ r3 (l.drop p) = l.drop (p + 11) := by
  have hl : 11 ≤ (l.drop p).length := by rw [List.length_drop]; omega
  obtain ⟨p1, p2, p3, p4⟩ := parts11 hl
  refine ⟨rdv_rv _ _ _ (by omega), ?_, ?_, by rw [p4, List.drop_drop]⟩
  · rw [rdv_rv _ _ _ (by omega), ← List.drop_drop]
    unfold rl; rw [if_pos (by omega)]
  · rw [rdv_rv _ _ _ (by omega), p3]
    unfold rv
    rw [if_pos (by rw [List.length_drop]; omega), ← List.drop_drop, cut_at (l.drop p) 10 (by omega)]
    simp [Fld.num]
theorem rdv_lt (p k : Nat) {l : List Nat} (h : ∀ x ∈ l, x < 256) : rdv p k l < 256 ^ k := by
  unfold rdv
  split
  · rename_i hk; exact num_fit h p k hk
  · exact Nat.pow_pos (by decide)
theorem row_sl {w : World} {B : Nat} {v : Value} {l : List Int} (h : IOwn w B v l) : ∃ F N f, v = .slice F N f := by
  obtain ⟨F, f, e, _⟩ := h.form; exact ⟨F, _, f, e⟩
set_option maxRecDepth 100000 in
set_option maxHeartbeats 32000000 in
theorem rget_any (A : Option Addr) (n c : Nat) (L : List Nat) (w : World) (hL : UAt w A L) (hn : L.length = n) (hm : n ≤ 1000000) :
    Calls Try.prog 17 #[.slice A n c] w fun e w' => ResP w w' e (getR L) := by
  have hbox := heap_alloc_new w (.cells #[.int .i64 0, .slice none 0 0, .slice none 0 0, .slice none 0 0, .slice none 0 0] 35)
  have hb1 : Below w.heap.size w (w.alloc (.cells #[.int .i64 0, .slice none 0 0, .slice none 0 0, .slice none 0 0, .slice none 0 0] 35)) := (Below.refl _ w).alloc (Nat.le_refl _) _
  obtain ⟨W1, hW1⟩ : ∃ W1, W1 = w.alloc (.cells #[.int .i64 0, .slice none 0 0, .slice none 0 0, .slice none 0 0, .slice none 0 0] 35) := ⟨_, rfl⟩
  obtain ⟨b2, e2⟩ : ∃ b2, b2 = w.heap.size := ⟨_, rfl⟩
  rw [← hW1] at hbox hb1
  rw [← e2] at hbox
  have HB1 := Lib.hid hb1
  have HX1 := Lib.hid hbox
  have HG2 : Hid (w.heap.size ≤ b2 ∧ b2 < W1.heap.size) := Lib.hid ⟨by omega, lt_of_block hbox⟩
  have HSM := Lib.hid hL.at_.small
  have HL := Lib.hid hL
  have HN := Lib.hid hn
  have HRD : Hid (∀ (W : World) (p k : Nat) (P K : Int), Below w.heap.size w W → p ≤ 2000000 → k ≤ 8 → P = (p : Int) → K = (k : Int) → Calls Try.prog 47 #[.slice A n c, .int .i64 P, .int .i64 K] W fun e w' => e = .returned (.tuple #[.int .u64 ((rdv p k L : Nat) : Int), .bool (decide (p + k ≤ n))]) ∧ W = w') := Lib.hid (by
    intro W p k P K hb hp hk hP hK
    subst hP hK
    exact rread_any A n c p k L W (HL.out.below hb) HN.out hm hp hk)
  have HERR : Hid (∀ W, Below w.heap.size w W → W.heap[b2]? = some (.cells #[.int .i64 0, .slice none 0 0, .slice none 0 0, .slice none 0 0, .slice none 0 0] 35 (0, 0)) → getP L = none → ((put5 W b2 (.int .i64 0) (.slice none 0 0) (.slice none 0 0) (.slice none 0 0) (.slice none 0 0)).heap[b2]? = some (.cells #[.int .i64 0, .slice none 0 0, .slice none 0 0, .slice none 0 0, .slice none 0 0] 35 (0, 0)) ∧ ∀ e, e = Ending.returned (.tuple #[.agg #[.int .i64 0, .slice none 0 0, .slice none 0 0, .slice none 0 0, .slice none 0 0], .int .i64 140]) → ResP w (put5 W b2 (.int .i64 0) (.slice none 0 0) (.slice none 0 0) (.slice none 0 0) (.slice none 0 0)) e (getR L))) := Lib.hid (by
    intro W hb hz hg
    refine ⟨put5_heap hz _ _ _ _ _, fun e he => ?_⟩
    rw [getR_no hg, he]
    exact ⟨_, rfl, Lib.hid (POwn.zero _ _), Lib.hid (put5_below hb HG2.out.1 _ _ _ _ _)⟩)
  clear hb1 hbox hL hn
  go_enter Try.func17, Try.ntmps17
  go_upto_region 1 with fail
  rw [← hW1, show w.heap.size = b2 from e2.symm]
  clear hW1 e2
  go_wp2_with fail
  refine (HRD.out W1 0 4 0 4 HB1.out (by omega) (by omega) rfl rfl).mono ?_
  rintro e wq ⟨rfl, rfl⟩
  obtain ⟨sn, hsn⟩ : ∃ q, rdv 0 4 L = q := ⟨_, rfl⟩
  rw [hsn]
  have hsb : sn < 4294967296 := by rw [← hsn]; exact rdv_lt 0 4 HSM.out
  have HSN := Lib.hid hsn
  clear hsn
  go_wp2_with fail
  refine (HRD.out W1 4 2 4 2 HB1.out (by omega) (by omega) rfl rfl).mono ?_
  rintro e wq ⟨rfl, rfl⟩
  obtain ⟨cn, hcn⟩ : ∃ q, rdv 4 2 L = q := ⟨_, rfl⟩
  rw [hcn]
  have hcb : cn < 65536 := by rw [← hcn]; exact rdv_lt 4 2 HSM.out
  have HCN := Lib.hid hcn
  clear hcn
  by_cases h6 : 6 ≤ n
  · rw [show decide (4 ≤ n) = true from decide_eq_true (by omega), show decide (4 + 2 ≤ n) = true from decide_eq_true (by omega)]
    have hL6 : 6 ≤ L.length := by rw [HN.out]; exact h6
    have HST : Hid (sn = num (L.take 4) ∧ cn = num ((L.drop 4).take 2)) := Lib.hid (by
      rw [← HSN.out, ← HCN.out]
      unfold rdv
      rw [if_pos (by omega), if_pos (by omega)]
      exact ⟨rfl, rfl⟩)
    have HL6 := Lib.hid hL6
    clear hL6
    go_upto_region 6 with fail
    have hx8 := heap_alloc_new W1 (.cells #[.int .i64 (sn : Int), .slice none 0 0, .slice none 0 0, .slice none 0 0, .slice none 0 0] 35)
    have hb8 : Below W1.heap.size W1 (W1.alloc (.cells #[.int .i64 (sn : Int), .slice none 0 0, .slice none 0 0, .slice none 0 0, .slice none 0 0] 35)) := (Below.refl _ W1).alloc (Nat.le_refl _) _
    have hs8 : (W1.alloc (.cells #[.int .i64 (sn : Int), .slice none 0 0, .slice none 0 0, .slice none 0 0, .slice none 0 0] 35)).heap.size = W1.heap.size + 1 := by simp
    obtain ⟨W4, hW4⟩ : ∃ W4, W4 = W1.alloc (.cells #[.int .i64 (sn : Int), .slice none 0 0, .slice none 0 0, .slice none 0 0, .slice none 0 0] 35) := ⟨_, rfl⟩
    obtain ⟨b8, e8⟩ : ∃ b8, b8 = W1.heap.size := ⟨_, rfl⟩
    rw [← hW4] at hx8 hb8 hs8
    rw [← e8] at hx8 hs8
    obtain ⟨B, hB⟩ : ∃ B, W4.heap.size = B := ⟨_, rfl⟩
    have HH4 : Hid (RgH w W4 b2 b8 B (ofE (sn : Int) (([] : List En).map wrE))) := Lib.hid ⟨step_below HB1.out HB1.out.size hb8, keep HX1.out hb8, ⟨_, _, _, _, hx8, IOwn.none_ _ _, QOwn.none_ _ _, BOwn.none_ _ _, KOwn.none_ _ _⟩, by omega, by have := HG2.out; omega⟩
    rw [← hW4, show W1.heap.size = b8 from e8.symm]
    clear hW4 e8 hx8 hb8 hs8 hB HB1 HX1
    go_wp2_with fail
    go_loopg [9, 10] cn (fun g a i wr => RgRel w b2 b8 B sn cn L g a i wr)
    case atStart => exact ⟨0, 6, [], by omega, rfl, rfl, HH4, Lib.hid ⟨rfl, rfl⟩, HL6.out⟩
    case round =>
      obtain ⟨k, pos, l, hk, rfl, rfl, HH, HP, hpos⟩ := hrel
      clear HH4
      rw [HN.out] at hpos
      by_cases hlt : k < cn
      · have HNONE : Hid (getE (L.drop pos) = none → getP L = none) := Lib.hid fun he => by
          refine getP_no (getN_none (n := k + 1) ?_ _ ?_)
          · rw [getN_snoc, HP.out.1]; simp only [Option.bind_some, he, Option.map_none]
          · rw [← HST.out.2]; omega
        have HSOME : Hid (∀ e r', getE (L.drop pos) = some (e, r') → getN (k + 1) (L.drop 6) = some (l ++ [e], r')) := Lib.hid fun e r' he => by
          rw [getN_snoc, HP.out.1]; simp only [Option.bind_some, he, Option.map_some]
        have HLN : Hid ((L.drop pos).length = n - pos) := Lib.hid (by rw [List.length_drop, HN.out])
        by_cases h11 : pos + 11 ≤ n
        · have hr3 := rdv3 (p := pos) (l := L) (by rw [HN.out]; exact h11)
          obtain ⟨vn, hvn⟩ : ∃ q, rdv pos 2 L = q := ⟨_, rfl⟩
          have hvb : vn < 65536 := by rw [← hvn]; exact rdv_lt pos 2 HSM.out
          obtain ⟨xn, hxn⟩ : ∃ q, rdv (pos + 2) 8 L = q := ⟨_, rfl⟩
          have hxb : xn < 18446744073709551616 := by rw [← hxn]; exact rdv_lt (pos + 2) 8 HSM.out
          obtain ⟨fn, hfn⟩ : ∃ q, rdv (pos + 10) 1 L = q := ⟨_, rfl⟩
          have hfb : fn < 256 := by rw [← hfn]; exact rdv_lt (pos + 10) 1 HSM.out
          have HV : Hid (rv 2 (L.drop pos) = vn ∧ rv 8 (rl 2 (L.drop pos)) = xn ∧ f3 (L.drop pos) = fn ∧ r3 (L.drop pos) = L.drop (pos + 11)) := Lib.hid ⟨by rw [← hr3.1, hvn], by rw [← hr3.2.1, hxn], by rw [← hr3.2.2.1, hfn], hr3.2.2.2⟩
          have H11 : Hid (11 ≤ (L.drop pos).length) := Lib.hid (by rw [HLN.out]; omega)
          have HVN := Lib.hid hvn; have HXN := Lib.hid hxn; have HFN := Lib.hid hfn
          clear hr3 hvn hxn hfn
          go_wp2_with fail
          refine (HRD.out wr pos 2 _ 2 HH.out.below (by omega) (by omega) rfl rfl).mono ?_
          rintro e wq ⟨rfl, rfl⟩
          rw [HVN.out, decide_eq_true (show pos + 2 ≤ n by omega)]
          go_wp2_with fail
          refine (HRD.out wr (pos + 2) 8 _ 8 HH.out.below (by omega) (by omega) (by push_cast; rfl) rfl).mono ?_
          rintro e wq ⟨rfl, rfl⟩
          rw [HXN.out, decide_eq_true (show pos + 2 + 8 ≤ n by omega)]
          go_wp2_with fail
          refine (HRD.out wr (pos + 10) 1 _ 1 HH.out.below (by omega) (by omega) (by push_cast; rfl) rfl).mono ?_
          rintro e wq ⟨rfl, rfl⟩
          rw [HFN.out, decide_eq_true (show pos + 10 + 1 ≤ n by omega)]
          by_cases hf3 : 3 < fn
          · have HGN : Hid (getP L = none) := Lib.hid (HNONE.out (getE_odd H11.out (by rw [HV.out.2.2.1]; exact hf3)))
            obtain ⟨hz, hfin⟩ := HERR.out wr HH.out.below HH.out.rbox HGN.out
            have HZZ := Lib.hid hz; have HFN := Lib.hid hfin
            obtain ⟨p0, p1, p2, p3, p4, _⟩ := five HH.out.rbox
            have fz0 := Lib.frozen_of_heap HH.out.rbox 0
            have fz1 := Lib.frozen_of_heap HH.out.rbox 1
            have fz2 := Lib.frozen_of_heap HH.out.rbox 2
            have fz3 := Lib.frozen_of_heap HH.out.rbox 3
            have fz4 := Lib.frozen_of_heap HH.out.rbox 4
            clear hz hfin
            go_wp2_with fail
            exact bodyPost_ret (v := .tuple #[.agg #[.int .i64 0, .slice none 0 0, .slice none 0 0, .slice none 0 0, .slice none 0 0], .int .i64 140]) (res2_r _ 2 3 _ _ b2 _ _ _ _ _ _ rfl rfl rfl HZZ.out) rfl (HFN.out _ rfl)
          · obtain ⟨cb, hcb'⟩ : ∃ cb, ((fn : Int) % 2 == 1) = cb := ⟨_, rfl⟩
            have HCB : Hid (decide (fn % 2 = 1) = cb) := Lib.hid (by
              rw [← hcb', Bool.eq_iff_iff, decide_eq_true_iff, beq_iff_eq]; omega)
            by_cases hf2 : fn < 2
            · have HE : Hid (getE (L.drop pos) = some (⟨(vn : Int), (xn : Int), decide (fn % 2 = 1), (false, 0)⟩, L.drop (pos + 11))) := Lib.hid (by
                have he := getE_bare H11.out (by rw [HV.out.2.2.1]; exact hf2)
                rw [HV.out.1, HV.out.2.1, HV.out.2.2.1, HV.out.2.2.2] at he
                exact he)
              go_upto_region 23 with fail
              have HM0 := Lib.hid (HH.out.step ((Below.refl _ wr).alloc (Nat.le_refl _) (.cells #[.bool false, .int .i64 0] 61)))
              have hmx := heap_alloc_new wr (.cells #[.bool false, .int .i64 0] 61)
              obtain ⟨wm, hwm⟩ : ∃ W, W = wr.alloc (.cells #[.bool false, .int .i64 0] 61) := ⟨_, rfl⟩
              obtain ⟨bm, ebm⟩ : ∃ b, b = wr.heap.size := ⟨_, rfl⟩
              rw [← hwm] at HM0 hmx
              rw [← ebm] at hmx
              have HMX := Lib.hid hmx
              rw [← hwm, show wr.heap.size = bm from ebm.symm]
              clear hwm ebm hmx
              obtain ⟨vo, vv, vc, vi, hbb, r1, r2, r3', r4⟩ := HM0.out.bx
              have X1 : Bx4 35 w.heap.size 0 wm wm b8 B #[.int .i64 (sn : Int), vo, vv, vc, vi] vo vv vc vi (ofE (sn : Int) (l.map wrE)) := ⟨hbb, ⟨r1, r2, r3', r4⟩, Below.refl _ _, ⟨by have := HM0.out.ord; omega, by have := HM0.out.ord; omega, HM0.out.below.size, HM0.out.size, rfl⟩, fun _ _ _ => rfl⟩
              have HX1 := Lib.hid X1; have HM1 := Lib.hid HMX.out
              clear X1 hbb r1 r2 r3' r4
              obtain ⟨c0, c1, c2, c3, c4, _⟩ := five HX1.out.box
              have hnn : (ofE (sn : Int) (l.map wrE)).own.length = k := by simp [ofE]; exact HP.out.2
              have hn2 : (ofE (sn : Int) (l.map wrE)).vals.length = k := by simp [ofE]; exact HP.out.2
              have hn3 : (ofE (sn : Int) (l.map wrE)).chg.length = k := by simp [ofE]; exact HP.out.2
              have hn4 : (ofE (sn : Int) (l.map wrE)).inb.length = k := by simp [ofE]; exact HP.out.2
              have HNN := Lib.hid (And.intro hnn (And.intro hn2 (And.intro hn3 hn4)))
              clear hnn hn2 hn3 hn4
              have HA := Lib.hid (HX1.out.alloc (.cells #[.int .i64 (vn : Int)] 3))
              have HN' := Lib.hid (heap_alloc_new wm (.cells #[.int .i64 (vn : Int)] 3))
              have HMA := Lib.hid ((Below.heap_alloc wm (.cells #[.int .i64 (vn : Int)] 3) bm (lt_of_block HM1.out)).trans HM1.out)
              go_wp2_with (at_builtin; refine app_i rfl (.tmp 100) (.tmp 103) rfl B _ _ (vn : Int) rfl HA.out.rows.1 _ rfl HN'.out (Nat.lt_of_le_of_lt (Nat.le_of_eq HNN.out.1) (by omega)) HA.out.lo.2.2.2.1 ?_)
              intro vi' w2 ho2 hg2
              have hx2 := HA.out.appI offR ho2 hg2
              have hm2 := kept_app HMA.out HA.out.rows.1 (by decide) hg2
              obtain ⟨F0, N0, f0, rfl⟩ : ∃ F N f, vi' = .slice F N f := by
                obtain ⟨F, f, e, _⟩ := IOwn.form ho2
                exact ⟨F, _, f, e⟩
              have HXt := Lib.hid hx2
              have HMt := Lib.hid hm2
              clear ho2 hg2 hx2 hm2 HX1 HA HN' HM1 HMA c0 c1 c2 c3 c4
              obtain ⟨c0, c1, c2, c3, c4, _⟩ := five HXt.out.box
              have fz : w2.frozen? ⟨b8, 1, none⟩ = false := Lib.frozen_of_heap HXt.out.box _
              obtain ⟨w3, hw3⟩ : ∃ W, W = w2.setCell ⟨b8, 1, none⟩ (.slice F0 N0 f0) := ⟨_, rfl⟩
              have HX2 := Lib.hid (HXt.out.put offR 1 (.slice F0 N0 f0))
              have HM2 := Lib.hid (kept_put (i := 1) (u := .slice F0 N0 f0) HMt.out HXt.out.box (by decide))
              rw [← hw3] at HX2 HM2
              go_upto_region 24 with fail
              rw [← hw3]
              clear hw3 HXt HMt fz c0 c1 c2 c3 c4
              obtain ⟨c0, c1, c2, c3, c4, _⟩ := five HX2.out.box
              have HA := Lib.hid (HX2.out.alloc (.cells #[.int .i64 (wrap64 (xn : Int))] 2))
              have HN' := Lib.hid (heap_alloc_new w3 (.cells #[.int .i64 (wrap64 (xn : Int))] 2))
              have HMA := Lib.hid ((Below.heap_alloc w3 (.cells #[.int .i64 (wrap64 (xn : Int))] 2) bm (lt_of_block HM2.out)).trans HM2.out)
              go_wp2_with (at_builtin; refine app_q rfl (.tmp 107) (.tmp 110) rfl B _ _ (wrap64 (xn : Int)) rfl HA.out.rows.2.1 _ rfl HN'.out (Nat.lt_of_le_of_lt (Nat.le_of_eq HNN.out.2.1) (by omega)) HA.out.lo.2.2.2.1 ?_)
              intro vq' w2 ho2 hg2
              have hx2 := HA.out.appQ offR ho2 hg2
              have hm2 := kept_app HMA.out HA.out.rows.2.1 (by decide) hg2
              obtain ⟨F1, N1, f1, rfl⟩ : ∃ F N f, vq' = .slice F N f := by
                obtain ⟨F, f, e, _⟩ := Sq.QOwn.form ho2
                exact ⟨F, _, f, e⟩
              have HXt := Lib.hid hx2
              have HMt := Lib.hid hm2
              clear ho2 hg2 hx2 hm2 HX2 HA HN' HM2 HMA c0 c1 c2 c3 c4
              obtain ⟨c0, c1, c2, c3, c4, _⟩ := five HXt.out.box
              have fz : w2.frozen? ⟨b8, 2, none⟩ = false := Lib.frozen_of_heap HXt.out.box _
              obtain ⟨w5, hw5⟩ : ∃ W, W = w2.setCell ⟨b8, 2, none⟩ (.slice F1 N1 f1) := ⟨_, rfl⟩
              have HX3 := Lib.hid (HXt.out.put offR 2 (.slice F1 N1 f1))
              have HM3 := Lib.hid (kept_put (i := 2) (u := .slice F1 N1 f1) HMt.out HXt.out.box (by decide))
              rw [← hw5] at HX3 HM3
              go_upto_region 25 with fail
              rw [← hw5]
              clear hw5 HXt HMt fz c0 c1 c2 c3 c4
              obtain ⟨c0, c1, c2, c3, c4, _⟩ := five HX3.out.box
              have HA := Lib.hid (HX3.out.alloc (.cells #[.bool cb] 4))
              have HN' := Lib.hid (heap_alloc_new w5 (.cells #[.bool cb] 4))
              have HMA := Lib.hid ((Below.heap_alloc w5 (.cells #[.bool cb] 4) bm (lt_of_block HM3.out)).trans HM3.out)
              go_wp2_with (at_builtin; refine app_b rfl (.tmp 114) (.tmp 118) rfl B _ _ cb rfl HA.out.rows.2.2.1 _ rfl HN'.out (Nat.lt_of_le_of_lt (Nat.le_of_eq HNN.out.2.2.1) (by omega)) HA.out.lo.2.2.2.1 ?_)
              intro vb' w2 ho2 hg2
              have hx2 := HA.out.appB offR ho2 hg2
              have hm2 := kept_app HMA.out HA.out.rows.2.2.1 (by decide) hg2
              obtain ⟨F2, N2, f2, rfl⟩ : ∃ F N f, vb' = .slice F N f := by
                obtain ⟨F, f, e, _⟩ := Sq.BOwn.form ho2
                exact ⟨F, _, f, e⟩
              have HXt := Lib.hid hx2
              have HMt := Lib.hid hm2
              clear ho2 hg2 hx2 hm2 HX3 HA HN' HM3 HMA c0 c1 c2 c3 c4
              obtain ⟨c0, c1, c2, c3, c4, _⟩ := five HXt.out.box
              have fz : w2.frozen? ⟨b8, 3, none⟩ = false := Lib.frozen_of_heap HXt.out.box _
              obtain ⟨w7, hw7⟩ : ∃ W, W = w2.setCell ⟨b8, 3, none⟩ (.slice F2 N2 f2) := ⟨_, rfl⟩
              have HX4 := Lib.hid (HXt.out.put offR 3 (.slice F2 N2 f2))
              have HM4 := Lib.hid (kept_put (i := 3) (u := .slice F2 N2 f2) HMt.out HXt.out.box (by decide))
              rw [← hw7] at HX4 HM4
              go_upto_region 26 with fail
              rw [← hw7]
              clear hw7 HXt HMt fz c0 c1 c2 c3 c4
              obtain ⟨c0, c1, c2, c3, c4, _⟩ := five HX4.out.box
              obtain ⟨m0, m1, _⟩ := ml_cells HM4.out
              have HA := Lib.hid (HX4.out.alloc (.cells #[.bool false, .int .i64 0] 61))
              have HN' := Lib.hid (heap_alloc_new w7 (.cells #[.bool false, .int .i64 0] 61))
              go_wp2_with (at_builtin; refine app_k rfl (.tmp 122) (.tmp 124) rfl B _ _ false 0 rfl HA.out.rows.2.2.2 _ rfl HN'.out (Nat.lt_of_le_of_lt (Nat.le_of_eq HNN.out.2.2.2) (by omega)) HA.out.lo.2.2.2.1 ?_)
              intro vi' w9 ho9 hg9
              have hx9 := HA.out.appK offR ho9 hg9
              obtain ⟨F3, N3, f3', rfl⟩ : ∃ F N f, vi' = .slice F N f := by
                obtain ⟨F, f, e, _⟩ := KOwn.room ho9
                exact ⟨F, _, f, e⟩
              have HX9 := Lib.hid hx9
              have hx10 := HX9.out.put offR 4 (.slice F3 N3 f3')
              have HH10 : Hid (RgH w (w9.setCell ⟨b8, 4, none⟩ (.slice F3 N3 f3')) b2 b8 B (ofE (sn : Int) ((l ++ ([⟨(vn : Int), (xn : Int), decide (fn % 2 = 1), (false, 0)⟩] : List En)).map wrE))) := Lib.hid (by
                have hk := hx10.kept
                refine ⟨HM0.out.below.trans hx10.below, (hk b2 (by have := HM0.out.ord; omega) (by have := HM0.out.ord; omega)).trans HM0.out.rbox, ?_, hx10.lo.2.2.2.1, HM0.out.ord⟩
                have e : ofE (sn : Int) ((l ++ ([⟨(vn : Int), (xn : Int), decide (fn % 2 = 1), (false, 0)⟩] : List En)).map wrE) = ⟨(sn : Int), (ofE (sn : Int) (l.map wrE)).own ++ [(vn : Int)], (ofE (sn : Int) (l.map wrE)).vals ++ [wrap64 (xn : Int)], (ofE (sn : Int) (l.map wrE)).chg ++ [cb], (ofE (sn : Int) (l.map wrE)).inb ++ [(false, 0)]⟩ := by
                  rw [wrap_wI xn hxb]
                  unfold ofE wrE
                  simp [HCB.out, wI_zero]
                rw [e]
                exact ⟨_, _, _, _, hx10.box, hx10.rows.1, hx10.rows.2.1, hx10.rows.2.2.1, hx10.rows.2.2.2⟩)
              clear ho9 hg9 hx9 hx10 HA HN' HX4 HM4 c0 c1 c2 c3 c4 m0 m1
              have fz : w9.frozen? ⟨b8, 4, none⟩ = false := Lib.frozen_of_heap HX9.out.box _
              obtain ⟨c0, c1, c2, c3, c4, _⟩ := five HX9.out.box
              go_wp2_with fail
              go_roundg (gk - 1)
              case measure => omega
              case rel => exact ⟨k + 1, pos + 11, _, by omega, by go_num, by go_num, HH10, Lib.hid ⟨HSOME.out _ _ HE.out, by rw [List.length_append, HP.out.2]; rfl⟩, by rw [HN.out]; omega⟩
            · have hfu : fn ≤ 3 := by omega
              go_upto_region 18 with fail
              have HM9 := Lib.hid (HH.out.step ((Below.refl _ wr).alloc (Nat.le_refl _) (.cells #[.bool false, .int .i64 0] 61)))
              have hmx := heap_alloc_new wr (.cells #[.bool false, .int .i64 0] 61)
              obtain ⟨wn, hwn⟩ : ∃ W, W = wr.alloc (.cells #[.bool false, .int .i64 0] 61) := ⟨_, rfl⟩
              obtain ⟨bm, ebm⟩ : ∃ b, b = wr.heap.size := ⟨_, rfl⟩
              rw [← hwn] at HM9 hmx
              rw [← ebm] at hmx
              have HMX0 := Lib.hid hmx
              have HBS := Lib.hid ((Below.refl wr.heap.size wr).alloc (Nat.le_refl _) (.cells #[.bool false, .int .i64 0] 61))
              rw [← hwn] at HBS
              have HBM : Hid (wr.heap.size ≤ bm) := Lib.hid (Nat.le_of_eq ebm.symm)
              rw [← hwn, show wr.heap.size = bm from ebm.symm]
              clear hwn ebm hmx
              go_wp2_with fail
              refine (HRD.out wn (pos + 11) 8 _ 8 HM9.out.below (by omega) (by omega) (by push_cast; rfl) rfl).mono ?_
              rintro e wq ⟨rfl, rfl⟩
              have hye : rdv (pos + 11) 8 L = rv 8 (r3 (L.drop pos)) := by
                rw [HV.out.2.2.2]; unfold rdv rv; rw [List.length_drop]
                by_cases hq : pos + 11 + 8 ≤ L.length
                · rw [if_pos hq, if_pos (by omega)]
                · rw [if_neg hq, if_neg (by have := HL6.out; have := HN.out; omega)]
              obtain ⟨yn, hyn⟩ : ∃ q, rdv (pos + 11) 8 L = q := ⟨_, rfl⟩
              have hyb : yn < 18446744073709551616 := by rw [← hyn]; exact rdv_lt (pos + 11) 8 HSM.out
              rw [hyn]
              rw [hyn] at hye
              have HYE := Lib.hid hye
              clear hye hyn
              have HEM := Lib.hid (getE_mail H11.out (by rw [HV.out.2.2.1]; omega) (by rw [HV.out.2.2.1]; exact hfu))
              by_cases h19 : pos + 11 + 8 ≤ n
              · rw [decide_eq_true h19]
                have HE : Hid (getE (L.drop pos) = some (⟨(vn : Int), (xn : Int), decide (fn % 2 = 1), (true, (yn : Int))⟩, L.drop (pos + 19))) := Lib.hid (by
                  have he := HEM.out
                  rw [HV.out.1, HV.out.2.1, HV.out.2.2.1, ← HYE.out, HV.out.2.2.2] at he
                  rw [he]
                  have r1 : rb 8 (L.drop (pos + 11)) false = false := by unfold rb; rw [List.length_drop, if_pos (by rw [HN.out]; omega)]
                  have r2 : rl 8 (L.drop (pos + 11)) = L.drop (pos + 19) := by unfold rl; rw [List.length_drop, if_pos (by rw [HN.out]; omega), List.drop_drop]
                  rw [r1, r2, if_neg Bool.false_ne_true])
                obtain ⟨m0, m1, _⟩ := ml_cells HMX0.out
                have fzm0 := Lib.frozen_of_heap HMX0.out 0
                have fzm1 := Lib.frozen_of_heap HMX0.out 1
                go_upto_region 23 with fail
                have HMX := Lib.hid (put_ml HMX0.out true (wrap64 (yn : Int)))
                have HM0 := Lib.hid (HH.out.step ((HBS.out.setCell (p := ⟨bm, 0, none⟩) HBM.out (.bool true)).setCell (p := ⟨bm, 1, none⟩) HBM.out (.int .i64 (wrap64 (yn : Int)))))
                obtain ⟨wm, hwm⟩ : ∃ W, W = (wn.setCell ⟨bm, 0, none⟩ (.bool true)).setCell ⟨bm, 1, none⟩ (.int .i64 (wrap64 (yn : Int))) := ⟨_, rfl⟩
                rw [← hwm] at HM0 HMX
                rw [← hwm]
                clear hwm HBS HMX0 HM9 m0 m1 fzm0 fzm1
                obtain ⟨vo, vv, vc, vi, hbb, r1, r2, r3', r4⟩ := HM0.out.bx
                have X1 : Bx4 35 w.heap.size 0 wm wm b8 B #[.int .i64 (sn : Int), vo, vv, vc, vi] vo vv vc vi (ofE (sn : Int) (l.map wrE)) := ⟨hbb, ⟨r1, r2, r3', r4⟩, Below.refl _ _, ⟨by have := HM0.out.ord; omega, by have := HM0.out.ord; omega, HM0.out.below.size, HM0.out.size, rfl⟩, fun _ _ _ => rfl⟩
                have HX1 := Lib.hid X1; have HM1 := Lib.hid HMX.out
                clear X1 hbb r1 r2 r3' r4
                obtain ⟨c0, c1, c2, c3, c4, _⟩ := five HX1.out.box
                have hnn : (ofE (sn : Int) (l.map wrE)).own.length = k := by simp [ofE]; exact HP.out.2
                have hn2 : (ofE (sn : Int) (l.map wrE)).vals.length = k := by simp [ofE]; exact HP.out.2
                have hn3 : (ofE (sn : Int) (l.map wrE)).chg.length = k := by simp [ofE]; exact HP.out.2
                have hn4 : (ofE (sn : Int) (l.map wrE)).inb.length = k := by simp [ofE]; exact HP.out.2
                have HNN := Lib.hid (And.intro hnn (And.intro hn2 (And.intro hn3 hn4)))
                clear hnn hn2 hn3 hn4
                have HA := Lib.hid (HX1.out.alloc (.cells #[.int .i64 (vn : Int)] 3))
                have HN' := Lib.hid (heap_alloc_new wm (.cells #[.int .i64 (vn : Int)] 3))
                have HMA := Lib.hid ((Below.heap_alloc wm (.cells #[.int .i64 (vn : Int)] 3) bm (lt_of_block HM1.out)).trans HM1.out)
                go_wp2_with (at_builtin; refine app_i rfl (.tmp 100) (.tmp 103) rfl B _ _ (vn : Int) rfl HA.out.rows.1 _ rfl HN'.out (Nat.lt_of_le_of_lt (Nat.le_of_eq HNN.out.1) (by omega)) HA.out.lo.2.2.2.1 ?_)
                intro vi' w2 ho2 hg2
                have hx2 := HA.out.appI offR ho2 hg2
                have hm2 := kept_app HMA.out HA.out.rows.1 (by decide) hg2
                obtain ⟨F0, N0, f0, rfl⟩ : ∃ F N f, vi' = .slice F N f := by
                  obtain ⟨F, f, e, _⟩ := IOwn.form ho2
                  exact ⟨F, _, f, e⟩
                have HXt := Lib.hid hx2
                have HMt := Lib.hid hm2
                clear ho2 hg2 hx2 hm2 HX1 HA HN' HM1 HMA c0 c1 c2 c3 c4
                obtain ⟨c0, c1, c2, c3, c4, _⟩ := five HXt.out.box
                have fz : w2.frozen? ⟨b8, 1, none⟩ = false := Lib.frozen_of_heap HXt.out.box _
                obtain ⟨w3, hw3⟩ : ∃ W, W = w2.setCell ⟨b8, 1, none⟩ (.slice F0 N0 f0) := ⟨_, rfl⟩
                have HX2 := Lib.hid (HXt.out.put offR 1 (.slice F0 N0 f0))
                have HM2 := Lib.hid (kept_put (i := 1) (u := .slice F0 N0 f0) HMt.out HXt.out.box (by decide))
                rw [← hw3] at HX2 HM2
                go_upto_region 24 with fail
                rw [← hw3]
                clear hw3 HXt HMt fz c0 c1 c2 c3 c4
                obtain ⟨c0, c1, c2, c3, c4, _⟩ := five HX2.out.box
                have HA := Lib.hid (HX2.out.alloc (.cells #[.int .i64 (wrap64 (xn : Int))] 2))
                have HN' := Lib.hid (heap_alloc_new w3 (.cells #[.int .i64 (wrap64 (xn : Int))] 2))
                have HMA := Lib.hid ((Below.heap_alloc w3 (.cells #[.int .i64 (wrap64 (xn : Int))] 2) bm (lt_of_block HM2.out)).trans HM2.out)
                go_wp2_with (at_builtin; refine app_q rfl (.tmp 107) (.tmp 110) rfl B _ _ (wrap64 (xn : Int)) rfl HA.out.rows.2.1 _ rfl HN'.out (Nat.lt_of_le_of_lt (Nat.le_of_eq HNN.out.2.1) (by omega)) HA.out.lo.2.2.2.1 ?_)
                intro vq' w2 ho2 hg2
                have hx2 := HA.out.appQ offR ho2 hg2
                have hm2 := kept_app HMA.out HA.out.rows.2.1 (by decide) hg2
                obtain ⟨F1, N1, f1, rfl⟩ : ∃ F N f, vq' = .slice F N f := by
                  obtain ⟨F, f, e, _⟩ := Sq.QOwn.form ho2
                  exact ⟨F, _, f, e⟩
                have HXt := Lib.hid hx2
                have HMt := Lib.hid hm2
                clear ho2 hg2 hx2 hm2 HX2 HA HN' HM2 HMA c0 c1 c2 c3 c4
                obtain ⟨c0, c1, c2, c3, c4, _⟩ := five HXt.out.box
                have fz : w2.frozen? ⟨b8, 2, none⟩ = false := Lib.frozen_of_heap HXt.out.box _
                obtain ⟨w5, hw5⟩ : ∃ W, W = w2.setCell ⟨b8, 2, none⟩ (.slice F1 N1 f1) := ⟨_, rfl⟩
                have HX3 := Lib.hid (HXt.out.put offR 2 (.slice F1 N1 f1))
                have HM3 := Lib.hid (kept_put (i := 2) (u := .slice F1 N1 f1) HMt.out HXt.out.box (by decide))
                rw [← hw5] at HX3 HM3
                go_upto_region 25 with fail
                rw [← hw5]
                clear hw5 HXt HMt fz c0 c1 c2 c3 c4
                obtain ⟨c0, c1, c2, c3, c4, _⟩ := five HX3.out.box
                have HA := Lib.hid (HX3.out.alloc (.cells #[.bool cb] 4))
                have HN' := Lib.hid (heap_alloc_new w5 (.cells #[.bool cb] 4))
                have HMA := Lib.hid ((Below.heap_alloc w5 (.cells #[.bool cb] 4) bm (lt_of_block HM3.out)).trans HM3.out)
                go_wp2_with (at_builtin; refine app_b rfl (.tmp 114) (.tmp 118) rfl B _ _ cb rfl HA.out.rows.2.2.1 _ rfl HN'.out (Nat.lt_of_le_of_lt (Nat.le_of_eq HNN.out.2.2.1) (by omega)) HA.out.lo.2.2.2.1 ?_)
                intro vb' w2 ho2 hg2
                have hx2 := HA.out.appB offR ho2 hg2
                have hm2 := kept_app HMA.out HA.out.rows.2.2.1 (by decide) hg2
                obtain ⟨F2, N2, f2, rfl⟩ : ∃ F N f, vb' = .slice F N f := by
                  obtain ⟨F, f, e, _⟩ := Sq.BOwn.form ho2
                  exact ⟨F, _, f, e⟩
                have HXt := Lib.hid hx2
                have HMt := Lib.hid hm2
                clear ho2 hg2 hx2 hm2 HX3 HA HN' HM3 HMA c0 c1 c2 c3 c4
                obtain ⟨c0, c1, c2, c3, c4, _⟩ := five HXt.out.box
                have fz : w2.frozen? ⟨b8, 3, none⟩ = false := Lib.frozen_of_heap HXt.out.box _
                obtain ⟨w7, hw7⟩ : ∃ W, W = w2.setCell ⟨b8, 3, none⟩ (.slice F2 N2 f2) := ⟨_, rfl⟩
                have HX4 := Lib.hid (HXt.out.put offR 3 (.slice F2 N2 f2))
                have HM4 := Lib.hid (kept_put (i := 3) (u := .slice F2 N2 f2) HMt.out HXt.out.box (by decide))
                rw [← hw7] at HX4 HM4
                go_upto_region 26 with fail
                rw [← hw7]
                clear hw7 HXt HMt fz c0 c1 c2 c3 c4
                obtain ⟨c0, c1, c2, c3, c4, _⟩ := five HX4.out.box
                obtain ⟨m0, m1, _⟩ := ml_cells HM4.out
                have HA := Lib.hid (HX4.out.alloc (.cells #[.bool true, .int .i64 (wrap64 (yn : Int))] 61))
                have HN' := Lib.hid (heap_alloc_new w7 (.cells #[.bool true, .int .i64 (wrap64 (yn : Int))] 61))
                go_wp2_with (at_builtin; refine app_k rfl (.tmp 122) (.tmp 124) rfl B _ _ true (wrap64 (yn : Int)) rfl HA.out.rows.2.2.2 _ rfl HN'.out (Nat.lt_of_le_of_lt (Nat.le_of_eq HNN.out.2.2.2) (by omega)) HA.out.lo.2.2.2.1 ?_)
                intro vi' w9 ho9 hg9
                have hx9 := HA.out.appK offR ho9 hg9
                obtain ⟨F3, N3, f3', rfl⟩ : ∃ F N f, vi' = .slice F N f := by
                  obtain ⟨F, f, e, _⟩ := KOwn.room ho9
                  exact ⟨F, _, f, e⟩
                have HX9 := Lib.hid hx9
                have hx10 := HX9.out.put offR 4 (.slice F3 N3 f3')
                have HH10 : Hid (RgH w (w9.setCell ⟨b8, 4, none⟩ (.slice F3 N3 f3')) b2 b8 B (ofE (sn : Int) ((l ++ ([⟨(vn : Int), (xn : Int), decide (fn % 2 = 1), (true, (yn : Int))⟩] : List En)).map wrE))) := Lib.hid (by
                  have hk := hx10.kept
                  refine ⟨HM0.out.below.trans hx10.below, (hk b2 (by have := HM0.out.ord; omega) (by have := HM0.out.ord; omega)).trans HM0.out.rbox, ?_, hx10.lo.2.2.2.1, HM0.out.ord⟩
                  have e : ofE (sn : Int) ((l ++ ([⟨(vn : Int), (xn : Int), decide (fn % 2 = 1), (true, (yn : Int))⟩] : List En)).map wrE) = ⟨(sn : Int), (ofE (sn : Int) (l.map wrE)).own ++ [(vn : Int)], (ofE (sn : Int) (l.map wrE)).vals ++ [wrap64 (xn : Int)], (ofE (sn : Int) (l.map wrE)).chg ++ [cb], (ofE (sn : Int) (l.map wrE)).inb ++ [(true, (wrap64 (yn : Int)))]⟩ := by
                    rw [wrap_wI xn hxb, wrap_wI yn hyb]
                    unfold ofE wrE
                    simp [HCB.out]
                  rw [e]
                  exact ⟨_, _, _, _, hx10.box, hx10.rows.1, hx10.rows.2.1, hx10.rows.2.2.1, hx10.rows.2.2.2⟩)
                clear ho9 hg9 hx9 hx10 HA HN' HX4 HM4 c0 c1 c2 c3 c4 m0 m1
                have fz : w9.frozen? ⟨b8, 4, none⟩ = false := Lib.frozen_of_heap HX9.out.box _
                obtain ⟨c0, c1, c2, c3, c4, _⟩ := five HX9.out.box
                go_wp2_with fail
                go_roundg (gk - 1)
                case measure => omega
                case rel => exact ⟨k + 1, pos + 19, _, by omega, by go_num, by go_num, HH10, Lib.hid ⟨HSOME.out _ _ HE.out, by rw [List.length_append, HP.out.2]; rfl⟩, by rw [HN.out]; omega⟩
              · rw [decide_eq_false h19]
                have HGN : Hid (getP L = none) := Lib.hid (HNONE.out (by
                  have r1 : rb 8 (L.drop (pos + 11)) false = true := by unfold rb; rw [List.length_drop, if_neg (by rw [HN.out]; omega)]
                  rw [HEM.out, HV.out.2.2.2, r1, if_pos rfl]))
                obtain ⟨hz, hfin⟩ := HERR.out wn HM9.out.below HM9.out.rbox HGN.out
                have HZZ := Lib.hid hz; have HFN := Lib.hid hfin
                obtain ⟨p0, p1, p2, p3, p4, _⟩ := five HM9.out.rbox
                have fz0 := Lib.frozen_of_heap HM9.out.rbox 0
                have fz1 := Lib.frozen_of_heap HM9.out.rbox 1
                have fz2 := Lib.frozen_of_heap HM9.out.rbox 2
                have fz3 := Lib.frozen_of_heap HM9.out.rbox 3
                have fz4 := Lib.frozen_of_heap HM9.out.rbox 4
                clear hz hfin
                go_wp2_with fail
                exact bodyPost_ret (v := .tuple #[.agg #[.int .i64 0, .slice none 0 0, .slice none 0 0, .slice none 0 0, .slice none 0 0], .int .i64 140]) (res2_r _ 2 3 _ _ b2 _ _ _ _ _ _ rfl rfl rfl HZZ.out) rfl (HFN.out _ rfl)
        · have HGN : Hid (getP L = none) := Lib.hid (HNONE.out (getE_few (by rw [HLN.out]; omega)))
          obtain ⟨g1, hg1⟩ : ∃ q, rdv pos 2 L = q := ⟨_, rfl⟩
          obtain ⟨g2, hg2⟩ : ∃ q, rdv (pos + 2) 8 L = q := ⟨_, rfl⟩
          obtain ⟨g3, hg3⟩ : ∃ q, rdv (pos + 10) 1 L = q := ⟨_, rfl⟩
          obtain ⟨d1, hd1⟩ : ∃ q, decide (pos + 2 ≤ n) = q := ⟨_, rfl⟩
          obtain ⟨d2, hd2⟩ : ∃ q, decide (pos + 2 + 8 ≤ n) = q := ⟨_, rfl⟩
          have hd3 : decide (pos + 10 + 1 ≤ n) = false := decide_eq_false (by omega)
          have b1 : g1 < 65536 := by rw [← hg1]; exact rdv_lt pos 2 HSM.out
          have b2' : g2 < 18446744073709551616 := by rw [← hg2]; exact rdv_lt (pos + 2) 8 HSM.out
          have b3 : g3 < 256 := by rw [← hg3]; exact rdv_lt (pos + 10) 1 HSM.out
          have HG1 := Lib.hid hg1; have HG2' := Lib.hid hg2; have HG3 := Lib.hid hg3
          have HD1 := Lib.hid hd1; have HD2 := Lib.hid hd2; have HD3 := Lib.hid hd3
          clear hg1 hg2 hg3 hd1 hd2 hd3
          go_wp2_with fail
          refine (HRD.out wr pos 2 _ 2 HH.out.below (by omega) (by omega) rfl rfl).mono ?_
          rintro e wq ⟨rfl, rfl⟩
          rw [HG1.out, HD1.out]
          go_wp2_with fail
          refine (HRD.out wr (pos + 2) 8 _ 8 HH.out.below (by omega) (by omega) (by push_cast; rfl) rfl).mono ?_
          rintro e wq ⟨rfl, rfl⟩
          rw [HG2'.out, HD2.out]
          go_wp2_with fail
          refine (HRD.out wr (pos + 10) 1 _ 1 HH.out.below (by omega) (by omega) (by push_cast; rfl) rfl).mono ?_
          rintro e wq ⟨rfl, rfl⟩
          rw [HG3.out, HD3.out]
          have HD : Hid (d1 = d1) := Lib.hid rfl
          cases d1 <;> cases d2
          · obtain ⟨hz, hfin⟩ := HERR.out wr HH.out.below HH.out.rbox HGN.out
            have HZZ := Lib.hid hz; have HFN := Lib.hid hfin
            obtain ⟨p0, p1, p2, p3, p4, _⟩ := five HH.out.rbox
            have fz0 := Lib.frozen_of_heap HH.out.rbox 0
            have fz1 := Lib.frozen_of_heap HH.out.rbox 1
            have fz2 := Lib.frozen_of_heap HH.out.rbox 2
            have fz3 := Lib.frozen_of_heap HH.out.rbox 3
            have fz4 := Lib.frozen_of_heap HH.out.rbox 4
            clear hz hfin
            go_wp2_with fail
            exact bodyPost_ret (v := .tuple #[.agg #[.int .i64 0, .slice none 0 0, .slice none 0 0, .slice none 0 0, .slice none 0 0], .int .i64 140]) (res2_r _ 2 3 _ _ b2 _ _ _ _ _ _ rfl rfl rfl HZZ.out) rfl (HFN.out _ rfl)
          · obtain ⟨hz, hfin⟩ := HERR.out wr HH.out.below HH.out.rbox HGN.out
            have HZZ := Lib.hid hz; have HFN := Lib.hid hfin
            obtain ⟨p0, p1, p2, p3, p4, _⟩ := five HH.out.rbox
            have fz0 := Lib.frozen_of_heap HH.out.rbox 0
            have fz1 := Lib.frozen_of_heap HH.out.rbox 1
            have fz2 := Lib.frozen_of_heap HH.out.rbox 2
            have fz3 := Lib.frozen_of_heap HH.out.rbox 3
            have fz4 := Lib.frozen_of_heap HH.out.rbox 4
            clear hz hfin
            go_wp2_with fail
            exact bodyPost_ret (v := .tuple #[.agg #[.int .i64 0, .slice none 0 0, .slice none 0 0, .slice none 0 0, .slice none 0 0], .int .i64 140]) (res2_r _ 2 3 _ _ b2 _ _ _ _ _ _ rfl rfl rfl HZZ.out) rfl (HFN.out _ rfl)
          · obtain ⟨hz, hfin⟩ := HERR.out wr HH.out.below HH.out.rbox HGN.out
            have HZZ := Lib.hid hz; have HFN := Lib.hid hfin
            obtain ⟨p0, p1, p2, p3, p4, _⟩ := five HH.out.rbox
            have fz0 := Lib.frozen_of_heap HH.out.rbox 0
            have fz1 := Lib.frozen_of_heap HH.out.rbox 1
            have fz2 := Lib.frozen_of_heap HH.out.rbox 2
            have fz3 := Lib.frozen_of_heap HH.out.rbox 3
            have fz4 := Lib.frozen_of_heap HH.out.rbox 4
            clear hz hfin
            go_wp2_with fail
            exact bodyPost_ret (v := .tuple #[.agg #[.int .i64 0, .slice none 0 0, .slice none 0 0, .slice none 0 0, .slice none 0 0], .int .i64 140]) (res2_r _ 2 3 _ _ b2 _ _ _ _ _ _ rfl rfl rfl HZZ.out) rfl (HFN.out _ rfl)
          · obtain ⟨hz, hfin⟩ := HERR.out wr HH.out.below HH.out.rbox HGN.out
            have HZZ := Lib.hid hz; have HFN := Lib.hid hfin
            obtain ⟨p0, p1, p2, p3, p4, _⟩ := five HH.out.rbox
            have fz0 := Lib.frozen_of_heap HH.out.rbox 0
            have fz1 := Lib.frozen_of_heap HH.out.rbox 1
            have fz2 := Lib.frozen_of_heap HH.out.rbox 2
            have fz3 := Lib.frozen_of_heap HH.out.rbox 3
            have fz4 := Lib.frozen_of_heap HH.out.rbox 4
            clear hz hfin
            go_wp2_with fail
            exact bodyPost_ret (v := .tuple #[.agg #[.int .i64 0, .slice none 0 0, .slice none 0 0, .slice none 0 0, .slice none 0 0], .int .i64 140]) (res2_r _ 2 3 _ _ b2 _ _ _ _ _ _ rfl rfl rfl HZZ.out) rfl (HFN.out _ rfl)
      · have hkc : k = cn := by omega
        have HKC := Lib.hid hkc
        by_cases hpe : pos = n
        · have HRE : Hid (L.drop pos = []) := Lib.hid (List.drop_eq_nil_of_le (by rw [HN.out]; omega))
          obtain ⟨vo, vv, vc, vi, hbx, q1, q2, q3, q4⟩ := HH.out.bx
          obtain ⟨M, hM⟩ : ∃ M, l.map wrE = M := ⟨_, rfl⟩
          rw [hM] at hbx q1 q2 q3 q4
          have HM := Lib.hid hM
          obtain ⟨F0, f0, e0, i0⟩ := IOwn.form q1
          obtain ⟨F1, f1, e1, i1⟩ := Sq.QOwn.form q2
          obtain ⟨F2, f2, e2, i2⟩ := Sq.BOwn.form q3
          obtain ⟨F3, f3', e3, i3, _⟩ := KOwn.room q4
          obtain ⟨mm, hmm⟩ : ∃ mm, M.length = mm := ⟨_, rfl⟩
          have l0 : (ofE (sn : Int) M).own.length = mm := by rw [← hmm]; simp [ofE]
          have l1 : (ofE (sn : Int) M).vals.length = mm := by rw [← hmm]; simp [ofE]
          have l2 : (ofE (sn : Int) M).chg.length = mm := by rw [← hmm]; simp [ofE]
          have l3 : (ofE (sn : Int) M).inb.length = mm := by rw [← hmm]; simp [ofE]
          rw [l0] at e0; rw [l1] at e1; rw [l2] at e2; rw [l3] at e3
          subst e0 e1 e2 e3
          have hmb : mm ≤ 65535 := by have := HP.out.2; rw [← hmm, ← hM, List.length_map]; omega
          have hbx' : wr.heap[b8]? = some (.cells #[.int .i64 (sn : Int), .slice F0 mm f0, .slice F1 mm f1, .slice F2 mm f2, .slice F3 mm f3'] 35 (0, 0)) := hbx
          have HRt : Hid (Calls Try.prog 15 #[.agg #[.int .i64 (sn : Int), .slice F0 mm f0, .slice F1 mm f1, .slice F2 mm f2, .slice F3 mm f3']] wr fun e w' => e = .returned (.bool (decide (Rgt (ofE (sn : Int) M)))) ∧ Hid (Below wr.heap.size wr w')) := Lib.hid (rright_any (ofE (sn : Int) M) F0 F1 F2 F3 mm mm mm mm f0 f1 f2 f3' wr ⟨i0, i1, i2, i3, l0, l1, l2, l3⟩ (by omega) (by omega) (by omega) (by omega))
          have HPO : Hid (POwn wr w.heap.size (.agg #[.int .i64 (sn : Int), .slice F0 mm f0, .slice F1 mm f1, .slice F2 mm f2, .slice F3 mm f3']) (ofE (sn : Int) M)) := Lib.hid (by
            have h5 : w.heap.size ≤ B := by have := HH.out.ord; omega
            exact ⟨_, _, _, _, rfl, own_mono q1 h5, own_mono q2 h5, own_mono q3 h5, q4.mono h5⟩)
          obtain ⟨rr, hrr⟩ : ∃ rr, decide (Rgt (ofE (sn : Int) M)) = rr := ⟨_, rfl⟩
          rw [hrr] at HRt
          have HRR := Lib.hid hrr
          have HX5 := Lib.hid hbx'
          have HANS : Hid (getP L = if rr = true then some (ofE (sn : Int) M) else none) := Lib.hid (by
            have hg := HP.out.1
            rw [HRE.out] at hg
            have hcc : num ((L.drop 4).take 2) = k := by rw [← HST.out.2, HKC.out]
            have h1 := getP_of HL6.out (l := l) (by rw [hcc]; exact hg)
            obtain ⟨_, _, hfit, hnr⟩ := getN_back k _ _ _ (fun x hx => HSM.out x (List.mem_of_mem_drop hx)) hg
            rw [h1, ← HST.out.1]
            have hiff := rgt_wr (st := (sn : Int)) hfit
            rw [HM.out] at hiff
            cases hr2 : rr with
            | true =>
              have h3 : Rgt (ofE (sn : Int) M) := of_decide_eq_true (by rw [HRR.out]; exact hr2)
              have h4 := hiff.1 h3
              rw [if_pos h4, if_pos rfl]
              have h5 := wr_same h4 hnr
              rw [HM.out] at h5
              rw [h5]
            | false =>
              have h3 : ¬ Rgt (ofE (sn : Int) M) := of_decide_eq_false (by rw [HRR.out]; exact hr2)
              rw [if_neg fun h => h3 (hiff.2 h), if_neg (by decide)])
          obtain ⟨x0, x1, x2, x3, x4, _⟩ := five hbx'
          clear hbx hbx' q1 q2 q3 q4 i0 i1 i2 i3 l0 l1 l2 l3 hrr hmm hM
          go_wp2_with fail
          refine HRt.out.mono ?_
          rintro e w9 ⟨rfl, hb9⟩
          clear HRt x0 x1 x2 x3 x4
          have HB9 := Lib.hid (step_below HH.out.below HH.out.below.size hb9.out)
          have HX9 := Lib.hid (keep HX5.out hb9.out)
          have HZ9 := Lib.hid (keep HH.out.rbox hb9.out)
          have HPO9 := Lib.hid (HPO.out.below hb9.out)
          clear hb9
          cases rr with
          | false =>
            have HGN : Hid (getP L = none) := Lib.hid (by rw [HANS.out]; rfl)
            obtain ⟨hz, hfin⟩ := HERR.out w9 HB9.out HZ9.out HGN.out
            have HZZ := Lib.hid hz; have HFN := Lib.hid hfin
            obtain ⟨p0, p1, p2, p3, p4, _⟩ := five HZ9.out
            have fz0 := Lib.frozen_of_heap HZ9.out 0
            have fz1 := Lib.frozen_of_heap HZ9.out 1
            have fz2 := Lib.frozen_of_heap HZ9.out 2
            have fz3 := Lib.frozen_of_heap HZ9.out 3
            have fz4 := Lib.frozen_of_heap HZ9.out 4
            clear hz hfin
            go_wp2_with fail
            exact bodyPost_ret (v := .tuple #[.agg #[.int .i64 0, .slice none 0 0, .slice none 0 0, .slice none 0 0, .slice none 0 0], .int .i64 140]) (res2_r _ 2 3 _ _ b2 _ _ _ _ _ _ rfl rfl rfl HZZ.out) rfl (HFN.out _ rfl)
          | true =>
            have HAN : Hid (getR L = (ofE (sn : Int) M, 0)) := Lib.hid (getR_yes (by rw [HANS.out]; rfl))
            obtain ⟨x0, x1, x2, x3, x4, _⟩ := five HX9.out
            obtain ⟨p0, p1, p2, p3, p4, _⟩ := five HZ9.out
            have fz0 := Lib.frozen_of_heap HZ9.out 0
            have fz1 := Lib.frozen_of_heap HZ9.out 1
            have fz2 := Lib.frozen_of_heap HZ9.out 2
            have fz3 := Lib.frozen_of_heap HZ9.out 3
            have fz4 := Lib.frozen_of_heap HZ9.out 4
            have HPW : Hid (POwn (put5 w9 b2 (.int .i64 (sn : Int)) (.slice F0 mm f0) (.slice F1 mm f1) (.slice F2 mm f2) (.slice F3 mm f3')) w.heap.size (.agg #[.int .i64 (sn : Int), .slice F0 mm f0, .slice F1 mm f1, .slice F2 mm f2, .slice F3 mm f3']) (ofE (sn : Int) M) ∧ (put5 w9 b2 (.int .i64 (sn : Int)) (.slice F0 mm f0) (.slice F1 mm f1) (.slice F2 mm f2) (.slice F3 mm f3')).heap[b2]? = some (.cells #[.int .i64 (sn : Int), .slice F0 mm f0, .slice F1 mm f1, .slice F2 mm f2, .slice F3 mm f3'] 35 (0, 0)) ∧ Below w.heap.size w (put5 w9 b2 (.int .i64 (sn : Int)) (.slice F0 mm f0) (.slice F1 mm f1) (.slice F2 mm f2) (.slice F3 mm f3'))) := Lib.hid
              ⟨put5_rows HPO9.out HZ9.out offR _ _ _ _ _, put5_heap HZ9.out _ _ _ _ _, put5_below HB9.out HG2.out.1 _ _ _ _ _⟩
            go_wp2_with fail
            refine bodyPost_ret (v := .tuple #[.agg #[.int .i64 (sn : Int), .slice F0 mm f0, .slice F1 mm f1, .slice F2 mm f2, .slice F3 mm f3'], .int .i64 0]) (res2_r _ 2 3 _ _ b2 _ _ _ _ _ _ rfl rfl rfl HPW.out.2.1) rfl ?_
            rw [HAN.out]
            exact ⟨_, rfl, Lib.hid HPW.out.1, Lib.hid HPW.out.2.2⟩
        · have HGN : Hid (getP L = none) := Lib.hid (by
            have hcc : num ((L.drop 4).take 2) = k := by rw [← HST.out.2, HKC.out]
            cases hr : L.drop pos with
            | nil => have := congrArg List.length hr; rw [List.length_drop, HN.out] at this; simp at this; omega
            | cons x r' => exact getP_rest (l := l) (x := x) (r := r') (by rw [hcc, HP.out.1, hr]))
          obtain ⟨hz, hfin⟩ := HERR.out wr HH.out.below HH.out.rbox HGN.out
          have HZZ := Lib.hid hz; have HFN := Lib.hid hfin
          obtain ⟨p0, p1, p2, p3, p4, _⟩ := five HH.out.rbox
          have fz0 := Lib.frozen_of_heap HH.out.rbox 0
          have fz1 := Lib.frozen_of_heap HH.out.rbox 1
          have fz2 := Lib.frozen_of_heap HH.out.rbox 2
          have fz3 := Lib.frozen_of_heap HH.out.rbox 3
          have fz4 := Lib.frozen_of_heap HH.out.rbox 4
          clear hz hfin
          go_wp2_with fail
          exact bodyPost_ret (v := .tuple #[.agg #[.int .i64 0, .slice none 0 0, .slice none 0 0, .slice none 0 0, .slice none 0 0], .int .i64 140]) (res2_r _ 2 3 _ _ b2 _ _ _ _ _ _ rfl rfl rfl HZZ.out) rfl (HFN.out _ rfl)
  · have HGN : Hid (getP L = none) := Lib.hid (getP_few (by rw [HN.out]; omega))
    rw [show decide (4 + 2 ≤ n) = false from decide_eq_false (by omega)]
    obtain ⟨d1, hd1⟩ : ∃ q, decide (4 ≤ n) = q := ⟨_, rfl⟩
    rw [hd1]
    clear hd1
    cases d1
    · obtain ⟨hz, hfin⟩ := HERR.out W1 HB1.out HX1.out HGN.out
      have HZZ := Lib.hid hz; have HFN := Lib.hid hfin
      obtain ⟨p0, p1, p2, p3, p4, _⟩ := five HX1.out
      have fz0 := Lib.frozen_of_heap HX1.out 0
      have fz1 := Lib.frozen_of_heap HX1.out 1
      have fz2 := Lib.frozen_of_heap HX1.out 2
      have fz3 := Lib.frozen_of_heap HX1.out 3
      have fz4 := Lib.frozen_of_heap HX1.out 4
      clear hz hfin
      go_wp2_with fail
      exact bodyPost_ret (v := .tuple #[.agg #[.int .i64 0, .slice none 0 0, .slice none 0 0, .slice none 0 0, .slice none 0 0], .int .i64 140]) (res2_r _ 2 3 _ _ b2 _ _ _ _ _ _ rfl rfl rfl HZZ.out) rfl (HFN.out _ rfl)
    · obtain ⟨hz, hfin⟩ := HERR.out W1 HB1.out HX1.out HGN.out
      have HZZ := Lib.hid hz; have HFN := Lib.hid hfin
      obtain ⟨p0, p1, p2, p3, p4, _⟩ := five HX1.out
      have fz0 := Lib.frozen_of_heap HX1.out 0
      have fz1 := Lib.frozen_of_heap HX1.out 1
      have fz2 := Lib.frozen_of_heap HX1.out 2
      have fz3 := Lib.frozen_of_heap HX1.out 3
      have fz4 := Lib.frozen_of_heap HX1.out 4
      clear hz hfin
      go_wp2_with fail
      exact bodyPost_ret (v := .tuple #[.agg #[.int .i64 0, .slice none 0 0, .slice none 0 0, .slice none 0 0, .slice none 0 0], .int .i64 140]) (res2_r _ 2 3 _ _ b2 _ _ _ _ _ _ rfl rfl rfl HZZ.out) rfl (HFN.out _ rfl)
end Go.Proofs.Ytfbfckdabbaocaa.St
