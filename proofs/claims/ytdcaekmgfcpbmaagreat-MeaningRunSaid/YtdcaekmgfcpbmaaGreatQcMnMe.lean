/-
  What is proved here: contracts of what meaning.Means asks: what a job of Label or Paths comes to; and of Means itself where a state has just that, of Paths. Conditions: at most 100000 edges; a graph that may be has at most 40 vertices.
-/
import Derived.Test.YtdcaekmgfcpbmaaGreatQcMnRlx
import Derived.Test.YtdcaekmgfcpbmaaGreatQcSqEq
import Derived.Test.YtdcaekmgfcpbmaaGreatQcAlP5
namespace Go.Proofs.YtdcaekmgfcpbmaaGreat.Mn
open Go.RowKit Gr Wd Ws Fx Rk Lb Al
open Pa (vl bt vl_of vl_at bt_of bt_at Fits fits_of fr far)
theorem headX_un {P : Program} {md : Region.Mode} {S : World → Prop} {Q : Exit → Act → World → Prop} {n p g : Nat} {r : List Oper} {oi : Oper} {f : Nat} {listed : Array Bool} {a : Act} {w : World} (i : Nat) (hi : r[i]? = some oi) (hg : (Region.sinkB md r.toArray n && Tl.chainX md r.toArray n p && decide (n < r.toArray.size)) = true) (hin : i < n)
    (hsel : Region.noSelect r.toArray = true) (hf : Region.free md r.toArray listed i = true) (hr : (Region.ready md r.toArray listed).contains i = true)
    (hQ : ∀ c a w, Q (.panic c) (a.put oi.dst undef) w → Q (.panic c) a w) (hw : Region.wanted oi (yielded r.toArray a.tmps) = false) (hS : S w)
    (h : Tl.headX P md r.toArray Q S n p g f (listed.setIfInBounds i true) (a.put oi.dst undef) w) : Tl.headX P md r.toArray Q S n p g (f + 1) listed a w :=
  Tl.headX_take hg (by simpa using hi) hin hsel hf hr hQ (Or.inr ⟨hw, rfl⟩) hS h
def Mt (k so V : Int) (L : List Ed) (l : List Int) : Prop := (k = 2 ∧ LabC V.toNat L l) ∨ (k = 3 ∧ l = far V.toNat so.toNat L)
theorem Mt.one {k so V : Int} {L : List Ed} {a b : List Int} (ha : Mt k so V L a) (hb : Mt k so V L b) : a = b := by
  rcases ha with ⟨h1, h2⟩ | ⟨h1, h2⟩ <;> rcases hb with ⟨h3, h4⟩ | ⟨h3, h4⟩
  · exact h2.one h4
  · omega
  · omega
  · rw [h2, h4]
set_option maxRecDepth 100000 in
set_option maxHeartbeats 1000000 in
theorem meant_any (k st so dm ep V : Int) (A : Option Addr) (n c : Nat) (L : List Ed) (w : World) (hL : EAt w A L) (hn : L.length = n) (hm : n ≤ 100000) (hV40 : V ≤ 40) (hc : chkJ k st so dm ep V L = 0) (hk : k ≠ 1) :
    Calls Tryz.prog 41 #[.agg #[.int .i64 V, .slice A n c], .agg #[.int .u8 k, .int .i64 st, .int .i64 so, .int .i64 dm, .int .i64 ep]] w fun e w' => ∃ v l, e = .returned v ∧ Hid (Mt k so V L l ∧ NOwn w' 2 w.heap.size v l ∧ Below w.heap.size w w') := by
  have mixed := mixedP
  have hcc := hc
  unfold chkJ at hc
  split at hc
  · rename_i hz
    split at hc
    · rename_i hj
      obtain ⟨Vn, rfl, hV0, hV⟩ := chk_v hz
      have HL := Lib.hid hL; have HN := Lib.hid hn; have HZ := Lib.hid hz
      obtain ⟨W3, hW3⟩ : ∃ W3, W3 = (w.alloc (.cells #[.int .i64 (Vn : Int), .slice A n c] 24)).alloc (.cells #[.int .u8 k, .int .i64 st, .int .i64 so, .int .i64 dm, .int .i64 ep] 40) := ⟨_, rfl⟩
      have hal := al2 w (.cells #[.int .i64 (Vn : Int), .slice A n c] 24) (.cells #[.int .u8 k, .int .i64 st, .int .i64 so, .int .i64 dm, .int .i64 ep] 40)
      rw [← hW3] at hal
      obtain ⟨n0, e0⟩ : ∃ n0, n0 = w.heap.size := ⟨_, rfl⟩
      have HG : Hid (W3.heap[n0]? = some (.cells #[.int .i64 (Vn : Int), .slice A n c] 24 (0, 0))) := Lib.hid (by rw [e0]; exact hal.1)
      have HJ : Hid (W3.heap[n0 + 1]? = some (.cells #[.int .u8 k, .int .i64 st, .int .i64 so, .int .i64 dm, .int .i64 ep] 40 (0, 0))) := Lib.hid (by rw [e0]; exact hal.2.1)
      have HB := Lib.hid hal.2.2
      clear hal hL hn hz
      obtain ⟨g0, g1, _⟩ := two_cells HG.out
      obtain ⟨j0, j1, j2, j3, j4, _⟩ := jb_cells HJ.out
      by_cases hk2 : k = 2
      · subst hk2
        have HC := Lib.hid (labels_any Vn A n c L W3 (HL.out.below HB.out) HN.out hm hV hV0 HZ.out)
        go_enter Tryz.func41, Tryz.ntmps41
        go_upto_region 1 with fail
        rw [← hW3, show w.heap.size = n0 from e0.symm]
        clear hW3 e0
        go_wp2_with fail
        refine HC.out.mono ?_
        rintro e w4 ⟨v, l, rfl, h4⟩
        go_wp2
        go_ret
        exact ⟨v, l, rfl, Lib.hid ⟨Or.inl ⟨rfl, by rw [show (Vn : Int).toNat = Vn by simp]; exact h4.out.1⟩, h4.out.2.1.mono HB.out.size, step_below HB.out HB.out.size h4.out.2.2⟩⟩
      · have hj3 : k = 3 ∧ 0 ≤ so ∧ so < (Vn : Int) := by
          unfold jobOk at hj
          rw [if_neg hk, if_neg hk2] at hj
          by_cases h3 : k = 3
          · rw [if_pos h3] at hj
            simp only [Bool.and_eq_true, decide_eq_true_eq] at hj
            exact ⟨h3, hj.2.1.1.1, hj.2.1.1.2⟩
          · rw [if_neg h3] at hj; simp at hj
        obtain ⟨rfl, hs0, hs1⟩ := hj3
        obtain ⟨sn, rfl⟩ : ∃ sn : Nat, so = (sn : Int) := ⟨so.toNat, by omega⟩
        have HC := Lib.hid (distances_any Vn sn A n c L W3 (HL.out.below HB.out) HN.out hm (by omega) (by omega) HZ.out)
        clear hj hcc hk hk2
        go_enter Tryz.func41, Tryz.ntmps41
        go_upto_region 1 with fail
        rw [← hW3, show w.heap.size = n0 from e0.symm]
        clear hW3 e0
        go_wp2_with fail
        refine HC.out.mono ?_
        rintro e w4 ⟨g, cp, rfl, h4⟩
        go_wp2
        go_ret
        exact ⟨_, far Vn sn L, rfl, Lib.hid ⟨Or.inr ⟨rfl, by simp⟩, h4.out.1.mono HB.out.size, step_below HB.out HB.out.size h4.out.2⟩⟩
    · omega
  · rename_i h; exact absurd hc h
set_option maxRecDepth 100000 in
set_option maxHeartbeats 2000000 in
theorem Means_yes (k st so dm ep V p su mo : Int) (A Av Ac Ai : Option Addr) (n c nv cv nc cc ni ci : Nat) (L : List Ed) (l : List Int) (w : World) (hL : EAt w A L) (hn : L.length = n) (hm : n ≤ 100000) (hV40 : V ≤ 40) (hc : chkJ k st so dm ep V L = 0) (hk : k ≠ 1) (hp0 : 0 ≤ p) (hp1 : p ≤ st)
    (hA : IAt w Av l) (hnv : l.length = nv) (hnv1 : nv ≤ 100000) (hl : Mt k so V L l) :
    Calls Tryz.prog 18 #[.agg #[.int .i64 V, .slice A n c], .agg #[.int .u8 k, .int .i64 st, .int .i64 so, .int .i64 dm, .int .i64 ep], .agg #[.int .i64 p, .slice Av nv cv, .slice Ac nc cc, .slice Ai ni ci, .int .i64 su, .int .i64 mo]] w fun e w' => e = .returned (.bool true) ∧ Below w.heap.size w w' := by
  have mixed := mixedP
  obtain ⟨W3, hW3⟩ : ∃ W3, W3 = ((w.alloc (.cells #[.int .i64 V, .slice A n c] 24)).alloc (.cells #[.int .u8 k, .int .i64 st, .int .i64 so, .int .i64 dm, .int .i64 ep] 40)).alloc (.cells #[.int .i64 p, .slice Av nv cv, .slice Ac nc cc, .slice Ai ni ci, .int .i64 su, .int .i64 mo] 45) := ⟨_, rfl⟩
  have hal := al3 w (.cells #[.int .i64 V, .slice A n c] 24) (.cells #[.int .u8 k, .int .i64 st, .int .i64 so, .int .i64 dm, .int .i64 ep] 40) (.cells #[.int .i64 p, .slice Av nv cv, .slice Ac nc cc, .slice Ai ni ci, .int .i64 su, .int .i64 mo] 45)
  rw [← hW3] at hal
  obtain ⟨n0, e0⟩ : ∃ n0, n0 = w.heap.size := ⟨_, rfl⟩
  have HG : Hid (W3.heap[n0]? = some (.cells #[.int .i64 V, .slice A n c] 24 (0, 0))) := Lib.hid (by rw [e0]; exact hal.1)
  have HJ : Hid (W3.heap[n0 + 1]? = some (.cells #[.int .u8 k, .int .i64 st, .int .i64 so, .int .i64 dm, .int .i64 ep] 40 (0, 0))) := Lib.hid (by rw [e0]; exact hal.2.1)
  have HR : Hid (W3.heap[n0 + 1 + 1]? = some (.cells #[.int .i64 p, .slice Av nv cv, .slice Ac nc cc, .slice Ai ni ci, .int .i64 su, .int .i64 mo] 45 (0, 0))) := Lib.hid (by rw [e0]; exact hal.2.2.1)
  have HB := Lib.hid hal.2.2.2
  have HL := Lib.hid hL; have HN := Lib.hid hn; have HA := Lib.hid hA; have HNV := Lib.hid hnv; have HMT := Lib.hid hl; have HCJ := Lib.hid hc
  clear hal hL hn hA hnv hl hc
  obtain ⟨g0, g1, _⟩ := two_cells HG.out
  obtain ⟨j0, j1, j2, j3, j4, _⟩ := jb_cells HJ.out
  have HC : Hid (Calls Tryz.prog 16 #[.agg #[.int .i64 V, .slice A n c], .agg #[.int .u8 k, .int .i64 st, .int .i64 so, .int .i64 dm, .int .i64 ep]] W3 fun e w' => e = .returned (.int .i64 0) ∧ Below W3.heap.size W3 w') := Lib.hid (by
    have h := checkj_any k st so dm ep V A c L W3 (HL.out.below HB.out) (by rw [HN.out]; omega)
    rw [HN.out, HCJ.out] at h; exact h)
  have hk1 : (k = 1) = False := by simp [hk]
  go_enter Tryz.func18, Tryz.ntmps18
  go_upto_region 1 with fail
  rw [← hW3, show w.heap.size = n0 from e0.symm]
  clear hW3 e0
  go_wp2_with fail
  refine HC.out.mono ?_
  rintro e w4 ⟨rfl, hb4⟩
  have HG4 := Lib.hid (keepB HG.out hb4); have HJ4 := Lib.hid (keepB HJ.out hb4); have HR4 := Lib.hid (keepB HR.out hb4)
  have HB4 := Lib.hid (step_below HB.out HB.out.size hb4)
  clear hb4 g0 g1 j0 j1 j2 j3 j4 HG HJ HR HB HC
  obtain ⟨j0, j1, j2, j3, j4, _⟩ := jb_cells HJ4.out
  obtain ⟨x0, x1, x2, x3, x4, x5, _⟩ := Sq.six HR4.out
  have HSW : Hid (∀ W : World, Below w4.heap.size w4 W → (fun W : World => W.cell? ⟨n0, 0, none⟩ = some (.int .i64 V) ∧ W.cell? ⟨n0, 1, none⟩ = some (.slice A n c) ∧ W.cell? ⟨n0 + 1, 0, none⟩ = some (.int .u8 k) ∧ W.cell? ⟨n0 + 1, 1, none⟩ = some (.int .i64 st) ∧ W.cell? ⟨n0 + 1, 2, none⟩ = some (.int .i64 so) ∧ W.cell? ⟨n0 + 1, 3, none⟩ = some (.int .i64 dm) ∧ W.cell? ⟨n0 + 1, 4, none⟩ = some (.int .i64 ep) ∧ W.cell? ⟨n0 + 1 + 1, 0, none⟩ = some (.int .i64 p) ∧ W.cell? ⟨n0 + 1 + 1, 1, none⟩ = some (.slice Av nv cv) ∧ W.cell? ⟨n0 + 1 + 1, 2, none⟩ = some (.slice Ac nc cc) ∧ W.cell? ⟨n0 + 1 + 1, 3, none⟩ = some (.slice Ai ni ci) ∧ W.cell? ⟨n0 + 1 + 1, 4, none⟩ = some (.int .i64 su) ∧ W.cell? ⟨n0 + 1 + 1, 5, none⟩ = some (.int .i64 mo)) W) := Lib.hid (fun W hb => by
    obtain ⟨g0, g1, _⟩ := two_cells (keepB HG4.out hb)
    obtain ⟨j0, j1, j2, j3, j4, _⟩ := jb_cells (keepB HJ4.out hb)
    obtain ⟨x0, x1, x2, x3, x4, x5, _⟩ := Sq.six (keepB HR4.out hb)
    exact ⟨g0, g1, j0, j1, j2, j3, j4, x0, x1, x2, x3, x4, x5⟩)
  have hd4 : Below w4.heap.size w4 w4.drew := (Below.refl _ w4).drew
  have HCM := Lib.hid (meant_any k st so dm ep V A n c L w4.drew (HL.out.below (step_below HB4.out HB4.out.size hd4)) HN.out hm hV40 HCJ.out hk)
  have hS := HSW.out _ hd4
  go_upto_region 8 with fail
  refine Tl.headX_region (S := (fun W : World => W.cell? ⟨n0, 0, none⟩ = some (.int .i64 V) ∧ W.cell? ⟨n0, 1, none⟩ = some (.slice A n c) ∧ W.cell? ⟨n0 + 1, 0, none⟩ = some (.int .u8 k) ∧ W.cell? ⟨n0 + 1, 1, none⟩ = some (.int .i64 st) ∧ W.cell? ⟨n0 + 1, 2, none⟩ = some (.int .i64 so) ∧ W.cell? ⟨n0 + 1, 3, none⟩ = some (.int .i64 dm) ∧ W.cell? ⟨n0 + 1, 4, none⟩ = some (.int .i64 ep) ∧ W.cell? ⟨n0 + 1 + 1, 0, none⟩ = some (.int .i64 p) ∧ W.cell? ⟨n0 + 1 + 1, 1, none⟩ = some (.slice Av nv cv) ∧ W.cell? ⟨n0 + 1 + 1, 2, none⟩ = some (.slice Ac nc cc) ∧ W.cell? ⟨n0 + 1 + 1, 3, none⟩ = some (.slice Ai ni ci) ∧ W.cell? ⟨n0 + 1 + 1, 4, none⟩ = some (.int .i64 su) ∧ W.cell? ⟨n0 + 1 + 1, 5, none⟩ = some (.int .i64 mo))) 19 mixed (by decide) ?_
  try dsimp only
  refine Tl.headX_tk 0 ?v0_1 rfl (by kernel_rfl) (by decide) (by kernel_rfl) (by kernel_rfl) (by kernel_rfl) (fun _ _ _ h => h) (by rfl) (fun W hSw => ?hy0_1) hS ?_
  case hy0_1 => ((try dsimp only at hSw); go_simp; try with_reducible rfl)
  simp only [Act.put, List.setIfInBounds_toArray, List.set_cons_zero, List.set_cons_succ]
  refine Tl.headX_tk 1 ?v1_2 rfl (by kernel_rfl) (by decide) (by kernel_rfl) (by kernel_rfl) (by kernel_rfl) (fun _ _ _ h => h) (by rfl) (fun W hSw => ?hy1_2) hS ?_
  case hy1_2 => ((try dsimp only at hSw); go_simp; try with_reducible rfl)
  simp only [Act.put, List.setIfInBounds_toArray, List.set_cons_zero, List.set_cons_succ]
  refine Tl.headX_tk 2 ?v2_3 rfl (by kernel_rfl) (by decide) (by kernel_rfl) (by kernel_rfl) (by kernel_rfl) (fun _ _ _ h => h) (by rfl) (fun W hSw => ?hy2_3) hS ?_
  case hy2_3 => ((try dsimp only at hSw); go_simp; try with_reducible rfl)
  simp only [Act.put, List.setIfInBounds_toArray, List.set_cons_zero, List.set_cons_succ]
  refine Tl.headX_tk 3 ?v3_4 rfl (by kernel_rfl) (by decide) (by kernel_rfl) (by kernel_rfl) (by kernel_rfl) (fun _ _ _ h => h) (by rfl) (fun W hSw => ?hy3_4) hS ?_
  case hy3_4 => ((try dsimp only at hSw); go_simp; try with_reducible rfl)
  simp only [Act.put, List.setIfInBounds_toArray, List.set_cons_zero, List.set_cons_succ]
  refine Tl.headX_cl (R := fun v w' => ∃ l2, Hid (Mt k so V L l2 ∧ NOwn w' 2 w4.drew.heap.size v l2 ∧ Below w4.drew.heap.size w4.drew w')) 4 _ _ rfl (by decide) (by kernel_rfl) (by rfl) ?he4 (HCM.out.mono (by rintro e w' ⟨v, l2, rfl, h⟩; exact ⟨v, rfl, l2, h⟩)) ?_
  case he4 => (go_simp; try with_reducible rfl)
  rintro v w5 ⟨l2, h5⟩
  have HB5 : Hid (Below w4.heap.size w4 w5) := Lib.hid (step_below hd4 hd4.size h5.out.2.2)
  obtain rfl : l = l2 := HMT.out.one h5.out.1
  obtain ⟨Am, cm, rfl, hAm⟩ := h5.out.2.1.form
  rw [HNV.out]
  have HEQ : Hid (Calls Tryz.prog 40 #[.slice Av nv cv, .slice Am nv cm] w5 fun e w' => ∃ v, e = .returned v ∧ (v = .bool true ∧ Hid (Below w5.heap.size w5 w'))) := Lib.hid (by
    have h := Sq.equalQ_any Av Am nv nv cv cm l l w5 (HA.out.below (step_below HB4.out HB4.out.size HB5.out)) hAm HNV.out HNV.out (by omega) (by omega)
    refine h.mono ?_
    rintro e w' ⟨rfl, hb⟩
    exact ⟨_, rfl, by simp, Lib.hid hb⟩)
  clear h5 hAm hS
  have hS := HSW.out _ HB5.out
  refine ⟨hS, ?_⟩
  simp only [Act.put, List.setIfInBounds_toArray, List.set_cons_zero, List.set_cons_succ]
  refine Tl.headX_cl 5 _ _ rfl (by decide) (by kernel_rfl) (by rfl) ?he5 HEQ.out ?_
  case he5 => (go_simp; try with_reducible rfl)
  rintro r w6 ⟨rfl, h6⟩
  have HB6 := Lib.hid (step_below HB5.out HB5.out.size h6.out)
  clear h6 hS
  have hS := HSW.out _ HB6.out
  refine ⟨hS, ?_⟩
  simp only [Act.put, List.setIfInBounds_toArray, List.set_cons_zero, List.set_cons_succ]
  refine Tl.headX_tk 6 ?v6_5 rfl (by kernel_rfl) (by decide) (by kernel_rfl) (by kernel_rfl) (by kernel_rfl) (fun _ _ _ h => h) (by rfl) (fun W hSw => ?hy6_5) hS ?_
  case hy6_5 => ((try dsimp only at hSw); go_simp; try with_reducible rfl)
  simp only [Act.put, List.setIfInBounds_toArray, List.set_cons_zero, List.set_cons_succ]
  refine Mn.headX_un 7 rfl (by kernel_rfl) (by decide) (by kernel_rfl) (by kernel_rfl) (by kernel_rfl) (fun _ _ _ h => h) (by rfl) hS ?_
  simp only [Act.put, List.setIfInBounds_toArray, List.set_cons_zero, List.set_cons_succ]
  refine Mn.headX_un 8 rfl (by kernel_rfl) (by decide) (by kernel_rfl) (by kernel_rfl) (by kernel_rfl) (fun _ _ _ h => h) (by rfl) hS ?_
  simp only [Act.put, List.setIfInBounds_toArray, List.set_cons_zero, List.set_cons_succ]
  refine Mn.headX_un 9 rfl (by kernel_rfl) (by decide) (by kernel_rfl) (by kernel_rfl) (by kernel_rfl) (fun _ _ _ h => h) (by rfl) hS ?_
  simp only [Act.put, List.setIfInBounds_toArray, List.set_cons_zero, List.set_cons_succ]
  refine Mn.headX_un 10 rfl (by kernel_rfl) (by decide) (by kernel_rfl) (by kernel_rfl) (by kernel_rfl) (fun _ _ _ h => h) (by rfl) hS ?_
  simp only [Act.put, List.setIfInBounds_toArray, List.set_cons_zero, List.set_cons_succ]
  refine Mn.headX_un 11 rfl (by kernel_rfl) (by decide) (by kernel_rfl) (by kernel_rfl) (by kernel_rfl) (fun _ _ _ h => h) (by rfl) hS ?_
  simp only [Act.put, List.setIfInBounds_toArray, List.set_cons_zero, List.set_cons_succ]
  refine Mn.headX_un 12 rfl (by kernel_rfl) (by decide) (by kernel_rfl) (by kernel_rfl) (by kernel_rfl) (fun _ _ _ h => h) (by rfl) hS ?_
  simp only [Act.put, List.setIfInBounds_toArray, List.set_cons_zero, List.set_cons_succ]
  refine Mn.headX_un 13 rfl (by kernel_rfl) (by decide) (by kernel_rfl) (by kernel_rfl) (by kernel_rfl) (fun _ _ _ h => h) (by rfl) hS ?_
  simp only [Act.put, List.setIfInBounds_toArray, List.set_cons_zero, List.set_cons_succ]
  refine Mn.headX_un 14 rfl (by kernel_rfl) (by decide) (by kernel_rfl) (by kernel_rfl) (by kernel_rfl) (fun _ _ _ h => h) (by rfl) hS ?_
  simp only [Act.put, List.setIfInBounds_toArray, List.set_cons_zero, List.set_cons_succ]
  refine Mn.headX_un 15 rfl (by kernel_rfl) (by decide) (by kernel_rfl) (by kernel_rfl) (by kernel_rfl) (fun _ _ _ h => h) (by rfl) hS ?_
  simp only [Act.put, List.setIfInBounds_toArray, List.set_cons_zero, List.set_cons_succ]
  refine Mn.headX_un 16 rfl (by kernel_rfl) (by decide) (by kernel_rfl) (by kernel_rfl) (by kernel_rfl) (fun _ _ _ h => h) (by rfl) hS ?_
  simp only [Act.put, List.setIfInBounds_toArray, List.set_cons_zero, List.set_cons_succ]
  refine Mn.headX_un 17 rfl (by kernel_rfl) (by decide) (by kernel_rfl) (by kernel_rfl) (by kernel_rfl) (fun _ _ _ h => h) (by rfl) hS ?_
  simp only [Act.put, List.setIfInBounds_toArray, List.set_cons_zero, List.set_cons_succ]
  refine Tl.headX_tk 18 ?v18_6 rfl (by kernel_rfl) (by decide) (by kernel_rfl) (by kernel_rfl) (by kernel_rfl) (fun _ _ _ h => h) (by rfl) (fun W hSw => ?hy18_6) hS ?_
  case hy18_6 => ((try dsimp only at hSw); go_simp; try with_reducible rfl)
  simp only [Act.put, List.setIfInBounds_toArray, List.set_cons_zero, List.set_cons_succ]
  refine Tl.headX_rest (by kernel_rfl) ?_
  simp only [List.drop_succ_cons, List.drop_zero]
  clear hS HSW
  go_wp2
  go_ret
  exact ⟨rfl, step_below HB4.out HB4.out.size HB6.out⟩
end Go.Proofs.YtdcaekmgfcpbmaaGreat.Mn
