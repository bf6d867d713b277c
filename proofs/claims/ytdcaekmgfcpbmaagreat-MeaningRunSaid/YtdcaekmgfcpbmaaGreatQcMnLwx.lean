/-
  What is proved here: a contract of meaning's isCutOff: are a state's values those of the state that a run has come to at its superstep? Conditions: a job that may be, a superstep within its Steps; at most 1000 edges. What is proved here: the law's works() says true: the chapter's examples hold. No condition. What is proved here: the law's function MeaningLabels says true. Condition: the number of edges fits an int.
-/
import Derived.Test.YtdcaekmgfcpbmaaGreatQcMnSrx
import Derived.Test.YtdcaekmgfcpbmaaGreatQcMnMe
import Derived.Test.YtdcaekmgfcpbmaaGreatQcMnRlx
import Derived.Test.YtdcaekmgfcpbmaaGreatQcMnMkx
namespace Go.Proofs.YtdcaekmgfcpbmaaGreat.Mn
open Go.RowKit Gr Wd Ws Fx Rk Lb Al Sq
open Pa (vl bt vl_of vl_at bt_of bt_at Fits fits_of fr far)
set_option maxRecDepth 100000 in
set_option maxHeartbeats 2000000 in
theorem cut_any (k st so dm ep V p su mo : Int) (A Av Ac Ai : Option Addr) (n c nv cv nc cc ni ci : Nat) (L : List Ed) (l : List Int) (w : World) (hL : EAt w A L) (hn : L.length = n) (hm : n ≤ 1000) (hc : chkJ k st so dm ep V L = 0) (hp0 : 0 ≤ p) (hp1 : p ≤ 2000)
    (hA : IAt w Av l) (hnv : l.length = nv) (hnv1 : nv ≤ 100000) :
    Calls Tryz.prog 42 #[.agg #[.int .i64 V, .slice A n c], .agg #[.int .u8 k, .int .i64 st, .int .i64 so, .int .i64 dm, .int .i64 ep], .agg #[.int .i64 p, .slice Av nv cv, .slice Ac nc cc, .slice Ai ni ci, .int .i64 su, .int .i64 mo]] w fun e w' => e = .returned (.bool (decide (l = (stS k so dm V.toNat L p.toNat).vals))) ∧ Below w.heap.size w w' := by
  have mixed := mixedP
  obtain ⟨W3, hW3⟩ : ∃ W3, W3 = ((w.alloc (.cells #[.int .i64 V, .slice A n c] 24)).alloc (.cells #[.int .u8 k, .int .i64 st, .int .i64 so, .int .i64 dm, .int .i64 ep] 40)).alloc (.cells #[.int .i64 p, .slice Av nv cv, .slice Ac nc cc, .slice Ai ni ci, .int .i64 su, .int .i64 mo] 45) := ⟨_, rfl⟩
  have hal := al3 w (.cells #[.int .i64 V, .slice A n c] 24) (.cells #[.int .u8 k, .int .i64 st, .int .i64 so, .int .i64 dm, .int .i64 ep] 40) (.cells #[.int .i64 p, .slice Av nv cv, .slice Ac nc cc, .slice Ai ni ci, .int .i64 su, .int .i64 mo] 45)
  rw [← hW3] at hal
  obtain ⟨n0, e0⟩ : ∃ n0, n0 = w.heap.size := ⟨_, rfl⟩
  have HG : Hid (W3.heap[n0]? = some (.cells #[.int .i64 V, .slice A n c] 24 (0, 0))) := Lib.hid (by rw [e0]; exact hal.1)
  have HJ : Hid (W3.heap[n0 + 1]? = some (.cells #[.int .u8 k, .int .i64 st, .int .i64 so, .int .i64 dm, .int .i64 ep] 40 (0, 0))) := Lib.hid (by rw [e0]; exact hal.2.1)
  have HR : Hid (W3.heap[n0 + 1 + 1]? = some (.cells #[.int .i64 p, .slice Av nv cv, .slice Ac nc cc, .slice Ai ni ci, .int .i64 su, .int .i64 mo] 45 (0, 0))) := Lib.hid (by rw [e0]; exact hal.2.2.1)
  have HB := Lib.hid hal.2.2.2
  have HL := Lib.hid hL; have HN := Lib.hid hn; have HA := Lib.hid hA; have HNV := Lib.hid hnv; have HCJ := Lib.hid hc
  clear hal hL hn hA hnv hc
  obtain ⟨g0, g1, _⟩ := two_cells HG.out
  obtain ⟨j0, j1, j2, j3, j4, _⟩ := jb_cells HJ.out
  obtain ⟨x0, x1, x2, x3, x4, x5, _⟩ := Sq.six HR.out
  obtain ⟨S, hS⟩ : ∃ S, S = stS k so dm V.toNat L p.toNat := ⟨_, rfl⟩
  have HC : Hid (Calls Tryz.prog 64 #[.agg #[.int .i64 V, .slice A n c], .agg #[.int .u8 k, .int .i64 st, .int .i64 so, .int .i64 dm, .int .i64 ep], .int .i64 p] W3 fun e w' => SRes W3 w' e p S 0) := Lib.hid (by
    refine (seqAt_any k st so dm ep V A n c L p W3 (HL.out.below HB.out) HN.out hm).mono fun _ _ h => sres_of h ?_ ?_
    · unfold atR; rw [if_pos HCJ.out, if_pos ⟨hp0, hp1⟩, hS]
    · rw [hS]; exact few_st HCJ.out _)
  rw [← hS]
  clear hS
  go_enter Tryz.func42, Tryz.ntmps42
  go_upto_region 1 with fail
  rw [← hW3, show w.heap.size = n0 from e0.symm]
  clear hW3 e0
  go_wp2_with fail
  refine HC.out.mono ?_
  rintro e v1 ⟨av, a1, ac, a2, ai, a3, an1, an2, an3, rfl, hs1, hf1, hb1⟩
  obtain ⟨X1, hX1⟩ : ∃ X, X = v1.alloc (.cells #[.int .i64 p, .slice av an1 a1, .slice ac an2 a2, .slice ai an3 a3, .int .i64 S.sum, .int .i64 S.most] 45) := ⟨_, rfl⟩
  obtain ⟨bl1, eb1⟩ : ∃ b, b = v1.heap.size := ⟨_, rfl⟩
  have hb : Below W3.heap.size W3 X1 := by rw [hX1]; exact hb1.out.alloc hb1.out.size _
  have HS1 : Hid (SAt X1 av ac ai an1 an2 an3 S) := Lib.hid (by rw [hX1]; exact hs1.out.below ((Below.refl _ v1).alloc (Nat.le_refl _) _))
  have HB1 : Hid (X1.heap[bl1]? = some (.cells #[.int .i64 p, .slice av an1 a1, .slice ac an2 a2, .slice ai an3 a3, .int .i64 S.sum, .int .i64 S.most] 45 (0, 0))) := Lib.hid (by rw [hX1, eb1]; exact heap_alloc_new v1 _)
  have HL1 := Lib.hid hf1.out
  have HR1 := Lib.hid (keepB HR.out hb)
  have HBX := Lib.hid (step_below HB.out HB.out.size hb)
  clear hb hs1 hb1 hf1 g0 g1 j0 j1 j2 j3 j4 x0 x1 x2 x3 x4 x5 HC HG HJ HR
  go_upto_region 2 with fail
  rw [← hX1, show v1.heap.size = bl1 from eb1.symm]
  clear hX1 eb1
  obtain ⟨x0, x1, x2, x3, x4, x5, _⟩ := Sq.six HR1.out
  obtain ⟨y0, y1, y2, y3, y4, y5, _⟩ := Sq.six HB1.out
  have HQ := Lib.hid (Sq.equalQ_any Av av nv an1 cv a1 l S.vals X1 (HA.out.below HBX.out) HS1.out.v HNV.out HS1.out.nv (by omega) (by have := HL1.out; omega))
  go_wp2_with fail
  refine HQ.out.mono ?_
  rintro e w5 ⟨rfl, hb5⟩
  go_wp2
  go_ret
  exact ⟨rfl, step_below HBX.out HBX.out.size hb5⟩
end Go.Proofs.YtdcaekmgfcpbmaaGreat.Mn
namespace Go.Proofs.YtdcaekmgfcpbmaaGreat.Mn
open Go.RowKit Gr Wd Ws Fx Rk Lb Al
open Pa (vl bt vl_of vl_at bt_of bt_at Fits fits_of fr far)
theorem eat_blk {w : World} {g : Nat} {L : List Ed} (h : w.heap[g]? = some (.cells (ecs L).toArray 33 (0, 0))) : EAt w (some ⟨g, 0, none⟩) L := by
  intro k e hx
  obtain ⟨a0, a1, a2⟩ := ecs_at L k e hx
  refine ⟨g, 0, rfl, ?_, ?_, ?_⟩
  · rw [Nat.zero_add, cell_of_row w g _ _ 33 (0, 0) h, List.getElem?_toArray]; exact a0
  · rw [Nat.zero_add, cell_of_row w g _ _ 33 (0, 0) h, List.getElem?_toArray]; exact a1
  · rw [Nat.zero_add, cell_of_row w g _ _ 33 (0, 0) h, List.getElem?_toArray]; exact a2
theorem iat_blk {w : World} {g : Nat} {t : TypeId} {l : List Int} (h : w.heap[g]? = some (.cells (ints l).toArray t (0, 0))) : IAt w (some ⟨g, 0, none⟩) l := by
  intro k x hx
  refine ⟨g, 0, rfl, ?_⟩
  rw [Nat.zero_add, cell_of_row w g _ _ t (0, 0) h, List.getElem?_toArray, ints_at, hx]; rfl
def exL : List Ed := [(0, 1, 4), (0, 2, 1), (2, 1, 2)]
theorem ex_chk : chk 4 exL = 0 := by decide
theorem ex_chkj : chkJ 3 9 0 0 0 4 exL = 0 := by decide
theorem ex_far0 : far 4 0 exL = [0, 3, 1, 4611686018427387904] := by decide
theorem ex_d0 : disL 4 exL 0 = [0, 3, 1, 4611686018427387904] := by decide
theorem ex_d1 : disL 4 exL 1 = [4611686018427387904, 0, 4611686018427387904, 4611686018427387904] := by decide
theorem ex_e0 : disE 4 exL 0 = 0 := by decide
theorem ex_e1 : disE 4 exL 1 = 0 := by decide
theorem ex_e4 : disE 4 exL 4 = 2 := by decide
theorem ex_lab : LabC 4 exL [0, 0, 0, 3] := by
  have c1 : Con exL 1 0 := Con.bwd (e := (0, 1, 4)) (by simp [exL]) .refl
  have c2 : Con exL 2 0 := Con.bwd (e := (0, 2, 1)) (by simp [exL]) .refl
  have h3 : ∀ u, Con exL 3 u → u = 3 := by
    intro u hu
    induction hu with
    | refl => rfl
    | @fwd e he _ ih =>
      simp only [exL, List.mem_cons, List.not_mem_nil, or_false] at he
      rcases he with rfl | rfl | rfl <;> simp [fr] at ih
    | @bwd e he _ ih =>
      simp only [exL, List.mem_cons, List.not_mem_nil, or_false] at he
      rcases he with rfl | rfl | rfl <;> simp [Pa.to] at ih
  refine ⟨rfl, fun v hv => ?_, fun v hv u hu => ?_⟩
  · rcases (show v = 0 ∨ v = 1 ∨ v = 2 ∨ v = 3 by omega) with rfl | rfl | rfl | rfl
    · exact ⟨0, by omega, .refl, rfl⟩
    · exact ⟨0, by omega, c1, rfl⟩
    · exact ⟨0, by omega, c2, rfl⟩
    · exact ⟨3, by omega, .refl, rfl⟩
  · rcases (show v = 0 ∨ v = 1 ∨ v = 2 ∨ v = 3 by omega) with rfl | rfl | rfl | rfl
    · show (0 : Int) ≤ u; omega
    · show (0 : Int) ≤ u; omega
    · show (0 : Int) ≤ u; omega
    · show (3 : Int) ≤ u; rw [h3 u hu]; omega
theorem same_lit (A : Option Addr) (c : Nat) (l : List Int) (n : Nat) (w W : World) (g : Nat) (hA : IAt w A l) (hn : l.length = n) (hm : n ≤ 1000) (hb : Below w.heap.size w W) (hg : W.heap[g]? = some (.cells (ints l).toArray 2 (0, 0))) :
    Calls Tryz.prog 11 #[.slice A n c, .slice (some ⟨g, 0, none⟩) n n] W fun e w' => e = .returned (.bool true) ∧ Below W.heap.size W w' := by
  have h := Sq.kitq_any A (some ⟨g, 0, none⟩) n n c n l l W (hA.below hb) (iat_blk hg) hn hn (by omega) (by omega)
  simpa using h
set_option maxRecDepth 100000 in
set_option maxHeartbeats 4000000 in
theorem wrk_any (w : World) : Calls Tryz.prog 8 #[] w fun e w' => e = .returned (.bool true) ∧ Hid (Below w.heap.size w w') := by
  have mixed := mixedP
  obtain ⟨n0, e0⟩ : ∃ n0, n0 = w.heap.size := ⟨_, rfl⟩
  obtain ⟨W1, hW1⟩ : ∃ W1, W1 = w.alloc (.cells #[.int .i64 0, .int .i64 1, .int .i64 4, .int .i64 0, .int .i64 2, .int .i64 1, .int .i64 2, .int .i64 1, .int .i64 2] 33) := ⟨_, rfl⟩
  obtain ⟨W2, hW2⟩ : ∃ W2, W2 = W1.alloc (.cells #[.int .i64 4, .slice (some ⟨n0, 0, none⟩) 3 3] 24) := ⟨_, rfl⟩
  have hs1 : W1.heap.size = n0 + 1 := by rw [hW1, e0]; simp
  have hb1 : Below w.heap.size w W1 := by rw [hW1]; exact (Below.refl _ w).alloc (Nat.le_refl _) _
  have hb2 : Below W1.heap.size W1 W2 := by rw [hW2]; exact (Below.refl _ W1).alloc (Nat.le_refl _) _
  have hx1 : W1.heap[n0]? = some (.cells (ecs exL).toArray 33 (0, 0)) := by rw [hW1, e0]; exact heap_alloc_new w _
  have HA : Hid (EAt W2 (some ⟨n0, 0, none⟩) exL) := Lib.hid (eat_blk (keepB hx1 hb2))
  have HX : Hid (W2.heap[n0 + 1]? = some (.cells #[.int .i64 4, .slice (some ⟨n0, 0, none⟩) 3 3] 24 (0, 0))) := Lib.hid (by rw [hW2, ← hs1]; exact heap_alloc_new W1 _)
  have HB2 := Lib.hid (step_below hb1 hb1.size hb2)
  have HW1 := Lib.hid hW1; have HW2 := Lib.hid hW2; have HE0 := Lib.hid e0
  clear hW1 hW2 hs1 hb1 hb2 hx1 e0
  go_enter Tryz.func8, Tryz.ntmps8
  go_upto_region 2 with fail
  rw [← HE0.out, ← HW1.out, ← HW2.out]
  clear HE0 HW1 HW2
  obtain ⟨g0, g1, _⟩ := two_cells HX.out
  have HC := Lib.hid (Labels_any 4 (some ⟨n0, 0, none⟩) 3 3 exL W2 HA.out rfl (by omega))
  rw [ex_chk] at HC
  go_wp2_with fail
  refine HC.out.mono ?_
  rintro e w3 ⟨l, ⟨v, rfl, h3⟩, hl⟩
  obtain rfl : l = [0, 0, 0, 3] := (show LabC 4 exL l from hl.out.1 ex_chk).one ex_lab
  obtain ⟨A3, c3, rfl, hA3⟩ := h3.out.1.form
  have HA3 := Lib.hid hA3
  have HB3 := Lib.hid h3.out.2
  clear h3 hl hA3 HC g0 g1
  obtain ⟨g0, g1, _⟩ := two_cells (keepB HX.out HB3.out)
  have HC := Lib.hid (Distances_any 4 0 (some ⟨n0, 0, none⟩) 3 3 exL w3 (HA.out.below HB3.out) rfl (by omega) (fun _ => by omega))
  rw [ex_e0, ex_d0] at HC
  go_wp2_with fail
  refine HC.out.mono ?_
  rintro e w4 ⟨v, rfl, h4⟩
  obtain ⟨A4, c4, rfl, hA4⟩ := h4.out.1.form
  have HA4 := Lib.hid hA4
  have HB34 := Lib.hid h4.out.2
  have HB4 := Lib.hid (step_below HB3.out HB3.out.size h4.out.2)
  clear h4 hA4 HC g0 g1
  obtain ⟨g0, g1, _⟩ := two_cells (keepB HX.out HB4.out)
  have HC := Lib.hid (Distances_any 4 1 (some ⟨n0, 0, none⟩) 3 3 exL w4 (HA.out.below HB4.out) rfl (by omega) (fun _ => by omega))
  rw [ex_e1, ex_d1] at HC
  go_wp2_with fail
  refine HC.out.mono ?_
  rintro e w5 ⟨v, rfl, h5⟩
  obtain ⟨A5, c5, rfl, hA5⟩ := h5.out.1.form
  have HA5 := Lib.hid hA5
  have HB45 := Lib.hid h5.out.2
  have HB5 := Lib.hid (step_below HB4.out HB4.out.size h5.out.2)
  clear h5 hA5 HC g0 g1
  obtain ⟨g0, g1, _⟩ := two_cells (keepB HX.out HB5.out)
  have HC := Lib.hid (Distances_any 4 4 (some ⟨n0, 0, none⟩) 3 3 exL w5 (HA.out.below HB5.out) rfl (by omega) (fun _ => by omega))
  rw [ex_e4] at HC
  go_wp2_with fail
  refine HC.out.mono ?_
  rintro e w6 ⟨v, rfl, h6⟩
  obtain ⟨A6, c6, rfl, _⟩ := h6.out.1.form
  have HB56 := Lib.hid h6.out.2
  have HB6 := Lib.hid (step_below HB5.out HB5.out.size h6.out.2)
  clear h6 HC g0 g1
  obtain ⟨n6, hn6⟩ : ∃ n6, n6 = (disL 4 exL 4).length := ⟨_, rfl⟩
  rw [← hn6]
  clear hn6
  -- the first literal
  obtain ⟨W7, hW7⟩ : ∃ W7, W7 = w6.alloc (.cells #[.int .i64 0, .int .i64 0, .int .i64 0, .int .i64 3] 2) := ⟨_, rfl⟩
  have hb7 : Below w6.heap.size w6 W7 := by rw [hW7]; exact (Below.refl _ w6).alloc (Nat.le_refl _) _
  have HC := Lib.hid (same_lit A3 c3 [0, 0, 0, 3] 4 w3 W7 w6.heap.size HA3.out rfl (by omega) (step_below (step_below (step_below HB34.out HB34.out.size HB45.out) (Nat.le_trans HB34.out.size HB45.out.size) HB56.out) (Nat.le_trans (Nat.le_trans HB34.out.size HB45.out.size) HB56.out.size) hb7) (by rw [hW7]; exact heap_alloc_new w6 _))
  have HB7 := Lib.hid hb7; have HW7 := Lib.hid hW7
  clear hb7 hW7
  go_wp2_with fail
  rw [← HW7.out]
  refine HC.out.mono ?_
  rintro e w8 ⟨rfl, hb8⟩
  have HB68 := Lib.hid (step_below HB7.out HB7.out.size hb8)
  clear hb8 HB7 HW7 HC
  obtain ⟨W9, hW9⟩ : ∃ W9, W9 = w8.alloc (.cells #[.int .i64 0, .int .i64 3, .int .i64 1, .int .i64 4611686018427387904] 2) := ⟨_, rfl⟩
  have hb9 : Below w8.heap.size w8 W9 := by rw [hW9]; exact (Below.refl _ w8).alloc (Nat.le_refl _) _
  have HB69 := Lib.hid (step_below HB68.out HB68.out.size hb9)
  have HB49 := Lib.hid (step_below (step_below HB45.out HB45.out.size HB56.out) (Nat.le_trans HB45.out.size HB56.out.size) HB69.out)
  have HC := Lib.hid (same_lit A4 c4 [0, 3, 1, 4611686018427387904] 4 w4 W9 w8.heap.size HA4.out rfl (by omega) HB49.out (by rw [hW9]; exact heap_alloc_new w8 _))
  have HW9 := Lib.hid hW9
  clear hb9 hW9 HB68
  go_wp2_with fail
  rw [← HW9.out]
  refine HC.out.mono ?_
  rintro e wA ⟨rfl, hbA⟩
  have HB6A := Lib.hid (step_below HB69.out HB69.out.size hbA)
  clear hbA HW9 HC HB69 HB49
  obtain ⟨WB, hWB⟩ : ∃ WB, WB = wA.alloc (.cells #[.int .i64 4611686018427387904, .int .i64 0, .int .i64 4611686018427387904, .int .i64 4611686018427387904] 2) := ⟨_, rfl⟩
  have hbB : Below wA.heap.size wA WB := by rw [hWB]; exact (Below.refl _ wA).alloc (Nat.le_refl _) _
  have HB6B := Lib.hid (step_below HB6A.out HB6A.out.size hbB)
  have HB5B := Lib.hid (step_below HB56.out HB56.out.size HB6B.out)
  have HC := Lib.hid (same_lit A5 c5 [4611686018427387904, 0, 4611686018427387904, 4611686018427387904] 4 w5 WB wA.heap.size HA5.out rfl (by omega) HB5B.out (by rw [hWB]; exact heap_alloc_new wA _))
  have HWB := Lib.hid hWB
  clear hbB hWB HB6A
  go_wp2_with fail
  rw [← HWB.out]
  refine HC.out.mono ?_
  rintro e wC ⟨rfl, hbC⟩
  have HB6C := Lib.hid (step_below HB6B.out HB6B.out.size hbC)
  have HB4C := Lib.hid (step_below (step_below HB45.out HB45.out.size HB56.out) (Nat.le_trans HB45.out.size HB56.out.size) HB6C.out)
  have HB2C := Lib.hid (step_below HB6.out HB6.out.size HB6C.out)
  clear hbC HWB HC HB6B HB5B
  obtain ⟨g0, g1, _⟩ := two_cells (keepB HX.out HB2C.out)
  have HC := Lib.hid (Means_yes 3 9 0 0 0 4 3 0 0 (some ⟨n0, 0, none⟩) A4 none none 3 3 4 c4 0 0 0 0 exL [0, 3, 1, 4611686018427387904] wC (HA.out.below HB2C.out) rfl (by omega) (by omega) ex_chkj (by omega) (by omega) (by omega) (HA4.out.below HB4C.out) rfl (by omega) (Or.inr ⟨rfl, ex_far0.symm⟩))
  go_wp2_with fail
  refine HC.out.mono ?_
  rintro e wD ⟨rfl, hbD⟩
  have HBD := Lib.hid (step_below HB2C.out HB2C.out.size hbD)
  clear hbD HC
  go_wp2
  go_ret
  exact ⟨rfl, Lib.hid (step_below HB2.out HB2.out.size HBD.out)⟩
end Go.Proofs.YtdcaekmgfcpbmaaGreat.Mn
namespace Go.Proofs.YtdcaekmgfcpbmaaGreat.Mn
open Go.RowKit Gr Wd Ws Fx Rk Lb Al
open Pa (vl bt vl_of vl_at bt_of bt_at Fits fits_of fr far)
set_option maxRecDepth 100000 in
set_option maxHeartbeats 1000000 in
theorem lgt_any (V : Int) (A : Option Addr) (n c : Nat) (L : List Ed) (w : World) (hL : EAt w A L) (hn : L.length = n) (hm : n ≤ 9223372036854775807) :
    ∃ r : Bool, Calls Tryz.prog 7 #[.agg #[.int .i64 V, .slice A n c]] w (fun e w' => e = .returned (.bool r) ∧ Hid (Below w.heap.size w w')) ∧ (r = true → n ≤ 100 ∧ (chk V L = 0 → V ≤ 16)) := by
  have mixed := mixedP
  have HL := Lib.hid hL; have HN := Lib.hid hn
  clear hL hn
  obtain ⟨W1, hW1⟩ : ∃ W1, W1 = w.alloc (.cells #[.int .i64 V, .slice A n c] 24) := ⟨_, rfl⟩
  obtain ⟨b, hb⟩ : ∃ b, b = w.heap.size := ⟨_, rfl⟩
  have HB1 : Hid (Below w.heap.size w W1) := Lib.hid (by rw [hW1]; exact (Below.refl _ w).alloc (Nat.le_refl _) _)
  have HX1 : Hid (W1.heap[b]? = some (.cells #[.int .i64 V, .slice A n c] 24 (0, 0))) := Lib.hid (by rw [hW1, hb]; exact heap_alloc_new w _)
  obtain ⟨g0, g1, _⟩ := two_cells HX1.out
  have HK := Lib.hid (light_any V A n c 100 W1)
  obtain ⟨E, hE⟩ : ∃ E, chk V L = E := ⟨_, rfl⟩
  have HW1 := Lib.hid hW1; have HBb := Lib.hid hb
  clear hW1 hb
  by_cases hn1 : n ≤ 100
  · have e1 : decide (n ≤ 100) = true := decide_eq_true hn1
    rw [e1] at HK
    clear e1
    by_cases hV : V ≤ 16
    · refine ⟨true, ?_, fun _ => ⟨hn1, fun _ => hV⟩⟩
      go_enter Tryz.func7, Tryz.ntmps7
      go_upto_region 1 with fail
      rw [← HW1.out, ← HBb.out]
      go_wp2_with fail
      refine HK.out.mono ?_
      rintro e w2 ⟨rfl, hg2⟩
      have HB2 := Lib.hid (step_below HB1.out HB1.out.size hg2.below)
      have HX2 := Lib.hid (keepB HX1.out hg2.below)
      clear hg2 g0 g1 HX1 HK
      obtain ⟨g0, g1, _⟩ := two_cells HX2.out
      go_wp2
      go_ret
      exact ⟨rfl, HB2⟩
    · by_cases hE0 : E = 0
      · refine ⟨false, ?_, fun h => by cases h⟩
        subst hE0
        go_enter Tryz.func7, Tryz.ntmps7
        go_upto_region 1 with fail
        rw [← HW1.out, ← HBb.out]
        go_wp2_with fail
        refine HK.out.mono ?_
        rintro e w2 ⟨rfl, hg2⟩
        have HB2 := Lib.hid (step_below HB1.out HB1.out.size hg2.below)
        have HX2 := Lib.hid (keepB HX1.out hg2.below)
        clear hg2 g0 g1 HX1 HK
        obtain ⟨g0, g1, _⟩ := two_cells HX2.out
        have HC := Lib.hid (rcheck_any V A c L w2 (HL.out.below HB2.out) (by rw [HN.out]; omega))
        rw [HN.out, hE] at HC
        clear hE
        go_wp2_with fail
        refine HC.out.mono ?_
        rintro e w3 ⟨rfl, hb3⟩
        have HB3 := Lib.hid (step_below HB2.out HB2.out.size hb3)
        clear hb3
        go_wp2
        go_ret
        exact ⟨by simp [hV], HB3⟩
      · refine ⟨true, ?_, fun _ => ⟨hn1, fun h0 => absurd (hE.symm.trans h0) hE0⟩⟩
        go_enter Tryz.func7, Tryz.ntmps7
        go_upto_region 1 with fail
        rw [← HW1.out, ← HBb.out]
        go_wp2_with fail
        refine HK.out.mono ?_
        rintro e w2 ⟨rfl, hg2⟩
        have HB2 := Lib.hid (step_below HB1.out HB1.out.size hg2.below)
        have HX2 := Lib.hid (keepB HX1.out hg2.below)
        clear hg2 g0 g1 HX1 HK
        obtain ⟨g0, g1, _⟩ := two_cells HX2.out
        have HC := Lib.hid (rcheck_any V A c L w2 (HL.out.below HB2.out) (by rw [HN.out]; omega))
        rw [HN.out, hE] at HC
        clear hE
        go_wp2_with fail
        refine HC.out.mono ?_
        rintro e w3 ⟨rfl, hb3⟩
        have HB3 := Lib.hid (step_below HB2.out HB2.out.size hb3)
        clear hb3
        go_wp2
        go_ret
        exact ⟨by simp [hE0], HB3⟩
  · have e1 : decide (n ≤ 100) = false := decide_eq_false hn1
    rw [e1] at HK
    clear e1
    refine ⟨false, ?_, fun h => by cases h⟩
    go_enter Tryz.func7, Tryz.ntmps7
    go_upto_region 1 with fail
    rw [← HW1.out, ← HBb.out]
    go_wp2_with fail
    refine HK.out.mono ?_
    rintro e w2 ⟨rfl, hg2⟩
    have HB2 := Lib.hid (step_below HB1.out HB1.out.size hg2.below)
    clear hg2
    go_wp2
    go_ret
    exact ⟨rfl, HB2⟩
theorem LabC.root {V : Nat} {L : List Ed} {l : List Int} (h : LabC V L l) {v : Nat} (hv : v < V) : ∃ u : Nat, vl l v = (u : Int) ∧ u ≤ v ∧ u < V ∧ vl l u = (u : Int) := by
  obtain ⟨u, hu, hc, e⟩ := h.is_ v hv
  have h1 := h.le v hv v .refl
  refine ⟨u, e, by omega, hu, ?_⟩
  obtain ⟨t, _, hc2, e2⟩ := h.is_ u hu
  have h2 := h.le v hv t (hc.trans hc2)
  have h3 := h.le u hu u .refl
  omega
end Go.Proofs.YtdcaekmgfcpbmaaGreat.Mn
