/-
  What is proved here: the texts SqL1 SqL2 SqW3 SqL4 of this seat, laid together (each says itself what it proves; no condition beyond theirs).
-/
import Derived.Test.YtbbmgandkmlojaaGreatSqG4
import Derived.Test.YtbbmgandkmlojaaGreatSqG6
/-
  What is proved here: the laws SeqAt, SeqRun and SeqSame walked: they return true, and no block that was there has changed. Conditions: rows that a memory holds.
-/
namespace Go.Proofs.YtbbmgandkmlojaaGreat.Sq
open Go.RowKit Go.Shelf Gr Wd Ws Fx Rk Lb Al In
open Pa (vl bt vl_of vl_at bt_of bt_at)

/- What a call gives: a state that can be read, of few vertices. -/
def SRes (w w' : World) (e : Ending) (p : Int) (S : Sq) (E : Int) : Prop := ∃ Av cv Ac cc Ai ci, ∃ nv nc ni : Nat, e = .returned (.tuple #[.agg #[.int .i64 p, .slice Av nv cv, .slice Ac nc cc, .slice Ai ni ci, .int .i64 S.sum, .int .i64 S.most], .int .i64 E]) ∧ Hid (SAt w' Av Ac Ai nv nc ni S) ∧ Hid (nv ≤ 512 ∧ nc ≤ 512 ∧ ni ≤ 512) ∧ Hid (Below w.heap.size w w')
def Few (S : Sq) : Prop := S.vals.length ≤ 512 ∧ S.chg.length ≤ 512 ∧ S.inb.length ≤ 512
theorem sres_of {w w' : World} {e : Ending} {r : Int × Sq × Int} {p E : Int} {S : Sq} (h : Res w w' e r) (hr : r = (p, S, E)) (hf : Few S) : SRes w w' e p S E := by
  obtain ⟨x, rfl, hx, hb⟩ := h
  subst hr
  obtain ⟨Av, cv, Ac, cc, Ai, ci, rfl, h1, _, _, _⟩ := hx.out.at
  exact ⟨Av, cv, Ac, cc, Ai, ci, _, _, _, rfl, Lib.hid h1, Lib.hid hf, hb⟩
theorem few_z : Few zS := ⟨by decide, by decide, by decide⟩
theorem few_st {k st so dm ep V : Int} {L : List Ed} (h : chkJ k st so dm ep V L = 0) (n : Nat) : Few (stS k so dm V.toNat L n) := by
  obtain ⟨hz, hst0, hst1, hk, hd0, hd1⟩ := chkJ_zero h
  obtain ⟨Vn, rfl, hV1, hV2, hfit⟩ := chk_facts hz
  have hg : GoS k Vn L (stS k so dm Vn L n) := go_all hz (fun _ => ⟨hd0, hd1⟩) n
  have hm := hg.may
  exact ⟨by rw [show ((Vn : Int)).toNat = Vn from rfl, hm.1]; exact hV2, by rw [show ((Vn : Int)).toNat = Vn from rfl, hm.2.1]; exact hV2, by rw [show ((Vn : Int)).toNat = Vn from rfl, hm.2.2.1]; exact hV2⟩
theorem few_at (k st so dm ep V : Int) (L : List Ed) (n : Int) : Few (atR k st so dm ep V L n).2.1 := by
  unfold atR
  split
  · rename_i h
    split
    · exact few_st h _
    · exact few_z
  · exact few_z
theorem few_run (k st so dm ep V : Int) (L : List Ed) (N : Nat) : Few (runR k st so dm ep V L N).2.1 := by
  unfold runR
  split
  · rename_i h; exact few_st h _
  · exact few_z
theorem run_at (k st so dm ep V : Int) (L : List Ed) : ∃ N : Nat, chkJ k st so dm ep V L = 0 → donB k st ep (N : Int) (stS k so dm V.toNat L N).most = true ∧ N ≤ 2000 ∧ ∀ i : Nat, i < N → donB k st ep (i : Int) (stS k so dm V.toNat L i).most = false := by
  by_cases h : chkJ k st so dm ep V L = 0
  · obtain ⟨hz, hst0, hst1, hk, hd0, hd1⟩ := chkJ_zero h
    obtain ⟨N, h1, h2, h3⟩ := first_done (ep := ep) hk hst0 (fun i => (stS k so dm V.toNat L i).most)
    exact ⟨N, fun _ => ⟨h2, by omega, h3⟩⟩
  · exact ⟨0, fun e => absurd e h⟩
structure LwH (w W : World) (n0 : Nat) (V : Int) (A : Option Addr) (n c : Nat) (k st so dm ep : Int) : Prop where
  below : Below w.heap.size w W
  gb : W.heap[n0]? = some (.cells #[.int .i64 V, .slice A n c] 24 (0, 0))
  jb : W.heap[n0 + 1]? = some (.cells #[.int .u8 k, .int .i64 st, .int .i64 so, .int .i64 dm, .int .i64 ep] 26 (0, 0))
theorem LwH.step {w W W' : World} {n0 : Nat} {V : Int} {A : Option Addr} {n c : Nat} {k st so dm ep : Int} (h : LwH w W n0 V A n c k st so dm ep) (hb : Below W.heap.size W W') : LwH w W' n0 V A n c k st so dm ep := ⟨step_below h.below h.below.size hb, keep h.gb hb, keep h.jb hb⟩

set_option maxRecDepth 100000 in
set_option maxHeartbeats 1000000 in
theorem law_at (k st so dm ep V : Int) (A : Option Addr) (n c : Nat) (L : List Ed) (kk : Int) (w : World) (hL : EAt w A L) (hn : L.length = n) (hm : n ≤ 9223372036854775807) :
    Calls Tryz.prog 5 #[.agg #[.int .i64 V, .slice A n c], .agg #[.int .u8 k, .int .i64 st, .int .i64 so, .int .i64 dm, .int .i64 ep], .int .i64 kk] w fun e w' => e = .returned (.bool true) ∧ Below w.heap.size w w' := by
  have HL := Lib.hid hL; have HN := Lib.hid hn
  clear hL hn
  obtain ⟨W2, hW2⟩ : ∃ W2, W2 = (w.alloc (.cells #[.int .i64 V, .slice A n c] 24)).alloc (.cells #[.int .u8 k, .int .i64 st, .int .i64 so, .int .i64 dm, .int .i64 ep] 26) := ⟨_, rfl⟩
  have hal := al2 w (.cells #[.int .i64 V, .slice A n c] 24) (.cells #[.int .u8 k, .int .i64 st, .int .i64 so, .int .i64 dm, .int .i64 ep] 26)
  rw [← hW2] at hal
  obtain ⟨n0, e0⟩ : ∃ n0, n0 = w.heap.size := ⟨_, rfl⟩
  have HH : Hid (LwH w W2 n0 V A n c k st so dm ep) := Lib.hid ⟨hal.2.2, by rw [e0]; exact hal.1, by rw [e0]; exact hal.2.1⟩
  clear hal
  obtain ⟨r, hr⟩ : ∃ r, atR k st so dm ep V L kk = r := ⟨_, rfl⟩
  obtain ⟨p, S, E⟩ := r
  have hfw : Few S := by have := few_at k st so dm ep V L kk; rw [hr] at this; exact this
  have HC1 : Hid (n ≤ 1000 → ∀ W : World, Below w.heap.size w W → Calls Tryz.prog 19 #[.agg #[.int .i64 V, .slice A n c], .agg #[.int .u8 k, .int .i64 st, .int .i64 so, .int .i64 dm, .int .i64 ep], .int .i64 kk] W fun e w' => SRes W w' e p S E) := Lib.hid (fun h W hW => (seqAt_any k st so dm ep V A n c L kk W (HL.out.below hW) HN.out h).mono fun _ _ h => sres_of h hr hfw)
  have HC2 : Hid (n ≤ 1000 → ∀ W : World, Below w.heap.size w W → Calls Tryz.prog 20 #[.agg #[.int .i64 V, .slice A n c], .agg #[.int .u8 k, .int .i64 st, .int .i64 so, .int .i64 dm, .int .i64 ep], .int .i64 kk] W fun e w' => SRes W w' e p S E) := Lib.hid (fun h W hW => (rat_any k st so dm ep V A n c L kk W (HL.out.below hW) HN.out h).mono fun _ _ h => sres_of h hr hfw)
  clear hr hfw
  obtain ⟨g0, g1, _⟩ := two HH.out.gb
  obtain ⟨j0, j1, j2, j3, j4, _⟩ := jb_cells HH.out.jb
  have HT := Lib.hid (light_all V A n c L W2 (HL.out.below HH.out.below) HN.out hm)
  obtain ⟨t, ht⟩ : ∃ t, lightB V L = t := ⟨_, rfl⟩
  rw [ht] at HT
  have HTL := Lib.hid ht
  clear ht
  go_enter Tryz.func5, Tryz.ntmps5
  go_upto_region 1 with fail
  rw [← hW2, show w.heap.size = n0 from e0.symm]
  clear hW2 e0
  go_wp2_with fail
  refine HT.out.mono ?_
  rintro e w1 ⟨rfl, hb⟩
  replace HH := Lib.hid (HH.out.step hb)
  clear hb HT g0 g1 j0 j1 j2 j3 j4
  by_cases hgo : t = true ∧ (kk ≤ 12 ∨ 2000 < kk)
  · obtain ⟨rfl, hor⟩ := hgo
    have hn80 : n ≤ 80 := by have := lightB_few HTL.out; rwa [HN.out] at this
    replace HC1 := Lib.hid (HC1.out (by omega)); replace HC2 := Lib.hid (HC2.out (by omega))
    clear hn80 HTL
    obtain ⟨g0, g1, _⟩ := two HH.out.gb
    obtain ⟨j0, j1, j2, j3, j4, _⟩ := jb_cells HH.out.jb
    have hgt : (12 < kk ∧ ¬ kk ≤ 2000) ∨ ¬ 12 < kk := by omega
    clear hor
    rcases hgt with ⟨h1, h2⟩ | h1
    all_goals
      obtain ⟨g0, g1, _⟩ := two HH.out.gb
      obtain ⟨j0, j1, j2, j3, j4, _⟩ := jb_cells HH.out.jb
      go_wp2_with fail
      refine (HC1.out w1 HH.out.below).mono ?_
      rintro e v1 ⟨av, a1, ac, a2, ai, a3, an1, an2, an3, rfl, hs1, hf1, hb1⟩
      obtain ⟨X1, hX1⟩ : ∃ X, X = v1.alloc (.cells #[.int .i64 p, .slice av an1 a1, .slice ac an2 a2, .slice ai an3 a3, .int .i64 S.sum, .int .i64 S.most] 33) := ⟨_, rfl⟩
      obtain ⟨bl1, eb1⟩ : ∃ b, b = v1.heap.size := ⟨_, rfl⟩
      have hb : Below w1.heap.size w1 X1 := by rw [hX1]; exact hb1.out.alloc hb1.out.size _
      replace HH := Lib.hid (HH.out.step hb)
      have HS1 : Hid (SAt X1 av ac ai an1 an2 an3 S) := Lib.hid (by rw [hX1]; exact hs1.out.below ((Below.refl _ v1).alloc (Nat.le_refl _) _))
      have HB1 : Hid (X1.heap[bl1]? = some (.cells #[.int .i64 p, .slice av an1 a1, .slice ac an2 a2, .slice ai an3 a3, .int .i64 S.sum, .int .i64 S.most] 33 (0, 0))) := Lib.hid (by rw [hX1, eb1]; exact heap_alloc_new v1 _)
      have HL1 := Lib.hid hf1.out
      clear hb hs1 hb1 hf1 g0 g1 j0 j1 j2 j3 j4
      go_upto_region 4 with fail
      rw [← hX1, show v1.heap.size = bl1 from eb1.symm]
      clear hX1 eb1
      obtain ⟨g0, g1, _⟩ := two HH.out.gb
      obtain ⟨j0, j1, j2, j3, j4, _⟩ := jb_cells HH.out.jb
      go_wp2_with fail
      refine (HC2.out X1 HH.out.below).mono ?_
      rintro e v2 ⟨bv, b1, bc, b2, bi, b3, bn1, bn2, bn3, rfl, hs2, hf2, hb2⟩
      obtain ⟨X2, hX2⟩ : ∃ X, X = v2.alloc (.cells #[.int .i64 p, .slice bv bn1 b1, .slice bc bn2 b2, .slice bi bn3 b3, .int .i64 S.sum, .int .i64 S.most] 33) := ⟨_, rfl⟩
      obtain ⟨bl2, eb2⟩ : ∃ b, b = v2.heap.size := ⟨_, rfl⟩
      have hb : Below X1.heap.size X1 X2 := by rw [hX2]; exact hb2.out.alloc hb2.out.size _
      replace HH := Lib.hid (HH.out.step hb)
      have HS2 : Hid (SAt X2 bv bc bi bn1 bn2 bn3 S) := Lib.hid (by rw [hX2]; exact hs2.out.below ((Below.refl _ v2).alloc (Nat.le_refl _) _))
      have HB2 : Hid (X2.heap[bl2]? = some (.cells #[.int .i64 p, .slice bv bn1 b1, .slice bc bn2 b2, .slice bi bn3 b3, .int .i64 S.sum, .int .i64 S.most] 33 (0, 0))) := Lib.hid (by rw [hX2, eb2]; exact heap_alloc_new v2 _)
      replace HS1 := Lib.hid (HS1.out.below hb); replace HB1 := Lib.hid (keep HB1.out hb)
      have HL2 := Lib.hid hf2.out
      clear hb hs2 hb2 hf2 g0 g1 j0 j1 j2 j3 j4
      go_upto_region 5 with fail
      rw [← hX2, show v2.heap.size = bl2 from eb2.symm]
      clear hX2 eb2
      obtain ⟨x0, x1, x2, x3, x4, x5, _⟩ := six HB1.out
      obtain ⟨y0, y1, y2, y3, y4, y5, _⟩ := six HB2.out
      have HQ := Lib.hid (rsqSame_any p p S S av ac ai bv bc bi an1 an2 an3 a1 a2 a3 bn1 bn2 bn3 b1 b2 b3 X2 HS1.out HS2.out (by have := HL1.out; omega) (by have := HL1.out; omega) (by have := HL1.out; omega) (by have := HL2.out; omega) (by have := HL2.out; omega) (by have := HL2.out; omega))
      rw [sameS_refl] at HQ
      go_wp2_with fail
      refine HQ.out.mono ?_
      rintro e w5 ⟨rfl, hb⟩
      replace HH := Lib.hid (HH.out.step hb)
      replace HS1 := Lib.hid (HS1.out.below hb); replace HS2 := Lib.hid (HS2.out.below hb); replace HB1 := Lib.hid (keep HB1.out hb); replace HB2 := Lib.hid (keep HB2.out hb)
      clear hb HQ x0 x1 x2 x3 x4 x5 y0 y1 y2 y3 y4 y5
      go_wp2_with fail
      refine (works_any _).mono ?_
      rintro e w7 ⟨rfl, hb⟩
      replace HH := Lib.hid (HH.out.step hb)
      clear hb
      go_wp2
      go_ret
      exact ⟨rfl, HH.out.below⟩
  · have hgo2 : t = false ∨ (t = true ∧ 12 < kk ∧ kk ≤ 2000) := by cases t <;> simp at hgo ⊢; omega
    clear hgo HC1 HC2 HTL
    obtain ⟨j0, j1, j2, j3, j4, _⟩ := jb_cells HH.out.jb
    rcases hgo2 with rfl | ⟨rfl, h1, h2⟩
    all_goals
      go_wp2_with fail
      refine (works_any _).mono ?_
      rintro e w7 ⟨rfl, hb⟩
      replace HH := Lib.hid (HH.out.step hb)
      clear hb
      go_wp2
      go_ret
      exact ⟨rfl, HH.out.below⟩

set_option maxRecDepth 100000 in
set_option maxHeartbeats 1000000 in
theorem law_run (k st so dm ep V : Int) (A : Option Addr) (n c : Nat) (L : List Ed) (w : World) (hL : EAt w A L) (hn : L.length = n) (hm : n ≤ 9223372036854775807) :
    Calls Tryz.prog 6 #[.agg #[.int .i64 V, .slice A n c], .agg #[.int .u8 k, .int .i64 st, .int .i64 so, .int .i64 dm, .int .i64 ep]] w fun e w' => e = .returned (.bool true) ∧ Below w.heap.size w w' := by
  have HL := Lib.hid hL; have HN := Lib.hid hn
  clear hL hn
  obtain ⟨N, hN⟩ := run_at k st so dm ep V L
  obtain ⟨W2, hW2⟩ : ∃ W2, W2 = (w.alloc (.cells #[.int .i64 V, .slice A n c] 24)).alloc (.cells #[.int .u8 k, .int .i64 st, .int .i64 so, .int .i64 dm, .int .i64 ep] 26) := ⟨_, rfl⟩
  have hal := al2 w (.cells #[.int .i64 V, .slice A n c] 24) (.cells #[.int .u8 k, .int .i64 st, .int .i64 so, .int .i64 dm, .int .i64 ep] 26)
  rw [← hW2] at hal
  obtain ⟨n0, e0⟩ : ∃ n0, n0 = w.heap.size := ⟨_, rfl⟩
  have HH : Hid (LwH w W2 n0 V A n c k st so dm ep) := Lib.hid ⟨hal.2.2, by rw [e0]; exact hal.1, by rw [e0]; exact hal.2.1⟩
  clear hal
  obtain ⟨r, hr⟩ : ∃ r, runR k st so dm ep V L N = r := ⟨_, rfl⟩
  obtain ⟨p, S, E⟩ := r
  have hfw : Few S := by have := few_run k st so dm ep V L N; rw [hr] at this; exact this
  have HC1 : Hid (n ≤ 1000 → ∀ W : World, Below w.heap.size w W → Calls Tryz.prog 21 #[.agg #[.int .i64 V, .slice A n c], .agg #[.int .u8 k, .int .i64 st, .int .i64 so, .int .i64 dm, .int .i64 ep]] W fun e w' => SRes W w' e p S E) := Lib.hid (fun h W hW => (seqRun_any k st so dm ep V A n c L N W (HL.out.below hW) HN.out h hN).mono fun _ _ h => sres_of h hr hfw)
  have HC2 : Hid (n ≤ 1000 → ∀ W : World, Below w.heap.size w W → Calls Tryz.prog 22 #[.agg #[.int .i64 V, .slice A n c], .agg #[.int .u8 k, .int .i64 st, .int .i64 so, .int .i64 dm, .int .i64 ep]] W fun e w' => SRes W w' e p S E) := Lib.hid (fun h W hW => (rrun_any k st so dm ep V A n c L N W (HL.out.below hW) HN.out h hN).mono fun _ _ h => sres_of h hr hfw)
  clear hr hfw hN
  obtain ⟨g0, g1, _⟩ := two HH.out.gb
  obtain ⟨j0, j1, j2, j3, j4, _⟩ := jb_cells HH.out.jb
  have HT := Lib.hid (light_all V A n c L W2 (HL.out.below HH.out.below) HN.out hm)
  obtain ⟨t, ht⟩ : ∃ t, lightB V L = t := ⟨_, rfl⟩
  rw [ht] at HT
  have HTL := Lib.hid ht
  clear ht
  go_enter Tryz.func6, Tryz.ntmps6
  go_upto_region 1 with fail
  rw [← hW2, show w.heap.size = n0 from e0.symm]
  clear hW2 e0
  go_wp2_with fail
  refine HT.out.mono ?_
  rintro e w1 ⟨rfl, hb⟩
  replace HH := Lib.hid (HH.out.step hb)
  clear hb HT g0 g1 j0 j1 j2 j3 j4
  by_cases hgo : t = true ∧ (st ≤ 40 ∨ 2000 < st)
  · obtain ⟨rfl, hor⟩ := hgo
    have hn80 : n ≤ 80 := by have := lightB_few HTL.out; rwa [HN.out] at this
    replace HC1 := Lib.hid (HC1.out (by omega)); replace HC2 := Lib.hid (HC2.out (by omega))
    clear hn80 HTL
    obtain ⟨g0, g1, _⟩ := two HH.out.gb
    obtain ⟨j0, j1, j2, j3, j4, _⟩ := jb_cells HH.out.jb
    have hgt : (40 < st ∧ ¬ st ≤ 2000) ∨ ¬ 40 < st := by omega
    clear hor
    rcases hgt with ⟨h1, h2⟩ | h1
    all_goals
      obtain ⟨g0, g1, _⟩ := two HH.out.gb
      obtain ⟨j0, j1, j2, j3, j4, _⟩ := jb_cells HH.out.jb
      go_wp2_with fail
      refine (HC1.out w1 HH.out.below).mono ?_
      rintro e v1 ⟨av, a1, ac, a2, ai, a3, an1, an2, an3, rfl, hs1, hf1, hb1⟩
      obtain ⟨X1, hX1⟩ : ∃ X, X = v1.alloc (.cells #[.int .i64 p, .slice av an1 a1, .slice ac an2 a2, .slice ai an3 a3, .int .i64 S.sum, .int .i64 S.most] 33) := ⟨_, rfl⟩
      obtain ⟨bl1, eb1⟩ : ∃ b, b = v1.heap.size := ⟨_, rfl⟩
      have hb : Below w1.heap.size w1 X1 := by rw [hX1]; exact hb1.out.alloc hb1.out.size _
      replace HH := Lib.hid (HH.out.step hb)
      have HS1 : Hid (SAt X1 av ac ai an1 an2 an3 S) := Lib.hid (by rw [hX1]; exact hs1.out.below ((Below.refl _ v1).alloc (Nat.le_refl _) _))
      have HB1 : Hid (X1.heap[bl1]? = some (.cells #[.int .i64 p, .slice av an1 a1, .slice ac an2 a2, .slice ai an3 a3, .int .i64 S.sum, .int .i64 S.most] 33 (0, 0))) := Lib.hid (by rw [hX1, eb1]; exact heap_alloc_new v1 _)
      have HL1 := Lib.hid hf1.out
      clear hb hs1 hb1 hf1 g0 g1 j0 j1 j2 j3 j4
      go_upto_region 4 with fail
      rw [← hX1, show v1.heap.size = bl1 from eb1.symm]
      clear hX1 eb1
      obtain ⟨g0, g1, _⟩ := two HH.out.gb
      obtain ⟨j0, j1, j2, j3, j4, _⟩ := jb_cells HH.out.jb
      go_wp2_with fail
      refine (HC2.out X1 HH.out.below).mono ?_
      rintro e v2 ⟨bv, b1, bc, b2, bi, b3, bn1, bn2, bn3, rfl, hs2, hf2, hb2⟩
      obtain ⟨X2, hX2⟩ : ∃ X, X = v2.alloc (.cells #[.int .i64 p, .slice bv bn1 b1, .slice bc bn2 b2, .slice bi bn3 b3, .int .i64 S.sum, .int .i64 S.most] 33) := ⟨_, rfl⟩
      obtain ⟨bl2, eb2⟩ : ∃ b, b = v2.heap.size := ⟨_, rfl⟩
      have hb : Below X1.heap.size X1 X2 := by rw [hX2]; exact hb2.out.alloc hb2.out.size _
      replace HH := Lib.hid (HH.out.step hb)
      have HS2 : Hid (SAt X2 bv bc bi bn1 bn2 bn3 S) := Lib.hid (by rw [hX2]; exact hs2.out.below ((Below.refl _ v2).alloc (Nat.le_refl _) _))
      have HB2 : Hid (X2.heap[bl2]? = some (.cells #[.int .i64 p, .slice bv bn1 b1, .slice bc bn2 b2, .slice bi bn3 b3, .int .i64 S.sum, .int .i64 S.most] 33 (0, 0))) := Lib.hid (by rw [hX2, eb2]; exact heap_alloc_new v2 _)
      replace HS1 := Lib.hid (HS1.out.below hb); replace HB1 := Lib.hid (keep HB1.out hb)
      have HL2 := Lib.hid hf2.out
      clear hb hs2 hb2 hf2 g0 g1 j0 j1 j2 j3 j4
      go_upto_region 5 with fail
      rw [← hX2, show v2.heap.size = bl2 from eb2.symm]
      clear hX2 eb2
      obtain ⟨x0, x1, x2, x3, x4, x5, _⟩ := six HB1.out
      obtain ⟨y0, y1, y2, y3, y4, y5, _⟩ := six HB2.out
      have HQ := Lib.hid (rsqSame_any p p S S av ac ai bv bc bi an1 an2 an3 a1 a2 a3 bn1 bn2 bn3 b1 b2 b3 X2 HS1.out HS2.out (by have := HL1.out; omega) (by have := HL1.out; omega) (by have := HL1.out; omega) (by have := HL2.out; omega) (by have := HL2.out; omega) (by have := HL2.out; omega))
      rw [sameS_refl] at HQ
      go_wp2_with fail
      refine HQ.out.mono ?_
      rintro e w5 ⟨rfl, hb⟩
      replace HH := Lib.hid (HH.out.step hb)
      replace HS1 := Lib.hid (HS1.out.below hb); replace HS2 := Lib.hid (HS2.out.below hb); replace HB1 := Lib.hid (keep HB1.out hb); replace HB2 := Lib.hid (keep HB2.out hb)
      clear hb HQ x0 x1 x2 x3 x4 x5 y0 y1 y2 y3 y4 y5
      obtain ⟨x0, x1, x2, x3, x4, x5, _⟩ := six HB1.out
      obtain ⟨y0, y1, y2, y3, y4, y5, _⟩ := six HB2.out
      have HQ := Lib.hid (seqSame_any p p S S av ac ai bv bc bi an1 an2 an3 a1 a2 a3 bn1 bn2 bn3 b1 b2 b3 w5 HS1.out HS2.out (by have := HL1.out; omega) (by have := HL1.out; omega) (by have := HL1.out; omega) (by have := HL2.out; omega) (by have := HL2.out; omega) (by have := HL2.out; omega))
      rw [sameS_refl] at HQ
      go_wp2_with fail
      refine HQ.out.mono ?_
      rintro e w6 ⟨rfl, hb⟩
      replace HH := Lib.hid (HH.out.step hb)
      clear hb HQ x0 x1 x2 x3 x4 x5 y0 y1 y2 y3 y4 y5
      go_wp2_with fail
      refine (works_any _).mono ?_
      rintro e w7 ⟨rfl, hb⟩
      replace HH := Lib.hid (HH.out.step hb)
      clear hb
      go_wp2
      go_ret
      exact ⟨rfl, HH.out.below⟩
  · have hgo2 : t = false ∨ (t = true ∧ 40 < st ∧ st ≤ 2000) := by cases t <;> simp at hgo ⊢; omega
    clear hgo HC1 HC2 HTL
    obtain ⟨j0, j1, j2, j3, j4, _⟩ := jb_cells HH.out.jb
    rcases hgo2 with rfl | ⟨rfl, h1, h2⟩
    all_goals
      go_wp2_with fail
      refine (works_any _).mono ?_
      rintro e w7 ⟨rfl, hb⟩
      replace HH := Lib.hid (HH.out.step hb)
      clear hb
      go_wp2
      go_ret
      exact ⟨rfl, HH.out.below⟩

set_option maxRecDepth 100000 in
set_option maxHeartbeats 1000000 in
theorem law_same (p q : Int) (a b : Sq) (Av Ac Ai Bv Bc Bi : Option Addr) (nv nc ni cv cc ci mv mc mi dv dc di : Nat) (w : World) (ha : SAt w Av Ac Ai nv nc ni a) (hb : SAt w Bv Bc Bi mv mc mi b)
    (h1 : nv ≤ 9223372036854775807) (h2 : nc ≤ 9223372036854775807) (h3 : ni ≤ 9223372036854775807) (g1 : mv ≤ 9223372036854775807) (g2 : mc ≤ 9223372036854775807) (g3 : mi ≤ 9223372036854775807) :
    Calls Tryz.prog 7 #[.agg #[.int .i64 p, .slice Av nv cv, .slice Ac nc cc, .slice Ai ni ci, .int .i64 a.sum, .int .i64 a.most], .agg #[.int .i64 q, .slice Bv mv dv, .slice Bc mc dc, .slice Bi mi di, .int .i64 b.sum, .int .i64 b.most]] w fun e w' => e = .returned (.bool true) ∧ Below w.heap.size w w' := by
  have mixed := mixedI
  have D1 := Lib.hid (fun (W : World) (hW : Below w.heap.size w W) => seqSame_any p q a b Av Ac Ai Bv Bc Bi nv nc ni cv cc ci mv mc mi dv dc di W (ha.below hW) (hb.below hW) h1 h2 h3 g1 g2 g3)
  have D2 := Lib.hid (fun (W : World) (hW : Below w.heap.size w W) => rsqSame_any p q a b Av Ac Ai Bv Bc Bi nv nc ni cv cc ci mv mc mi dv dc di W (ha.below hW) (hb.below hW) h1 h2 h3 g1 g2 g3)
  have D3 := Lib.hid (fun (W : World) (hW : Below w.heap.size w W) => seqSame_any p p a a Av Ac Ai Av Ac Ai nv nc ni cv cc ci nv nc ni cv cc ci W (ha.below hW) (ha.below hW) h1 h2 h3 h1 h2 h3)
  obtain ⟨r, hr⟩ : ∃ r, sameS p q a b = r := ⟨_, rfl⟩
  rw [hr] at D1 D2
  simp only [sameS_refl] at D3
  obtain ⟨sa, hsa⟩ : ∃ x, x = a.sum := ⟨_, rfl⟩
  obtain ⟨ma, hma⟩ : ∃ x, x = a.most := ⟨_, rfl⟩
  obtain ⟨sb, hsb⟩ : ∃ x, x = b.sum := ⟨_, rfl⟩
  obtain ⟨mb, hmb⟩ : ∃ x, x = b.most := ⟨_, rfl⟩
  rw [← hsa, ← hma, ← hsb, ← hmb] at D1 D2
  rw [← hsa, ← hma] at D3
  rw [← hsa, ← hma, ← hsb, ← hmb]
  clear hr hsa hma hsb hmb ha hb h1 h2 h3 g1 g2 g3
  obtain ⟨W2, hW2⟩ : ∃ W2, W2 = (w.alloc (.cells #[.int .i64 p, .slice Av nv cv, .slice Ac nc cc, .slice Ai ni ci, .int .i64 sa, .int .i64 ma] 33)).alloc (.cells #[.int .i64 q, .slice Bv mv dv, .slice Bc mc dc, .slice Bi mi di, .int .i64 sb, .int .i64 mb] 33) := ⟨_, rfl⟩
  have hal := al2 w (.cells #[.int .i64 p, .slice Av nv cv, .slice Ac nc cc, .slice Ai ni ci, .int .i64 sa, .int .i64 ma] 33) (.cells #[.int .i64 q, .slice Bv mv dv, .slice Bc mc dc, .slice Bi mi di, .int .i64 sb, .int .i64 mb] 33)
  rw [← hW2] at hal
  obtain ⟨n0, e0⟩ : ∃ n0, n0 = w.heap.size := ⟨_, rfl⟩
  have HA : Hid (W2.heap[n0]? = some (.cells #[.int .i64 p, .slice Av nv cv, .slice Ac nc cc, .slice Ai ni ci, .int .i64 sa, .int .i64 ma] 33 (0, 0))) := Lib.hid (by rw [e0]; exact hal.1)
  have HB : Hid (W2.heap[n0 + 1]? = some (.cells #[.int .i64 q, .slice Bv mv dv, .slice Bc mc dc, .slice Bi mi di, .int .i64 sb, .int .i64 mb] 33 (0, 0))) := Lib.hid (by rw [e0]; exact hal.2.1)
  have HW := Lib.hid hal.2.2
  clear hal
  go_enter Tryz.func7, Tryz.ntmps7
  go_upto_region 1 with fail
  rw [← hW2, show w.heap.size = n0 from e0.symm]
  clear hW2 e0
  obtain ⟨x0, x1, x2, x3, x4, x5, _⟩ := six HA.out
  obtain ⟨ta, hta⟩ : ∃ t, fewB nv nc ni = t := ⟨_, rfl⟩
  obtain ⟨tb, htb⟩ : ∃ t, fewB mv mc mi = t := ⟨_, rfl⟩
  have F1 := Lib.hid (fun W => few_all p sa ma Av Ac Ai nv nc ni cv cc ci W)
  have F2 := Lib.hid (fun W => few_all q sb mb Bv Bc Bi mv mc mi dv dc di W)
  rw [hta] at F1; rw [htb] at F2
  clear hta htb
  go_wp2_with fail
  refine (F1.out _).mono ?_
  rintro e w3 ⟨rfl, hb⟩
  replace HA := Lib.hid (keep HA.out hb); replace HB := Lib.hid (keep HB.out hb); replace HW := Lib.hid (step_below HW.out HW.out.size hb)
  clear hb x0 x1 x2 x3 x4 x5 F1
  cases ta with
  | false =>
    go_wp2_with fail
    refine (works_any _).mono ?_
    rintro e w7 ⟨rfl, hb⟩
    replace HW := Lib.hid (step_below HW.out HW.out.size hb)
    clear hb
    go_wp2
    go_ret
    exact ⟨rfl, HW.out⟩
  | true =>
    obtain ⟨y0, y1, y2, y3, y4, y5, _⟩ := six HB.out
    go_wp2_with fail
    refine (F2.out _).mono ?_
    rintro e w4 ⟨rfl, hb⟩
    replace HA := Lib.hid (keep HA.out hb); replace HB := Lib.hid (keep HB.out hb); replace HW := Lib.hid (step_below HW.out HW.out.size hb)
    clear hb y0 y1 y2 y3 y4 y5 F2
    cases tb with
    | false =>
      go_wp2_with fail
      refine (works_any _).mono ?_
      rintro e w7 ⟨rfl, hb⟩
      replace HW := Lib.hid (step_below HW.out HW.out.size hb)
      clear hb
      go_wp2
      go_ret
      exact ⟨rfl, HW.out⟩
    | true =>
      have C1 := Lib.hid (regr fun W (hb : Below w4.heap.size w4 W) => D1.out W (step_below HW.out HW.out.size hb))
      have C2 := Lib.hid (regr fun W (hb : Below w4.heap.size w4 W) => D2.out W (step_below HW.out HW.out.size hb))
      have C3 := Lib.hid (regr fun W (hb : Below w4.heap.size w4 W) => D3.out W (step_below HW.out HW.out.size hb))
      have C4 := Lib.hid (regr fun W (_ : Below w4.heap.size w4 W) => works_any W)
      clear D1 D2 D3
      obtain ⟨x0, x1, x2, x3, x4, x5, _⟩ := six HA.out
      obtain ⟨y0, y1, y2, y3, y4, y5, _⟩ := six HB.out
      have s0 := cell_regrown x0; have s1 := cell_regrown x1; have s2 := cell_regrown x2; have s3 := cell_regrown x3; have s4 := cell_regrown x4; have s5 := cell_regrown x5
      have u0 := cell_regrown y0; have u1 := cell_regrown y1; have u2 := cell_regrown y2; have u3 := cell_regrown y3; have u4 := cell_regrown y4; have u5 := cell_regrown y5
      clear x0 x1 x2 x3 x4 x5 y0 y1 y2 y3 y4 y5
      go_upto_region 3 with fail
      refine wp_region_quiet_below mixed (by kernel_rfl) ?_
      repeat (go_big_quiet_step ((with_reducible first | exact C1.out _ _ | exact C2.out _ _ | exact C3.out _ _ | exact C4.out _ _)))
      refine wpQuiet_nil ?_
      intro w5 hw5
      have hb5 : Below w4.heap.size w4 w5 := by obtain ⟨⟨dq, osq⟩, rfl⟩ := hw5; exact below_regrown w4 dq osq
      replace HW := Lib.hid (step_below HW.out HW.out.size hb5)
      clear hb5 hw5 C1 C2 C3 C4 s0 s1 s2 s3 s4 s5 u0 u1 u2 u3 u4 u5
      go_wp2
      go_ret
      exact ⟨rfl, HW.out⟩

end Go.Proofs.YtbbmgandkmlojaaGreat.Sq

/-
  What is proved here: the law SeqStart walked: it returns true, and no block that was there has changed. Conditions: rows that a memory holds.
-/
namespace Go.Proofs.YtbbmgandkmlojaaGreat.Sq
open Go.RowKit Go.Shelf Gr Wd Ws Fx Rk Lb Al In
open Pa (vl bt vl_of vl_at bt_of bt_at)

theorem few_start (k st so dm ep V : Int) (L : List Ed) : Few (startR k st so dm ep V L).2.1 := by
  unfold startR
  split
  · rename_i h; exact few_st h 0
  · exact few_z
set_option maxRecDepth 100000 in
set_option maxHeartbeats 1000000 in
theorem law_start (k st so dm ep V : Int) (A : Option Addr) (n c : Nat) (L : List Ed) (w : World) (hL : EAt w A L) (hn : L.length = n) (hm : n ≤ 9223372036854775807) :
    Calls Tryz.prog 3 #[.agg #[.int .i64 V, .slice A n c], .agg #[.int .u8 k, .int .i64 st, .int .i64 so, .int .i64 dm, .int .i64 ep]] w fun e w' => e = .returned (.bool true) ∧ Below w.heap.size w w' := by
  subst hn
  have HL := Lib.hid hL
  clear hL
  obtain ⟨W2, hW2⟩ : ∃ W2, W2 = (w.alloc (.cells #[.int .i64 V, .slice A L.length c] 24)).alloc (.cells #[.int .u8 k, .int .i64 st, .int .i64 so, .int .i64 dm, .int .i64 ep] 26) := ⟨_, rfl⟩
  have hal := al2 w (.cells #[.int .i64 V, .slice A L.length c] 24) (.cells #[.int .u8 k, .int .i64 st, .int .i64 so, .int .i64 dm, .int .i64 ep] 26)
  rw [← hW2] at hal
  obtain ⟨n0, e0⟩ : ∃ n0, n0 = w.heap.size := ⟨_, rfl⟩
  have HH : Hid (LwH w W2 n0 V A L.length c k st so dm ep) := Lib.hid ⟨hal.2.2, by rw [e0]; exact hal.1, by rw [e0]; exact hal.2.1⟩
  clear hal
  obtain ⟨r, hr⟩ : ∃ r, startR k st so dm ep V L = r := ⟨_, rfl⟩
  obtain ⟨p, S, E⟩ := r
  have hfw : Few S := by have := few_start k st so dm ep V L; rw [hr] at this; exact this
  have HC1 : Hid (L.length ≤ 1000 → ∀ W : World, Below w.heap.size w W → Calls Tryz.prog 12 #[.agg #[.int .i64 V, .slice A L.length c], .agg #[.int .u8 k, .int .i64 st, .int .i64 so, .int .i64 dm, .int .i64 ep]] W fun e w' => SRes W w' e p S E) := Lib.hid (fun h W hW => (seqStart_any k st so dm ep V A L.length c L W (HL.out.below hW) rfl h).mono fun _ _ h => sres_of h hr hfw)
  have HC2 : Hid (L.length ≤ 1000 → ∀ W : World, Below w.heap.size w W → Calls Tryz.prog 13 #[.agg #[.int .i64 V, .slice A L.length c], .agg #[.int .u8 k, .int .i64 st, .int .i64 so, .int .i64 dm, .int .i64 ep]] W fun e w' => SRes W w' e p S E) := Lib.hid (fun h W hW => (rstart_any' k st so dm ep V A L.length c L W (HL.out.below hW) rfl h).mono fun _ _ h => sres_of h hr hfw)
  clear hr hfw
  obtain ⟨g0, g1, _⟩ := two HH.out.gb
  obtain ⟨j0, j1, j2, j3, j4, _⟩ := jb_cells HH.out.jb
  have HT := Lib.hid (light_all V A L.length c L W2 (HL.out.below HH.out.below) rfl hm)
  obtain ⟨t, ht⟩ : ∃ t, lightB V L = t := ⟨_, rfl⟩
  rw [ht] at HT
  have HTL := Lib.hid ht
  clear ht
  go_enter Tryz.func3, Tryz.ntmps3
  go_upto_region 1 with fail
  rw [← hW2, show w.heap.size = n0 from e0.symm]
  clear hW2 e0
  go_wp2_with fail
  refine HT.out.mono ?_
  rintro e w1 ⟨rfl, hb⟩
  replace HH := Lib.hid (HH.out.step hb)
  clear hb HT g0 g1 j0 j1 j2 j3 j4
  cases t with
  | true =>
    have hn80 : L.length ≤ 80 := lightB_few HTL.out
    replace HC1 := Lib.hid (HC1.out (by omega)); replace HC2 := Lib.hid (HC2.out (by omega))
    have HLW := Lib.hid (HL.out.below HH.out.below)
    have HNL : Hid (L.length < 1000000000) := Lib.hid (by omega)
    have HSZ := Lib.hid HH.out.below.size
    clear hn80 HTL
    obtain ⟨g0, g1, _⟩ := two HH.out.gb
    go_wp2_with (at_builtin; refine app_copy rfl (.tmp 14) (.tmp 16) rfl w.heap.size L rfl A c rfl HLW.out HNL.out HSZ.out ?_)
    intro v3 w3 ho3 hg3
    have hb : Below w1.heap.size w1 w3 := Below.grown (Below.refl _ w1) hg3 (Nat.le_refl _) (fun j e => by cases e)
    replace HH := Lib.hid (HH.out.step hb)
    obtain ⟨A3, c3, rfl, he3, _⟩ := ho3.form
    have HE := Lib.hid he3
    clear hb ho3 hg3 HLW g0 g1 he3 HSZ
    obtain ⟨g0, g1, _⟩ := two HH.out.gb
    obtain ⟨j0, j1, j2, j3, j4, _⟩ := jb_cells HH.out.jb
    go_wp2_with fail
    refine (HC1.out w3 HH.out.below).mono ?_
    rintro e v1 ⟨av, a1, ac, a2, ai, a3, an1, an2, an3, rfl, hs1, hf1, hb1⟩
    obtain ⟨X1, hX1⟩ : ∃ X, X = v1.alloc (.cells #[.int .i64 p, .slice av an1 a1, .slice ac an2 a2, .slice ai an3 a3, .int .i64 S.sum, .int .i64 S.most] 33) := ⟨_, rfl⟩
    obtain ⟨bl1, eb1⟩ : ∃ b, b = v1.heap.size := ⟨_, rfl⟩
    have hb : Below w3.heap.size w3 X1 := by rw [hX1]; exact hb1.out.alloc hb1.out.size _
    replace HH := Lib.hid (HH.out.step hb)
    have HS1 : Hid (SAt X1 av ac ai an1 an2 an3 S) := Lib.hid (by rw [hX1]; exact hs1.out.below ((Below.refl _ v1).alloc (Nat.le_refl _) _))
    have HB1 : Hid (X1.heap[bl1]? = some (.cells #[.int .i64 p, .slice av an1 a1, .slice ac an2 a2, .slice ai an3 a3, .int .i64 S.sum, .int .i64 S.most] 33 (0, 0))) := Lib.hid (by rw [hX1, eb1]; exact heap_alloc_new v1 _)
    replace HE := Lib.hid (HE.out.below hb)
    have HL1 := Lib.hid hf1.out
    clear hb hs1 hb1 hf1 g0 g1 j0 j1 j2 j3 j4
    go_upto_region 6 with fail
    rw [← hX1, show v1.heap.size = bl1 from eb1.symm]
    clear hX1 eb1
    obtain ⟨g0, g1, _⟩ := two HH.out.gb
    obtain ⟨j0, j1, j2, j3, j4, _⟩ := jb_cells HH.out.jb
    go_wp2_with fail
    refine (HC2.out X1 HH.out.below).mono ?_
    rintro e v2 ⟨bv, b1, bc, b2, bi, b3, bn1, bn2, bn3, rfl, hs2, hf2, hb2⟩
    obtain ⟨X2, hX2⟩ : ∃ X, X = v2.alloc (.cells #[.int .i64 p, .slice bv bn1 b1, .slice bc bn2 b2, .slice bi bn3 b3, .int .i64 S.sum, .int .i64 S.most] 33) := ⟨_, rfl⟩
    obtain ⟨bl2, eb2⟩ : ∃ b, b = v2.heap.size := ⟨_, rfl⟩
    have hb : Below X1.heap.size X1 X2 := by rw [hX2]; exact hb2.out.alloc hb2.out.size _
    replace HH := Lib.hid (HH.out.step hb)
    have HS2 : Hid (SAt X2 bv bc bi bn1 bn2 bn3 S) := Lib.hid (by rw [hX2]; exact hs2.out.below ((Below.refl _ v2).alloc (Nat.le_refl _) _))
    have HB2 : Hid (X2.heap[bl2]? = some (.cells #[.int .i64 p, .slice bv bn1 b1, .slice bc bn2 b2, .slice bi bn3 b3, .int .i64 S.sum, .int .i64 S.most] 33 (0, 0))) := Lib.hid (by rw [hX2, eb2]; exact heap_alloc_new v2 _)
    replace HS1 := Lib.hid (HS1.out.below hb); replace HB1 := Lib.hid (keep HB1.out hb)
    replace HE := Lib.hid (HE.out.below hb)
    have HL2 := Lib.hid hf2.out
    clear hb hs2 hb2 hf2 g0 g1 j0 j1 j2 j3 j4
    go_upto_region 7 with fail
    rw [← hX2, show v2.heap.size = bl2 from eb2.symm]
    clear hX2 eb2
    obtain ⟨x0, x1, x2, x3, x4, x5, _⟩ := six HB1.out
    obtain ⟨y0, y1, y2, y3, y4, y5, _⟩ := six HB2.out
    have HQ := Lib.hid (rsqSame_any p p S S av ac ai bv bc bi an1 an2 an3 a1 a2 a3 bn1 bn2 bn3 b1 b2 b3 X2 HS1.out HS2.out (by have := HL1.out; omega) (by have := HL1.out; omega) (by have := HL1.out; omega) (by have := HL2.out; omega) (by have := HL2.out; omega) (by have := HL2.out; omega))
    rw [sameS_refl] at HQ
    go_wp2_with fail
    refine HQ.out.mono ?_
    rintro e w5 ⟨rfl, hb⟩
    replace HH := Lib.hid (HH.out.step hb)
    replace HE := Lib.hid (HE.out.below hb)
    clear hb HQ x0 x1 x2 x3 x4 x5 y0 y1 y2 y3 y4 y5
    obtain ⟨g0, g1, _⟩ := two HH.out.gb
    have HQ := Lib.hid (rsame_edges A3 A c3 c L L w5 HE.out (HL.out.below HH.out.below) hm hm)
    rw [show decide (L = L) = true by simp] at HQ
    go_wp2_with fail
    refine HQ.out.mono ?_
    rintro e w6 ⟨rfl, hb⟩
    replace HH := Lib.hid (HH.out.step hb)
    clear hb HQ g0 g1
    go_wp2_with fail
    refine (works_any _).mono ?_
    rintro e w7 ⟨rfl, hb⟩
    replace HH := Lib.hid (HH.out.step hb)
    clear hb
    go_wp2
    go_ret
    exact ⟨rfl, HH.out.below⟩
  | false =>
    clear HC1 HC2 HTL
    go_wp2_with fail
    refine (works_any _).mono ?_
    rintro e w7 ⟨rfl, hb⟩
    replace HH := Lib.hid (HH.out.step hb)
    clear hb
    go_wp2
    go_ret
    exact ⟨rfl, HH.out.below⟩

end Go.Proofs.YtbbmgandkmlojaaGreat.Sq

/-
  What is proved here: a contract of the document's own May. Conditions: counts fit an int.
-/
namespace Go.Proofs.YtbbmgandkmlojaaGreat.Sq
open Go.RowKit Gr Wd Ws Fx Rk Lb Al In

def restB (vs : List Int) (ms : List Ml) : Bool := (!vs.any fun x => !inB x) && !ms.any badB
theorem restB_cons (y : Int) (m : Ml) (vs : List Int) (ms : List Ml) : restB (y :: vs) (m :: ms) = (inB y && (!badB m && restB vs ms)) := by
  unfold restB
  simp only [List.any_cons]
  cases inB y <;> cases badB m <;> simp
def RmRel (w : World) (vs : List Int) (ms : List Ml) (g : Nat) (i : Value) (wr : World) : Prop :=
  ∃ k : Nat, k + g = vs.length ∧ i = .int .i64 (k : Int) ∧ Hid (Below w.heap.size w wr) ∧ Hid (restB vs ms = restB (vs.drop k) (ms.drop k))
set_option maxRecDepth 100000 in
set_option maxHeartbeats 4000000 in
theorem rmay_any (V st : Int) (s : Sq) (Av Ac Ai : Option Addr) (nv nc ni cv cc ci : Nat) (w : World) (ha : SAt w Av Ac Ai nv nc ni s) (h1 : nv ≤ 9223372036854775807) (h2 : nc ≤ 9223372036854775807) (h3 : ni ≤ 9223372036854775807) :
    Calls Tryz.prog 25 #[.agg #[.int .i64 st, .slice Av nv cv, .slice Ac nc cc, .slice Ai ni ci, .int .i64 s.sum, .int .i64 s.most], .int .i64 V] w fun e w' => e = .returned (.bool (mayB V st s)) ∧ Below w.heap.size w w' := by
  have HA := Lib.hid ha
  clear ha
  obtain ⟨r, hr⟩ : ∃ r, mayB V st s = r := ⟨_, rfl⟩
  rw [hr]
  unfold mayB at hr
  rw [HA.out.nv, HA.out.nc, HA.out.ni, show ((!s.vals.any fun x => !inB x) && !s.inb.any badB) = restB s.vals s.inb from rfl] at hr
  obtain ⟨sm, esm⟩ : ∃ sm, sm = s.sum := ⟨_, rfl⟩
  obtain ⟨mo, emo⟩ : ∃ mo, mo = s.most := ⟨_, rfl⟩
  rw [← esm, ← emo] at hr ⊢
  clear esm emo
  obtain ⟨W1, hW1⟩ : ∃ W1, W1 = w.alloc (.cells #[.int .i64 st, .slice Av nv cv, .slice Ac nc cc, .slice Ai ni ci, .int .i64 sm, .int .i64 mo] 33) := ⟨_, rfl⟩
  have HB1 : Hid (Below w.heap.size w W1) := Lib.hid (by rw [hW1]; exact (Below.refl _ w).alloc (Nat.le_refl _) _)
  have HX : Hid (W1.heap[w.heap.size]? = some (.cells #[.int .i64 st, .slice Av nv cv, .slice Ac nc cc, .slice Ai ni ci, .int .i64 sm, .int .i64 mo] 33 (0, 0))) := Lib.hid (by rw [hW1]; exact heap_alloc_new w _)
  obtain ⟨b0, e0⟩ : ∃ b0, b0 = w.heap.size := ⟨_, rfl⟩
  rw [← e0] at HX
  obtain ⟨x0, x1, x2, x3, x4, x5, _⟩ := six HX.out
  obtain ⟨q1, hq1⟩ : ∃ q, inB sm = q := ⟨_, rfl⟩
  obtain ⟨q2, hq2⟩ : ∃ q, inB mo = q := ⟨_, rfl⟩
  rw [hq1, hq2] at hr
  have D1 := Lib.hid (fun W => rin_at sm q1 (Lib.hid hq1) W)
  have D2 := Lib.hid (fun W => rin_at mo q2 (Lib.hid hq2) W)
  clear hq1 hq2
  by_cases k1 : 0 ≤ st
  · by_cases k2 : st ≤ 2000
    · by_cases k5 : (nv : Int) = V
      · by_cases k6 : (nc : Int) = V
        · by_cases k7 : (ni : Int) = V
          · subst k5
            obtain rfl : nc = nv := by omega
            obtain rfl : ni = nc := by omega
            clear k6 k7
            rw [decide_eq_true k1, decide_eq_true k2] at hr
            cases q1 with
            | false =>
              obtain rfl : false = r := by rw [← hr]; simp
              clear hr
              go_enter Tryz.func25, Tryz.ntmps25
              go_upto_region 1 with fail
              rw [← hW1, show w.heap.size = b0 from e0.symm]
              clear hW1 e0
              go_wp2_with fail
              refine (D1.out _).mono ?_
              rintro e w2 ⟨rfl, rfl⟩
              go_wp2_with fail
              go_ret
              exact ⟨rfl, HB1.out⟩
            | true =>
              cases q2 with
              | false =>
                obtain rfl : false = r := by rw [← hr]; simp
                clear hr
                go_enter Tryz.func25, Tryz.ntmps25
                go_upto_region 1 with fail
                rw [← hW1, show w.heap.size = b0 from e0.symm]
                clear hW1 e0
                go_wp2_with fail
                refine (D1.out _).mono ?_
                rintro e w2 ⟨rfl, rfl⟩
                go_wp2_with fail
                refine (D2.out _).mono ?_
                rintro e w2 ⟨rfl, rfl⟩
                go_wp2_with fail
                go_ret
                exact ⟨rfl, HB1.out⟩
              | true =>
                have HR : Hid (restB s.vals s.inb = r) := Lib.hid (by rw [← hr]; simp)
                clear hr
                go_enter Tryz.func25, Tryz.ntmps25
                go_upto_region 1 with fail
                rw [← hW1, show w.heap.size = b0 from e0.symm]
                clear hW1 e0
                go_wp2_with fail
                refine (D1.out _).mono ?_
                rintro e w2 ⟨rfl, rfl⟩
                go_wp2_with fail
                refine (D2.out _).mono ?_
                rintro e w2 ⟨rfl, rfl⟩
                go_wp2_with fail
                clear D1 D2 x0 x1 x2 x3 x4 x5
                go_loopg [5] ni (fun g i wr => RmRel W1 s.vals s.inb g i wr)
                case atStart => exact ⟨0, by have := HA.out.nv; omega, rfl, Lib.hid (Below.refl _ W1), Lib.hid rfl⟩
                case round =>
                  obtain ⟨k, hk, rfl, hb, hd⟩ := hrel
                  rw [HA.out.nv] at hk
                  obtain ⟨x0, x1, x2, x3, x4, x5, _⟩ := six (keep HX.out hb.out)
                  by_cases hlt : k < ni
                  · obtain ⟨y, hy⟩ := at_lt s.vals k (by rw [HA.out.nv]; exact hlt)
                    obtain ⟨⟨p, q⟩, hq⟩ := at_lt s.inb k (by rw [HA.out.ni]; exact hlt)
                    obtain ⟨bk, o, rfl, c0⟩ := ((HA.out.v.below HB1.out).below hb.out) k y hy
                    obtain ⟨bk', o', rfl, d0, d1⟩ := ((HA.out.i.below HB1.out).below hb.out) k (p, q) hq
                    simp only at d0 d1
                    obtain ⟨t1, ht1⟩ : ∃ t, inB y = t := ⟨_, rfl⟩
                    obtain ⟨t2, ht2⟩ : ∃ t, inB q = t := ⟨_, rfl⟩
                    have HD : Hid (restB s.vals s.inb = (t1 && (!(p && !t2) && restB (s.vals.drop (k + 1)) (s.inb.drop (k + 1))))) := Lib.hid (by rw [hd.out, drop_at hy, drop_at hq, restB_cons, ht1]; unfold badB; simp only [ht2])
                    have D1 := Lib.hid (fun W => rin_at y t1 (Lib.hid ht1) W)
                    have D2 := Lib.hid (fun W => rin_at q t2 (Lib.hid ht2) W)
                    clear hd hy hq ht1 ht2
                    cases t1 with
                    | false =>
                      obtain rfl : false = r := by rw [← HR.out, HD.out]; rfl
                      go_wp2_with fail
                      refine (D1.out _).mono ?_
                      rintro e w2 ⟨rfl, rfl⟩
                      go_wp2_with fail
                      go_ret
                      exact ⟨rfl, step_below HB1.out HB1.out.size hb.out⟩
                    | true =>
                      cases p with
                      | false =>
                        have HD2 : Hid (restB s.vals s.inb = restB (s.vals.drop (k + 1)) (s.inb.drop (k + 1))) := Lib.hid (by rw [HD.out]; rfl)
                        go_wp2_with fail
                        refine (D1.out _).mono ?_
                        rintro e w2 ⟨rfl, rfl⟩
                        go_wp2_with fail
                        go_roundg (gk - 1)
                        case measure => omega
                        case rel => exact ⟨k + 1, by have := HA.out.nv; omega, by go_num, hb, HD2⟩
                      | true =>
                        cases t2 with
                        | true =>
                          have HD2 : Hid (restB s.vals s.inb = restB (s.vals.drop (k + 1)) (s.inb.drop (k + 1))) := Lib.hid (by rw [HD.out]; rfl)
                          go_wp2_with fail
                          refine (D1.out _).mono ?_
                          rintro e w2 ⟨rfl, rfl⟩
                          go_wp2_with fail
                          refine (D2.out _).mono ?_
                          rintro e w2 ⟨rfl, rfl⟩
                          go_wp2_with fail
                          go_roundg (gk - 1)
                          case measure => omega
                          case rel => exact ⟨k + 1, by have := HA.out.nv; omega, by go_num, hb, HD2⟩
                        | false =>
                          obtain rfl : false = r := by rw [← HR.out, HD.out]; rfl
                          go_wp2_with fail
                          refine (D1.out _).mono ?_
                          rintro e w2 ⟨rfl, rfl⟩
                          go_wp2_with fail
                          refine (D2.out _).mono ?_
                          rintro e w2 ⟨rfl, rfl⟩
                          go_wp2_with fail
                          go_ret
                          exact ⟨rfl, step_below HB1.out HB1.out.size hb.out⟩
                  · obtain rfl : true = r := by
                      rw [← HR.out, hd.out, List.drop_eq_nil_of_le (by rw [HA.out.nv]; omega), List.drop_eq_nil_of_le (by rw [HA.out.ni]; omega)]; rfl
                    go_wp2_with fail
                    go_ret
                    exact ⟨rfl, step_below HB1.out HB1.out.size hb.out⟩
          · obtain rfl : false = r := by rw [← hr, decide_eq_false k7]; simp
            clear hr
            subst k5
            obtain rfl : nc = nv := by omega
            clear k6
            go_enter Tryz.func25, Tryz.ntmps25
            go_upto_region 1 with fail
            rw [← hW1, show w.heap.size = b0 from e0.symm]
            clear hW1 e0
            go_wp2_with fail
            go_ret
            exact ⟨rfl, HB1.out⟩
        · obtain rfl : false = r := by rw [← hr, decide_eq_false k6]; simp
          clear hr
          subst k5
          go_enter Tryz.func25, Tryz.ntmps25
          go_upto_region 1 with fail
          rw [← hW1, show w.heap.size = b0 from e0.symm]
          clear hW1 e0
          go_wp2_with fail
          go_ret
          exact ⟨rfl, HB1.out⟩
      · obtain rfl : false = r := by rw [← hr, decide_eq_false k5]; simp
        clear hr
        go_enter Tryz.func25, Tryz.ntmps25
        go_upto_region 1 with fail
        rw [← hW1, show w.heap.size = b0 from e0.symm]
        clear hW1 e0
        go_wp2_with fail
        go_ret
        exact ⟨rfl, HB1.out⟩
    · obtain rfl : false = r := by rw [← hr, decide_eq_false k2]; simp
      clear hr
      go_enter Tryz.func25, Tryz.ntmps25
      go_upto_region 1 with fail
      rw [← hW1, show w.heap.size = b0 from e0.symm]
      clear hW1 e0
      go_wp2_with fail
      go_ret
      exact ⟨rfl, HB1.out⟩
  · obtain rfl : false = r := by rw [← hr, decide_eq_false k1]; simp
    clear hr
    go_enter Tryz.func25, Tryz.ntmps25
    go_upto_region 1 with fail
    rw [← hW1, show w.heap.size = b0 from e0.symm]
    clear hW1 e0
    go_wp2_with fail
    go_ret
    exact ⟨rfl, HB1.out⟩

end Go.Proofs.YtbbmgandkmlojaaGreat.Sq

/-
  What is proved here: the law SeqGoes walked: it returns true, and no block that was there has changed. Conditions: rows that a memory holds.
-/
namespace Go.Proofs.YtbbmgandkmlojaaGreat.Sq
open Go.RowKit Go.Shelf Gr Wd Ws Fx Rk Lb Al In
open Pa (vl bt vl_of vl_at bt_of bt_at)

theorem run_of {k st so dm ep V : Int} {L : List Ed} (h : chkJ k st so dm ep V L = 0) : ∃ N : Nat, (N : Int) ≤ st ∧ donB k st ep (N : Int) (stS k so dm V.toNat L N).most = true ∧ N ≤ 2000 ∧ ∀ i : Nat, i < N → donB k st ep (i : Int) (stS k so dm V.toNat L i).most = false := by
  obtain ⟨hz, hst0, hst1, hk, hd0, hd1⟩ := chkJ_zero h
  obtain ⟨N, h1, h2, h3⟩ := first_done (ep := ep) hk hst0 (fun i => (stS k so dm V.toNat L i).most)
  exact ⟨N, h1, h2, by omega, h3⟩
/- What holds of two states, one behind the other. -/
structure TwoS (k : Int) (Vn q : Nat) (S T : Sq) : Prop where
  may : mayB (Vn : Int) ((q : Int) + 1) T = true
  falls : k ≠ 1 → ∀ v, v < Vn → vl T.vals v ≤ vl S.vals v
  sum : k = 1 → T.vals.foldl addI 0 ≤ 4294967296
  rest : k ≠ 1 → 0 < q → S.most = 0 → S.vals = T.vals ∧ T.most = 0
  tl : T.vals.length = Vn
  sl : S.vals.length = Vn
  tin : ∀ x ∈ T.vals, InR x
  sfew : Few S
  tfew : Few T
theorem two_of {k st so dm ep : Int} {Vn : Nat} {L : List Ed} (h : chkJ k st so dm ep (Vn : Int) L = 0) (q : Nat) (hq : q < 14) : TwoS k Vn q (stS k so dm Vn L q) (stS k so dm Vn L (q + 1)) := by
  obtain ⟨hz, hst0, hst1, hk, hd0, hd1⟩ := chkJ_zero h
  have hS : GoS k Vn L (stS k so dm Vn L q) := go_all hz (fun _ => ⟨hd0, hd1⟩) q
  have hT : GoS k Vn L (stS k so dm Vn L (q + 1)) := go_all hz (fun _ => ⟨hd0, hd1⟩) (q + 1)
  refine ⟨(mayB_iff Vn _ _).2 ⟨by omega, hT.may⟩, fun hk1 v hv => go_falls (by omega) q v hv, fun hk1 => by subst hk1; exact go_sum hT, fun hk1 h0 hm => ?_, hT.may.1, hS.may.1, hT.may.2.2.2.1, few_st h q, few_st h (q + 1)⟩
  obtain ⟨r, rfl⟩ : ∃ r, q = r + 1 := ⟨q - 1, by omega⟩
  obtain ⟨h1, h2⟩ := go_rests hz (by omega : k = 2 ∨ k = 3) r hm
  exact ⟨h1.symm, h2⟩
theorem fold_in : ∀ (l : List Int) (a : Int), InR a → InR (l.foldl addI a)
  | [], _, h => h
  | _ :: l, _, _ => fold_in l _ (addI_in _ _)
theorem fold_take {l : List Int} {r : Nat} {y : Int} (h : l[r]? = some y) : (l.take (r + 1)).foldl addI 0 = addI ((l.take r).foldl addI 0) y := by
  rw [List.take_add_one, h, List.foldl_append]; rfl

set_option maxRecDepth 100000 in
set_option maxHeartbeats 4000000 in
theorem law_goes (k st so dm ep V : Int) (A : Option Addr) (n c : Nat) (L : List Ed) (w : World) (hL : EAt w A L) (hn : L.length = n) (hm : n ≤ 9223372036854775807) :
    Calls Tryz.prog 8 #[.agg #[.int .i64 V, .slice A n c], .agg #[.int .u8 k, .int .i64 st, .int .i64 so, .int .i64 dm, .int .i64 ep]] w fun e w' => e = .returned (.bool true) ∧ Below w.heap.size w w' := by
  have mixed := mixedI
  have HL := Lib.hid hL; have HN := Lib.hid hn
  clear hL hn
  obtain ⟨W2, hW2⟩ : ∃ W2, W2 = (w.alloc (.cells #[.int .i64 V, .slice A n c] 24)).alloc (.cells #[.int .u8 k, .int .i64 st, .int .i64 so, .int .i64 dm, .int .i64 ep] 26) := ⟨_, rfl⟩
  have hal := al2 w (.cells #[.int .i64 V, .slice A n c] 24) (.cells #[.int .u8 k, .int .i64 st, .int .i64 so, .int .i64 dm, .int .i64 ep] 26)
  rw [← hW2] at hal
  obtain ⟨n0, e0⟩ : ∃ n0, n0 = w.heap.size := ⟨_, rfl⟩
  have HH : Hid (LwH w W2 n0 V A n c k st so dm ep) := Lib.hid ⟨hal.2.2, by rw [e0]; exact hal.1, by rw [e0]; exact hal.2.1⟩
  have HN0 : Hid (w.heap.size ≤ n0) := Lib.hid (by omega)
  clear hal
  obtain ⟨g0, g1, _⟩ := two HH.out.gb
  obtain ⟨j0, j1, j2, j3, j4, _⟩ := jb_cells HH.out.jb
  have HT := Lib.hid (light_all V A n c L W2 (HL.out.below HH.out.below) HN.out hm)
  obtain ⟨t, ht⟩ : ∃ t, lightB V L = t := ⟨_, rfl⟩
  rw [ht] at HT
  have HTL := Lib.hid ht
  clear ht
  obtain ⟨E, hE⟩ : ∃ E, E = chkJ k st so dm ep V L := ⟨_, rfl⟩
  have HC : Hid (∀ W, n ≤ 80 → Below w.heap.size w W → Calls Tryz.prog 24 #[.agg #[.int .i64 V, .slice A n c], .agg #[.int .u8 k, .int .i64 st, .int .i64 so, .int .i64 dm, .int .i64 ep]] W fun e w' => e = .returned (.int .i64 E) ∧ Below W.heap.size W w') := Lib.hid (fun W h8 h => by
    rw [hE, ← HN.out]
    exact checkj_any k st so dm ep V A c L W (HL.out.below h) (by rw [HN.out]; omega))
  have HE := Lib.hid hE
  clear hE
  go_enter Tryz.func8, Tryz.ntmps8
  go_upto_region 1 with fail
  rw [← hW2, show w.heap.size = n0 from e0.symm]
  clear hW2 e0
  go_wp2_with fail
  refine HT.out.mono ?_
  rintro e w1 ⟨rfl, hb⟩
  replace HH := Lib.hid (HH.out.step hb)
  clear hb HT g0 g1 j0 j1 j2 j3 j4
  by_cases hgo : t = true ∧ st ≤ 30
  case neg =>
    have hgo2 : t = false ∨ (t = true ∧ 30 < st) := by cases t <;> simp at hgo ⊢; omega
    clear hgo HC HTL
    obtain ⟨j0, j1, j2, j3, j4, _⟩ := jb_cells HH.out.jb
    rcases hgo2 with rfl | ⟨rfl, h1⟩
    all_goals
      go_wp2_with fail
      refine (works_any _).mono ?_
      rintro e w7 ⟨rfl, hb⟩
      replace HH := Lib.hid (HH.out.step hb)
      clear hb
      go_wp2
      go_ret
      exact ⟨rfl, HH.out.below⟩
  obtain ⟨rfl, h30'⟩ := hgo
  have h30 : ¬ 30 < st := by omega
  clear h30'
  have hn80 : n ≤ 80 := by have := lightB_few HTL.out; rwa [HN.out] at this
  clear HTL
  obtain ⟨g0, g1, _⟩ := two HH.out.gb
  obtain ⟨j0, j1, j2, j3, j4, _⟩ := jb_cells HH.out.jb
  go_wp2_with fail
  refine (HC.out _ hn80 HH.out.below).mono ?_
  rintro e w2 ⟨rfl, hb⟩
  replace HH := Lib.hid (HH.out.step hb)
  clear hb HC g0 g1 j0 j1 j2 j3 j4
  by_cases hE0 : E = 0
  case neg =>
    have hEb : (E != 0) = true := by simpa using hE0
    go_wp2_with fail
    refine (works_any _).mono ?_
    rintro e w7 ⟨rfl, hb⟩
    replace HH := Lib.hid (HH.out.step hb)
    clear hb
    go_wp2
    go_ret
    exact ⟨rfl, HH.out.below⟩
  subst hE0
  have hcj : chkJ k st so dm ep V L = 0 := HE.out.symm
  obtain ⟨hz, hst0, hst1, hk, hd0, hd1⟩ := chkJ_zero hcj
  obtain ⟨Vn, rfl, hV1, hV2, hfit⟩ := chk_facts hz
  clear hz hst0 hst1 hd0 hd1 hfit HE
  obtain ⟨N, hN0, hN1, hN2, hN3⟩ := run_of hcj
  have HTW : Hid (∀ q : Nat, q < 14 → TwoS k Vn q (stS k so dm Vn L q) (stS k so dm Vn L (q + 1))) := Lib.hid (fun q hq => two_of hcj q hq)
  have CS : Hid (∀ W : World, Below w.heap.size w W → Calls Tryz.prog 12 #[.agg #[.int .i64 (Vn : Int), .slice A n c], .agg #[.int .u8 k, .int .i64 st, .int .i64 so, .int .i64 dm, .int .i64 ep]] W fun e w' => Res W w' e (0, stS k so dm Vn L 0, 0)) := Lib.hid (fun W hW => by
    have h := seqStart_any k st so dm ep (Vn : Int) A n c L W (HL.out.below hW) HN.out (by omega)
    rw [show startR k st so dm ep (Vn : Int) L = (0, stS k so dm Vn L 0, 0) from by unfold startR; rw [if_pos hcj]; rfl] at h
    exact h)
  have CT : Hid (∀ (q : Nat) (W : World) (Av Ac Ai : Option Addr) (nv nc ni cv cc ci : Nat), q < 14 → Below w.heap.size w W → SAt W Av Ac Ai nv nc ni (stS k so dm Vn L q) → Calls Tryz.prog 17 #[.agg #[.int .i64 (Vn : Int), .slice A n c], .agg #[.int .u8 k, .int .i64 st, .int .i64 so, .int .i64 dm, .int .i64 ep], .agg #[.int .i64 (q : Int), .slice Av nv cv, .slice Ac nc cc, .slice Ai ni ci, .int .i64 (stS k so dm Vn L q).sum, .int .i64 (stS k so dm Vn L q).most]] W fun e w' => Res W w' e ((q : Int) + 1, stS k so dm Vn L (q + 1), 0)) := Lib.hid (fun q W Av Ac Ai nv nc ni cv cc ci hq hW hs => by
    obtain ⟨hz, _, _, _, hd0, hd1⟩ := chkJ_zero hcj
    have hg : GoS k Vn L (stS k so dm Vn L q) := go_all hz (fun _ => ⟨hd0, hd1⟩) q
    obtain ⟨f1, f2, f3⟩ := few_st hcj q
    rw [show ((Vn : Int)).toNat = Vn from rfl] at f1 f2 f3
    have e1 := hs.nv; have e2 := hs.nc; have e3 := hs.ni
    have h := seqStep_any k st so dm ep (Vn : Int) (q : Int) A n c L (stS k so dm Vn L q) Av Ac Ai nv nc ni cv cc ci W (HL.out.below hW) HN.out (by omega) hs (fit_go hg).i (by omega) (by omega) (by omega)
    rw [show stepR k st so dm ep (Vn : Int) L (q : Int) (stS k so dm Vn L q) = ((q : Int) + 1, stS k so dm Vn L (q + 1), 0) from by
      unfold stepR
      rw [if_pos hcj, if_pos ⟨(mayB_iff Vn _ _).2 ⟨by omega, hg.may⟩, by omega⟩, stS_next]; rfl] at h
    exact h)
  have CA : Hid (∀ (q : Nat) (W : World), q < 14 → Below w.heap.size w W → Calls Tryz.prog 19 #[.agg #[.int .i64 (Vn : Int), .slice A n c], .agg #[.int .u8 k, .int .i64 st, .int .i64 so, .int .i64 dm, .int .i64 ep], .int .i64 (q : Int)] W fun e w' => SRes W w' e (q : Int) (stS k so dm Vn L q) 0) := Lib.hid (fun q W hq hW =>
    (seqAt_any k st so dm ep (Vn : Int) A n c L (q : Int) W (HL.out.below hW) HN.out (by omega)).mono fun _ _ h => sres_of h (by unfold atR; rw [if_pos hcj, if_pos (by omega)]; rfl) (few_st hcj q))
  have CR : Hid (∀ W : World, Below w.heap.size w W → Calls Tryz.prog 21 #[.agg #[.int .i64 (Vn : Int), .slice A n c], .agg #[.int .u8 k, .int .i64 st, .int .i64 so, .int .i64 dm, .int .i64 ep]] W fun e w' => SRes W w' e (N : Int) (stS k so dm Vn L N) 0) := Lib.hid (fun W hW =>
    (seqRun_any k st so dm ep (Vn : Int) A n c L N W (HL.out.below hW) HN.out (by omega) (fun _ => ⟨hN1, hN2, hN3⟩)).mono fun _ _ h => sres_of h (by unfold runR; rw [if_pos hcj]; rfl) (few_st hcj N))
  have HDN : Hid (donB k st ep (N : Int) (stS k so dm Vn L N).most = true) := Lib.hid hN1
  clear hN1 hN3 hcj
  obtain ⟨g0, g1, _⟩ := two HH.out.gb
  obtain ⟨j0, j1, j2, j3, j4, _⟩ := jb_cells HH.out.jb
  go_wp2_with fail
  refine (CS.out _ HH.out.below).mono ?_
  rintro e v1 ⟨x, rfl, hx, hb1⟩
  obtain ⟨av, a1, ac, a2, ai, a3, rfl, ⟨hq0, hm0, hk0⟩⟩ := hx.out.at'
  simp only at hq0 hm0 hk0 ⊢
  obtain ⟨s0, hs0⟩ : ∃ s0, s0 = stS k so dm Vn L 0 := ⟨_, rfl⟩
  rw [← hs0] at hq0 hm0 hk0 ⊢
  obtain ⟨an1, han1⟩ : ∃ x, x = s0.vals.length := ⟨_, rfl⟩
  obtain ⟨an2, han2⟩ : ∃ x, x = s0.chg.length := ⟨_, rfl⟩
  obtain ⟨an3, han3⟩ : ∃ x, x = s0.inb.length := ⟨_, rfl⟩
  rw [← han1, ← han2, ← han3]
  rw [← han1] at hq0; rw [← han2] at hm0; rw [← han3] at hk0
  clear han1 han2 han3
  obtain ⟨X1, hX1⟩ : ∃ X, X = v1.alloc (.cells #[.int .i64 0, .slice av an1 a1, .slice ac an2 a2, .slice ai an3 a3, .int .i64 s0.sum, .int .i64 s0.most] 33) := ⟨_, rfl⟩
  obtain ⟨b5, eb5⟩ : ∃ b, b = v1.heap.size := ⟨_, rfl⟩
  have hb' : Below v1.heap.size v1 X1 := by rw [hX1]; exact (Below.refl _ v1).alloc (Nat.le_refl _) _
  obtain ⟨fx, hfx⟩ : ∃ fx : Fxd, fx = [(n0, #[.int .i64 (Vn : Int), .slice A n c], 24), (n0 + 1, #[.int .u8 k, .int .i64 st, .int .i64 so, .int .i64 dm, .int .i64 ep], 26)] := ⟨_, rfl⟩
  have hjl := lt_of_block (keep HH.out.jb hb1.out)
  have HP : Hid (LpH w X1 b5 w.heap.size w.heap.size fx ((0 : Nat) : Int) (stS k so dm Vn L 0) (.slice none 0 0) []) := Lib.hid (by
    have hb := step_below HH.out.below HH.out.below.size hb1.out
    refine ⟨step_below hb hb.size hb', ?_, ⟨.slice av an1 a1, .slice ac an2 a2, .slice ai an3 a3, ?_, own_below (own_mono (hs0 ▸ hq0) HH.out.below.size) hb', own_below (own_mono (hs0 ▸ hm0) HH.out.below.size) hb', own_below (own_mono (hs0 ▸ hk0) HH.out.below.size) hb'⟩, WOwn.none_ _ _, ?_, by rw [eb5]; exact hb.size⟩
    · rw [hfx]; intro p hp
      simp only [List.mem_cons, List.not_mem_nil, or_false] at hp
      rcases hp with rfl | rfl
      · exact keep (keep HH.out.gb hb1.out) hb'
      · exact keep (keep HH.out.jb hb1.out) hb'
    · rw [hX1, eb5, ← hs0]; exact heap_alloc_new v1 _
    · rw [hfx]; intro p hp
      simp only [List.mem_cons, List.not_mem_nil, or_false] at hp
      rcases hp with rfl | rfl <;> (simp only []; omega))
  have HF0 : Hid (∀ W i s, LpH w W b5 w.heap.size w.heap.size fx i s (.slice none 0 0) [] → W.heap[n0]? = some (.cells #[.int .i64 (Vn : Int), .slice A n c] 24 (0, 0))) := Lib.hid (fun W i s h => h.fixed (n0, #[.int .i64 (Vn : Int), .slice A n c], 24) (by rw [hfx]; exact List.mem_cons_self))
  have HF1 : Hid (∀ W i s, LpH w W b5 w.heap.size w.heap.size fx i s (.slice none 0 0) [] → W.heap[n0 + 1]? = some (.cells #[.int .u8 k, .int .i64 st, .int .i64 so, .int .i64 dm, .int .i64 ep] 26 (0, 0))) := Lib.hid (fun W i s h => h.fixed (n0 + 1, #[.int .u8 k, .int .i64 st, .int .i64 so, .int .i64 dm, .int .i64 ep], 26) (by rw [hfx]; exact List.mem_cons_of_mem _ List.mem_cons_self))
  clear hs0 hfx hq0 hm0 hk0 hx hb1 hb' hjl HH g0 g1 j0 j1 j2 j3 j4
  go_upto_region 4 with fail
  rw [← hX1, show v1.heap.size = b5 from eb5.symm]
  clear hX1 eb5
  go_wp2_with fail
  go_loopg [7] 14 (fun gk i W => ∃ q : Nat, q + gk = 14 ∧ i = .int .i64 (q : Int) ∧ Hid (LpH w W b5 w.heap.size w.heap.size fx (q : Int) (stS k so dm Vn L q) (.slice none 0 0) []))
  case atStart => exact ⟨0, by omega, rfl, HP⟩
  case round =>
    clear HP
    obtain ⟨q, hq, rfl, HP⟩ := hrel
    by_cases hlt : q < 14
    · have HTQ := Lib.hid (HTW.out q hlt)
      obtain ⟨va, vc, vi, hbs, hq0, hm0, hk0⟩ := HP.out.rows
      obtain ⟨av, a1, rfl, hv0⟩ := hq0.form
      obtain ⟨ac, a2, rfl, hc0⟩ := hm0.form
      obtain ⟨ai, a3, rfl, hi0, _⟩ := hk0.room
      have hsv : SAt wr av ac ai (stS k so dm Vn L q).vals.length (stS k so dm Vn L q).chg.length (stS k so dm Vn L q).inb.length (stS k so dm Vn L q) := ⟨hv0, hc0, hi0, rfl, rfl, rfl⟩
      have ct := CT.out q wr av ac ai _ _ _ a1 a2 a3 hlt HP.out.below hsv
      have ca := fun W (hW : Below w.heap.size w W) => CA.out q W hlt hW
      obtain ⟨S, hS⟩ : ∃ S, S = stS k so dm Vn L q := ⟨_, rfl⟩
      obtain ⟨T, hT⟩ : ∃ T, T = stS k so dm Vn L (q + 1) := ⟨_, rfl⟩
      rw [← hS, ← hT] at ct HTQ
      rw [← hS] at hbs hsv HP ca
      obtain ⟨an1, han1⟩ : ∃ x, x = S.vals.length := ⟨_, rfl⟩
      obtain ⟨an2, han2⟩ : ∃ x, x = S.chg.length := ⟨_, rfl⟩
      obtain ⟨an3, han3⟩ : ∃ x, x = S.inb.length := ⟨_, rfl⟩
      rw [← han1, ← han2, ← han3] at ct hbs hsv
      have HT := Lib.hid hT
      have HLA : Hid (an1 ≤ 512 ∧ an2 ≤ 512 ∧ an3 ≤ 512) := Lib.hid (by rw [han1, han2, han3]; exact HTQ.out.sfew)
      have CTQ := Lib.hid ct; have CAQ := Lib.hid ca; have HS := Lib.hid hsv; have HB5 := Lib.hid hbs
      clear hS hT han1 han2 han3 hq0 hm0 hk0 hv0 hc0 hi0 hsv hbs ct ca
      obtain ⟨g0, g1, _⟩ := two (HF0.out _ _ _ HP.out)
      obtain ⟨j0, j1, j2, j3, j4, _⟩ := jb_cells (HF1.out _ _ _ HP.out)
      obtain ⟨x0, x1, x2, x3, x4, x5, _⟩ := six HB5.out
      go_wp2_with fail
      refine CTQ.out.mono ?_
      rintro e v2 ⟨x, rfl, hx, hb2⟩
      obtain ⟨dv, d1, dc, d2, di, d3, rfl, hst, hq0, hm0, hk0⟩ := hx.out.at
      simp only at hst hq0 hm0 hk0 ⊢
      obtain ⟨dn1, hdn1⟩ : ∃ x, x = T.vals.length := ⟨_, rfl⟩
      obtain ⟨dn2, hdn2⟩ : ∃ x, x = T.chg.length := ⟨_, rfl⟩
      obtain ⟨dn3, hdn3⟩ : ∃ x, x = T.inb.length := ⟨_, rfl⟩
      rw [← hdn1, ← hdn2, ← hdn3] at hst ⊢
      rw [← hdn1] at hq0; rw [← hdn2] at hm0; rw [← hdn3] at hk0
      have HLD : Hid (dn1 ≤ 512 ∧ dn2 ≤ 512 ∧ dn3 ≤ 512) := Lib.hid (by rw [hdn1, hdn2, hdn3]; exact HTQ.out.tfew)
      have hdV : Hid (dn1 = Vn) := Lib.hid (by rw [hdn1]; exact HTQ.out.tl)
      have haV : Hid (an1 = Vn) := Lib.hid (by rw [← HS.out.nv]; exact HTQ.out.sl)
      clear hdn1 hdn2 hdn3
      obtain ⟨X2, hX2⟩ : ∃ X, X = v2.alloc (.cells #[.int .i64 ((q : Int) + 1), .slice dv dn1 d1, .slice dc dn2 d2, .slice di dn3 d3, .int .i64 T.sum, .int .i64 T.most] 33) := ⟨_, rfl⟩
      obtain ⟨b8, eb8⟩ : ∃ b, b = v2.heap.size := ⟨_, rfl⟩
      have hb' : Below v2.heap.size v2 X2 := by rw [hX2]; exact (Below.refl _ v2).alloc (Nat.le_refl _) _
      have hb : Below wr.heap.size wr X2 := step_below hb2.out hb2.out.size hb'
      have HB8 : Hid (X2.heap[b8]? = some (.cells #[.int .i64 ((q : Int) + 1), .slice dv dn1 d1, .slice dc dn2 d2, .slice di dn3 d3, .int .i64 T.sum, .int .i64 T.most] 33 (0, 0))) := Lib.hid (by rw [hX2, eb8]; exact heap_alloc_new v2 _)
      have HST := Lib.hid (hst.below hb')
      have HQD := Lib.hid (own_below (own_mono hq0 HP.out.below.size) hb'); have HMD := Lib.hid (own_below (own_mono hm0 HP.out.below.size) hb'); have HKD := Lib.hid (own_below (own_mono hk0 HP.out.below.size) hb')
      replace HP := Lib.hid (HP.out.step hb); replace HS := Lib.hid (HS.out.below hb); replace HB5 := Lib.hid (keep HB5.out hb)
      clear hb hb' hst hq0 hm0 hk0 hx hb2 CTQ g0 g1 j0 j1 j2 j3 j4 x0 x1 x2 x3 x4 x5
      go_upto_region 10 with fail
      rw [← hX2, show v2.heap.size = b8 from eb8.symm]
      clear hX2 eb8
      obtain ⟨g0, g1, _⟩ := two (HF0.out _ _ _ HP.out)
      obtain ⟨j0, j1, j2, j3, j4, _⟩ := jb_cells (HF1.out _ _ _ HP.out)
      go_wp2_with fail
      refine (CAQ.out X2 HP.out.below).mono ?_
      rintro e v3 ⟨bv, b1, bcc, b2, bi, b3, bn1, bn2, bn3, rfl, hs3, hf3, hb3⟩
      obtain ⟨X3, hX3⟩ : ∃ X, X = v3.alloc (.cells #[.int .i64 (q : Int), .slice bv bn1 b1, .slice bcc bn2 b2, .slice bi bn3 b3, .int .i64 S.sum, .int .i64 S.most] 33) := ⟨_, rfl⟩
      obtain ⟨b10, eb10⟩ : ∃ b, b = v3.heap.size := ⟨_, rfl⟩
      have hb' : Below v3.heap.size v3 X3 := by rw [hX3]; exact (Below.refl _ v3).alloc (Nat.le_refl _) _
      have hb : Below X2.heap.size X2 X3 := step_below hb3.out hb3.out.size hb'
      have HB10 : Hid (X3.heap[b10]? = some (.cells #[.int .i64 (q : Int), .slice bv bn1 b1, .slice bcc bn2 b2, .slice bi bn3 b3, .int .i64 S.sum, .int .i64 S.most] 33 (0, 0))) := Lib.hid (by rw [hX3, eb10]; exact heap_alloc_new v3 _)
      have HSB := Lib.hid (hs3.out.below hb'); have HLB := Lib.hid hf3.out
      replace HP := Lib.hid (HP.out.step hb); replace HS := Lib.hid (HS.out.below hb); replace HB5 := Lib.hid (keep HB5.out hb)
      replace HB8 := Lib.hid (keep HB8.out hb); replace HST := Lib.hid (HST.out.below hb); replace HQD := Lib.hid (own_below HQD.out hb); replace HMD := Lib.hid (own_below HMD.out hb); replace HKD := Lib.hid (own_below HKD.out hb)
      clear hb hb' hs3 hf3 hb3 CAQ g0 g1 j0 j1 j2 j3 j4
      go_upto_region 11 with fail
      rw [← hX3, show v3.heap.size = b10 from eb10.symm]
      clear hX3 eb10
      obtain ⟨x0, x1, x2, x3, x4, x5, _⟩ := six HB5.out
      obtain ⟨y0, y1, y2, y3, y4, y5, _⟩ := six HB10.out
      have HQ := Lib.hid (seqSame_any (q : Int) (q : Int) S S av ac ai bv bcc bi an1 an2 an3 a1 a2 a3 bn1 bn2 bn3 b1 b2 b3 X3 HS.out HSB.out (by have := HLA.out; omega) (by have := HLA.out; omega) (by have := HLA.out; omega) (by have := HLB.out; omega) (by have := HLB.out; omega) (by have := HLB.out; omega))
      rw [sameS_refl] at HQ
      go_wp2_with fail
      refine HQ.out.mono ?_
      rintro e w5 ⟨rfl, hb⟩
      replace HP := Lib.hid (HP.out.step hb); replace HS := Lib.hid (HS.out.below hb); replace HB5 := Lib.hid (keep HB5.out hb)
      replace HB8 := Lib.hid (keep HB8.out hb); replace HST := Lib.hid (HST.out.below hb); replace HQD := Lib.hid (own_below HQD.out hb); replace HMD := Lib.hid (own_below HMD.out hb); replace HKD := Lib.hid (own_below HKD.out hb)
      clear hb HQ x0 x1 x2 x3 x4 x5 y0 y1 y2 y3 y4 y5 HSB HB10 HLB
      obtain ⟨y0, y1, y2, y3, y4, y5, _⟩ := six HB8.out
      obtain ⟨g0, g1, _⟩ := two (HF0.out _ _ _ HP.out)
      have HQ := Lib.hid (rmay_any (Vn : Int) ((q : Int) + 1) T dv dc di dn1 dn2 dn3 d1 d2 d3 w5 HST.out (by have := HLD.out; omega) (by have := HLD.out; omega) (by have := HLD.out; omega))
      rw [HTQ.out.may] at HQ
      go_wp2_with fail
      refine HQ.out.mono ?_
      rintro e w6 ⟨rfl, hb⟩
      replace HP := Lib.hid (HP.out.step hb); replace HS := Lib.hid (HS.out.below hb); replace HB5 := Lib.hid (keep HB5.out hb)
      replace HB8 := Lib.hid (keep HB8.out hb); replace HST := Lib.hid (HST.out.below hb); replace HQD := Lib.hid (own_below HQD.out hb); replace HMD := Lib.hid (own_below HMD.out hb); replace HKD := Lib.hid (own_below HKD.out hb)
      clear hb HQ g0 g1 y0 y1 y2 y3 y4 y5
      obtain rfl := hdV.out
      obtain rfl := haV.out
      obtain ⟨G, rfl⟩ : ∃ G : Nat, G = gk := ⟨_, rfl⟩
      go_wp2_with fail
      go_loopg [12, 13] an1 (fun g2 s i W => ∃ r : Nat, r + g2 = an1 ∧ s = .int .i64 ((T.vals.take r).foldl addI 0) ∧ i = .int .i64 (r : Int) ∧ Hid (Below w6.heap.size w6 W))
      case atStart => exact ⟨0, by omega, rfl, rfl, Lib.hid (Below.refl _ _)⟩
      case round =>
        obtain ⟨r, hr, rfl, rfl, HW⟩ := hrel
        have HPW := Lib.hid (HP.out.step HW.out)
        obtain ⟨g0, g1, _⟩ := two (HF0.out _ _ _ HPW.out)
        by_cases hlr : r < an1
        · obtain ⟨y, hy⟩ := at_lt T.vals r (by rw [HTQ.out.tl]; exact hlr)
          obtain ⟨x, hx⟩ := at_lt S.vals r (by rw [HTQ.out.sl]; exact hlr)
          have hB8 := Lib.hid (keep HB8.out HW.out); have hB5 := Lib.hid (keep HB5.out HW.out)
          have HTW2 := Lib.hid (HST.out.below HW.out); have HSW2 := Lib.hid (HS.out.below HW.out)
          obtain ⟨kv, ov, rfl, v0⟩ := HTW2.out.v r y hy
          obtain ⟨ku, ou, rfl, u0⟩ := HSW2.out.v r x hx
          have hle : k ≠ 1 → y ≤ x := fun h => by have := HTQ.out.falls h r hlr; rwa [vl_of hy, vl_of hx] at this
          have hyr := (HTQ.out.tin y (List.mem_of_getElem? hy)).i63
          have hfr := (fold_in (T.vals.take r) 0 zero_in).i63
          obtain ⟨F, hF⟩ : ∃ F, F = (T.vals.take r).foldl addI 0 := ⟨_, rfl⟩
          rw [← hF] at hfr ⊢
          have hF1 : (T.vals.take (r + 1)).foldl addI 0 = addI F y := by rw [fold_take hy, hF]
          have HF1' := Lib.hid hF1
          have CAD := Lib.hid (fun W => add_any F y W hfr.1 hfr.2 hyr.1 hyr.2)
          obtain ⟨FN, hFN⟩ : ∃ FN, FN = addI F y := ⟨_, rfl⟩
          rw [← hFN] at CAD
          have HFN := Lib.hid hFN
          clear hF hF1 hfr hyr hFN
          obtain ⟨j0, j1, j2, j3, j4, _⟩ := jb_cells (HF1.out _ _ _ HPW.out)
          obtain ⟨_, x1, _, _, _, _, _⟩ := six hB5.out
          obtain ⟨_, y1, _, _, _, _, _⟩ := six hB8.out
          have z0 := cell_regrown j0; have z1 := cell_regrown x1; have z2 := cell_regrown y1; have z3 := cell_regrown v0; have z4 := cell_regrown u0
          clear j0 j1 j2 j3 j4 x1 y1 v0 u0 hx
          go_upto_region 17 with fail
          refine wp_region_quiet_below mixed (by kernel_rfl) ?_
          rcases hk with rfl | rfl | rfl
          all_goals
            first
            | have hle2 : ¬ x < y := by have := hle (by decide); omega
            | have hle2 : True := trivial
            clear hle
            repeat (go_big_quiet_step (fail))
            refine wpQuiet_nil ?_
            intro W8 hw8
            have hb8 : Below wr.heap.size wr W8 := by obtain ⟨⟨dq, osq⟩, rfl⟩ := hw8; exact below_regrown wr dq osq
            replace HW := Lib.hid (HW.out.trans (hb8.mono HW.out.size))
            replace hB8 := Lib.hid (keep hB8.out hb8)
            replace HTW2 := Lib.hid (HTW2.out.below hb8)
            clear hb8 hw8 z0 z1 z2 z3 z4 hle2
            obtain ⟨_, y1, _, _, _, _, _⟩ := six hB8.out
            obtain ⟨_, _, e3, v0⟩ := HTW2.out.v r y hy
            cases e3
            go_wp2_with fail
            refine (CAD.out _).mono ?_
            rintro e w9 ⟨rfl, rfl⟩
            clear y1 v0
            go_wp2
            go_roundg (gk - 1)
            case measure => omega
            case rel => exact ⟨r + 1, by omega, by rw [HF1'.out, ← HFN.out], by go_num, HW⟩
        · have hra : r = T.vals.length := by have := HTQ.out.tl; omega
          have HSUM : Hid (k = 1 → (T.vals.take r).foldl addI 0 ≤ 4294967296) := Lib.hid (fun h => by rw [hra, List.take_length]; exact HTQ.out.sum h)
          obtain ⟨F, hF⟩ : ∃ F, F = (T.vals.take r).foldl addI 0 := ⟨_, rfl⟩
          rw [← hF] at HSUM ⊢
          clear hF hra
          have hB8 := Lib.hid (keep HB8.out HW.out); have hB5 := Lib.hid (keep HB5.out HW.out)
          have HTW2 := Lib.hid (HST.out.below HW.out); have HSW2 := Lib.hid (HS.out.below HW.out)
          have HQ2 := Lib.hid (own_below HQD.out HW.out); have HM2 := Lib.hid (own_below HMD.out HW.out); have HK2 := Lib.hid (own_below HKD.out HW.out)
          rcases hk with rfl | rfl | rfl
          · have h4 : ¬ 4294967296 < F := by have := HSUM.out rfl; omega
            obtain ⟨x0, x1, x2, x3, x4, x5, xl⟩ := six hB5.out
            obtain ⟨y0, y1, y2, y3, y4, y5, _⟩ := six hB8.out
            obtain ⟨j0, j1, j2, j3, j4, _⟩ := jb_cells (HF1.out _ _ _ HPW.out)
            have f0 := warm hB5.out 0; have f1 := warm hB5.out 1; have f2 := warm hB5.out 2; have f3 := warm hB5.out 3; have f4 := warm hB5.out 4; have f5 := warm hB5.out 5
            have HPX := Lib.hid (HPW.out.put (j := (q : Int) + 1) HQ2.out HM2.out HK2.out)
            go_wp2
            go_roundg (G - 1)
            case measure => omega
            case rel =>
              refine ⟨q + 1, by omega, by go_num, ?_⟩
              have h := HPX.out
              unfold put6 at h
              rw [← HT.out, show ((q + 1 : Nat) : Int) = (q : Int) + 1 from rfl]
              exact Lib.hid h
          all_goals
            by_cases hq0 : 0 < q
            · have hq1 : (0 : Int) < (q : Int) := by omega
              by_cases hmo : S.most = 0
              · obtain ⟨he, hm0⟩ := HTQ.out.rest (by decide) hq0 hmo
                have HQ := Lib.hid (kitq_any av dv an1 an1 a1 d1 S.vals T.vals wr HSW2.out.v HTW2.out.v HSW2.out.nv HTW2.out.nv (by have := HLA.out; omega) (by have := HLA.out; omega))
                rw [show decide (S.vals = T.vals) = true by simp [he]] at HQ
                clear he
                obtain ⟨x0, x1, x2, x3, x4, x5, xl⟩ := six hB5.out
                obtain ⟨y0, y1, y2, y3, y4, y5, _⟩ := six hB8.out
                obtain ⟨j0, j1, j2, j3, j4, _⟩ := jb_cells (HF1.out _ _ _ HPW.out)
                go_wp2_with fail
                refine HQ.out.mono ?_
                rintro e w9 ⟨rfl, hb⟩
                replace HPW := Lib.hid (HPW.out.step hb); replace hB5 := Lib.hid (keep hB5.out hb); replace hB8 := Lib.hid (keep hB8.out hb)
                replace HQ2 := Lib.hid (own_below HQ2.out hb); replace HM2 := Lib.hid (own_below HM2.out hb); replace HK2 := Lib.hid (own_below HK2.out hb)
                clear hm0 hb HQ x0 x1 x2 x3 x4 x5 xl y0 y1 y2 y3 y4 y5 j0 j1 j2 j3 j4
                obtain ⟨x0, x1, x2, x3, x4, x5, xl⟩ := six hB5.out
                obtain ⟨y0, y1, y2, y3, y4, y5, _⟩ := six hB8.out
                obtain ⟨j0, j1, j2, j3, j4, _⟩ := jb_cells (HF1.out _ _ _ HPW.out)
                have f0 := warm hB5.out 0; have f1 := warm hB5.out 1; have f2 := warm hB5.out 2; have f3 := warm hB5.out 3; have f4 := warm hB5.out 4; have f5 := warm hB5.out 5
                have HPX := Lib.hid (HPW.out.put (j := (q : Int) + 1) HQ2.out HM2.out HK2.out)
                go_wp2
                go_roundg (G - 1)
                case measure => omega
                case rel =>
                  refine ⟨q + 1, by omega, by go_num, ?_⟩
                  have h := HPX.out
                  unfold put6 at h
                  rw [← HT.out, show ((q + 1 : Nat) : Int) = (q : Int) + 1 from rfl]
                  exact Lib.hid h
              · clear HSUM
                obtain ⟨x0, x1, x2, x3, x4, x5, xl⟩ := six hB5.out
                obtain ⟨y0, y1, y2, y3, y4, y5, _⟩ := six hB8.out
                obtain ⟨j0, j1, j2, j3, j4, _⟩ := jb_cells (HF1.out _ _ _ HPW.out)
                have f0 := warm hB5.out 0; have f1 := warm hB5.out 1; have f2 := warm hB5.out 2; have f3 := warm hB5.out 3; have f4 := warm hB5.out 4; have f5 := warm hB5.out 5
                have HPX := Lib.hid (HPW.out.put (j := (q : Int) + 1) HQ2.out HM2.out HK2.out)
                go_wp2
                go_roundg (G - 1)
                case measure => omega
                case rel =>
                  refine ⟨q + 1, by omega, by go_num, ?_⟩
                  have h := HPX.out
                  unfold put6 at h
                  rw [← HT.out, show ((q + 1 : Nat) : Int) = (q : Int) + 1 from rfl]
                  exact Lib.hid h
            · have hq1 : ¬ (0 : Int) < (q : Int) := by omega
              obtain ⟨x0, x1, x2, x3, x4, x5, xl⟩ := six hB5.out
              obtain ⟨y0, y1, y2, y3, y4, y5, _⟩ := six hB8.out
              obtain ⟨j0, j1, j2, j3, j4, _⟩ := jb_cells (HF1.out _ _ _ HPW.out)
              have f0 := warm hB5.out 0; have f1 := warm hB5.out 1; have f2 := warm hB5.out 2; have f3 := warm hB5.out 3; have f4 := warm hB5.out 4; have f5 := warm hB5.out 5
              have HPX := Lib.hid (HPW.out.put (j := (q : Int) + 1) HQ2.out HM2.out HK2.out)
              go_wp2
              go_roundg (G - 1)
              case measure => omega
              case rel =>
                refine ⟨q + 1, by omega, by go_num, ?_⟩
                have h := HPX.out
                unfold put6 at h
                rw [← HT.out, show ((q + 1 : Nat) : Int) = (q : Int) + 1 from rfl]
                exact Lib.hid h
    · clear HTW CS CT CA
      obtain ⟨g0, g1, _⟩ := two (HF0.out _ _ _ HP.out)
      obtain ⟨j0, j1, j2, j3, j4, _⟩ := jb_cells (HF1.out _ _ _ HP.out)
      go_wp2_with fail
      refine (CR.out wr HP.out.below).mono ?_
      rintro e v3 ⟨bv, b1, bcc, b2, bi, b3, bn1, bn2, bn3, rfl, hs3, hf3, hb3⟩
      obtain ⟨S, hS⟩ : ∃ S, S = stS k so dm Vn L N := ⟨_, rfl⟩
      rw [← hS] at hs3 HDN ⊢
      obtain ⟨X3, hX3⟩ : ∃ X, X = v3.alloc (.cells #[.int .i64 (N : Int), .slice bv bn1 b1, .slice bcc bn2 b2, .slice bi bn3 b3, .int .i64 S.sum, .int .i64 S.most] 33) := ⟨_, rfl⟩
      obtain ⟨b14, eb⟩ : ∃ b, b = v3.heap.size := ⟨_, rfl⟩
      have hb : Below wr.heap.size wr X3 := by rw [hX3]; exact hb3.out.alloc hb3.out.size _
      have HB14 : Hid (X3.heap[b14]? = some (.cells #[.int .i64 (N : Int), .slice bv bn1 b1, .slice bcc bn2 b2, .slice bi bn3 b3, .int .i64 S.sum, .int .i64 S.most] 33 (0, 0))) := Lib.hid (by rw [hX3, eb]; exact heap_alloc_new v3 _)
      replace HP := Lib.hid (HP.out.step hb)
      clear hb hs3 hf3 hb3 hS g0 g1 j0 j1 j2 j3 j4
      go_upto_region 26 with fail
      rw [← hX3, show v3.heap.size = b14 from eb.symm]
      clear hX3 eb
      obtain ⟨j0, j1, j2, j3, j4, _⟩ := jb_cells (HF1.out _ _ _ HP.out)
      obtain ⟨x0, x1, x2, x3, x4, x5, xl⟩ := six HB14.out
      have HQ := Lib.hid (done_any k st so dm ep (N : Int) S.most X3)
      rw [HDN.out] at HQ
      go_wp2_with fail
      refine HQ.out.mono ?_
      rintro e w5 ⟨rfl, hb⟩
      replace HP := Lib.hid (HP.out.step hb); replace HB14 := Lib.hid (keep HB14.out hb)
      clear hb HQ x0 x1 x2 x3 x4 x5 xl j0 j1 j2 j3 j4
      obtain ⟨j0, j1, j2, j3, j4, _⟩ := jb_cells (HF1.out _ _ _ HP.out)
      obtain ⟨x0, x1, x2, x3, x4, x5, xl⟩ := six HB14.out
      by_cases hNz : (N : Int) = 0
      all_goals
        go_wp2_with fail
        refine (works_any _).mono ?_
        rintro e w7 ⟨rfl, hb⟩
        replace HP := Lib.hid (HP.out.step hb)
        clear hb
        go_wp2
        go_ret
        exact ⟨rfl, HP.out.below⟩

end Go.Proofs.YtbbmgandkmlojaaGreat.Sq

