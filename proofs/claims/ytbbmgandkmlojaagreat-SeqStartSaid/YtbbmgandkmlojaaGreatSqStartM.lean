/-
  What is proved here: the texts SqL1 SqL2 SqStartC of this seat, laid together (each says itself what it proves; no condition beyond theirs).
-/
import Derived.Test.YtbbmgandkmlojaaGreatSqG4
import Derived.Test.YtbbmgandkmlojaaGreatSqG6
import Derived.Test.YtbbmgandkmlojaaGreatAlIn
/-
  What is proved here: the laws SeqAt, SeqRun and SeqSame walked: they return true, and no block that was there has changed. Conditions: rows that a memory holds.
-/
namespace Go.Proofs.YtbbmgandkmlojaaGreat.Sq
open Go.RowKit Go.Shelf Gr Wd Ws Fx Rk Lb Al In
open Pa (vl bt vl_of vl_at bt_of bt_at)

/- What a call gives: a state that can be read, of few vertices. -/
def SRes (w w' : World) (e : Ending) (p : Int) (S : Sq) (E : Int) : Prop := ∃ Av cv Ac cc Ai ci, ∃ nv nc ni : Nat, e = .returned (.tuple #[.agg #[.int .i64 p, .slice Av nv cv, .slice Ac nc cc, .slice Ai ni ci, .int .i64 S.sum, .int .i64 S.most], .int .i64 E]) ∧ Hid (SAt w' Av Ac Ai nv nc ni S) ∧ Hid (nv ≤ 512 ∧ nc ≤ 512 ∧ ni ≤ 512) ∧ Hid (Below w.heap.size w w')
def Few (S : Sq) : Prop := S.vals.length ≤ 512 ∧ S.chg.length ≤ 512 ∧ S.inb.length ≤ 512
theorem sres_of {w w' : World} {e : Ending} {r : Int × Sq × Int} {p E : Int} {S : Sq} (h : Res w w' e r) (hr : r = (p, S, E)) (hf : Few S) : SRes w w' e p S E := by
  obtain ⟨x, rfl, hx, hb⟩ := h
  subst hr
  obtain ⟨Av, cv, Ac, cc, Ai, ci, rfl, h1, _, _, _⟩ := hx.out.at
  exact ⟨Av, cv, Ac, cc, Ai, ci, _, _, _, rfl, Lib.hid h1, Lib.hid hf, hb⟩
theorem few_z : Few zS := ⟨by decide, by decide, by decide⟩
theorem few_st {k st so dm ep V : Int} {L : List Ed} (h : chkJ k st so dm ep V L = 0) (n : Nat) : Few (stS k so dm V.toNat L n) := by
  obtain ⟨hz, hst0, hst1, hk, hd0, hd1⟩ := chkJ_zero h
  obtain ⟨Vn, rfl, hV1, hV2, hfit⟩ := chk_facts hz
  have hg : GoS k Vn L (stS k so dm Vn L n) := go_all hz (fun _ => ⟨hd0, hd1⟩) n
  have hm := hg.may
  exact ⟨by rw [show ((Vn : Int)).toNat = Vn from rfl, hm.1]; exact hV2, by rw [show ((Vn : Int)).toNat = Vn from rfl, hm.2.1]; exact hV2, by rw [show ((Vn : Int)).toNat = Vn from rfl, hm.2.2.1]; exact hV2⟩
theorem few_at (k st so dm ep V : Int) (L : List Ed) (n : Int) : Few (atR k st so dm ep V L n).2.1 := by
  unfold atR
  split
  · rename_i h
    split
    · exact few_st h _
    · exact few_z
  · exact few_z
theorem few_run (k st so dm ep V : Int) (L : List Ed) (N : Nat) : Few (runR k st so dm ep V L N).2.1 := by
  unfold runR
  split
  · rename_i h; exact few_st h _
  · exact few_z
theorem run_at (k st so dm ep V : Int) (L : List Ed) : ∃ N : Nat, chkJ k st so dm ep V L = 0 → donB k st ep (N : Int) (stS k so dm V.toNat L N).most = true ∧ N ≤ 2000 ∧ ∀ i : Nat, i < N → donB k st ep (i : Int) (stS k so dm V.toNat L i).most = false := by
  by_cases h : chkJ k st so dm ep V L = 0
  · obtain ⟨hz, hst0, hst1, hk, hd0, hd1⟩ := chkJ_zero h
    obtain ⟨N, h1, h2, h3⟩ := first_done (ep := ep) hk hst0 (fun i => (stS k so dm V.toNat L i).most)
    exact ⟨N, fun _ => ⟨h2, by omega, h3⟩⟩
  · exact ⟨0, fun e => absurd e h⟩
structure LwH (w W : World) (n0 : Nat) (V : Int) (A : Option Addr) (n c : Nat) (k st so dm ep : Int) : Prop where
  below : Below w.heap.size w W
  gb : W.heap[n0]? = some (.cells #[.int .i64 V, .slice A n c] 24 (0, 0))
  jb : W.heap[n0 + 1]? = some (.cells #[.int .u8 k, .int .i64 st, .int .i64 so, .int .i64 dm, .int .i64 ep] 26 (0, 0))
theorem LwH.step {w W W' : World} {n0 : Nat} {V : Int} {A : Option Addr} {n c : Nat} {k st so dm ep : Int} (h : LwH w W n0 V A n c k st so dm ep) (hb : Below W.heap.size W W') : LwH w W' n0 V A n c k st so dm ep := ⟨step_below h.below h.below.size hb, keep h.gb hb, keep h.jb hb⟩

set_option maxRecDepth 100000 in
set_option maxHeartbeats 1000000 in
theorem law_at (k st so dm ep V : Int) (A : Option Addr) (n c : Nat) (L : List Ed) (kk : Int) (w : World) (hL : EAt w A L) (hn : L.length = n) (hm : n ≤ 9223372036854775807) :
    Calls Tryz.prog 5 #[.agg #[.int .i64 V, .slice A n c], .agg #[.int .u8 k, .int .i64 st, .int .i64 so, .int .i64 dm, .int .i64 ep], .int .i64 kk] w fun e w' => e = .returned (.bool true) ∧ Below w.heap.size w w' := by
  have HL := Lib.hid hL; have HN := Lib.hid hn
  clear hL hn
  obtain ⟨W2, hW2⟩ : ∃ W2, W2 = (w.alloc (.cells #[.int .i64 V, .slice A n c] 24)).alloc (.cells #[.int .u8 k, .int .i64 st, .int .i64 so, .int .i64 dm, .int .i64 ep] 26) := ⟨_, rfl⟩
  have hal := al2 w (.cells #[.int .i64 V, .slice A n c] 24) (.cells #[.int .u8 k, .int .i64 st, .int .i64 so, .int .i64 dm, .int .i64 ep] 26)
  rw [← hW2] at hal
  obtain ⟨n0, e0⟩ : ∃ n0, n0 = w.heap.size := ⟨_, rfl⟩
  have HH : Hid (LwH w W2 n0 V A n c k st so dm ep) := Lib.hid ⟨hal.2.2, by rw [e0]; exact hal.1, by rw [e0]; exact hal.2.1⟩
  clear hal
  obtain ⟨r, hr⟩ : ∃ r, atR k st so dm ep V L kk = r := ⟨_, rfl⟩
  obtain ⟨p, S, E⟩ := r
  have hfw : Few S := by have := few_at k st so dm ep V L kk; rw [hr] at this; exact this
  have HC1 : Hid (n ≤ 1000 → ∀ W : World, Below w.heap.size w W → Calls Tryz.prog 19 #[.agg #[.int .i64 V, .slice A n c], .agg #[.int .u8 k, .int .i64 st, .int .i64 so, .int .i64 dm, .int .i64 ep], .int .i64 kk] W fun e w' => SRes W w' e p S E) := Lib.hid (fun h W hW => (seqAt_any k st so dm ep V A n c L kk W (HL.out.below hW) HN.out h).mono fun _ _ h => sres_of h hr hfw)
  have HC2 : Hid (n ≤ 1000 → ∀ W : World, Below w.heap.size w W → Calls Tryz.prog 20 #[.agg #[.int .i64 V, .slice A n c], .agg #[.int .u8 k, .int .i64 st, .int .i64 so, .int .i64 dm, .int .i64 ep], .int .i64 kk] W fun e w' => SRes W w' e p S E) := Lib.hid (fun h W hW => (rat_any k st so dm ep V A n c L kk W (HL.out.below hW) HN.out h).mono fun _ _ h => sres_of h hr hfw)
  clear hr hfw
  obtain ⟨g0, g1, _⟩ := two HH.out.gb
  obtain ⟨j0, j1, j2, j3, j4, _⟩ := jb_cells HH.out.jb
  have HT := Lib.hid (light_all V A n c L W2 (HL.out.below HH.out.below) HN.out hm)
  obtain ⟨t, ht⟩ : ∃ t, lightB V L = t := ⟨_, rfl⟩
  rw [ht] at HT
  have HTL := Lib.hid ht
  clear ht
  go_enter Tryz.func5, Tryz.ntmps5
  go_upto_region 1 with fail
  rw [← hW2, show w.heap.size = n0 from e0.symm]
  clear hW2 e0
  go_wp2_with fail
  refine HT.out.mono ?_
  rintro e w1 ⟨rfl, hb⟩
  replace HH := Lib.hid (HH.out.step hb)
  clear hb HT g0 g1 j0 j1 j2 j3 j4
  by_cases hgo : t = true ∧ (kk ≤ 12 ∨ 2000 < kk)
  · obtain ⟨rfl, hor⟩ := hgo
    have hn80 : n ≤ 80 := by have := lightB_few HTL.out; rwa [HN.out] at this
    replace HC1 := Lib.hid (HC1.out (by omega)); replace HC2 := Lib.hid (HC2.out (by omega))
    clear hn80 HTL
    obtain ⟨g0, g1, _⟩ := two HH.out.gb
    obtain ⟨j0, j1, j2, j3, j4, _⟩ := jb_cells HH.out.jb
    have hgt : (12 < kk ∧ ¬ kk ≤ 2000) ∨ ¬ 12 < kk := by omega
    clear hor
    rcases hgt with ⟨h1, h2⟩ | h1
    all_goals
      obtain ⟨g0, g1, _⟩ := two HH.out.gb
      obtain ⟨j0, j1, j2, j3, j4, _⟩ := jb_cells HH.out.jb
      go_wp2_with fail
      refine (HC1.out w1 HH.out.below).mono ?_
      rintro e v1 ⟨av, a1, ac, a2, ai, a3, an1, an2, an3, rfl, hs1, hf1, hb1⟩
      obtain ⟨X1, hX1⟩ : ∃ X, X = v1.alloc (.cells #[.int .i64 p, .slice av an1 a1, .slice ac an2 a2, .slice ai an3 a3, .int .i64 S.sum, .int .i64 S.most] 33) := ⟨_, rfl⟩
      obtain ⟨bl1, eb1⟩ : ∃ b, b = v1.heap.size := ⟨_, rfl⟩
      have hb : Below w1.heap.size w1 X1 := by rw [hX1]; exact hb1.out.alloc hb1.out.size _
      replace HH := Lib.hid (HH.out.step hb)
      have HS1 : Hid (SAt X1 av ac ai an1 an2 an3 S) := Lib.hid (by rw [hX1]; exact hs1.out.below ((Below.refl _ v1).alloc (Nat.le_refl _) _))
      have HB1 : Hid (X1.heap[bl1]? = some (.cells #[.int .i64 p, .slice av an1 a1, .slice ac an2 a2, .slice ai an3 a3, .int .i64 S.sum, .int .i64 S.most] 33 (0, 0))) := Lib.hid (by rw [hX1, eb1]; exact heap_alloc_new v1 _)
      have HL1 := Lib.hid hf1.out
      clear hb hs1 hb1 hf1 g0 g1 j0 j1 j2 j3 j4
      go_upto_region 4 with fail
      rw [← hX1, show v1.heap.size = bl1 from eb1.symm]
      clear hX1 eb1
      obtain ⟨g0, g1, _⟩ := two HH.out.gb
      obtain ⟨j0, j1, j2, j3, j4, _⟩ := jb_cells HH.out.jb
      go_wp2_with fail
      refine (HC2.out X1 HH.out.below).mono ?_
      rintro e v2 ⟨bv, b1, bc, b2, bi, b3, bn1, bn2, bn3, rfl, hs2, hf2, hb2⟩
      obtain ⟨X2, hX2⟩ : ∃ X, X = v2.alloc (.cells #[.int .i64 p, .slice bv bn1 b1, .slice bc bn2 b2, .slice bi bn3 b3, .int .i64 S.sum, .int .i64 S.most] 33) := ⟨_, rfl⟩
      obtain ⟨bl2, eb2⟩ : ∃ b, b = v2.heap.size := ⟨_, rfl⟩
      have hb : Below X1.heap.size X1 X2 := by rw [hX2]; exact hb2.out.alloc hb2.out.size _
      replace HH := Lib.hid (HH.out.step hb)
      have HS2 : Hid (SAt X2 bv bc bi bn1 bn2 bn3 S) := Lib.hid (by rw [hX2]; exact hs2.out.below ((Below.refl _ v2).alloc (Nat.le_refl _) _))
      have HB2 : Hid (X2.heap[bl2]? = some (.cells #[.int .i64 p, .slice bv bn1 b1, .slice bc bn2 b2, .slice bi bn3 b3, .int .i64 S.sum, .int .i64 S.most] 33 (0, 0))) := Lib.hid (by rw [hX2, eb2]; exact heap_alloc_new v2 _)
      replace HS1 := Lib.hid (HS1.out.below hb); replace HB1 := Lib.hid (keep HB1.out hb)
      have HL2 := Lib.hid hf2.out
      clear hb hs2 hb2 hf2 g0 g1 j0 j1 j2 j3 j4
      go_upto_region 5 with fail
      rw [← hX2, show v2.heap.size = bl2 from eb2.symm]
      clear hX2 eb2
      obtain ⟨x0, x1, x2, x3, x4, x5, _⟩ := six HB1.out
      obtain ⟨y0, y1, y2, y3, y4, y5, _⟩ := six HB2.out
      have HQ := Lib.hid (rsqSame_any p p S S av ac ai bv bc bi an1 an2 an3 a1 a2 a3 bn1 bn2 bn3 b1 b2 b3 X2 HS1.out HS2.out (by have := HL1.out; omega) (by have := HL1.out; omega) (by have := HL1.out; omega) (by have := HL2.out; omega) (by have := HL2.out; omega) (by have := HL2.out; omega))
      rw [sameS_refl] at HQ
      go_wp2_with fail
      refine HQ.out.mono ?_
      rintro e w5 ⟨rfl, hb⟩
      replace HH := Lib.hid (HH.out.step hb)
      replace HS1 := Lib.hid (HS1.out.below hb); replace HS2 := Lib.hid (HS2.out.below hb); replace HB1 := Lib.hid (keep HB1.out hb); replace HB2 := Lib.hid (keep HB2.out hb)
      clear hb HQ x0 x1 x2 x3 x4 x5 y0 y1 y2 y3 y4 y5
      go_wp2_with fail
      refine (works_any _).mono ?_
      rintro e w7 ⟨rfl, hb⟩
      replace HH := Lib.hid (HH.out.step hb)
      clear hb
      go_wp2
      go_ret
      exact ⟨rfl, HH.out.below⟩
  · have hgo2 : t = false ∨ (t = true ∧ 12 < kk ∧ kk ≤ 2000) := by cases t <;> simp at hgo ⊢; omega
    clear hgo HC1 HC2 HTL
    obtain ⟨j0, j1, j2, j3, j4, _⟩ := jb_cells HH.out.jb
    rcases hgo2 with rfl | ⟨rfl, h1, h2⟩
    all_goals
      go_wp2_with fail
      refine (works_any _).mono ?_
      rintro e w7 ⟨rfl, hb⟩
      replace HH := Lib.hid (HH.out.step hb)
      clear hb
      go_wp2
      go_ret
      exact ⟨rfl, HH.out.below⟩

set_option maxRecDepth 100000 in
set_option maxHeartbeats 1000000 in
theorem law_run (k st so dm ep V : Int) (A : Option Addr) (n c : Nat) (L : List Ed) (w : World) (hL : EAt w A L) (hn : L.length = n) (hm : n ≤ 9223372036854775807) :
    Calls Tryz.prog 6 #[.agg #[.int .i64 V, .slice A n c], .agg #[.int .u8 k, .int .i64 st, .int .i64 so, .int .i64 dm, .int .i64 ep]] w fun e w' => e = .returned (.bool true) ∧ Below w.heap.size w w' := by
  have HL := Lib.hid hL; have HN := Lib.hid hn
  clear hL hn
  obtain ⟨N, hN⟩ := run_at k st so dm ep V L
  obtain ⟨W2, hW2⟩ : ∃ W2, W2 = (w.alloc (.cells #[.int .i64 V, .slice A n c] 24)).alloc (.cells #[.int .u8 k, .int .i64 st, .int .i64 so, .int .i64 dm, .int .i64 ep] 26) := ⟨_, rfl⟩
  have hal := al2 w (.cells #[.int .i64 V, .slice A n c] 24) (.cells #[.int .u8 k, .int .i64 st, .int .i64 so, .int .i64 dm, .int .i64 ep] 26)
  rw [← hW2] at hal
  obtain ⟨n0, e0⟩ : ∃ n0, n0 = w.heap.size := ⟨_, rfl⟩
  have HH : Hid (LwH w W2 n0 V A n c k st so dm ep) := Lib.hid ⟨hal.2.2, by rw [e0]; exact hal.1, by rw [e0]; exact hal.2.1⟩
  clear hal
  obtain ⟨r, hr⟩ : ∃ r, runR k st so dm ep V L N = r := ⟨_, rfl⟩
  obtain ⟨p, S, E⟩ := r
  have hfw : Few S := by have := few_run k st so dm ep V L N; rw [hr] at this; exact this
  have HC1 : Hid (n ≤ 1000 → ∀ W : World, Below w.heap.size w W → Calls Tryz.prog 21 #[.agg #[.int .i64 V, .slice A n c], .agg #[.int .u8 k, .int .i64 st, .int .i64 so, .int .i64 dm, .int .i64 ep]] W fun e w' => SRes W w' e p S E) := Lib.hid (fun h W hW => (seqRun_any k st so dm ep V A n c L N W (HL.out.below hW) HN.out h hN).mono fun _ _ h => sres_of h hr hfw)
  have HC2 : Hid (n ≤ 1000 → ∀ W : World, Below w.heap.size w W → Calls Tryz.prog 22 #[.agg #[.int .i64 V, .slice A n c], .agg #[.int .u8 k, .int .i64 st, .int .i64 so, .int .i64 dm, .int .i64 ep]] W fun e w' => SRes W w' e p S E) := Lib.hid (fun h W hW => (rrun_any k st so dm ep V A n c L N W (HL.out.below hW) HN.out h hN).mono fun _ _ h => sres_of h hr hfw)
  clear hr hfw hN
  obtain ⟨g0, g1, _⟩ := two HH.out.gb
  obtain ⟨j0, j1, j2, j3, j4, _⟩ := jb_cells HH.out.jb
  have HT := Lib.hid (light_all V A n c L W2 (HL.out.below HH.out.below) HN.out hm)
  obtain ⟨t, ht⟩ : ∃ t, lightB V L = t := ⟨_, rfl⟩
  rw [ht] at HT
  have HTL := Lib.hid ht
  clear ht
  go_enter Tryz.func6, Tryz.ntmps6
  go_upto_region 1 with fail
  rw [← hW2, show w.heap.size = n0 from e0.symm]
  clear hW2 e0
  go_wp2_with fail
  refine HT.out.mono ?_
  rintro e w1 ⟨rfl, hb⟩
  replace HH := Lib.hid (HH.out.step hb)
  clear hb HT g0 g1 j0 j1 j2 j3 j4
  by_cases hgo : t = true ∧ (st ≤ 40 ∨ 2000 < st)
  · obtain ⟨rfl, hor⟩ := hgo
    have hn80 : n ≤ 80 := by have := lightB_few HTL.out; rwa [HN.out] at this
    replace HC1 := Lib.hid (HC1.out (by omega)); replace HC2 := Lib.hid (HC2.out (by omega))
    clear hn80 HTL
    obtain ⟨g0, g1, _⟩ := two HH.out.gb
    obtain ⟨j0, j1, j2, j3, j4, _⟩ := jb_cells HH.out.jb
    have hgt : (40 < st ∧ ¬ st ≤ 2000) ∨ ¬ 40 < st := by omega
    clear hor
    rcases hgt with ⟨h1, h2⟩ | h1
    all_goals
      obtain ⟨g0, g1, _⟩ := two HH.out.gb
      obtain ⟨j0, j1, j2, j3, j4, _⟩ := jb_cells HH.out.jb
      go_wp2_with fail
      refine (HC1.out w1 HH.out.below).mono ?_
      rintro e v1 ⟨av, a1, ac, a2, ai, a3, an1, an2, an3, rfl, hs1, hf1, hb1⟩
      obtain ⟨X1, hX1⟩ : ∃ X, X = v1.alloc (.cells #[.int .i64 p, .slice av an1 a1, .slice ac an2 a2, .slice ai an3 a3, .int .i64 S.sum, .int .i64 S.most] 33) := ⟨_, rfl⟩
      obtain ⟨bl1, eb1⟩ : ∃ b, b = v1.heap.size := ⟨_, rfl⟩
      have hb : Below w1.heap.size w1 X1 := by rw [hX1]; exact hb1.out.alloc hb1.out.size _
      replace HH := Lib.hid (HH.out.step hb)
      have HS1 : Hid (SAt X1 av ac ai an1 an2 an3 S) := Lib.hid (by rw [hX1]; exact hs1.out.below ((Below.refl _ v1).alloc (Nat.le_refl _) _))
      have HB1 : Hid (X1.heap[bl1]? = some (.cells #[.int .i64 p, .slice av an1 a1, .slice ac an2 a2, .slice ai an3 a3, .int .i64 S.sum, .int .i64 S.most] 33 (0, 0))) := Lib.hid (by rw [hX1, eb1]; exact heap_alloc_new v1 _)
      have HL1 := Lib.hid hf1.out
      clear hb hs1 hb1 hf1 g0 g1 j0 j1 j2 j3 j4
      go_upto_region 4 with fail
      rw [← hX1, show v1.heap.size = bl1 from eb1.symm]
      clear hX1 eb1
      obtain ⟨g0, g1, _⟩ := two HH.out.gb
      obtain ⟨j0, j1, j2, j3, j4, _⟩ := jb_cells HH.out.jb
      go_wp2_with fail
      refine (HC2.out X1 HH.out.below).mono ?_
      rintro e v2 ⟨bv, b1, bc, b2, bi, b3, bn1, bn2, bn3, rfl, hs2, hf2, hb2⟩
      obtain ⟨X2, hX2⟩ : ∃ X, X = v2.alloc (.cells #[.int .i64 p, .slice bv bn1 b1, .slice bc bn2 b2, .slice bi bn3 b3, .int .i64 S.sum, .int .i64 S.most] 33) := ⟨_, rfl⟩
      obtain ⟨bl2, eb2⟩ : ∃ b, b = v2.heap.size := ⟨_, rfl⟩
      have hb : Below X1.heap.size X1 X2 := by rw [hX2]; exact hb2.out.alloc hb2.out.size _
      replace HH := Lib.hid (HH.out.step hb)
      have HS2 : Hid (SAt X2 bv bc bi bn1 bn2 bn3 S) := Lib.hid (by rw [hX2]; exact hs2.out.below ((Below.refl _ v2).alloc (Nat.le_refl _) _))
      have HB2 : Hid (X2.heap[bl2]? = some (.cells #[.int .i64 p, .slice bv bn1 b1, .slice bc bn2 b2, .slice bi bn3 b3, .int .i64 S.sum, .int .i64 S.most] 33 (0, 0))) := Lib.hid (by rw [hX2, eb2]; exact heap_alloc_new v2 _)
      replace HS1 := Lib.hid (HS1.out.below hb); replace HB1 := Lib.hid (keep HB1.out hb)
      have HL2 := Lib.hid hf2.out
      clear hb hs2 hb2 hf2 g0 g1 j0 j1 j2 j3 j4
      go_upto_region 5 with fail
      rw [← hX2, show v2.heap.size = bl2 from eb2.symm]
      clear hX2 eb2
      obtain ⟨x0, x1, x2, x3, x4, x5, _⟩ := six HB1.out
      obtain ⟨y0, y1, y2, y3, y4, y5, _⟩ := six HB2.out
      have HQ := Lib.hid (rsqSame_any p p S S av ac ai bv bc bi an1 an2 an3 a1 a2 a3 bn1 bn2 bn3 b1 b2 b3 X2 HS1.out HS2.out (by have := HL1.out; omega) (by have := HL1.out; omega) (by have := HL1.out; omega) (by have := HL2.out; omega) (by have := HL2.out; omega) (by have := HL2.out; omega))
      rw [sameS_refl] at HQ
      go_wp2_with fail
      refine HQ.out.mono ?_
      rintro e w5 ⟨rfl, hb⟩
      replace HH := Lib.hid (HH.out.step hb)
      replace HS1 := Lib.hid (HS1.out.below hb); replace HS2 := Lib.hid (HS2.out.below hb); replace HB1 := Lib.hid (keep HB1.out hb); replace HB2 := Lib.hid (keep HB2.out hb)
      clear hb HQ x0 x1 x2 x3 x4 x5 y0 y1 y2 y3 y4 y5
      obtain ⟨x0, x1, x2, x3, x4, x5, _⟩ := six HB1.out
      obtain ⟨y0, y1, y2, y3, y4, y5, _⟩ := six HB2.out
      have HQ := Lib.hid (seqSame_any p p S S av ac ai bv bc bi an1 an2 an3 a1 a2 a3 bn1 bn2 bn3 b1 b2 b3 w5 HS1.out HS2.out (by have := HL1.out; omega) (by have := HL1.out; omega) (by have := HL1.out; omega) (by have := HL2.out; omega) (by have := HL2.out; omega) (by have := HL2.out; omega))
      rw [sameS_refl] at HQ
      go_wp2_with fail
      refine HQ.out.mono ?_
      rintro e w6 ⟨rfl, hb⟩
      replace HH := Lib.hid (HH.out.step hb)
      clear hb HQ x0 x1 x2 x3 x4 x5 y0 y1 y2 y3 y4 y5
      go_wp2_with fail
      refine (works_any _).mono ?_
      rintro e w7 ⟨rfl, hb⟩
      replace HH := Lib.hid (HH.out.step hb)
      clear hb
      go_wp2
      go_ret
      exact ⟨rfl, HH.out.below⟩
  · have hgo2 : t = false ∨ (t = true ∧ 40 < st ∧ st ≤ 2000) := by cases t <;> simp at hgo ⊢; omega
    clear hgo HC1 HC2 HTL
    obtain ⟨j0, j1, j2, j3, j4, _⟩ := jb_cells HH.out.jb
    rcases hgo2 with rfl | ⟨rfl, h1, h2⟩
    all_goals
      go_wp2_with fail
      refine (works_any _).mono ?_
      rintro e w7 ⟨rfl, hb⟩
      replace HH := Lib.hid (HH.out.step hb)
      clear hb
      go_wp2
      go_ret
      exact ⟨rfl, HH.out.below⟩

set_option maxRecDepth 100000 in
set_option maxHeartbeats 1000000 in
theorem law_same (p q : Int) (a b : Sq) (Av Ac Ai Bv Bc Bi : Option Addr) (nv nc ni cv cc ci mv mc mi dv dc di : Nat) (w : World) (ha : SAt w Av Ac Ai nv nc ni a) (hb : SAt w Bv Bc Bi mv mc mi b)
    (h1 : nv ≤ 9223372036854775807) (h2 : nc ≤ 9223372036854775807) (h3 : ni ≤ 9223372036854775807) (g1 : mv ≤ 9223372036854775807) (g2 : mc ≤ 9223372036854775807) (g3 : mi ≤ 9223372036854775807) :
    Calls Tryz.prog 7 #[.agg #[.int .i64 p, .slice Av nv cv, .slice Ac nc cc, .slice Ai ni ci, .int .i64 a.sum, .int .i64 a.most], .agg #[.int .i64 q, .slice Bv mv dv, .slice Bc mc dc, .slice Bi mi di, .int .i64 b.sum, .int .i64 b.most]] w fun e w' => e = .returned (.bool true) ∧ Below w.heap.size w w' := by
  have mixed := mixedI
  have D1 := Lib.hid (fun (W : World) (hW : Below w.heap.size w W) => seqSame_any p q a b Av Ac Ai Bv Bc Bi nv nc ni cv cc ci mv mc mi dv dc di W (ha.below hW) (hb.below hW) h1 h2 h3 g1 g2 g3)
  have D2 := Lib.hid (fun (W : World) (hW : Below w.heap.size w W) => rsqSame_any p q a b Av Ac Ai Bv Bc Bi nv nc ni cv cc ci mv mc mi dv dc di W (ha.below hW) (hb.below hW) h1 h2 h3 g1 g2 g3)
  have D3 := Lib.hid (fun (W : World) (hW : Below w.heap.size w W) => seqSame_any p p a a Av Ac Ai Av Ac Ai nv nc ni cv cc ci nv nc ni cv cc ci W (ha.below hW) (ha.below hW) h1 h2 h3 h1 h2 h3)
  obtain ⟨r, hr⟩ : ∃ r, sameS p q a b = r := ⟨_, rfl⟩
  rw [hr] at D1 D2
  simp only [sameS_refl] at D3
  obtain ⟨sa, hsa⟩ : ∃ x, x = a.sum := ⟨_, rfl⟩
  obtain ⟨ma, hma⟩ : ∃ x, x = a.most := ⟨_, rfl⟩
  obtain ⟨sb, hsb⟩ : ∃ x, x = b.sum := ⟨_, rfl⟩
  obtain ⟨mb, hmb⟩ : ∃ x, x = b.most := ⟨_, rfl⟩
  rw [← hsa, ← hma, ← hsb, ← hmb] at D1 D2
  rw [← hsa, ← hma] at D3
  rw [← hsa, ← hma, ← hsb, ← hmb]
  clear hr hsa hma hsb hmb ha hb h1 h2 h3 g1 g2 g3
  obtain ⟨W2, hW2⟩ : ∃ W2, W2 = (w.alloc (.cells #[.int .i64 p, .slice Av nv cv, .slice Ac nc cc, .slice Ai ni ci, .int .i64 sa, .int .i64 ma] 33)).alloc (.cells #[.int .i64 q, .slice Bv mv dv, .slice Bc mc dc, .slice Bi mi di, .int .i64 sb, .int .i64 mb] 33) := ⟨_, rfl⟩
  have hal := al2 w (.cells #[.int .i64 p, .slice Av nv cv, .slice Ac nc cc, .slice Ai ni ci, .int .i64 sa, .int .i64 ma] 33) (.cells #[.int .i64 q, .slice Bv mv dv, .slice Bc mc dc, .slice Bi mi di, .int .i64 sb, .int .i64 mb] 33)
  rw [← hW2] at hal
  obtain ⟨n0, e0⟩ : ∃ n0, n0 = w.heap.size := ⟨_, rfl⟩
  have HA : Hid (W2.heap[n0]? = some (.cells #[.int .i64 p, .slice Av nv cv, .slice Ac nc cc, .slice Ai ni ci, .int .i64 sa, .int .i64 ma] 33 (0, 0))) := Lib.hid (by rw [e0]; exact hal.1)
  have HB : Hid (W2.heap[n0 + 1]? = some (.cells #[.int .i64 q, .slice Bv mv dv, .slice Bc mc dc, .slice Bi mi di, .int .i64 sb, .int .i64 mb] 33 (0, 0))) := Lib.hid (by rw [e0]; exact hal.2.1)
  have HW := Lib.hid hal.2.2
  clear hal
  go_enter Tryz.func7, Tryz.ntmps7
  go_upto_region 1 with fail
  rw [← hW2, show w.heap.size = n0 from e0.symm]
  clear hW2 e0
  obtain ⟨x0, x1, x2, x3, x4, x5, _⟩ := six HA.out
  obtain ⟨ta, hta⟩ : ∃ t, fewB nv nc ni = t := ⟨_, rfl⟩
  obtain ⟨tb, htb⟩ : ∃ t, fewB mv mc mi = t := ⟨_, rfl⟩
  have F1 := Lib.hid (fun W => few_all p sa ma Av Ac Ai nv nc ni cv cc ci W)
  have F2 := Lib.hid (fun W => few_all q sb mb Bv Bc Bi mv mc mi dv dc di W)
  rw [hta] at F1; rw [htb] at F2
  clear hta htb
  go_wp2_with fail
  refine (F1.out _).mono ?_
  rintro e w3 ⟨rfl, hb⟩
  replace HA := Lib.hid (keep HA.out hb); replace HB := Lib.hid (keep HB.out hb); replace HW := Lib.hid (step_below HW.out HW.out.size hb)
  clear hb x0 x1 x2 x3 x4 x5 F1
  cases ta with
  | false =>
    go_wp2_with fail
    refine (works_any _).mono ?_
    rintro e w7 ⟨rfl, hb⟩
    replace HW := Lib.hid (step_below HW.out HW.out.size hb)
    clear hb
    go_wp2
    go_ret
    exact ⟨rfl, HW.out⟩
  | true =>
    obtain ⟨y0, y1, y2, y3, y4, y5, _⟩ := six HB.out
    go_wp2_with fail
    refine (F2.out _).mono ?_
    rintro e w4 ⟨rfl, hb⟩
    replace HA := Lib.hid (keep HA.out hb); replace HB := Lib.hid (keep HB.out hb); replace HW := Lib.hid (step_below HW.out HW.out.size hb)
    clear hb y0 y1 y2 y3 y4 y5 F2
    cases tb with
    | false =>
      go_wp2_with fail
      refine (works_any _).mono ?_
      rintro e w7 ⟨rfl, hb⟩
      replace HW := Lib.hid (step_below HW.out HW.out.size hb)
      clear hb
      go_wp2
      go_ret
      exact ⟨rfl, HW.out⟩
    | true =>
      have C1 := Lib.hid (regr fun W (hb : Below w4.heap.size w4 W) => D1.out W (step_below HW.out HW.out.size hb))
      have C2 := Lib.hid (regr fun W (hb : Below w4.heap.size w4 W) => D2.out W (step_below HW.out HW.out.size hb))
      have C3 := Lib.hid (regr fun W (hb : Below w4.heap.size w4 W) => D3.out W (step_below HW.out HW.out.size hb))
      have C4 := Lib.hid (regr fun W (_ : Below w4.heap.size w4 W) => works_any W)
      clear D1 D2 D3
      obtain ⟨x0, x1, x2, x3, x4, x5, _⟩ := six HA.out
      obtain ⟨y0, y1, y2, y3, y4, y5, _⟩ := six HB.out
      have s0 := cell_regrown x0; have s1 := cell_regrown x1; have s2 := cell_regrown x2; have s3 := cell_regrown x3; have s4 := cell_regrown x4; have s5 := cell_regrown x5
      have u0 := cell_regrown y0; have u1 := cell_regrown y1; have u2 := cell_regrown y2; have u3 := cell_regrown y3; have u4 := cell_regrown y4; have u5 := cell_regrown y5
      clear x0 x1 x2 x3 x4 x5 y0 y1 y2 y3 y4 y5
      go_upto_region 3 with fail
      refine wp_region_quiet_below mixed (by kernel_rfl) ?_
      repeat (go_big_quiet_step ((with_reducible first | exact C1.out _ _ | exact C2.out _ _ | exact C3.out _ _ | exact C4.out _ _)))
      refine wpQuiet_nil ?_
      intro w5 hw5
      have hb5 : Below w4.heap.size w4 w5 := by obtain ⟨⟨dq, osq⟩, rfl⟩ := hw5; exact below_regrown w4 dq osq
      replace HW := Lib.hid (step_below HW.out HW.out.size hb5)
      clear hb5 hw5 C1 C2 C3 C4 s0 s1 s2 s3 s4 s5 u0 u1 u2 u3 u4 u5
      go_wp2
      go_ret
      exact ⟨rfl, HW.out⟩

end Go.Proofs.YtbbmgandkmlojaaGreat.Sq

/-
  What is proved here: the law SeqStart walked: it returns true, and no block that was there has changed. Conditions: rows that a memory holds.
-/
namespace Go.Proofs.YtbbmgandkmlojaaGreat.Sq
open Go.RowKit Go.Shelf Gr Wd Ws Fx Rk Lb Al In
open Pa (vl bt vl_of vl_at bt_of bt_at)

theorem few_start (k st so dm ep V : Int) (L : List Ed) : Few (startR k st so dm ep V L).2.1 := by
  unfold startR
  split
  · rename_i h; exact few_st h 0
  · exact few_z
set_option maxRecDepth 100000 in
set_option maxHeartbeats 1000000 in
theorem law_start (k st so dm ep V : Int) (A : Option Addr) (n c : Nat) (L : List Ed) (w : World) (hL : EAt w A L) (hn : L.length = n) (hm : n ≤ 9223372036854775807) :
    Calls Tryz.prog 3 #[.agg #[.int .i64 V, .slice A n c], .agg #[.int .u8 k, .int .i64 st, .int .i64 so, .int .i64 dm, .int .i64 ep]] w fun e w' => e = .returned (.bool true) ∧ Below w.heap.size w w' := by
  subst hn
  have HL := Lib.hid hL
  clear hL
  obtain ⟨W2, hW2⟩ : ∃ W2, W2 = (w.alloc (.cells #[.int .i64 V, .slice A L.length c] 24)).alloc (.cells #[.int .u8 k, .int .i64 st, .int .i64 so, .int .i64 dm, .int .i64 ep] 26) := ⟨_, rfl⟩
  have hal := al2 w (.cells #[.int .i64 V, .slice A L.length c] 24) (.cells #[.int .u8 k, .int .i64 st, .int .i64 so, .int .i64 dm, .int .i64 ep] 26)
  rw [← hW2] at hal
  obtain ⟨n0, e0⟩ : ∃ n0, n0 = w.heap.size := ⟨_, rfl⟩
  have HH : Hid (LwH w W2 n0 V A L.length c k st so dm ep) := Lib.hid ⟨hal.2.2, by rw [e0]; exact hal.1, by rw [e0]; exact hal.2.1⟩
  clear hal
  obtain ⟨r, hr⟩ : ∃ r, startR k st so dm ep V L = r := ⟨_, rfl⟩
  obtain ⟨p, S, E⟩ := r
  have hfw : Few S := by have := few_start k st so dm ep V L; rw [hr] at this; exact this
  have HC1 : Hid (L.length ≤ 1000 → ∀ W : World, Below w.heap.size w W → Calls Tryz.prog 12 #[.agg #[.int .i64 V, .slice A L.length c], .agg #[.int .u8 k, .int .i64 st, .int .i64 so, .int .i64 dm, .int .i64 ep]] W fun e w' => SRes W w' e p S E) := Lib.hid (fun h W hW => (seqStart_any k st so dm ep V A L.length c L W (HL.out.below hW) rfl h).mono fun _ _ h => sres_of h hr hfw)
  have HC2 : Hid (L.length ≤ 1000 → ∀ W : World, Below w.heap.size w W → Calls Tryz.prog 13 #[.agg #[.int .i64 V, .slice A L.length c], .agg #[.int .u8 k, .int .i64 st, .int .i64 so, .int .i64 dm, .int .i64 ep]] W fun e w' => SRes W w' e p S E) := Lib.hid (fun h W hW => (rstart_any' k st so dm ep V A L.length c L W (HL.out.below hW) rfl h).mono fun _ _ h => sres_of h hr hfw)
  clear hr hfw
  obtain ⟨g0, g1, _⟩ := two HH.out.gb
  obtain ⟨j0, j1, j2, j3, j4, _⟩ := jb_cells HH.out.jb
  have HT := Lib.hid (light_all V A L.length c L W2 (HL.out.below HH.out.below) rfl hm)
  obtain ⟨t, ht⟩ : ∃ t, lightB V L = t := ⟨_, rfl⟩
  rw [ht] at HT
  have HTL := Lib.hid ht
  clear ht
  go_enter Tryz.func3, Tryz.ntmps3
  go_upto_region 1 with fail
  rw [← hW2, show w.heap.size = n0 from e0.symm]
  clear hW2 e0
  go_wp2_with fail
  refine HT.out.mono ?_
  rintro e w1 ⟨rfl, hb⟩
  replace HH := Lib.hid (HH.out.step hb)
  clear hb HT g0 g1 j0 j1 j2 j3 j4
  cases t with
  | true =>
    have hn80 : L.length ≤ 80 := lightB_few HTL.out
    replace HC1 := Lib.hid (HC1.out (by omega)); replace HC2 := Lib.hid (HC2.out (by omega))
    have HLW := Lib.hid (HL.out.below HH.out.below)
    have HNL : Hid (L.length < 1000000000) := Lib.hid (by omega)
    have HSZ := Lib.hid HH.out.below.size
    clear hn80 HTL
    obtain ⟨g0, g1, _⟩ := two HH.out.gb
    go_wp2_with (at_builtin; refine app_copy rfl (.tmp 14) (.tmp 16) rfl w.heap.size L rfl A c rfl HLW.out HNL.out HSZ.out ?_)
    intro v3 w3 ho3 hg3
    have hb : Below w1.heap.size w1 w3 := Below.grown (Below.refl _ w1) hg3 (Nat.le_refl _) (fun j e => by cases e)
    replace HH := Lib.hid (HH.out.step hb)
    obtain ⟨A3, c3, rfl, he3, _⟩ := ho3.form
    have HE := Lib.hid he3
    clear hb ho3 hg3 HLW g0 g1 he3 HSZ
    obtain ⟨g0, g1, _⟩ := two HH.out.gb
    obtain ⟨j0, j1, j2, j3, j4, _⟩ := jb_cells HH.out.jb
    go_wp2_with fail
    refine (HC1.out w3 HH.out.below).mono ?_
    rintro e v1 ⟨av, a1, ac, a2, ai, a3, an1, an2, an3, rfl, hs1, hf1, hb1⟩
    obtain ⟨X1, hX1⟩ : ∃ X, X = v1.alloc (.cells #[.int .i64 p, .slice av an1 a1, .slice ac an2 a2, .slice ai an3 a3, .int .i64 S.sum, .int .i64 S.most] 33) := ⟨_, rfl⟩
    obtain ⟨bl1, eb1⟩ : ∃ b, b = v1.heap.size := ⟨_, rfl⟩
    have hb : Below w3.heap.size w3 X1 := by rw [hX1]; exact hb1.out.alloc hb1.out.size _
    replace HH := Lib.hid (HH.out.step hb)
    have HS1 : Hid (SAt X1 av ac ai an1 an2 an3 S) := Lib.hid (by rw [hX1]; exact hs1.out.below ((Below.refl _ v1).alloc (Nat.le_refl _) _))
    have HB1 : Hid (X1.heap[bl1]? = some (.cells #[.int .i64 p, .slice av an1 a1, .slice ac an2 a2, .slice ai an3 a3, .int .i64 S.sum, .int .i64 S.most] 33 (0, 0))) := Lib.hid (by rw [hX1, eb1]; exact heap_alloc_new v1 _)
    replace HE := Lib.hid (HE.out.below hb)
    have HL1 := Lib.hid hf1.out
    clear hb hs1 hb1 hf1 g0 g1 j0 j1 j2 j3 j4
    go_upto_region 6 with fail
    rw [← hX1, show v1.heap.size = bl1 from eb1.symm]
    clear hX1 eb1
    obtain ⟨g0, g1, _⟩ := two HH.out.gb
    obtain ⟨j0, j1, j2, j3, j4, _⟩ := jb_cells HH.out.jb
    go_wp2_with fail
    refine (HC2.out X1 HH.out.below).mono ?_
    rintro e v2 ⟨bv, b1, bc, b2, bi, b3, bn1, bn2, bn3, rfl, hs2, hf2, hb2⟩
    obtain ⟨X2, hX2⟩ : ∃ X, X = v2.alloc (.cells #[.int .i64 p, .slice bv bn1 b1, .slice bc bn2 b2, .slice bi bn3 b3, .int .i64 S.sum, .int .i64 S.most] 33) := ⟨_, rfl⟩
    obtain ⟨bl2, eb2⟩ : ∃ b, b = v2.heap.size := ⟨_, rfl⟩
    have hb : Below X1.heap.size X1 X2 := by rw [hX2]; exact hb2.out.alloc hb2.out.size _
    replace HH := Lib.hid (HH.out.step hb)
    have HS2 : Hid (SAt X2 bv bc bi bn1 bn2 bn3 S) := Lib.hid (by rw [hX2]; exact hs2.out.below ((Below.refl _ v2).alloc (Nat.le_refl _) _))
    have HB2 : Hid (X2.heap[bl2]? = some (.cells #[.int .i64 p, .slice bv bn1 b1, .slice bc bn2 b2, .slice bi bn3 b3, .int .i64 S.sum, .int .i64 S.most] 33 (0, 0))) := Lib.hid (by rw [hX2, eb2]; exact heap_alloc_new v2 _)
    replace HS1 := Lib.hid (HS1.out.below hb); replace HB1 := Lib.hid (keep HB1.out hb)
    replace HE := Lib.hid (HE.out.below hb)
    have HL2 := Lib.hid hf2.out
    clear hb hs2 hb2 hf2 g0 g1 j0 j1 j2 j3 j4
    go_upto_region 7 with fail
    rw [← hX2, show v2.heap.size = bl2 from eb2.symm]
    clear hX2 eb2
    obtain ⟨x0, x1, x2, x3, x4, x5, _⟩ := six HB1.out
    obtain ⟨y0, y1, y2, y3, y4, y5, _⟩ := six HB2.out
    have HQ := Lib.hid (rsqSame_any p p S S av ac ai bv bc bi an1 an2 an3 a1 a2 a3 bn1 bn2 bn3 b1 b2 b3 X2 HS1.out HS2.out (by have := HL1.out; omega) (by have := HL1.out; omega) (by have := HL1.out; omega) (by have := HL2.out; omega) (by have := HL2.out; omega) (by have := HL2.out; omega))
    rw [sameS_refl] at HQ
    go_wp2_with fail
    refine HQ.out.mono ?_
    rintro e w5 ⟨rfl, hb⟩
    replace HH := Lib.hid (HH.out.step hb)
    replace HE := Lib.hid (HE.out.below hb)
    clear hb HQ x0 x1 x2 x3 x4 x5 y0 y1 y2 y3 y4 y5
    obtain ⟨g0, g1, _⟩ := two HH.out.gb
    have HQ := Lib.hid (rsame_edges A3 A c3 c L L w5 HE.out (HL.out.below HH.out.below) hm hm)
    rw [show decide (L = L) = true by simp] at HQ
    go_wp2_with fail
    refine HQ.out.mono ?_
    rintro e w6 ⟨rfl, hb⟩
    replace HH := Lib.hid (HH.out.step hb)
    clear hb HQ g0 g1
    go_wp2_with fail
    refine (works_any _).mono ?_
    rintro e w7 ⟨rfl, hb⟩
    replace HH := Lib.hid (HH.out.step hb)
    clear hb
    go_wp2
    go_ret
    exact ⟨rfl, HH.out.below⟩
  | false =>
    clear HC1 HC2 HTL
    go_wp2_with fail
    refine (works_any _).mono ?_
    rintro e w7 ⟨rfl, hb⟩
    replace HH := Lib.hid (HH.out.step hb)
    clear hb
    go_wp2
    go_ret
    exact ⟨rfl, HH.out.below⟩

end Go.Proofs.YtbbmgandkmlojaaGreat.Sq

/-
  What is proved here: Rows.SeqStartSaid: for any graph and job the law's function SeqStart returns true (the state at first is the document's; the edges stay), and no block that was there has changed. No condition.
-/
namespace Go.Proofs.YtbbmgandkmlojaaGreat
open Go.ChangeShapes Go.WideShapes Go.ChangeAt Go.RowKit Gr Lb Al Sq

set_option maxRecDepth 100000 in
theorem seqStart_lifted (os : Os) (started : os.Started) (H : Type) (enc : TypeId × Value → H) :
    ReturnsInHanded {} Tryz.checked os 3 .any (Rows.seqStartSpec.pre6 enc Tryz.prog Tryz.f3 Rows.seqStartRow.domain false) (Rows.seqStartSpec.post enc Tryz.prog Tryz.f3 false true false false) := by
  refine returnsInHanded_of_change (C := Tryz.checked) own started (by kernel_rfl) Tryz.func3
    (ChangeSpec.witness6 (enc := enc) (C := Tryz.checked) false ⟨#[], #[.agg #[.int .i64 0, .slice none 0 0], .agg #[.int .u8 0, .int .i64 0, .int .i64 0, .int .i64 0, .int .i64 0]], []⟩ 8 (by kernel_rfl) (by kernel_rfl) (by kernel_rfl) (by kernel_rfl)) ?_
  intro W base args ds gs before hval0 hW hcnd _
  have hval : ∀ (j : Nat) t v, Tryz.f3.params[j]? = some t → args[j]? = some v → Value.okWide Tryz.prog W .any base t v := hval0
  have hW' := hW
  obtain ⟨p, q, hA0, hV, rfl, hfz, hnd⟩ := hW
  have hA : DataW.TrodAll enc Tryz.prog W 0 (fun _ => true) true Tryz.f3.params.toList args.toList ds p := hA0
  rw [Tryz.params3] at hA hval
  obtain ⟨v0, vs0, d0, ds0, p0, q0, hargs, rfl, rfl, h0, r0⟩ := trodAll_cons hA
  obtain ⟨v1, vs1, d1, ds1, p1, q1, rfl, rfl, rfl, h1, r1⟩ := trodAll_cons r0
  obtain ⟨rfl, rfl, rfl⟩ := trodAll_nil r1
  obtain rfl : args = #[v0, v1] := by cases args; simp_all
  obtain ⟨rfl, rfl⟩ := trodVars_none hV
  obtain ⟨V0, L0, A0, c0, rfl, hl0, hL0, hi0, hV0⟩ := graph_in (hval 0 24 v0 rfl rfl) h0
  obtain ⟨k1, st1, so1, dm1, ep1, rfl, hj1⟩ := job_in (hval 1 26 v1 rfl rfl) h1
  clear hA0 hval0
  simp only [List.append_nil] at hW'
  refine (law_start k1 st1 so1 dm1 ep1 V0 A0 L0.length c0 L0 W hL0 rfl (by unfold maxLen at hl0; omega)).mono fun e W' ⟨he, hg⟩ => ?_
  subst he
  have hlt1 : ∀ x ∈ p1, x.block < W.heap.size := fun x hx => by simpa using hW'.lt x (by simp [hx])
  have hlt0 : ∀ x ∈ p0, x.block < W.heap.size := fun x hx => by simpa using hW'.lt x (by simp [hx])
  refine ⟨_, rfl, law_post hW' hg rfl rfl rfl rfl ?_⟩
  have g := (trodAll_cons_mk (Below.trod laidOut (by kernel_rfl) (of_decide_eq_true (by kernel_rfl)) h0 hg hlt0) (trodAll_cons_mk (Below.trod laidOut (by kernel_rfl) (of_decide_eq_true (by kernel_rfl)) h1 hg hlt1) trodAll_mk0))
  simp only [List.append_nil] at g
  exact g

theorem seqStart_holds : Rows.SeqStartSaid :=
  OpenClaim.holds_of_wide 3 Tryz.f3 rfl rfl rfl rfl rfl rfl rfl ⟨rfl, rfl, rfl, rfl, rfl⟩ rfl rfl rfl rfl rfl (by kernel_rfl) Tryz.func3 (by kernel_rfl)
    (of_decide_eq_true (by kernel_rfl)) (by unfold Func.isWrapper; first | (rw [if_pos (by decide +kernel)]; kernel_rfl) | (rw [if_neg (by decide +kernel)]; exact ⟨rfl, rfl⟩))
    (fun os started H enc _ => seqStart_lifted os started H enc)
#print axioms seqStart_holds

end Go.Proofs.YtbbmgandkmlojaaGreat

