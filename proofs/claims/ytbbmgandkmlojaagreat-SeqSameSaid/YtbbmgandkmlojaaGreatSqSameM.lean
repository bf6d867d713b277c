/-
  What is proved here: the texts SqL1 InIn SqIn SqSameC of this seat, laid together (each says itself what it proves; no condition beyond theirs).
-/
import Derived.Test.YtbbmgandkmlojaaGreatSqG4
import Derived.Test.YtbbmgandkmlojaaGreatSqG6
import Derived.Test.YtbbmgandkmlojaaGreatSqG1
import Derived.Test.YtbbmgandkmlojaaGreatAlIn
import Derived.ProofKit
import Derived.LaidMore
import Derived.OpenShut
import Derived.SizedLaws
import Derived.Carry
import Derived.ChangeSlices
import Derived.Deep.Slices
import Derived.Deep.Fields
/-
  What is proved here: the laws SeqAt, SeqRun and SeqSame walked: they return true, and no block that was there has changed. Conditions: rows that a memory holds.
-/
namespace Go.Proofs.YtbbmgandkmlojaaGreat.Sq
open Go.RowKit Go.Shelf Gr Wd Ws Fx Rk Lb Al In
open Pa (vl bt vl_of vl_at bt_of bt_at)

/- What a call gives: a state that can be read, of few vertices. -/
def SRes (w w' : World) (e : Ending) (p : Int) (S : Sq) (E : Int) : Prop := ∃ Av cv Ac cc Ai ci, ∃ nv nc ni : Nat, e = .returned (.tuple #[.agg #[.int .i64 p, .slice Av nv cv, .slice Ac nc cc, .slice Ai ni ci, .int .i64 S.sum, .int .i64 S.most], .int .i64 E]) ∧ Hid (SAt w' Av Ac Ai nv nc ni S) ∧ Hid (nv ≤ 512 ∧ nc ≤ 512 ∧ ni ≤ 512) ∧ Hid (Below w.heap.size w w')
def Few (S : Sq) : Prop := S.vals.length ≤ 512 ∧ S.chg.length ≤ 512 ∧ S.inb.length ≤ 512
theorem sres_of {w w' : World} {e : Ending} {r : Int × Sq × Int} {p E : Int} {S : Sq} (h : Res w w' e r) (hr : r = (p, S, E)) (hf : Few S) : SRes w w' e p S E := by
  obtain ⟨x, rfl, hx, hb⟩ := h
  subst hr
  obtain ⟨Av, cv, Ac, cc, Ai, ci, rfl, h1, _, _, _⟩ := hx.out.at
  exact ⟨Av, cv, Ac, cc, Ai, ci, _, _, _, rfl, Lib.hid h1, Lib.hid hf, hb⟩
theorem few_z : Few zS := ⟨by decide, by decide, by decide⟩
theorem few_st {k st so dm ep V : Int} {L : List Ed} (h : chkJ k st so dm ep V L = 0) (n : Nat) : Few (stS k so dm V.toNat L n) := by
  obtain ⟨hz, hst0, hst1, hk, hd0, hd1⟩ := chkJ_zero h
  obtain ⟨Vn, rfl, hV1, hV2, hfit⟩ := chk_facts hz
  have hg : GoS k Vn L (stS k so dm Vn L n) := go_all hz (fun _ => ⟨hd0, hd1⟩) n
  have hm := hg.may
  exact ⟨by rw [show ((Vn : Int)).toNat = Vn from rfl, hm.1]; exact hV2, by rw [show ((Vn : Int)).toNat = Vn from rfl, hm.2.1]; exact hV2, by rw [show ((Vn : Int)).toNat = Vn from rfl, hm.2.2.1]; exact hV2⟩
theorem few_at (k st so dm ep V : Int) (L : List Ed) (n : Int) : Few (atR k st so dm ep V L n).2.1 := by
  unfold atR
  split
  · rename_i h
    split
    · exact few_st h _
    · exact few_z
  · exact few_z
theorem few_run (k st so dm ep V : Int) (L : List Ed) (N : Nat) : Few (runR k st so dm ep V L N).2.1 := by
  unfold runR
  split
  · rename_i h; exact few_st h _
  · exact few_z
theorem run_at (k st so dm ep V : Int) (L : List Ed) : ∃ N : Nat, chkJ k st so dm ep V L = 0 → donB k st ep (N : Int) (stS k so dm V.toNat L N).most = true ∧ N ≤ 2000 ∧ ∀ i : Nat, i < N → donB k st ep (i : Int) (stS k so dm V.toNat L i).most = false := by
  by_cases h : chkJ k st so dm ep V L = 0
  · obtain ⟨hz, hst0, hst1, hk, hd0, hd1⟩ := chkJ_zero h
    obtain ⟨N, h1, h2, h3⟩ := first_done (ep := ep) hk hst0 (fun i => (stS k so dm V.toNat L i).most)
    exact ⟨N, fun _ => ⟨h2, by omega, h3⟩⟩
  · exact ⟨0, fun e => absurd e h⟩
structure LwH (w W : World) (n0 : Nat) (V : Int) (A : Option Addr) (n c : Nat) (k st so dm ep : Int) : Prop where
  below : Below w.heap.size w W
  gb : W.heap[n0]? = some (.cells #[.int .i64 V, .slice A n c] 24 (0, 0))
  jb : W.heap[n0 + 1]? = some (.cells #[.int .u8 k, .int .i64 st, .int .i64 so, .int .i64 dm, .int .i64 ep] 26 (0, 0))
theorem LwH.step {w W W' : World} {n0 : Nat} {V : Int} {A : Option Addr} {n c : Nat} {k st so dm ep : Int} (h : LwH w W n0 V A n c k st so dm ep) (hb : Below W.heap.size W W') : LwH w W' n0 V A n c k st so dm ep := ⟨step_below h.below h.below.size hb, keep h.gb hb, keep h.jb hb⟩

set_option maxRecDepth 100000 in
set_option maxHeartbeats 1000000 in
theorem law_at (k st so dm ep V : Int) (A : Option Addr) (n c : Nat) (L : List Ed) (kk : Int) (w : World) (hL : EAt w A L) (hn : L.length = n) (hm : n ≤ 9223372036854775807) :
    Calls Tryz.prog 5 #[.agg #[.int .i64 V, .slice A n c], .agg #[.int .u8 k, .int .i64 st, .int .i64 so, .int .i64 dm, .int .i64 ep], .int .i64 kk] w fun e w' => e = .returned (.bool true) ∧ Below w.heap.size w w' := by
  have HL := Lib.hid hL; have HN := Lib.hid hn
  clear hL hn
  obtain ⟨W2, hW2⟩ : ∃ W2, W2 = (w.alloc (.cells #[.int .i64 V, .slice A n c] 24)).alloc (.cells #[.int .u8 k, .int .i64 st, .int .i64 so, .int .i64 dm, .int .i64 ep] 26) := ⟨_, rfl⟩
  have hal := al2 w (.cells #[.int .i64 V, .slice A n c] 24) (.cells #[.int .u8 k, .int .i64 st, .int .i64 so, .int .i64 dm, .int .i64 ep] 26)
  rw [← hW2] at hal
  obtain ⟨n0, e0⟩ : ∃ n0, n0 = w.heap.size := ⟨_, rfl⟩
  have HH : Hid (LwH w W2 n0 V A n c k st so dm ep) := Lib.hid ⟨hal.2.2, by rw [e0]; exact hal.1, by rw [e0]; exact hal.2.1⟩
  clear hal
  obtain ⟨r, hr⟩ : ∃ r, atR k st so dm ep V L kk = r := ⟨_, rfl⟩
  obtain ⟨p, S, E⟩ := r
  have hfw : Few S := by have := few_at k st so dm ep V L kk; rw [hr] at this; exact this
  have HC1 : Hid (n ≤ 1000 → ∀ W : World, Below w.heap.size w W → Calls Tryz.prog 19 #[.agg #[.int .i64 V, .slice A n c], .agg #[.int .u8 k, .int .i64 st, .int .i64 so, .int .i64 dm, .int .i64 ep], .int .i64 kk] W fun e w' => SRes W w' e p S E) := Lib.hid (fun h W hW => (seqAt_any k st so dm ep V A n c L kk W (HL.out.below hW) HN.out h).mono fun _ _ h => sres_of h hr hfw)
  have HC2 : Hid (n ≤ 1000 → ∀ W : World, Below w.heap.size w W → Calls Tryz.prog 20 #[.agg #[.int .i64 V, .slice A n c], .agg #[.int .u8 k, .int .i64 st, .int .i64 so, .int .i64 dm, .int .i64 ep], .int .i64 kk] W fun e w' => SRes W w' e p S E) := Lib.hid (fun h W hW => (rat_any k st so dm ep V A n c L kk W (HL.out.below hW) HN.out h).mono fun _ _ h => sres_of h hr hfw)
  clear hr hfw
  obtain ⟨g0, g1, _⟩ := two HH.out.gb
  obtain ⟨j0, j1, j2, j3, j4, _⟩ := jb_cells HH.out.jb
  have HT := Lib.hid (light_all V A n c L W2 (HL.out.below HH.out.below) HN.out hm)
  obtain ⟨t, ht⟩ : ∃ t, lightB V L = t := ⟨_, rfl⟩
  rw [ht] at HT
  have HTL := Lib.hid ht
  clear ht
  go_enter Tryz.func5, Tryz.ntmps5
  go_upto_region 1 with fail
  rw [← hW2, show w.heap.size = n0 from e0.symm]
  clear hW2 e0
  go_wp2_with fail
  refine HT.out.mono ?_
  rintro e w1 ⟨rfl, hb⟩
  replace HH := Lib.hid (HH.out.step hb)
  clear hb HT g0 g1 j0 j1 j2 j3 j4
  by_cases hgo : t = true ∧ (kk ≤ 12 ∨ 2000 < kk)
  · obtain ⟨rfl, hor⟩ := hgo
    have hn80 : n ≤ 80 := by have := lightB_few HTL.out; rwa [HN.out] at this
    replace HC1 := Lib.hid (HC1.out (by omega)); replace HC2 := Lib.hid (HC2.out (by omega))
    clear hn80 HTL
    obtain ⟨g0, g1, _⟩ := two HH.out.gb
    obtain ⟨j0, j1, j2, j3, j4, _⟩ := jb_cells HH.out.jb
    have hgt : (12 < kk ∧ ¬ kk ≤ 2000) ∨ ¬ 12 < kk := by omega
    clear hor
    rcases hgt with ⟨h1, h2⟩ | h1
    all_goals
      obtain ⟨g0, g1, _⟩ := two HH.out.gb
      obtain ⟨j0, j1, j2, j3, j4, _⟩ := jb_cells HH.out.jb
      go_wp2_with fail
      refine (HC1.out w1 HH.out.below).mono ?_
      rintro e v1 ⟨av, a1, ac, a2, ai, a3, an1, an2, an3, rfl, hs1, hf1, hb1⟩
      obtain ⟨X1, hX1⟩ : ∃ X, X = v1.alloc (.cells #[.int .i64 p, .slice av an1 a1, .slice ac an2 a2, .slice ai an3 a3, .int .i64 S.sum, .int .i64 S.most] 33) := ⟨_, rfl⟩
      obtain ⟨bl1, eb1⟩ : ∃ b, b = v1.heap.size := ⟨_, rfl⟩
      have hb : Below w1.heap.size w1 X1 := by rw [hX1]; exact hb1.out.alloc hb1.out.size _
      replace HH := Lib.hid (HH.out.step hb)
      have HS1 : Hid (SAt X1 av ac ai an1 an2 an3 S) := Lib.hid (by rw [hX1]; exact hs1.out.below ((Below.refl _ v1).alloc (Nat.le_refl _) _))
      have HB1 : Hid (X1.heap[bl1]? = some (.cells #[.int .i64 p, .slice av an1 a1, .slice ac an2 a2, .slice ai an3 a3, .int .i64 S.sum, .int .i64 S.most] 33 (0, 0))) := Lib.hid (by rw [hX1, eb1]; exact heap_alloc_new v1 _)
      have HL1 := Lib.hid hf1.out
      clear hb hs1 hb1 hf1 g0 g1 j0 j1 j2 j3 j4
      go_upto_region 4 with fail
      rw [← hX1, show v1.heap.size = bl1 from eb1.symm]
      clear hX1 eb1
      obtain ⟨g0, g1, _⟩ := two HH.out.gb
      obtain ⟨j0, j1, j2, j3, j4, _⟩ := jb_cells HH.out.jb
      go_wp2_with fail
      refine (HC2.out X1 HH.out.below).mono ?_
      rintro e v2 ⟨bv, b1, bc, b2, bi, b3, bn1, bn2, bn3, rfl, hs2, hf2, hb2⟩
      obtain ⟨X2, hX2⟩ : ∃ X, X = v2.alloc (.cells #[.int .i64 p, .slice bv bn1 b1, .slice bc bn2 b2, .slice bi bn3 b3, .int .i64 S.sum, .int .i64 S.most] 33) := ⟨_, rfl⟩
      obtain ⟨bl2, eb2⟩ : ∃ b, b = v2.heap.size := ⟨_, rfl⟩
      have hb : Below X1.heap.size X1 X2 := by rw [hX2]; exact hb2.out.alloc hb2.out.size _
      replace HH := Lib.hid (HH.out.step hb)
      have HS2 : Hid (SAt X2 bv bc bi bn1 bn2 bn3 S) := Lib.hid (by rw [hX2]; exact hs2.out.below ((Below.refl _ v2).alloc (Nat.le_refl _) _))
      have HB2 : Hid (X2.heap[bl2]? = some (.cells #[.int .i64 p, .slice bv bn1 b1, .slice bc bn2 b2, .slice bi bn3 b3, .int .i64 S.sum, .int .i64 S.most] 33 (0, 0))) := Lib.hid (by rw [hX2, eb2]; exact heap_alloc_new v2 _)
      replace HS1 := Lib.hid (HS1.out.below hb); replace HB1 := Lib.hid (keep HB1.out hb)
      have HL2 := Lib.hid hf2.out
      clear hb hs2 hb2 hf2 g0 g1 j0 j1 j2 j3 j4
      go_upto_region 5 with fail
      rw [← hX2, show v2.heap.size = bl2 from eb2.symm]
      clear hX2 eb2
      obtain ⟨x0, x1, x2, x3, x4, x5, _⟩ := six HB1.out
      obtain ⟨y0, y1, y2, y3, y4, y5, _⟩ := six HB2.out
      have HQ := Lib.hid (rsqSame_any p p S S av ac ai bv bc bi an1 an2 an3 a1 a2 a3 bn1 bn2 bn3 b1 b2 b3 X2 HS1.out HS2.out (by have := HL1.out; omega) (by have := HL1.out; omega) (by have := HL1.out; omega) (by have := HL2.out; omega) (by have := HL2.out; omega) (by have := HL2.out; omega))
      rw [sameS_refl] at HQ
      go_wp2_with fail
      refine HQ.out.mono ?_
      rintro e w5 ⟨rfl, hb⟩
      replace HH := Lib.hid (HH.out.step hb)
      replace HS1 := Lib.hid (HS1.out.below hb); replace HS2 := Lib.hid (HS2.out.below hb); replace HB1 := Lib.hid (keep HB1.out hb); replace HB2 := Lib.hid (keep HB2.out hb)
      clear hb HQ x0 x1 x2 x3 x4 x5 y0 y1 y2 y3 y4 y5
      go_wp2_with fail
      refine (works_any _).mono ?_
      rintro e w7 ⟨rfl, hb⟩
      replace HH := Lib.hid (HH.out.step hb)
      clear hb
      go_wp2
      go_ret
      exact ⟨rfl, HH.out.below⟩
  · have hgo2 : t = false ∨ (t = true ∧ 12 < kk ∧ kk ≤ 2000) := by cases t <;> simp at hgo ⊢; omega
    clear hgo HC1 HC2 HTL
    obtain ⟨j0, j1, j2, j3, j4, _⟩ := jb_cells HH.out.jb
    rcases hgo2 with rfl | ⟨rfl, h1, h2⟩
    all_goals
      go_wp2_with fail
      refine (works_any _).mono ?_
      rintro e w7 ⟨rfl, hb⟩
      replace HH := Lib.hid (HH.out.step hb)
      clear hb
      go_wp2
      go_ret
      exact ⟨rfl, HH.out.below⟩

set_option maxRecDepth 100000 in
set_option maxHeartbeats 1000000 in
theorem law_run (k st so dm ep V : Int) (A : Option Addr) (n c : Nat) (L : List Ed) (w : World) (hL : EAt w A L) (hn : L.length = n) (hm : n ≤ 9223372036854775807) :
    Calls Tryz.prog 6 #[.agg #[.int .i64 V, .slice A n c], .agg #[.int .u8 k, .int .i64 st, .int .i64 so, .int .i64 dm, .int .i64 ep]] w fun e w' => e = .returned (.bool true) ∧ Below w.heap.size w w' := by
  have HL := Lib.hid hL; have HN := Lib.hid hn
  clear hL hn
  obtain ⟨N, hN⟩ := run_at k st so dm ep V L
  obtain ⟨W2, hW2⟩ : ∃ W2, W2 = (w.alloc (.cells #[.int .i64 V, .slice A n c] 24)).alloc (.cells #[.int .u8 k, .int .i64 st, .int .i64 so, .int .i64 dm, .int .i64 ep] 26) := ⟨_, rfl⟩
  have hal := al2 w (.cells #[.int .i64 V, .slice A n c] 24) (.cells #[.int .u8 k, .int .i64 st, .int .i64 so, .int .i64 dm, .int .i64 ep] 26)
  rw [← hW2] at hal
  obtain ⟨n0, e0⟩ : ∃ n0, n0 = w.heap.size := ⟨_, rfl⟩
  have HH : Hid (LwH w W2 n0 V A n c k st so dm ep) := Lib.hid ⟨hal.2.2, by rw [e0]; exact hal.1, by rw [e0]; exact hal.2.1⟩
  clear hal
  obtain ⟨r, hr⟩ : ∃ r, runR k st so dm ep V L N = r := ⟨_, rfl⟩
  obtain ⟨p, S, E⟩ := r
  have hfw : Few S := by have := few_run k st so dm ep V L N; rw [hr] at this; exact this
  have HC1 : Hid (n ≤ 1000 → ∀ W : World, Below w.heap.size w W → Calls Tryz.prog 21 #[.agg #[.int .i64 V, .slice A n c], .agg #[.int .u8 k, .int .i64 st, .int .i64 so, .int .i64 dm, .int .i64 ep]] W fun e w' => SRes W w' e p S E) := Lib.hid (fun h W hW => (seqRun_any k st so dm ep V A n c L N W (HL.out.below hW) HN.out h hN).mono fun _ _ h => sres_of h hr hfw)
  have HC2 : Hid (n ≤ 1000 → ∀ W : World, Below w.heap.size w W → Calls Tryz.prog 22 #[.agg #[.int .i64 V, .slice A n c], .agg #[.int .u8 k, .int .i64 st, .int .i64 so, .int .i64 dm, .int .i64 ep]] W fun e w' => SRes W w' e p S E) := Lib.hid (fun h W hW => (rrun_any k st so dm ep V A n c L N W (HL.out.below hW) HN.out h hN).mono fun _ _ h => sres_of h hr hfw)
  clear hr hfw hN
  obtain ⟨g0, g1, _⟩ := two HH.out.gb
  obtain ⟨j0, j1, j2, j3, j4, _⟩ := jb_cells HH.out.jb
  have HT := Lib.hid (light_all V A n c L W2 (HL.out.below HH.out.below) HN.out hm)
  obtain ⟨t, ht⟩ : ∃ t, lightB V L = t := ⟨_, rfl⟩
  rw [ht] at HT
  have HTL := Lib.hid ht
  clear ht
  go_enter Tryz.func6, Tryz.ntmps6
  go_upto_region 1 with fail
  rw [← hW2, show w.heap.size = n0 from e0.symm]
  clear hW2 e0
  go_wp2_with fail
  refine HT.out.mono ?_
  rintro e w1 ⟨rfl, hb⟩
  replace HH := Lib.hid (HH.out.step hb)
  clear hb HT g0 g1 j0 j1 j2 j3 j4
  by_cases hgo : t = true ∧ (st ≤ 40 ∨ 2000 < st)
  · obtain ⟨rfl, hor⟩ := hgo
    have hn80 : n ≤ 80 := by have := lightB_few HTL.out; rwa [HN.out] at this
    replace HC1 := Lib.hid (HC1.out (by omega)); replace HC2 := Lib.hid (HC2.out (by omega))
    clear hn80 HTL
    obtain ⟨g0, g1, _⟩ := two HH.out.gb
    obtain ⟨j0, j1, j2, j3, j4, _⟩ := jb_cells HH.out.jb
    have hgt : (40 < st ∧ ¬ st ≤ 2000) ∨ ¬ 40 < st := by omega
    clear hor
    rcases hgt with ⟨h1, h2⟩ | h1
    all_goals
      obtain ⟨g0, g1, _⟩ := two HH.out.gb
      obtain ⟨j0, j1, j2, j3, j4, _⟩ := jb_cells HH.out.jb
      go_wp2_with fail
      refine (HC1.out w1 HH.out.below).mono ?_
      rintro e v1 ⟨av, a1, ac, a2, ai, a3, an1, an2, an3, rfl, hs1, hf1, hb1⟩
      obtain ⟨X1, hX1⟩ : ∃ X, X = v1.alloc (.cells #[.int .i64 p, .slice av an1 a1, .slice ac an2 a2, .slice ai an3 a3, .int .i64 S.sum, .int .i64 S.most] 33) := ⟨_, rfl⟩
      obtain ⟨bl1, eb1⟩ : ∃ b, b = v1.heap.size := ⟨_, rfl⟩
      have hb : Below w1.heap.size w1 X1 := by rw [hX1]; exact hb1.out.alloc hb1.out.size _
      replace HH := Lib.hid (HH.out.step hb)
      have HS1 : Hid (SAt X1 av ac ai an1 an2 an3 S) := Lib.hid (by rw [hX1]; exact hs1.out.below ((Below.refl _ v1).alloc (Nat.le_refl _) _))
      have HB1 : Hid (X1.heap[bl1]? = some (.cells #[.int .i64 p, .slice av an1 a1, .slice ac an2 a2, .slice ai an3 a3, .int .i64 S.sum, .int .i64 S.most] 33 (0, 0))) := Lib.hid (by rw [hX1, eb1]; exact heap_alloc_new v1 _)
      have HL1 := Lib.hid hf1.out
      clear hb hs1 hb1 hf1 g0 g1 j0 j1 j2 j3 j4
      go_upto_region 4 with fail
      rw [← hX1, show v1.heap.size = bl1 from eb1.symm]
      clear hX1 eb1
      obtain ⟨g0, g1, _⟩ := two HH.out.gb
      obtain ⟨j0, j1, j2, j3, j4, _⟩ := jb_cells HH.out.jb
      go_wp2_with fail
      refine (HC2.out X1 HH.out.below).mono ?_
      rintro e v2 ⟨bv, b1, bc, b2, bi, b3, bn1, bn2, bn3, rfl, hs2, hf2, hb2⟩
      obtain ⟨X2, hX2⟩ : ∃ X, X = v2.alloc (.cells #[.int .i64 p, .slice bv bn1 b1, .slice bc bn2 b2, .slice bi bn3 b3, .int .i64 S.sum, .int .i64 S.most] 33) := ⟨_, rfl⟩
      obtain ⟨bl2, eb2⟩ : ∃ b, b = v2.heap.size := ⟨_, rfl⟩
      have hb : Below X1.heap.size X1 X2 := by rw [hX2]; exact hb2.out.alloc hb2.out.size _
      replace HH := Lib.hid (HH.out.step hb)
      have HS2 : Hid (SAt X2 bv bc bi bn1 bn2 bn3 S) := Lib.hid (by rw [hX2]; exact hs2.out.below ((Below.refl _ v2).alloc (Nat.le_refl _) _))
      have HB2 : Hid (X2.heap[bl2]? = some (.cells #[.int .i64 p, .slice bv bn1 b1, .slice bc bn2 b2, .slice bi bn3 b3, .int .i64 S.sum, .int .i64 S.most] 33 (0, 0))) := Lib.hid (by rw [hX2, eb2]; exact heap_alloc_new v2 _)
      replace HS1 := Lib.hid (HS1.out.below hb); replace HB1 := Lib.hid (keep HB1.out hb)
      have HL2 := Lib.hid hf2.out
      clear hb hs2 hb2 hf2 g0 g1 j0 j1 j2 j3 j4
      go_upto_region 5 with fail
      rw [← hX2, show v2.heap.size = bl2 from eb2.symm]
      clear hX2 eb2
      obtain ⟨x0, x1, x2, x3, x4, x5, _⟩ := six HB1.out
      obtain ⟨y0, y1, y2, y3, y4, y5, _⟩ := six HB2.out
      have HQ := Lib.hid (rsqSame_any p p S S av ac ai bv bc bi an1 an2 an3 a1 a2 a3 bn1 bn2 bn3 b1 b2 b3 X2 HS1.out HS2.out (by have := HL1.out; omega) (by have := HL1.out; omega) (by have := HL1.out; omega) (by have := HL2.out; omega) (by have := HL2.out; omega) (by have := HL2.out; omega))
      rw [sameS_refl] at HQ
      go_wp2_with fail
      refine HQ.out.mono ?_
      rintro e w5 ⟨rfl, hb⟩
      replace HH := Lib.hid (HH.out.step hb)
      replace HS1 := Lib.hid (HS1.out.below hb); replace HS2 := Lib.hid (HS2.out.below hb); replace HB1 := Lib.hid (keep HB1.out hb); replace HB2 := Lib.hid (keep HB2.out hb)
      clear hb HQ x0 x1 x2 x3 x4 x5 y0 y1 y2 y3 y4 y5
      obtain ⟨x0, x1, x2, x3, x4, x5, _⟩ := six HB1.out
      obtain ⟨y0, y1, y2, y3, y4, y5, _⟩ := six HB2.out
      have HQ := Lib.hid (seqSame_any p p S S av ac ai bv bc bi an1 an2 an3 a1 a2 a3 bn1 bn2 bn3 b1 b2 b3 w5 HS1.out HS2.out (by have := HL1.out; omega) (by have := HL1.out; omega) (by have := HL1.out; omega) (by have := HL2.out; omega) (by have := HL2.out; omega) (by have := HL2.out; omega))
      rw [sameS_refl] at HQ
      go_wp2_with fail
      refine HQ.out.mono ?_
      rintro e w6 ⟨rfl, hb⟩
      replace HH := Lib.hid (HH.out.step hb)
      clear hb HQ x0 x1 x2 x3 x4 x5 y0 y1 y2 y3 y4 y5
      go_wp2_with fail
      refine (works_any _).mono ?_
      rintro e w7 ⟨rfl, hb⟩
      replace HH := Lib.hid (HH.out.step hb)
      clear hb
      go_wp2
      go_ret
      exact ⟨rfl, HH.out.below⟩
  · have hgo2 : t = false ∨ (t = true ∧ 40 < st ∧ st ≤ 2000) := by cases t <;> simp at hgo ⊢; omega
    clear hgo HC1 HC2 HTL
    obtain ⟨j0, j1, j2, j3, j4, _⟩ := jb_cells HH.out.jb
    rcases hgo2 with rfl | ⟨rfl, h1, h2⟩
    all_goals
      go_wp2_with fail
      refine (works_any _).mono ?_
      rintro e w7 ⟨rfl, hb⟩
      replace HH := Lib.hid (HH.out.step hb)
      clear hb
      go_wp2
      go_ret
      exact ⟨rfl, HH.out.below⟩

set_option maxRecDepth 100000 in
set_option maxHeartbeats 1000000 in
theorem law_same (p q : Int) (a b : Sq) (Av Ac Ai Bv Bc Bi : Option Addr) (nv nc ni cv cc ci mv mc mi dv dc di : Nat) (w : World) (ha : SAt w Av Ac Ai nv nc ni a) (hb : SAt w Bv Bc Bi mv mc mi b)
    (h1 : nv ≤ 9223372036854775807) (h2 : nc ≤ 9223372036854775807) (h3 : ni ≤ 9223372036854775807) (g1 : mv ≤ 9223372036854775807) (g2 : mc ≤ 9223372036854775807) (g3 : mi ≤ 9223372036854775807) :
    Calls Tryz.prog 7 #[.agg #[.int .i64 p, .slice Av nv cv, .slice Ac nc cc, .slice Ai ni ci, .int .i64 a.sum, .int .i64 a.most], .agg #[.int .i64 q, .slice Bv mv dv, .slice Bc mc dc, .slice Bi mi di, .int .i64 b.sum, .int .i64 b.most]] w fun e w' => e = .returned (.bool true) ∧ Below w.heap.size w w' := by
  have mixed := mixedI
  have D1 := Lib.hid (fun (W : World) (hW : Below w.heap.size w W) => seqSame_any p q a b Av Ac Ai Bv Bc Bi nv nc ni cv cc ci mv mc mi dv dc di W (ha.below hW) (hb.below hW) h1 h2 h3 g1 g2 g3)
  have D2 := Lib.hid (fun (W : World) (hW : Below w.heap.size w W) => rsqSame_any p q a b Av Ac Ai Bv Bc Bi nv nc ni cv cc ci mv mc mi dv dc di W (ha.below hW) (hb.below hW) h1 h2 h3 g1 g2 g3)
  have D3 := Lib.hid (fun (W : World) (hW : Below w.heap.size w W) => seqSame_any p p a a Av Ac Ai Av Ac Ai nv nc ni cv cc ci nv nc ni cv cc ci W (ha.below hW) (ha.below hW) h1 h2 h3 h1 h2 h3)
  obtain ⟨r, hr⟩ : ∃ r, sameS p q a b = r := ⟨_, rfl⟩
  rw [hr] at D1 D2
  simp only [sameS_refl] at D3
  obtain ⟨sa, hsa⟩ : ∃ x, x = a.sum := ⟨_, rfl⟩
  obtain ⟨ma, hma⟩ : ∃ x, x = a.most := ⟨_, rfl⟩
  obtain ⟨sb, hsb⟩ : ∃ x, x = b.sum := ⟨_, rfl⟩
  obtain ⟨mb, hmb⟩ : ∃ x, x = b.most := ⟨_, rfl⟩
  rw [← hsa, ← hma, ← hsb, ← hmb] at D1 D2
  rw [← hsa, ← hma] at D3
  rw [← hsa, ← hma, ← hsb, ← hmb]
  clear hr hsa hma hsb hmb ha hb h1 h2 h3 g1 g2 g3
  obtain ⟨W2, hW2⟩ : ∃ W2, W2 = (w.alloc (.cells #[.int .i64 p, .slice Av nv cv, .slice Ac nc cc, .slice Ai ni ci, .int .i64 sa, .int .i64 ma] 33)).alloc (.cells #[.int .i64 q, .slice Bv mv dv, .slice Bc mc dc, .slice Bi mi di, .int .i64 sb, .int .i64 mb] 33) := ⟨_, rfl⟩
  have hal := al2 w (.cells #[.int .i64 p, .slice Av nv cv, .slice Ac nc cc, .slice Ai ni ci, .int .i64 sa, .int .i64 ma] 33) (.cells #[.int .i64 q, .slice Bv mv dv, .slice Bc mc dc, .slice Bi mi di, .int .i64 sb, .int .i64 mb] 33)
  rw [← hW2] at hal
  obtain ⟨n0, e0⟩ : ∃ n0, n0 = w.heap.size := ⟨_, rfl⟩
  have HA : Hid (W2.heap[n0]? = some (.cells #[.int .i64 p, .slice Av nv cv, .slice Ac nc cc, .slice Ai ni ci, .int .i64 sa, .int .i64 ma] 33 (0, 0))) := Lib.hid (by rw [e0]; exact hal.1)
  have HB : Hid (W2.heap[n0 + 1]? = some (.cells #[.int .i64 q, .slice Bv mv dv, .slice Bc mc dc, .slice Bi mi di, .int .i64 sb, .int .i64 mb] 33 (0, 0))) := Lib.hid (by rw [e0]; exact hal.2.1)
  have HW := Lib.hid hal.2.2
  clear hal
  go_enter Tryz.func7, Tryz.ntmps7
  go_upto_region 1 with fail
  rw [← hW2, show w.heap.size = n0 from e0.symm]
  clear hW2 e0
  obtain ⟨x0, x1, x2, x3, x4, x5, _⟩ := six HA.out
  obtain ⟨ta, hta⟩ : ∃ t, fewB nv nc ni = t := ⟨_, rfl⟩
  obtain ⟨tb, htb⟩ : ∃ t, fewB mv mc mi = t := ⟨_, rfl⟩
  have F1 := Lib.hid (fun W => few_all p sa ma Av Ac Ai nv nc ni cv cc ci W)
  have F2 := Lib.hid (fun W => few_all q sb mb Bv Bc Bi mv mc mi dv dc di W)
  rw [hta] at F1; rw [htb] at F2
  clear hta htb
  go_wp2_with fail
  refine (F1.out _).mono ?_
  rintro e w3 ⟨rfl, hb⟩
  replace HA := Lib.hid (keep HA.out hb); replace HB := Lib.hid (keep HB.out hb); replace HW := Lib.hid (step_below HW.out HW.out.size hb)
  clear hb x0 x1 x2 x3 x4 x5 F1
  cases ta with
  | false =>
    go_wp2_with fail
    refine (works_any _).mono ?_
    rintro e w7 ⟨rfl, hb⟩
    replace HW := Lib.hid (step_below HW.out HW.out.size hb)
    clear hb
    go_wp2
    go_ret
    exact ⟨rfl, HW.out⟩
  | true =>
    obtain ⟨y0, y1, y2, y3, y4, y5, _⟩ := six HB.out
    go_wp2_with fail
    refine (F2.out _).mono ?_
    rintro e w4 ⟨rfl, hb⟩
    replace HA := Lib.hid (keep HA.out hb); replace HB := Lib.hid (keep HB.out hb); replace HW := Lib.hid (step_below HW.out HW.out.size hb)
    clear hb y0 y1 y2 y3 y4 y5 F2
    cases tb with
    | false =>
      go_wp2_with fail
      refine (works_any _).mono ?_
      rintro e w7 ⟨rfl, hb⟩
      replace HW := Lib.hid (step_below HW.out HW.out.size hb)
      clear hb
      go_wp2
      go_ret
      exact ⟨rfl, HW.out⟩
    | true =>
      have C1 := Lib.hid (regr fun W (hb : Below w4.heap.size w4 W) => D1.out W (step_below HW.out HW.out.size hb))
      have C2 := Lib.hid (regr fun W (hb : Below w4.heap.size w4 W) => D2.out W (step_below HW.out HW.out.size hb))
      have C3 := Lib.hid (regr fun W (hb : Below w4.heap.size w4 W) => D3.out W (step_below HW.out HW.out.size hb))
      have C4 := Lib.hid (regr fun W (_ : Below w4.heap.size w4 W) => works_any W)
      clear D1 D2 D3
      obtain ⟨x0, x1, x2, x3, x4, x5, _⟩ := six HA.out
      obtain ⟨y0, y1, y2, y3, y4, y5, _⟩ := six HB.out
      have s0 := cell_regrown x0; have s1 := cell_regrown x1; have s2 := cell_regrown x2; have s3 := cell_regrown x3; have s4 := cell_regrown x4; have s5 := cell_regrown x5
      have u0 := cell_regrown y0; have u1 := cell_regrown y1; have u2 := cell_regrown y2; have u3 := cell_regrown y3; have u4 := cell_regrown y4; have u5 := cell_regrown y5
      clear x0 x1 x2 x3 x4 x5 y0 y1 y2 y3 y4 y5
      go_upto_region 3 with fail
      refine wp_region_quiet_below mixed (by kernel_rfl) ?_
      repeat (go_big_quiet_step ((with_reducible first | exact C1.out _ _ | exact C2.out _ _ | exact C3.out _ _ | exact C4.out _ _)))
      refine wpQuiet_nil ?_
      intro w5 hw5
      have hb5 : Below w4.heap.size w4 w5 := by obtain ⟨⟨dq, osq⟩, rfl⟩ := hw5; exact below_regrown w4 dq osq
      replace HW := Lib.hid (step_below HW.out HW.out.size hb5)
      clear hb5 hw5 C1 C2 C3 C4 s0 s1 s2 s3 s4 s5 u0 u1 u2 u3 u4 u5
      go_wp2
      go_ret
      exact ⟨rfl, HW.out⟩

end Go.Proofs.YtbbmgandkmlojaaGreat.Sq

/-
  What is proved here: what all laws of this seat share: what jobs, messages, rows of them, vertices and mail that came in give; a call that returns true and leaves every block that was there as it was meets the law's specification.
-/
namespace Go.Proofs.YtbbmgandkmlojaaGreat.In
open Go.ChangeShapes Go.WideShapes Go.ChangeAt Go.RowKit Go.Deep Gr Wd Ws Lb Al

theorem own : ownKnob Tryz.prog.godebug = none := by kernel_rfl
theorem laidOut : laidOutB Tryz.prog = true := by kernel_rfl
theorem law_post {H : Type} {enc : TypeId × Value → H} {f : Func} {s : ChangeSpec} {apart : Bool} {W W' : World} {args : Array Value} {ds : List (DataW H)} {before : List MemPlace}
    (hW : DataW.Whole enc Tryz.prog f.params.toList s.vars apart W args.toList ds [] before) (hb : Below W.heap.size W W')
    (ht : f.resultTypes = #[4]) (hr : (s.fn H (ds ++ [])).results = [.lit (.bool true)]) (hv : s.vars = []) (hg : (s.fn H (ds ++ [])).vars = [])
    (hargs : DataW.TrodAll enc Tryz.prog W' 0 (fun b => decide (b < W.heap.size)) true f.params.toList args.toList (s.fn H (ds ++ [])).args before) :
    s.post enc Tryz.prog f apart true false false W args (.bool true) W' := by
  have hres : ∀ (b : Nat) (sp : Nat → Bool) (hd : Bool), DataW.TrodAll enc Tryz.prog W' b sp hd f.resultTypes.toList ((Value.bool true).resultList f.resultTypes.size) (s.fn H (ds ++ [])).results [] := by
    intro b sp hd
    rw [hr, ht]
    exact trodAll_cons_mk (shut_bool Tryz.underlying4 _) trodAll_mk0
  have hvars : ∀ sp : Nat → Bool, DataW.TrodVars enc Tryz.prog W' sp s.vars (s.fn H (ds ++ [])).vars [] := by
    intro sp; rw [hv, hg]; rfl
  exact ⟨ds, [], before, [], before, [], hW, hres _ _ _, hargs, hvars _, hb.frame _, fun h => absurd h (by simp)⟩
theorem i64_in {a : Int} (h : (Lit.int .i64 a).wf = true) : -9223372036854775808 ≤ a ∧ a ≤ 9223372036854775807 := by
  have h1 : IntKind.i64.min ≤ a ∧ a ≤ IntKind.i64.max := by simpa [Lit.wf] using h
  have h3 : IntKind.i64.min = -9223372036854775808 := by decide
  have h4 : IntKind.i64.max = 9223372036854775807 := by decide
  omega
theorem u8_in {a : Int} (h : (Lit.int .u8 a).wf = true) : 0 ≤ a ∧ a ≤ 255 := by
  have h1 : IntKind.u8.min ≤ a ∧ a ≤ IntKind.u8.max := by simpa [Lit.wf] using h
  have h3 : IntKind.u8.min = 0 := by decide
  have h4 : IntKind.u8.max = 255 := by decide
  omega
theorem cellsI : Tryz.prog.cellsOf 3 = 1 := by kernel_rfl
theorem cellsJ : Tryz.prog.cellsOf 2 = 1 := by kernel_rfl
theorem cellsM : Tryz.prog.cellsOf 78 = 2 := by kernel_rfl
theorem cellsB : Tryz.prog.cellsOf 4 = 1 := by kernel_rfl
theorem pick_list {α : Type} (P : Nat → α → Prop) : ∀ n : Nat, (∀ i, i < n → ∃ x, P i x) → ∃ l : List α, l.length = n ∧ ∀ i x, l[i]? = some x → P i x
  | 0, _ => ⟨[], rfl, fun i x h => by simp at h⟩
  | n + 1, h => by
    obtain ⟨l, hl, hp⟩ := pick_list P n (fun i hi => h i (by omega))
    obtain ⟨x, hx⟩ := h n (by omega)
    refine ⟨l ++ [x], by simp [hl], fun i y hy => ?_⟩
    rcases Nat.lt_or_ge i n with hi | hi
    · rw [List.getElem?_append_left (by omega)] at hy; exact hp i y hy
    · rw [List.getElem?_append_right (by omega)] at hy
      have : i - l.length = 0 := by
        rcases Nat.eq_zero_or_pos (i - l.length) with h0 | h0
        · exact h0
        · rw [List.getElem?_eq_none (by simp; omega)] at hy; cases hy
      rw [this] at hy
      simp at hy
      have e : i = n := by omega
      rw [← hy, e]; exact hx
set_option maxRecDepth 100000 in
theorem job_in {H : Type} {enc : TypeId × Value → H} {W : World} {base : Nat} {v : Value} {d : DataW H} {ps : List MemPlace}
    (hval : Value.okWide Tryz.prog W .any base 26 v) (h : DataW.Trod enc Tryz.prog W 0 (fun _ => true) true 26 v d ps) :
    ∃ (k st so dm ep : Int), v = .agg #[.int .u8 k, .int .i64 st, .int .i64 so, .int .i64 dm, .int .i64 ep] ∧ (-9223372036854775808 ≤ dm ∧ dm ≤ 9223372036854775807) := by
  obtain ⟨cs, rfl, hsz⟩ := okWide_struct Tryz.underlying26 hval
  rw [show Tryz.prog.cellsOf 26 = 5 by kernel_rfl] at hsz
  obtain ⟨fuel, hf⟩ := h
  obtain ⟨ys, n', _, hy, _, hyl, hfld⟩ := DataW.trod_struct Tryz.underlying26 hf
  obtain ⟨l⟩ := cs
  match l, hsz with
  | [z0, z1, z2, z3, z4], _ =>
    match ys, hyl with
    | [y0, y1, y2, y3, y4], _ =>
      have f0 : DataW.trod enc Tryz.prog W 0 (fun _ => true) true n' 5 (([z0, z1, z2, z3, z4].drop 0).take (Tryz.prog.cellsOf 5)) = [y0, y1, y2, y3, y4][0]? := hfld 0 _ rfl
      rw [show Tryz.prog.cellsOf 5 = 1 by kernel_rfl] at f0
      have g0 : DataW.trod enc Tryz.prog W 0 (fun _ => true) true n' 5 [z0] = some y0 := f0
      obtain ⟨q0, e0, _, w0⟩ := DataW.trod_int Tryz.underlying5 g0
      injection e0 with e0
      have f1 : DataW.trod enc Tryz.prog W 0 (fun _ => true) true n' 3 (([z0, z1, z2, z3, z4].drop 1).take (Tryz.prog.cellsOf 3)) = [y0, y1, y2, y3, y4][1]? := hfld 1 _ rfl
      rw [show Tryz.prog.cellsOf 3 = 1 by kernel_rfl] at f1
      have g1 : DataW.trod enc Tryz.prog W 0 (fun _ => true) true n' 3 [z1] = some y1 := f1
      obtain ⟨q1, e1, _, w1⟩ := DataW.trod_int Tryz.underlying3 g1
      injection e1 with e1
      have f2 : DataW.trod enc Tryz.prog W 0 (fun _ => true) true n' 3 (([z0, z1, z2, z3, z4].drop 2).take (Tryz.prog.cellsOf 3)) = [y0, y1, y2, y3, y4][2]? := hfld 2 _ rfl
      rw [show Tryz.prog.cellsOf 3 = 1 by kernel_rfl] at f2
      have g2 : DataW.trod enc Tryz.prog W 0 (fun _ => true) true n' 3 [z2] = some y2 := f2
      obtain ⟨q2, e2, _, w2⟩ := DataW.trod_int Tryz.underlying3 g2
      injection e2 with e2
      have f3 : DataW.trod enc Tryz.prog W 0 (fun _ => true) true n' 2 (([z0, z1, z2, z3, z4].drop 3).take (Tryz.prog.cellsOf 2)) = [y0, y1, y2, y3, y4][3]? := hfld 3 _ rfl
      rw [show Tryz.prog.cellsOf 2 = 1 by kernel_rfl] at f3
      have g3 : DataW.trod enc Tryz.prog W 0 (fun _ => true) true n' 2 [z3] = some y3 := f3
      obtain ⟨q3, e3, _, w3⟩ := DataW.trod_int Tryz.underlying2 g3
      injection e3 with e3
      have f4 : DataW.trod enc Tryz.prog W 0 (fun _ => true) true n' 2 (([z0, z1, z2, z3, z4].drop 4).take (Tryz.prog.cellsOf 2)) = [y0, y1, y2, y3, y4][4]? := hfld 4 _ rfl
      rw [show Tryz.prog.cellsOf 2 = 1 by kernel_rfl] at f4
      have g4 : DataW.trod enc Tryz.prog W 0 (fun _ => true) true n' 2 [z4] = some y4 := f4
      obtain ⟨q4, e4, _, w4⟩ := DataW.trod_int Tryz.underlying2 g4
      injection e4 with e4
      subst e0 e1 e2 e3 e4
      exact ⟨q0, q1, q2, q3, q4, rfl, i64_in w3⟩
theorem slice_cells {H : Type} {enc : TypeId × Value → H} {W : World} {fuel : Nat} {v : Value} {x : DataW H × List MemPlace} {S E : TypeId} {n : Nat} (ht : Tryz.prog.underlying S = some (.slice E)) (hn : Tryz.prog.cellsOf E = n) (h1 : 0 < n)
    (hf : DataW.trod enc Tryz.prog W 0 (fun _ => true) true fuel S [v] = some x) :
    ∃ (A : Option Addr) (len cap : Nat), v = .slice A len cap ∧ len ≤ maxLen ∧ ∀ i, i < len → ∃ bk o, A = some ⟨bk, o, none⟩ ∧ ∃ (cs' : List Value) (fuel' : Nat) (y : DataW H × List MemPlace), cs'.length = n ∧ (∀ j, j < n → W.cell? ⟨bk, o + i * n + j, none⟩ = cs'[j]?) ∧ DataW.trod enc Tryz.prog W 0 (fun _ => true) true fuel' E cs' = some y := by
  rcases open_slice ht hf with ⟨hcs, hx⟩ | ⟨a, len', cap', m, n', D, Pl, hcs, _, hl, hm, hmm, hx, hi⟩
  · injection hcs with hcs
    exact ⟨none, 0, 0, hcs, Nat.zero_le _, fun i hi => absurd hi (by omega)⟩
  · injection hcs with hcs
    subst hcs
    simp only [if_true] at hmm
    refine ⟨some a, len', cap', rfl, by omega, fun i hil => ?_⟩
    have hsp : a.spot = none := by
      obtain ⟨cs0, hc0, _⟩ := hi 0 (by omega)
      rw [hn] at hc0
      obtain ⟨_, hcl0, hat0⟩ := World.cells?_some hc0
      have q0 := hat0 0 (by omega)
      have : cs0[0]? = some (cs0[0]'(by omega)) := List.getElem?_eq_getElem (by omega)
      rw [this] at q0
      simpa [Addr.add] using World.cell?_spot q0
    obtain ⟨bk, o, sp⟩ := a
    obtain rfl : sp = none := hsp
    obtain ⟨cs', hc, ht'⟩ := hi i (by omega)
    rw [hn] at hc
    obtain ⟨_, hcl, hat⟩ := World.cells?_some hc
    refine ⟨bk, o, rfl, cs', _, _, hcl, fun j hj => ?_, ht'⟩
    have := hat j (by omega)
    rw [Ws.add_plain, Ws.add_plain] at this
    exact this

theorem cellsMs : Tryz.prog.cellsOf 126 = 2 := by kernel_rfl
theorem cellsRw : Tryz.prog.cellsOf 97 = 1 := by kernel_rfl
set_option maxRecDepth 100000 in
theorem msgs_in {H : Type} {enc : TypeId × Value → H} {W : World} {fuel : Nat} {v : Value} {x : DataW H × List MemPlace}
    (hf : DataW.trod enc Tryz.prog W 0 (fun _ => true) true fuel 97 [v] = some x) : ∃ (L : List Ms) (A : Option Addr) (c : Nat), v = .slice A L.length c ∧ L.length ≤ maxLen ∧ MAt W A L ∧ ToIn L := by
  obtain ⟨A, len, c, rfl, hl, hi⟩ := slice_cells Tryz.underlying97 cellsMs (by omega) hf
  obtain ⟨ls, hls, hp⟩ := pick_list (fun i (e : Ms) => (-9223372036854775808 ≤ e.1 ∧ e.1 ≤ 9223372036854775807) ∧ ∃ bk o, A = some ⟨bk, o, none⟩ ∧ W.cell? ⟨bk, o + i * 2, none⟩ = some (.int .i64 e.1) ∧ W.cell? ⟨bk, o + i * 2 + 1, none⟩ = some (.int .i64 e.2)) len (fun i hil => by
    obtain ⟨bk, o, hA, cs', f, y, hcl, hat, ht⟩ := hi i hil
    obtain ⟨ys, n', _, hy, _, hyl, hfld⟩ := DataW.trod_struct Tryz.underlying126 ht
    match cs', hcl with
    | [z0, z1], _ =>
      match ys, hyl with
      | [y0, y1], _ =>
        have f0 : DataW.trod enc Tryz.prog W 0 (fun _ => true) true n' 3 (([z0, z1].drop 0).take (Tryz.prog.cellsOf 3)) = [y0, y1][0]? := hfld 0 _ rfl
        have f1 : DataW.trod enc Tryz.prog W 0 (fun _ => true) true n' 2 (([z0, z1].drop 1).take (Tryz.prog.cellsOf 2)) = [y0, y1][1]? := hfld 1 _ rfl
        rw [cellsI] at f0
        rw [cellsJ] at f1
        have g0 : DataW.trod enc Tryz.prog W 0 (fun _ => true) true n' 3 [z0] = some y0 := f0
        have g1 : DataW.trod enc Tryz.prog W 0 (fun _ => true) true n' 2 [z1] = some y1 := f1
        obtain ⟨q0, e0, _, w0⟩ := DataW.trod_int Tryz.underlying3 g0
        obtain ⟨q1, e1, _, w1⟩ := DataW.trod_int Tryz.underlying2 g1
        injection e0 with e0
        injection e1 with e1
        subst e0 e1
        have h0 := hat 0 (by omega)
        have h1 := hat 1 (by omega)
        exact ⟨(q0, q1), i64_in w0, bk, o, hA, h0, h1⟩)
  refine ⟨ls, A, c, by rw [hls], by omega, fun k e hk => (hp k e hk).2, fun e he => ?_⟩
  obtain ⟨k, hk, rfl⟩ := List.mem_iff_getElem.1 he
  exact (hp k _ (List.getElem?_eq_getElem hk)).1
set_option maxRecDepth 100000 in
theorem msgs_at {H : Type} {enc : TypeId × Value → H} {W : World} {base : Nat} {v : Value} {d : DataW H} {ps : List MemPlace}
    (hval : Value.okWide Tryz.prog W .any base 97 v) (h : DataW.Trod enc Tryz.prog W 0 (fun _ => true) true 97 v d ps) :
    ∃ (L : List Ms) (A : Option Addr) (c : Nat), v = .slice A L.length c ∧ L.length ≤ maxLen ∧ MAt W A L ∧ ToIn L := by
  obtain ⟨a1, len, cap, rfl⟩ := okWide_slice Tryz.underlying97 hval
  obtain ⟨fuel, hf⟩ := h
  exact msgs_in (W := W) (v := .slice a1 len cap) hf
set_option maxRecDepth 100000 in
theorem ints_at2 {H : Type} {enc : TypeId × Value → H} {W : World} {base : Nat} {v : Value} {d : DataW H} {ps : List MemPlace}
    (hval : Value.okWide Tryz.prog W .any base 93 v) (h : DataW.Trod enc Tryz.prog W 0 (fun _ => true) true 93 v d ps) :
    ∃ (L : List Int) (A : Option Addr) (c : Nat), v = .slice A L.length c ∧ L.length ≤ maxLen ∧ IAt W A L ∧ OwnIn L := by
  obtain ⟨a1, len, cap, rfl⟩ := okWide_slice Tryz.underlying93 hval
  obtain ⟨fuel, hf⟩ := h
  obtain ⟨A, len', c, e, hl, hi⟩ := slice_cells Tryz.underlying93 cellsI (by omega) (show DataW.trod enc Tryz.prog W 0 (fun _ => true) true fuel 93 [.slice a1 len cap] = _ from hf)
  cases e
  obtain ⟨ls, hls, hp⟩ := pick_list (fun i (z : Int) => (-9223372036854775808 ≤ z ∧ z ≤ 9223372036854775807) ∧ ∃ bk o, a1 = some ⟨bk, o, none⟩ ∧ W.cell? ⟨bk, o + i, none⟩ = some (.int .i64 z)) len (fun i hil => by
    obtain ⟨bk, o, hA, cs', f, y, hcl, hat, ht⟩ := hi i hil
    match cs', hcl with
    | [z0], _ =>
      obtain ⟨q0, e0, _, w0⟩ := DataW.trod_int Tryz.underlying3 ht
      injection e0 with e0
      subst e0
      have h0 := hat 0 (by omega)
      rw [Nat.mul_one] at h0
      exact ⟨q0, i64_in w0, bk, o, hA, h0⟩)
  refine ⟨ls, a1, cap, by rw [hls], by omega, fun k z hz => (hp k z hz).2, fun z hz => ?_⟩
  obtain ⟨k, hk, rfl⟩ := List.mem_iff_getElem.1 hz
  exact (hp k _ (List.getElem?_eq_getElem hk)).1
set_option maxRecDepth 100000 in
theorem rows_at {H : Type} {enc : TypeId × Value → H} {W : World} {base : Nat} {v : Value} {d : DataW H} {ps : List MemPlace}
    (hval : Value.okWide Tryz.prog W .any base 94 v) (h : DataW.Trod enc Tryz.prog W 0 (fun _ => true) true 94 v d ps) :
    ∃ (Ls : List (List Ms)) (A : Option Addr) (c : Nat), v = .slice A Ls.length c ∧ Ls.length ≤ maxLen ∧ RMs W A Ls ∧ ToIn Ls.flatten ∧ ∀ L ∈ Ls, L.length ≤ 9223372036854775807 := by
  obtain ⟨a1, len, cap, rfl⟩ := okWide_slice Tryz.underlying94 hval
  obtain ⟨fuel, hf⟩ := h
  obtain ⟨A, len', c, e, hl, hi⟩ := slice_cells Tryz.underlying94 cellsRw (by omega) (show DataW.trod enc Tryz.prog W 0 (fun _ => true) true fuel 94 [.slice a1 len cap] = _ from hf)
  cases e
  obtain ⟨ls, hls, hp⟩ := pick_list (fun i (L : List Ms) => (ToIn L ∧ L.length ≤ 9223372036854775807) ∧ ∃ bk o A' c', a1 = some ⟨bk, o, none⟩ ∧ W.cell? ⟨bk, o + i, none⟩ = some (.slice A' L.length c') ∧ MAt W A' L) len (fun i hil => by
    obtain ⟨bk, o, hA, cs', f, y, hcl, hat, ht⟩ := hi i hil
    match cs', hcl with
    | [z0], _ =>
      obtain ⟨L, A', c', rfl, h1, h2, h3⟩ := msgs_in ht
      have h0 := hat 0 (by omega)
      rw [Nat.mul_one] at h0
      exact ⟨L, ⟨h3, by unfold maxLen at h1; omega⟩, bk, o, A', c', hA, h0, h2⟩)
  refine ⟨ls, a1, cap, by rw [hls], by omega, fun k L hk => (hp k L hk).2, fun e he => ?_, fun L hL => ?_⟩
  · obtain ⟨L, hL, hel⟩ := List.mem_flatten.1 he
    obtain ⟨k, hk, rfl⟩ := List.mem_iff_getElem.1 hL
    exact (hp k _ (List.getElem?_eq_getElem hk)).1.1 e hel
  · obtain ⟨k, hk, rfl⟩ := List.mem_iff_getElem.1 hL
    exact (hp k _ (List.getElem?_eq_getElem hk)).1.2
set_option maxRecDepth 100000 in
theorem mails_at {H : Type} {enc : TypeId × Value → H} {W : World} {base : Nat} {v : Value} {d : DataW H} {ps : List MemPlace}
    (hval : Value.okWide Tryz.prog W .any base 31 v) (h : DataW.Trod enc Tryz.prog W 0 (fun _ => true) true 31 v d ps) :
    ∃ (L : List Ml) (A : Option Addr) (c : Nat), v = .slice A L.length c ∧ L.length ≤ maxLen ∧ KAt W A L := by
  obtain ⟨a1, len, cap, rfl⟩ := okWide_slice Tryz.underlying31 hval
  obtain ⟨fuel, hf⟩ := h
  obtain ⟨A, len', c, e, hl, hi⟩ := slice_cells Tryz.underlying31 cellsM (by omega) (show DataW.trod enc Tryz.prog W 0 (fun _ => true) true fuel 31 [.slice a1 len cap] = _ from hf)
  cases e
  obtain ⟨ls, hls, hp⟩ := pick_list (fun i (e : Ml) => ∃ bk o, a1 = some ⟨bk, o, none⟩ ∧ W.cell? ⟨bk, o + i * 2, none⟩ = some (.bool e.1) ∧ W.cell? ⟨bk, o + i * 2 + 1, none⟩ = some (.int .i64 e.2)) len (fun i hil => by
    obtain ⟨bk, o, hA, cs', f, y, hcl, hat, ht⟩ := hi i hil
    obtain ⟨ys, n', _, hy, _, hyl, hfld⟩ := DataW.trod_struct Tryz.underlying78 ht
    match cs', hcl with
    | [z0, z1], _ =>
      match ys, hyl with
      | [y0, y1], _ =>
        have f0 : DataW.trod enc Tryz.prog W 0 (fun _ => true) true n' 4 (([z0, z1].drop 0).take (Tryz.prog.cellsOf 4)) = [y0, y1][0]? := hfld 0 _ rfl
        have f1 : DataW.trod enc Tryz.prog W 0 (fun _ => true) true n' 2 (([z0, z1].drop 1).take (Tryz.prog.cellsOf 2)) = [y0, y1][1]? := hfld 1 _ rfl
        rw [cellsB] at f0
        rw [cellsJ] at f1
        have g0 : DataW.trod enc Tryz.prog W 0 (fun _ => true) true n' 4 [z0] = some y0 := f0
        have g1 : DataW.trod enc Tryz.prog W 0 (fun _ => true) true n' 2 [z1] = some y1 := f1
        obtain ⟨q0, e0, _⟩ := DataW.trod_bool Tryz.underlying4 g0
        obtain ⟨q1, e1, _, w1⟩ := DataW.trod_int Tryz.underlying2 g1
        injection e0 with e0
        injection e1 with e1
        subst e0 e1
        have h0 := hat 0 (by omega)
        have h1 := hat 1 (by omega)
        exact ⟨(q0, q1), bk, o, hA, h0, h1⟩)
  exact ⟨ls, a1, cap, by rw [hls], by omega, fun k e hk => hp k e hk⟩

end Go.Proofs.YtbbmgandkmlojaaGreat.In

/-
  What is proved here: what a state that came in gives: rows that can be read, numbers of 64 bits. No condition.
-/
namespace Go.Proofs.YtbbmgandkmlojaaGreat.Sq
open Go.ChangeShapes Go.WideShapes Go.ChangeAt Go.RowKit Go.Deep Gr Wd Ws Lb Al

set_option maxRecDepth 100000 in
theorem q_in {H : Type} {enc : TypeId × Value → H} {W : World} {fuel : Nat} {v : Value} {x : DataW H × List MemPlace}
    (hf : DataW.trod enc Tryz.prog W 0 (fun _ => true) true fuel 29 [v] = some x) :
    ∃ (L : List Int) (A : Option Addr) (c : Nat), v = .slice A L.length c ∧ L.length ≤ maxLen ∧ IAt W A L := by
  obtain ⟨A, len, cap, rfl, hl, hi⟩ := In.slice_cells Tryz.underlying29 In.cellsJ (by omega) hf
  obtain ⟨ls, hls, hp⟩ := In.pick_list (fun i (z : Int) => ∃ bk o, A = some ⟨bk, o, none⟩ ∧ W.cell? ⟨bk, o + i, none⟩ = some (.int .i64 z)) len (fun i hil => by
    obtain ⟨bk, o, hA, cs', f, y, hcl, hat, ht⟩ := hi i hil
    match cs', hcl with
    | [z0], _ =>
      obtain ⟨q0, e0, _, w0⟩ := DataW.trod_int Tryz.underlying2 ht
      injection e0 with e0
      subst e0
      have h0 := hat 0 (by omega)
      rw [Nat.mul_one] at h0
      exact ⟨q0, bk, o, hA, h0⟩)
  exact ⟨ls, A, cap, by rw [hls], by omega, fun k z hz => hp k z hz⟩
set_option maxRecDepth 100000 in
theorem b_in {H : Type} {enc : TypeId × Value → H} {W : World} {fuel : Nat} {v : Value} {x : DataW H × List MemPlace}
    (hf : DataW.trod enc Tryz.prog W 0 (fun _ => true) true fuel 30 [v] = some x) :
    ∃ (L : List Bool) (A : Option Addr) (c : Nat), v = .slice A L.length c ∧ L.length ≤ maxLen ∧ BAt W A L := by
  obtain ⟨A, len, cap, rfl, hl, hi⟩ := In.slice_cells Tryz.underlying30 In.cellsB (by omega) hf
  obtain ⟨ls, hls, hp⟩ := In.pick_list (fun i (z : Bool) => ∃ bk o, A = some ⟨bk, o, none⟩ ∧ W.cell? ⟨bk, o + i, none⟩ = some (.bool z)) len (fun i hil => by
    obtain ⟨bk, o, hA, cs', f, y, hcl, hat, ht⟩ := hi i hil
    match cs', hcl with
    | [z0], _ =>
      obtain ⟨q0, e0, _⟩ := DataW.trod_bool Tryz.underlying4 ht
      injection e0 with e0
      subst e0
      have h0 := hat 0 (by omega)
      rw [Nat.mul_one] at h0
      exact ⟨q0, bk, o, hA, h0⟩)
  exact ⟨ls, A, cap, by rw [hls], by omega, fun k z hz => hp k z hz⟩
set_option maxRecDepth 100000 in
theorem k_in {H : Type} {enc : TypeId × Value → H} {W : World} {fuel : Nat} {v : Value} {x : DataW H × List MemPlace}
    (hf : DataW.trod enc Tryz.prog W 0 (fun _ => true) true fuel 31 [v] = some x) :
    ∃ (L : List In.Ml) (A : Option Addr) (c : Nat), v = .slice A L.length c ∧ L.length ≤ maxLen ∧ In.KAt W A L ∧ ∀ m ∈ L, I63 m.2 := by
  obtain ⟨A, len, cap, rfl, hl, hi⟩ := In.slice_cells Tryz.underlying31 In.cellsM (by omega) hf
  obtain ⟨ls, hls, hp⟩ := In.pick_list (fun i (e : In.Ml) => I63 e.2 ∧ ∃ bk o, A = some ⟨bk, o, none⟩ ∧ W.cell? ⟨bk, o + i * 2, none⟩ = some (.bool e.1) ∧ W.cell? ⟨bk, o + i * 2 + 1, none⟩ = some (.int .i64 e.2)) len (fun i hil => by
    obtain ⟨bk, o, hA, cs', f, y, hcl, hat, ht⟩ := hi i hil
    obtain ⟨ys, n', _, hy, _, hyl, hfld⟩ := DataW.trod_struct Tryz.underlying78 ht
    match cs', hcl with
    | [z0, z1], _ =>
      match ys, hyl with
      | [y0, y1], _ =>
        have f0 : DataW.trod enc Tryz.prog W 0 (fun _ => true) true n' 4 (([z0, z1].drop 0).take (Tryz.prog.cellsOf 4)) = [y0, y1][0]? := hfld 0 _ rfl
        have f1 : DataW.trod enc Tryz.prog W 0 (fun _ => true) true n' 2 (([z0, z1].drop 1).take (Tryz.prog.cellsOf 2)) = [y0, y1][1]? := hfld 1 _ rfl
        rw [In.cellsB] at f0
        rw [In.cellsJ] at f1
        have g0 : DataW.trod enc Tryz.prog W 0 (fun _ => true) true n' 4 [z0] = some y0 := f0
        have g1 : DataW.trod enc Tryz.prog W 0 (fun _ => true) true n' 2 [z1] = some y1 := f1
        obtain ⟨q0, e0, _⟩ := DataW.trod_bool Tryz.underlying4 g0
        obtain ⟨q1, e1, _, w1⟩ := DataW.trod_int Tryz.underlying2 g1
        injection e0 with e0
        injection e1 with e1
        subst e0 e1
        have h0 := hat 0 (by omega)
        have h1 := hat 1 (by omega)
        exact ⟨(q0, q1), In.i64_in w1, bk, o, hA, h0, h1⟩)
  refine ⟨ls, A, cap, by rw [hls], by omega, fun k z hz => (hp k z hz).2, fun m hm => ?_⟩
  obtain ⟨k, hk, rfl⟩ := List.mem_iff_getElem.1 hm
  exact (hp k _ (List.getElem?_eq_getElem hk)).1
set_option maxRecDepth 100000 in
theorem state_in {H : Type} {enc : TypeId × Value → H} {W : World} {base : Nat} {v : Value} {d : DataW H} {ps : List MemPlace}
    (hval : Value.okWide Tryz.prog W .any base 33 v) (h : DataW.Trod enc Tryz.prog W 0 (fun _ => true) true 33 v d ps) :
    ∃ (p : Int) (s : Sq) (Av Ac Ai : Option Addr) (cv cc ci : Nat), v = .agg #[.int .i64 p, .slice Av s.vals.length cv, .slice Ac s.chg.length cc, .slice Ai s.inb.length ci, .int .i64 s.sum, .int .i64 s.most] ∧ (s.vals.length ≤ maxLen ∧ s.chg.length ≤ maxLen ∧ s.inb.length ≤ maxLen) ∧ SAt W Av Ac Ai s.vals.length s.chg.length s.inb.length s ∧ (∀ m ∈ s.inb, I63 m.2) ∧ I63 p := by
  obtain ⟨cs, rfl, hsz⟩ := okWide_struct Tryz.underlying33 hval
  rw [show Tryz.prog.cellsOf 33 = 6 by kernel_rfl] at hsz
  obtain ⟨fuel, hf⟩ := h
  obtain ⟨ys, n', _, hy, _, hyl, hfld⟩ := DataW.trod_struct Tryz.underlying33 hf
  obtain ⟨l⟩ := cs
  match l, hsz with
  | [z0, z1, z2, z3, z4, z5], _ =>
    match ys, hyl with
    | [y0, y1, y2, y3, y4, y5], _ =>
      have f0 : DataW.trod enc Tryz.prog W 0 (fun _ => true) true n' 3 (([z0, z1, z2, z3, z4, z5].drop 0).take (Tryz.prog.cellsOf 3)) = [y0, y1, y2, y3, y4, y5][0]? := hfld 0 _ rfl
      rw [In.cellsI] at f0
      have g0 : DataW.trod enc Tryz.prog W 0 (fun _ => true) true n' 3 [z0] = some y0 := f0
      obtain ⟨q0, e0, _, w0⟩ := DataW.trod_int Tryz.underlying3 g0
      injection e0 with e0
      have f1 : DataW.trod enc Tryz.prog W 0 (fun _ => true) true n' 29 (([z0, z1, z2, z3, z4, z5].drop 1).take (Tryz.prog.cellsOf 29)) = [y0, y1, y2, y3, y4, y5][1]? := hfld 1 _ rfl
      rw [show Tryz.prog.cellsOf 29 = 1 by kernel_rfl] at f1
      have g1 : DataW.trod enc Tryz.prog W 0 (fun _ => true) true n' 29 [z1] = some y1 := f1
      obtain ⟨L1, A1, c1, rfl, hl1, hL1⟩ := q_in g1
      have f2 : DataW.trod enc Tryz.prog W 0 (fun _ => true) true n' 30 (([z2, z3, z4, z5]).take (Tryz.prog.cellsOf 30)) = [y0, y1, y2, y3, y4, y5][2]? := hfld 2 _ rfl
      rw [show Tryz.prog.cellsOf 30 = 1 by kernel_rfl] at f2
      have g2 : DataW.trod enc Tryz.prog W 0 (fun _ => true) true n' 30 [z2] = some y2 := f2
      obtain ⟨L2, A2, c2, rfl, hl2, hL2⟩ := b_in g2
      have f3 : DataW.trod enc Tryz.prog W 0 (fun _ => true) true n' 31 (([z3, z4, z5]).take (Tryz.prog.cellsOf 31)) = [y0, y1, y2, y3, y4, y5][3]? := hfld 3 _ rfl
      rw [show Tryz.prog.cellsOf 31 = 1 by kernel_rfl] at f3
      have g3 : DataW.trod enc Tryz.prog W 0 (fun _ => true) true n' 31 [z3] = some y3 := f3
      obtain ⟨L3, A3, c3, rfl, hl3, hL3, hI3⟩ := k_in g3
      have f4 : DataW.trod enc Tryz.prog W 0 (fun _ => true) true n' 2 (([z4, z5]).take (Tryz.prog.cellsOf 2)) = [y0, y1, y2, y3, y4, y5][4]? := hfld 4 _ rfl
      rw [In.cellsJ] at f4
      have g4 : DataW.trod enc Tryz.prog W 0 (fun _ => true) true n' 2 [z4] = some y4 := f4
      obtain ⟨q4, e4, _, w4⟩ := DataW.trod_int Tryz.underlying2 g4
      injection e4 with e4
      have f5 : DataW.trod enc Tryz.prog W 0 (fun _ => true) true n' 2 (([z5]).take (Tryz.prog.cellsOf 2)) = [y0, y1, y2, y3, y4, y5][5]? := hfld 5 _ rfl
      rw [In.cellsJ] at f5
      have g5 : DataW.trod enc Tryz.prog W 0 (fun _ => true) true n' 2 [z5] = some y5 := f5
      obtain ⟨q5, e5, _, w5⟩ := DataW.trod_int Tryz.underlying2 g5
      injection e5 with e5
      subst e0 e4 e5
      exact ⟨q0, ⟨L1, L2, L3, q4, q5⟩, A1, A2, A3, c1, c2, c3, rfl, ⟨hl1, hl2, hl3⟩, ⟨hL1, hL2, hL3, rfl, rfl, rfl⟩, hI3, In.i64_in w0⟩

end Go.Proofs.YtbbmgandkmlojaaGreat.Sq

/-
  What is proved here: Rows.SeqSameSaid: for any two states the law's function SeqSame returns true (whether they are the same is the document's), and no block that was there has changed. No condition.
-/
namespace Go.Proofs.YtbbmgandkmlojaaGreat
open Go.ChangeShapes Go.WideShapes Go.ChangeAt Go.RowKit Gr Lb Al Sq

set_option maxRecDepth 100000 in
theorem seqSame_lifted (os : Os) (started : os.Started) (H : Type) (enc : TypeId × Value → H) :
    ReturnsInHanded {} Tryz.checked os 7 .any (Rows.seqSameSpec.pre6 enc Tryz.prog Tryz.f7 Rows.seqSameRow.domain false) (Rows.seqSameSpec.post enc Tryz.prog Tryz.f7 false true false false) := by
  refine returnsInHanded_of_change (C := Tryz.checked) own started (by kernel_rfl) Tryz.func7
    (ChangeSpec.witness6 (enc := enc) (C := Tryz.checked) false ⟨#[], #[.agg #[.int .i64 0, .slice none 0 0, .slice none 0 0, .slice none 0 0, .int .i64 0, .int .i64 0], .agg #[.int .i64 0, .slice none 0 0, .slice none 0 0, .slice none 0 0, .int .i64 0, .int .i64 0]], []⟩ 8 (by kernel_rfl) (by kernel_rfl) (by kernel_rfl) (by kernel_rfl)) ?_
  intro W base args ds gs before hval0 hW hcnd _
  have hval : ∀ (j : Nat) t v, Tryz.f7.params[j]? = some t → args[j]? = some v → Value.okWide Tryz.prog W .any base t v := hval0
  have hW' := hW
  obtain ⟨p, q, hA0, hV, rfl, hfz, hnd⟩ := hW
  have hA : DataW.TrodAll enc Tryz.prog W 0 (fun _ => true) true Tryz.f7.params.toList args.toList ds p := hA0
  rw [Tryz.params7] at hA hval
  obtain ⟨v0, vs0, d0, ds0, p0, q0, hargs, rfl, rfl, h0, r0⟩ := trodAll_cons hA
  obtain ⟨v1, vs1, d1, ds1, p1, q1, rfl, rfl, rfl, h1, r1⟩ := trodAll_cons r0
  obtain ⟨rfl, rfl, rfl⟩ := trodAll_nil r1
  obtain rfl : args = #[v0, v1] := by cases args; simp_all
  obtain ⟨rfl, rfl⟩ := trodVars_none hV
  obtain ⟨z0, s0, Av0, Ac0, Ai0, cv0, cc0, ci0, rfl, hl0, hs0, hi0, hp0⟩ := state_in (hval 0 33 v0 rfl rfl) h0
  obtain ⟨z1, s1, Av1, Ac1, Ai1, cv1, cc1, ci1, rfl, hl1, hs1, hi1, hp1⟩ := state_in (hval 1 33 v1 rfl rfl) h1
  clear hA0 hval0
  simp only [List.append_nil] at hW'
  refine (law_same z0 z1 s0 s1 Av0 Ac0 Ai0 Av1 Ac1 Ai1 s0.vals.length s0.chg.length s0.inb.length cv0 cc0 ci0 s1.vals.length s1.chg.length s1.inb.length cv1 cc1 ci1 W hs0 hs1 (by have := hl0.1; unfold maxLen at this; omega) (by have := hl0.2.1; unfold maxLen at this; omega) (by have := hl0.2.2; unfold maxLen at this; omega) (by have := hl1.1; unfold maxLen at this; omega) (by have := hl1.2.1; unfold maxLen at this; omega) (by have := hl1.2.2; unfold maxLen at this; omega)).mono fun e W' ⟨he, hg⟩ => ?_
  subst he
  have hlt1 : ∀ x ∈ p1, x.block < W.heap.size := fun x hx => by simpa using hW'.lt x (by simp [hx])
  have hlt0 : ∀ x ∈ p0, x.block < W.heap.size := fun x hx => by simpa using hW'.lt x (by simp [hx])
  refine ⟨_, rfl, law_post hW' hg rfl rfl rfl rfl ?_⟩
  have g := (trodAll_cons_mk (Below.trod laidOut (by kernel_rfl) (of_decide_eq_true (by kernel_rfl)) h0 hg hlt0) (trodAll_cons_mk (Below.trod laidOut (by kernel_rfl) (of_decide_eq_true (by kernel_rfl)) h1 hg hlt1) trodAll_mk0))
  simp only [List.append_nil] at g
  exact g

theorem seqSame_holds : Rows.SeqSameSaid :=
  OpenClaim.holds_of_wide 7 Tryz.f7 rfl rfl rfl rfl rfl rfl rfl ⟨rfl, rfl, rfl, rfl, rfl⟩ rfl rfl rfl rfl rfl (by kernel_rfl) Tryz.func7 (by kernel_rfl)
    (of_decide_eq_true (by kernel_rfl)) (by unfold Func.isWrapper; first | (rw [if_pos (by decide +kernel)]; kernel_rfl) | (rw [if_neg (by decide +kernel)]; exact ⟨rfl, rfl⟩))
    (fun os started H enc _ => seqSame_lifted os started H enc)
#print axioms seqSame_holds

end Go.Proofs.YtbbmgandkmlojaaGreat

