/-
  What is proved here: the law's works returns true: the chapter's examples hold. No condition.
-/
import Derived.Test.YtfbfckdabbaocaaQbStPu
import Derived.Test.YtfbfckdabbaocaaQbStGt
import Derived.Test.YtfbfckdabbaocaaQbStW3
import Derived.Test.YtfbfckdabbaocaaQbFStr
namespace Go.Proofs.Ytfbfckdabbaocaa.St
open Go.RowKit Gr Wd Ws Fx Rk Lb Al In
open Sq (BAt BOwn QOwn bls)
open Fld (dg num)
theorem iat_lit {W : World} {g : Nat} {x : Int} {T : TypeId} (h : W.heap[g]? = some (.cells #[.int .i64 x] T (0, 0))) : IAt W (some ⟨g, 0, none⟩) [x] := by
  intro k e hk
  rcases k with _ | k
  · simp at hk; subst hk; exact ⟨g, 0, rfl, by rw [Lib.cell_of_heap h]; rfl⟩
  · simp at hk
theorem bat_lit {W : World} {g : Nat} {x : Bool} {T : TypeId} (h : W.heap[g]? = some (.cells #[.bool x] T (0, 0))) : BAt W (some ⟨g, 0, none⟩) [x] := by
  intro k e hk
  rcases k with _ | k
  · simp at hk; subst hk; exact ⟨g, 0, rfl, by rw [Lib.cell_of_heap h]; rfl⟩
  · simp at hk
theorem kat_lit {W : World} {g : Nat} {b : Bool} {x : Int} {T : TypeId} (h : W.heap[g]? = some (.cells #[.bool b, .int .i64 x] T (0, 0))) : KAt W (some ⟨g, 0, none⟩) [(b, x)] := by
  intro k e hk
  rcases k with _ | k
  · simp at hk; subst hk; exact ⟨g, 0, rfl, by rw [Lib.cell_of_heap h]; rfl, by rw [Lib.cell_of_heap h]; rfl⟩
  · simp at hk
def exA : Pr := ⟨3, [], [], [], []⟩
def exB : Pr := ⟨0, [1], [5], [true], [(false, 0)]⟩
def exC : Pr := ⟨0, [1], [5], [true], [(true, 9)]⟩
theorem exA_put : putR exA = ([0, 0, 0, 3, 0, 0], 0) := by decide +kernel
theorem exB_put : putR exB = ([0, 0, 0, 0, 0, 1, 0, 1, 0, 0, 0, 0, 0, 0, 0, 5, 1], 0) := by decide +kernel
theorem exC_put : putR exC = ([0, 0, 0, 0, 0, 1, 0, 1, 0, 0, 0, 0, 0, 0, 0, 5, 3, 0, 0, 0, 0, 0, 0, 0, 9], 0) := by decide +kernel
theorem exC_rgt : Rgt exC := by decide +kernel
theorem exC_get : getR [0, 0, 0, 0, 0, 1, 0, 1, 0, 0, 0, 0, 0, 0, 0, 5, 3, 0, 0, 0, 0, 0, 0, 0, 9] = (exC, 0) := by
  have h := getP_put exC_rgt
  have e : putP exC = [0, 0, 0, 0, 0, 1, 0, 1, 0, 0, 0, 0, 0, 0, 0, 5, 3, 0, 0, 0, 0, 0, 0, 0, 9] := by decide +kernel
  rw [e] at h
  exact getR_yes h
theorem exC_same : sameP exC exC := (sameP_iff _ _).2 rfl
theorem al5 (w : World) (o0 o1 o2 o3 o4 : Obj) : let W := ((((w.alloc o0).alloc o1).alloc o2).alloc o3).alloc o4
    W.heap[w.heap.size]? = some o0 ∧ W.heap[w.heap.size + 1]? = some o1 ∧ W.heap[w.heap.size + 1 + 1]? = some o2 ∧ W.heap[w.heap.size + 1 + 1 + 1]? = some o3 ∧ W.heap[w.heap.size + 1 + 1 + 1 + 1]? = some o4 ∧ Below w.heap.size w W ∧ W.heap.size = w.heap.size + 5 := by
  have s1 : (w.alloc o0).heap.size = w.heap.size + 1 := by simp
  have s2 : ((w.alloc o0).alloc o1).heap.size = w.heap.size + 1 + 1 := by simp
  have s3 : (((w.alloc o0).alloc o1).alloc o2).heap.size = w.heap.size + 1 + 1 + 1 := by simp
  have s4 : ((((w.alloc o0).alloc o1).alloc o2).alloc o3).heap.size = w.heap.size + 1 + 1 + 1 + 1 := by simp
  have n0 := World.alloc_heap_new w o0
  have n1 := World.alloc_heap_new (w.alloc o0) o1
  have n2 := World.alloc_heap_new ((w.alloc o0).alloc o1) o2
  have n3 := World.alloc_heap_new (((w.alloc o0).alloc o1).alloc o2) o3
  have n4 := World.alloc_heap_new ((((w.alloc o0).alloc o1).alloc o2).alloc o3) o4
  rw [s1] at n1; rw [s2] at n2; rw [s3] at n3; rw [s4] at n4
  have u1 := fun k h => Below.heap_alloc (w.alloc o0) o1 k h
  have u2 := fun k h => Below.heap_alloc ((w.alloc o0).alloc o1) o2 k h
  have u3 := fun k h => Below.heap_alloc (((w.alloc o0).alloc o1).alloc o2) o3 k h
  have u4 := fun k h => Below.heap_alloc ((((w.alloc o0).alloc o1).alloc o2).alloc o3) o4 k h
  have b1 := (Below.refl _ w).alloc (Nat.le_refl _) o0
  have b2 := b1.alloc b1.size o1
  have b3 := b2.alloc b2.size o2
  have b4 := b3.alloc b3.size o3
  have b5 := b4.alloc b4.size o4
  refine ⟨?_, ?_, ?_, ?_, n4, b5, by simp⟩
  · exact (u4 _ (by omega)).trans ((u3 _ (by omega)).trans ((u2 _ (by omega)).trans ((u1 _ (by omega)).trans n0)))
  · exact (u4 _ (by omega)).trans ((u3 _ (by omega)).trans ((u2 _ (by omega)).trans n1))
  · exact (u4 _ (by omega)).trans ((u3 _ (by omega)).trans n2)
  · exact (u4 _ (by omega)).trans n3
theorem strA : Fd.str [0, 0, 0, 3, 0, 0] = { data := #[0, 0, 0, 3, 0, 0] } := by kernel_rfl
theorem strB : Fd.str [0, 0, 0, 0, 0, 1, 0, 1, 0, 0, 0, 0, 0, 0, 0, 5, 1] = { data := #[0, 0, 0, 0, 0, 1, 0, 1, 0, 0, 0, 0, 0, 0, 0, 5, 1] } := by kernel_rfl
set_option maxRecDepth 100000 in
set_option maxHeartbeats 8000000 in
theorem works_any (w : World) : Calls Try.prog 10 #[] w fun e w' => e = .returned (.bool true) ∧ Hid (Below w.heap.size w w') := by
  have HPA := Lib.hid (pput_any exA none none none none 0 0 0 0 0 0 0 0 w ⟨fun k x h => by simp [exA] at h, fun k x h => by simp [exA] at h, fun k x h => by simp [exA] at h, fun k x h => by simp [exA] at h, rfl, rfl, rfl, rfl⟩ (by omega) (by omega) (by omega) (by omega))
  rw [exA_put] at HPA
  go_enter Try.func10, Try.ntmps10
  go_wp2_with fail
  refine HPA.out.mono ?_
  rintro e w1 ⟨A1, n1, c1, rfl, ha, hb⟩
  have HA1 : Hid (Fd.At w1 A1 [0, 0, 0, 3, 0, 0] ∧ n1 = 6 ∧ ∀ ad, A1 = some ad → ad.block < w1.heap.size) := Lib.hid ⟨ha.out.1, ha.out.2.1, fun ad had => by
    obtain ⟨_, ad', e, h⟩ := ha.out.1 0 0 rfl
    rw [had] at e; cases e
    have := block_lt_of_cell h
    rwa [Fd.add_block] at this⟩
  have HB1 := hb
  clear ha hb HPA
  go_upto_region 3 with fail
  have hal := al5 w1 (.cells #[.int .i64 1] 3) (.cells #[.int .i64 5] 2) (.cells #[.bool true] 4) (.cells #[.bool false, .int .i64 0] 61) (.cells #[.int .i64 0, .slice (some ⟨w1.heap.size, 0, none⟩) 1 1, .slice (some ⟨w1.heap.size + 1, 0, none⟩) 1 1, .slice (some ⟨w1.heap.size + 1 + 1, 0, none⟩) 1 1, .slice (some ⟨w1.heap.size + 1 + 1 + 1, 0, none⟩) 1 1] 27)
  simp only at hal
  obtain ⟨g0, e0⟩ : ∃ g, g = w1.heap.size := ⟨_, rfl⟩
  obtain ⟨g1, e1⟩ : ∃ g, g = w1.heap.size + 1 := ⟨_, rfl⟩
  obtain ⟨g2, e2⟩ : ∃ g, g = w1.heap.size + 1 + 1 := ⟨_, rfl⟩
  obtain ⟨g3, e3⟩ : ∃ g, g = w1.heap.size + 1 + 1 + 1 := ⟨_, rfl⟩
  obtain ⟨g4, e4⟩ : ∃ g, g = w1.heap.size + 1 + 1 + 1 + 1 := ⟨_, rfl⟩
  rw [← e4, ← e3, ← e2, ← e1, ← e0] at hal
  rw [← e4, ← e3, ← e2, ← e1, ← e0]
  obtain ⟨W2, hW2⟩ : ∃ W2, W2 = ((((w1.alloc (.cells #[.int .i64 1] 3)).alloc (.cells #[.int .i64 5] 2)).alloc (.cells #[.bool true] 4)).alloc (.cells #[.bool false, .int .i64 0] 61)).alloc (.cells #[.int .i64 0, .slice (some ⟨g0, 0, none⟩) 1 1, .slice (some ⟨g1, 0, none⟩) 1 1, .slice (some ⟨g2, 0, none⟩) 1 1, .slice (some ⟨g3, 0, none⟩) 1 1] 27) := ⟨_, rfl⟩
  rw [← hW2] at hal
  rw [← hW2]
  obtain ⟨z0, z1, z2, z3, z4, zb, zs⟩ := hal
  rw [e0] at zb zs
  have HG : Hid (w.heap.size ≤ g4) := Lib.hid (by have := HB1.out.size; omega)
  have HL := Lib.hid (And.intro z0 (And.intro z1 (And.intro z2 z3)))
  have HLT : Hid (g0 ≠ g4 ∧ g1 ≠ g4 ∧ g2 ≠ g4 ∧ w.heap.size ≤ g4 ∧ (∀ ad, A1 = some ad → ad.block ≠ g4) ∧ g4 < W2.heap.size) := Lib.hid ⟨by omega, by omega, by omega, by have := HB1.out.size; omega, fun ad had => by have := HA1.out.2.2 ad had; omega, by omega⟩
  have HB2 := Lib.hid (step_below HB1.out HB1.out.size zb)
  have HX2 := Lib.hid z4
  have HA2 : Hid (Fd.At W2 A1 [0, 0, 0, 3, 0, 0]) := Lib.hid (HA1.out.1.below zb)
  obtain ⟨x0, x1, x2, x3, x4, _⟩ := five z4
  clear hW2 e0 e1 e2 e3 e4 z0 z1 z2 z3 z4 zb zs
  have HPB := Lib.hid (pput_any exB (some ⟨g0, 0, none⟩) (some ⟨g1, 0, none⟩) (some ⟨g2, 0, none⟩) (some ⟨g3, 0, none⟩) 1 1 1 1 1 1 1 1 W2 ⟨iat_lit HL.out.1, iat_lit HL.out.2.1, bat_lit HL.out.2.2.1, kat_lit HL.out.2.2.2, rfl, rfl, rfl, rfl⟩ (by omega) (by omega) (by omega) (by omega))
  rw [exB_put] at HPB
  go_wp2_with fail
  refine HPB.out.mono ?_
  rintro e w3 ⟨A2, n2, c2, rfl, ha, hb⟩
  have HA3 : Hid (Fd.At w3 A1 [0, 0, 0, 3, 0, 0] ∧ Fd.At w3 A2 [0, 0, 0, 0, 0, 1, 0, 1, 0, 0, 0, 0, 0, 0, 0, 5, 1] ∧ n2 = 17 ∧ ∀ ad, A2 = some ad → ad.block ≠ g4) := Lib.hid ⟨HA2.out.below hb.out, ha.out.1, ha.out.2.1, fun ad had => by
    obtain ⟨g, hg, hlt⟩ := ha.out.2.2.2.2 (by rw [ha.out.2.1]; decide)
    rw [had] at hg; cases hg
    have := HLT.out.2.2.2.2.2
    show g ≠ g4
    omega⟩
  have HB3 := Lib.hid (step_below HB2.out HB2.out.size hb.out)
  have HX3 := Lib.hid (keep HX2.out hb.out)
  have HL3 := Lib.hid (And.intro (keep HL.out.1 hb.out) (And.intro (keep HL.out.2.1 hb.out) (keep HL.out.2.2.1 hb.out)))
  clear ha hb HPB HL HX2 HA2 x0 x1 x2 x3 x4
  obtain ⟨x0, x1, x2, x3, x4, _⟩ := five HX3.out
  have fz := Lib.frozen_of_heap HX3.out 4
  go_upto_region 5 with fail
  obtain ⟨g5, e5⟩ : ∃ g, g = w3.heap.size := ⟨_, rfl⟩
  rw [← e5]
  have q4 : ((w3.setCell ⟨g4, 4, none⟩ (.slice (some ⟨g5, 0, none⟩) 1 1)).alloc (.cells #[.bool true, .int .i64 9] 61)).heap[g4]? = some (.cells #[.int .i64 0, .slice (some ⟨g0, 0, none⟩) 1 1, .slice (some ⟨g1, 0, none⟩) 1 1, .slice (some ⟨g2, 0, none⟩) 1 1, .slice (some ⟨g5, 0, none⟩) 1 1] 27 (0, 0)) := by
    have h1 := heap_setCell_same w3 g4 4 _ _ (.slice (some ⟨g5, 0, none⟩) 1 1) HX3.out
    exact (Below.heap_alloc _ _ _ (lt_of_block h1)).trans h1
  have qo : ∀ g o, g ≠ g4 → w3.heap[g]? = some o → ((w3.setCell ⟨g4, 4, none⟩ (.slice (some ⟨g5, 0, none⟩) 1 1)).alloc (.cells #[.bool true, .int .i64 9] 61)).heap[g]? = some o := by
    intro g o hg ho
    have h1 := (Sq.set_other w3 g4 4 g (.slice (some ⟨g5, 0, none⟩) 1 1) hg).trans ho
    exact (Below.heap_alloc _ _ _ (lt_of_block h1)).trans h1
  have q5 : ((w3.setCell ⟨g4, 4, none⟩ (.slice (some ⟨g5, 0, none⟩) 1 1)).alloc (.cells #[.bool true, .int .i64 9] 61)).heap[g5]? = some (.cells #[.bool true, .int .i64 9] 61 (0, 0)) := by
    have h1 := heap_alloc_new (w3.setCell ⟨g4, 4, none⟩ (.slice (some ⟨g5, 0, none⟩) 1 1)) (.cells #[.bool true, .int .i64 9] 61)
    rw [show (w3.setCell ⟨g4, 4, none⟩ (.slice (some ⟨g5, 0, none⟩) 1 1)).heap.size = g5 by rw [e5]; simp] at h1
    exact h1
  have qb : Below w.heap.size w ((w3.setCell ⟨g4, 4, none⟩ (.slice (some ⟨g5, 0, none⟩) 1 1)).alloc (.cells #[.bool true, .int .i64 9] 61)) :=
    (HB3.out.setCell (p := ⟨g4, 4, none⟩) HLT.out.2.2.2.1 _).alloc (by have := HB3.out.size; simpa using this) _
  have qa : ∀ (A : Option Addr) (l : List Nat), Fd.At w3 A l → (∀ ad, A = some ad → ad.block ≠ g4) → Fd.At ((w3.setCell ⟨g4, 4, none⟩ (.slice (some ⟨g5, 0, none⟩) 1 1)).alloc (.cells #[.bool true, .int .i64 9] 61)) A l := by
    intro A l h hA k x hx
    obtain ⟨h1, ad, rfl, h2⟩ := h k x hx
    refine ⟨h1, ad, rfl, ?_⟩
    unfold World.cell? at h2 ⊢
    cases hh : w3.heap[(ad.add k).block]? with
    | none => rw [hh] at h2; cases h2
    | some o =>
      rw [qo _ o (by rw [Fd.add_block]; exact hA ad rfl) hh]
      rw [hh] at h2
      exact h2
  have HA4 := Lib.hid (And.intro (qa _ _ HA3.out.1 HLT.out.2.2.2.2.1) (qa _ _ HA3.out.2.1 HA3.out.2.2.2))
  have HL4 := Lib.hid (And.intro (qo _ _ HLT.out.1 HL3.out.1) (And.intro (qo _ _ HLT.out.2.1 HL3.out.2.1) (And.intro (qo _ _ HLT.out.2.2.1 HL3.out.2.2) q5)))
  have HX4 := Lib.hid q4
  have HB4 := Lib.hid qb
  obtain ⟨W4, hW4⟩ : ∃ W4, W4 = (w3.setCell ⟨g4, 4, none⟩ (.slice (some ⟨g5, 0, none⟩) 1 1)).alloc (.cells #[.bool true, .int .i64 9] 61) := ⟨_, rfl⟩
  rw [← hW4] at HA4 HL4 HX4 HB4
  rw [← hW4]
  have HN : Hid (n1 = 6 ∧ n2 = 17) := Lib.hid ⟨HA1.out.2.1, HA3.out.2.2.1⟩
  clear hW4 e5 q4 qo q5 qb qa HA3 HL3 HX3 HB3 HB2 HA1 HB1 x0 x1 x2 x3 x4 fz HLT
  obtain ⟨x0, x1, x2, x3, x4, _⟩ := five HX4.out
  have HPt : Hid (PAt W4 (some ⟨g0, 0, none⟩) (some ⟨g1, 0, none⟩) (some ⟨g2, 0, none⟩) (some ⟨g5, 0, none⟩) 1 1 1 1 exC) := Lib.hid ⟨iat_lit HL4.out.1, iat_lit HL4.out.2.1, bat_lit HL4.out.2.2.1, kat_lit HL4.out.2.2.2, rfl, rfl, rfl, rfl⟩
  have HPC := Lib.hid (pput_any exC (some ⟨g0, 0, none⟩) (some ⟨g1, 0, none⟩) (some ⟨g2, 0, none⟩) (some ⟨g5, 0, none⟩) 1 1 1 1 1 1 1 1 W4 HPt.out (by omega) (by omega) (by omega) (by omega))
  rw [exC_put] at HPC
  go_wp2_with fail
  refine HPC.out.mono ?_
  rintro e w5 ⟨A3, n3, c3, rfl, ha, hb⟩
  obtain ⟨h3, h4, _, _, h5⟩ := ha.out
  obtain rfl : n3 = 25 := h4
  obtain ⟨g6, rfl, _⟩ := h5 (by decide)
  have HA5 := Lib.hid (And.intro (HA4.out.1.below hb.out) (And.intro (HA4.out.2.below hb.out) h3))
  have HB5 := Lib.hid (step_below HB4.out HB4.out.size hb.out)
  have HX5 := Lib.hid (keep HX4.out hb.out)
  have HPt5 := Lib.hid (HPt.out.below hb.out)
  clear ha hb h3 h5 HPC HPt HX4 HB4 HA4 HL4 x0 x1 x2 x3 x4
  have HGC := Lib.hid (pget_any (some ⟨g6, 0, none⟩) 25 c3 _ w5 HA5.out.2.2 rfl (by omega))
  rw [exC_get] at HGC
  go_wp2_with fail
  refine HGC.out.mono ?_
  rintro e w6 ⟨x, rfl, hx, hb⟩
  have HQ : Hid (∃ Ao co Av cv Ac cc Ai ci, x = .agg #[.int .i64 0, .slice Ao 1 co, .slice Av 1 cv, .slice Ac 1 cc, .slice Ai 1 ci] ∧ PAt w6 Ao Av Ac Ai 1 1 1 1 exC) := Lib.hid (POwn.at hx.out)
  obtain ⟨Ao, co, Av, cv, Ac, cc, Ai, ci, rfl, hq⟩ := HQ.out
  obtain ⟨rfl, rfl⟩ := HN.out
  go_upto_region 7 with fail
  have hbw : Below w6.heap.size w6 (w6.alloc (.cells #[.int .i64 0, .slice Ao 1 co, .slice Av 1 cv, .slice Ac 1 cc, .slice Ai 1 ci] 27)) := (Below.refl _ w6).alloc (Nat.le_refl _) _
  have h8 := heap_alloc_new w6 (.cells #[.int .i64 0, .slice Ao 1 co, .slice Av 1 cv, .slice Ac 1 cc, .slice Ai 1 ci] 27)
  obtain ⟨W7, hW7⟩ : ∃ W7, W7 = w6.alloc (.cells #[.int .i64 0, .slice Ao 1 co, .slice Av 1 cv, .slice Ac 1 cc, .slice Ai 1 ci] 27) := ⟨_, rfl⟩
  obtain ⟨b8, e8⟩ : ∃ b8, b8 = w6.heap.size := ⟨_, rfl⟩
  rw [← hW7] at hbw h8
  rw [← e8] at h8
  rw [← hW7, show w6.heap.size = b8 from e8.symm]
  have HB7 := Lib.hid (step_below (step_below HB5.out HB5.out.size hb.out) (step_below HB5.out HB5.out.size hb.out).size hbw)
  have hb57 := step_below hb.out hb.out.size hbw
  have HX7 := Lib.hid (keep HX5.out hb57)
  have HZ7 := Lib.hid h8
  have HP7 := Lib.hid (HPt5.out.below hb57)
  have HQ7 := Lib.hid (hq.below hbw)
  have cv1 := Fd.conv_at W7 A1 [0, 0, 0, 3, 0, 0] c1 (HA5.out.1.below hb57)
  have cv2 := Fd.conv_at W7 A2 [0, 0, 0, 0, 0, 1, 0, 1, 0, 0, 0, 0, 0, 0, 0, 5, 1] c2 (HA5.out.2.1.below hb57)
  rw [strA] at cv1
  rw [strB] at cv2
  simp only [List.length_cons, List.length_nil, Nat.zero_add, Nat.reduceAdd] at cv1 cv2
  have f16 : W7.cell? ⟨g6, 16, none⟩ = some (.int .u8 3) := by
    obtain ⟨_, ad, e, h⟩ := (HA5.out.2.2.below hb57) 16 3 rfl
    cases e; exact h
  have f24 : W7.cell? ⟨g6, 24, none⟩ = some (.int .u8 9) := by
    obtain ⟨_, ad, e, h⟩ := (HA5.out.2.2.below hb57) 24 9 rfl
    cases e; exact h
  have HSm := Lib.hid (psame_any exC exC 0 0 rfl rfl (some ⟨g0, 0, none⟩) (some ⟨g1, 0, none⟩) (some ⟨g2, 0, none⟩) (some ⟨g5, 0, none⟩) Ao Av Ac Ai 1 1 1 1 1 1 1 1 1 1 1 1 co cv cc ci W7 HP7.out HQ7.out (by omega) (by omega) (by omega) (by omega) (by omega) (by omega) (by omega) (by omega))
  rw [decide_eq_true exC_same] at HSm
  clear hW7 e8 h8 hbw hb57 hb hx hq HQ HB5 HX5 HPt5 HA5 HGC HN
  obtain ⟨x0, x1, x2, x3, x4, _⟩ := five HX7.out
  obtain ⟨y0, y1, y2, y3, y4, _⟩ := five HZ7.out
  go_wp2_with fail
  refine HSm.out.mono ?_
  rintro e w8 ⟨rfl, hb8⟩
  have HB8 := Lib.hid (step_below HB7.out HB7.out.size hb8.out)
  have HX8 := Lib.hid (keep HX7.out hb8.out)
  have HRt := Lib.hid (right_any exC (some ⟨g0, 0, none⟩) (some ⟨g1, 0, none⟩) (some ⟨g2, 0, none⟩) (some ⟨g5, 0, none⟩) 1 1 1 1 1 1 1 1 w8 (HP7.out.below hb8.out) (by omega) (by omega) (by omega) (by omega))
  rw [decide_eq_true exC_rgt] at HRt
  clear hb8 HSm cv1 cv2 f16 f24 x0 x1 x2 x3 x4 y0 y1 y2 y3 y4 HX7 HZ7 HP7 HQ7
  obtain ⟨x0, x1, x2, x3, x4, _⟩ := five HX8.out
  go_wp2_with fail
  refine HRt.out.mono ?_
  rintro e w9 ⟨rfl, hb9⟩
  have HB9 := Lib.hid (step_below HB8.out HB8.out.size hb9.out)
  clear hb9 HRt x0 x1 x2 x3 x4
  go_wp2_with fail
  go_ret
  exact ⟨rfl, HB9⟩
end Go.Proofs.Ytfbfckdabbaocaa.St
