/-
  What is proved here: contracts of paths.areDistances, noEdgeLeadsNearer: is each a distance, does an edge lead nearer. Conditions: edges lead between places of the row.
-/
import Derived.Test.YtkbmmlombigkmaaGreatQbAlPa
import Derived.Test.YtkbmmlombigkmaaGreatQbPaMath
namespace Go.Proofs.YtkbmmlombigkmaaGreat.Pa
open Go.RowKit Gr Wd Ws Fx Lb
theorem iat_at {w : World} {A : Option Addr} {l : List Int} (h : IAt w A l) {k : Nat} (hk : k < l.length) : ∃ bk o, A = some ⟨bk, o, none⟩ ∧ w.cell? ⟨bk, o + k, none⟩ = some (.int .i64 (vl l k)) := h k _ (vl_at hk)
theorem dist_cons {l : List Int} {k : Nat} (h : k < l.length) : distB (l.drop k) = (decide (0 ≤ vl l k) && decide (vl l k ≤ 4611686018427387904) && distB (l.drop (k + 1))) := by
  rw [drop_at (vl_at h)]; rfl
def DiRel (w : World) (l : List Int) (g : Nat) (i : Value) (wr : World) : Prop :=
  ∃ k : Nat, k + g = l.length ∧ i = .int .i64 (k : Int) ∧ wr = w ∧ distB l = distB (l.drop k)
set_option maxRecDepth 100000 in
theorem dists_any (A : Option Addr) (c : Nat) (l : List Int) (w : World) (hL : IAt w A l) (hl : l.length ≤ 9223372036854775807) :
    Calls Tryz.prog 31 #[.slice A l.length c] w fun e w' => e = .returned (.bool (distB l)) ∧ w = w' := by
  have HL := Lib.hid hL; clear hL
  obtain ⟨R, hR⟩ : ∃ R, distB l = R := ⟨_, rfl⟩
  rw [hR]
  have HR := Lib.hid hR; clear hR
  obtain ⟨n, hn⟩ : ∃ n, n = l.length := ⟨_, rfl⟩
  rw [← hn] at hl ⊢
  have HN := Lib.hid hn; clear hn
  go_enter Tryz.func31, Tryz.ntmps31
  go_wp2
  go_loopg [7] n (fun g i wr => DiRel w l g i wr)
  case atStart => exact ⟨0, by have := HN.out; omega, rfl, rfl, rfl⟩
  case round =>
    obtain ⟨k, hk, rfl, rfl, hd⟩ := hrel
    rw [← HN.out] at hk
    by_cases hlt : k < n
    · obtain ⟨bk, o, rfl, c0⟩ := iat_at HL.out (show k < l.length by rw [← HN.out]; exact hlt)
      rw [dist_cons (show k < l.length by rw [← HN.out]; exact hlt)] at hd
      obtain ⟨x, hx⟩ : ∃ x, vl l k = x := ⟨_, rfl⟩
      rw [hx] at c0 hd
      have HD := Lib.hid hd; clear hd hx
      rcases (show x < 0 ∨ 4611686018427387904 < x ∧ 0 ≤ x ∨ (0 ≤ x ∧ x ≤ 4611686018427387904) by omega) with g1 | ⟨g1, g2⟩ | ⟨g1, g2⟩
      · go_wp2
        go_ret
        refine ⟨ret_b ?_, rfl⟩
        rw [← HR.out, HD.out, decide_eq_false (by omega : ¬ 0 ≤ x)]; rfl
      · go_wp2
        go_ret
        refine ⟨ret_b ?_, rfl⟩
        rw [← HR.out, HD.out, decide_eq_false (by omega : ¬ x ≤ 4611686018427387904), Bool.and_false]; rfl
      · go_wp2
        go_roundg (gk - 1)
        case measure => omega
        case rel => exact ⟨k + 1, by have := HN.out; omega, by go_num, rfl, by rw [HD.out, decide_eq_true g1, decide_eq_true g2]; rfl⟩
    · have HD := Lib.hid hd; clear hd
      have HK : Hid (k = n) := Lib.hid (by omega)
      go_wp2
      go_ret
      refine ⟨ret_b ?_, rfl⟩
      rw [← HR.out, HD.out, HK.out, List.drop_eq_nil_of_le (by rw [HN.out]; exact Nat.le_refl _)]; rfl
def FitsI (m : Nat) (L : List Ed) : Prop := ∀ e ∈ L, 0 ≤ e.1 ∧ e.1 < (m : Int) ∧ 0 ≤ e.2.1 ∧ e.2.1 < (m : Int)
theorem fitsI_of {m : Nat} {L : List Ed} (h : chk (m : Int) L = 0) : FitsI m L := by
  obtain ⟨_, _, _, h, _⟩ := (chk_zero _ _).1 h
  intro e he
  have := (fitE_iff _ _).1 (h e he)
  omega
theorem FitsI.fits {m : Nat} {L : List Ed} (h : FitsI m L) : Fits m L := fun e he => by
  have := h e he
  unfold fr to; omega
theorem edge_nat {m : Nat} {L : List Ed} (h : FitsI m L) {k : Nat} (hk : k < L.length) : ∃ (f t : Nat) (z : Int), L[k]? = some ((f : Int), (t : Int), z) ∧ f < m ∧ t < m := by
  obtain ⟨e, he⟩ := at_lt L k hk
  have hh := h e (List.mem_of_getElem? he)
  obtain ⟨a, b, z⟩ := e
  have : 0 ≤ a ∧ a < (m : Int) ∧ 0 ≤ b ∧ b < (m : Int) := hh
  refine ⟨a.toNat, b.toNat, z, ?_, by omega, by omega⟩
  rw [he]
  have h1 : ((a.toNat : Nat) : Int) = a := by omega
  have h2 : ((b.toNat : Nat) : Int) = b := by omega
  rw [h1, h2]
theorem fr_of (f t : Nat) (z : Int) : fr ((f : Int), (t : Int), z) = f := by simp [fr]
theorem to_of (f t : Nat) (z : Int) : to ((f : Int), (t : Int), z) = t := by simp [to]
theorem near_cons {l : List Int} {L : List Ed} {k f t : Nat} {z : Int} (h : L[k]? = some ((f : Int), (t : Int), z)) : nearB l (L.drop k) = (decide (vl l t ≤ addI (vl l f) z) && nearB l (L.drop (k + 1))) := by
  rw [drop_at h]
  have e1 : gv l ((f : Int), (t : Int), z) = addI (vl l f) z := by unfold gv; rw [fr_of]
  show (decide (vl l (to _) ≤ gv l _) && _) = _
  rw [to_of, e1]; rfl
def NeRel (w : World) (l : List Int) (L : List Ed) (g : Nat) (i : Value) (wr : World) : Prop :=
  ∃ k : Nat, k + g = L.length ∧ i = .int .i64 (k : Int) ∧ Below w.heap.size w wr ∧ nearB l L = nearB l (L.drop k)
set_option maxRecDepth 100000 in
set_option maxHeartbeats 600000 in
theorem near_any (V : Int) (A B : Option Addr) (c d : Nat) (L : List Ed) (l : List Int) (w : World) (hL : EAt w A L) (hl : IAt w B l) (hn : L.length ≤ 9223372036854775807) (hF : FitsI l.length L) :
    Calls Tryz.prog 32 #[.agg #[.int .i64 V, .slice A L.length c], .slice B l.length d] w fun e w' => e = .returned (.bool (nearB l L)) ∧ Below w.heap.size w w' := by
  have mixed := mixedP
  have HL := Lib.hid hL; have Hl := Lib.hid hl; have HF := Lib.hid hF; clear hL hl hF
  have HZ := Lib.hid ((Below.refl _ w).alloc (Nat.le_refl _) (.cells #[.int .i64 V, .slice A L.length c] 24))
  obtain ⟨R, hR⟩ : ∃ R, nearB l L = R := ⟨_, rfl⟩
  rw [hR]
  have HR := Lib.hid hR; clear hR
  obtain ⟨n, hn'⟩ : ∃ n, n = L.length := ⟨_, rfl⟩
  obtain ⟨m, hm⟩ : ∃ m, m = l.length := ⟨_, rfl⟩
  rw [← hn'] at hn HZ ⊢
  rw [← hm] at HF ⊢
  have HN := Lib.hid hn'; have HM := Lib.hid hm; clear hn' hm
  go_enter Tryz.func32, Tryz.ntmps32
  go_wp2
  go_loopg [10] n (fun g i wr => NeRel w l L g i wr)
  case atStart => exact ⟨0, by have := HN.out; omega, rfl, HZ.out, rfl⟩
  case round =>
    obtain ⟨k, hk, rfl, hb, hd⟩ := hrel
    rw [← HN.out] at hk
    have HB := Lib.hid hb; clear hb
    by_cases hlt : k < n
    · obtain ⟨f, t, z, he, hf, ht⟩ := edge_nat HF.out (show k < L.length by rw [← HN.out]; exact hlt)
      obtain ⟨bk, o, rfl, c0, c1, c2⟩ := (HL.out.below HB.out) k _ he
      obtain ⟨bv, ov, rfl, x0⟩ := iat_at (Hl.out.below HB.out) (show f < l.length by rw [← HM.out]; exact hf)
      obtain ⟨_, _, e0, y0⟩ := iat_at (Hl.out.below HB.out) (show t < l.length by rw [← HM.out]; exact ht)
      cases e0
      rw [near_cons he] at hd
      obtain ⟨x, hx⟩ : ∃ x, vl l f = x := ⟨_, rfl⟩
      obtain ⟨y, hy⟩ : ∃ y, vl l t = y := ⟨_, rfl⟩
      obtain ⟨G, hG⟩ : ∃ G, addI x z = G := ⟨_, rfl⟩
      rw [hx] at x0 hd
      rw [hy] at y0 hd
      rw [hG] at hd
      have HD := Lib.hid hd
      have HW : Hid (Below wr.heap.size wr (wr.alloc (.cells #[.int .i64 (f : Int), .int .i64 (t : Int), .int .i64 z] 33))) := Lib.hid ((Below.refl _ wr).alloc (Nat.le_refl _) _)
      have HX := Lib.hid (eb_alloc wr (f : Int) (t : Int) z)
      clear hd hx hy he
      go_wp2_with fail
      obtain ⟨W1, hW1⟩ : ∃ W1, W1 = wr.alloc (.cells #[.int .i64 (f : Int), .int .i64 (t : Int), .int .i64 z] 33) := ⟨_, rfl⟩
      rw [← hW1] at HW HX ⊢
      obtain ⟨b, hb⟩ : ∃ b, b = wr.heap.size := ⟨_, rfl⟩
      rw [← hb] at HX ⊢
      have HB1 := Lib.hid (step_below HB.out HB.out.size HW.out)
      have q0 := cell_regrown ((HW.out.cell (block_lt_of_cell x0)).trans x0)
      have q1 := cell_regrown ((HW.out.cell (block_lt_of_cell y0)).trans y0)
      obtain ⟨p0, p1, p2, _⟩ := eb_cells HX.out
      have r0 := cell_regrown p0; have r1 := cell_regrown p1; have r2 := cell_regrown p2
      have hC := regr fun W (_ : Below W1.heap.size W1 W) => give_any x (f : Int) (t : Int) z W
      rw [hG] at hC
      have C1 := Lib.hid hC
      clear hC hG p0 p1 p2 x0 y0 c0 c1 c2 hW1 hb HX
      refine wp_region_quiet_below mixed (by kernel_rfl) ?_
      repeat (go_big_quiet_step ((with_reducible first | exact C1.out _ _)))
      refine wpQuiet_nil ?_
      intro _ hw'
      obtain ⟨⟨dq, osq⟩, hw''⟩ := hw'
      subst hw''
      have HB2 := Lib.hid (step_below HB1.out HB1.out.size (below_regrown W1 dq osq))
      clear q0 q1 r0 r1 r2
      by_cases hg : G < y
      · go_wp2
        go_ret
        refine ⟨ret_b ?_, HB2.out⟩
        rw [← HR.out, HD.out, decide_eq_false (by omega : ¬ y ≤ G)]; rfl
      · go_wp2
        go_roundg (gk - 1)
        case measure => omega
        case rel => exact ⟨k + 1, by have := HN.out; omega, by go_num, HB2.out, by rw [HD.out, decide_eq_true (by omega : y ≤ G)]; rfl⟩
    · have HD := Lib.hid hd; clear hd
      have HK : Hid (k = n) := Lib.hid (by omega)
      go_wp2
      go_ret
      refine ⟨ret_b ?_, HB.out⟩
      rw [← HR.out, HD.out, HK.out, List.drop_eq_nil_of_le (by rw [HN.out]; exact Nat.le_refl _)]; rfl
end Go.Proofs.YtkbmmlombigkmaaGreat.Pa
