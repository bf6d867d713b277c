/-
  What is proved here: a contract of states.Take: a worker's part of any state. Condition: lengths fit an int.
-/
import Derived.Test.YtfbfckdabbaocaaQbStR5x
namespace Go.Proofs.Ytfbfckdabbaocaa.St
open Go.RowKit Gr Wd Ws Fx Rk Lb Al In
open Sq (BAt BOwn QOwn bls)
open Pt (ow owned nv vs ofI vs_len ofI_range ow_mem vs_mem)
theorem own_kept2 {w w' : World} {B b B2 : Nat} {e : TypeId} {s : Nat} {v : Value} {n : Nat} {xs : List Value} (h : w.ownsRow B2 e s v n xs) (hb : b < B2) (hs : w.heap.size ≤ B) (hk : ∀ k, k < B → k ≠ b → w'.heap[k]? = w.heap[k]?) : w'.ownsRow B2 e s v n xs :=
  own_kept h fun g _ _ he hc => hk g (by have := lt_of_block hc; omega) (by have := (own_lt h g he).1; omega)
structure TkH (w W6 wr : World) (b9 : Nat) (s : Stt) (O : List Int) (j : Nat) : Prop where
  below : Below w.heap.size w wr
  bx : PBx 27 wr b9 W6.heap.size (takeL s (O.take j))
  size : W6.heap.size ≤ wr.heap.size
  kept : ∀ k, k < W6.heap.size → k ≠ b9 → wr.heap[k]? = W6.heap[k]?
def TkRel (w W6 : World) (b9 : Nat) (s : Stt) (O : List Int) (g : Nat) (i : Value) (wr : World) : Prop :=
  ∃ j : Nat, j + g = O.length ∧ i = .int .i64 (j : Int) ∧ Hid (TkH w W6 wr b9 s O j)
def TkCut (W1 : World) (st : Int) (Av Ac Ai : Option Addr) (nv nc ni cv cc ci : Nat) (v : Value) (W : World) : Prop :=
  ∃ (b8 : Nat) (A : Option Addr) (n c : Nat), v = .pointer (some ⟨b8, 0, none⟩) ∧ Hid (W.heap[b8]? = some (.cells #[.int .i64 st, .slice A n c, .slice Av nv cv, .slice Ac nc cc, .slice Ai ni ci] 27 (0, 0)) ∧ IAt W A (vs (min nv 512)) ∧ n = min nv 512 ∧ Below W1.heap.size W1 W)
theorem own_moved' {w w' : World} {b B n s : Nat} {T : TypeId} {v : Value} {xs : List Value} {c : Array Value} {T' : TypeId} (h : w.ownsRow B T s v n xs) (hb : w.heap[b]? = some (.cells c T' (0, 0))) (hT : T ≠ T') (ho : ∀ k, k ≠ b → w'.heap[k]? = w.heap[k]?) : w'.ownsRow B T s v n xs := Sq.own_moved h hb hT ho
set_option maxRecDepth 100000 in
set_option maxHeartbeats 8000000 in
theorem ptake_any (s : Stt) (Av Ac Ai : Option Addr) (nv nc ni cv cc ci : Nat) (z1 z2 k x : Int) (w : World) (h : TAt w Av Ac Ai nv nc ni s) (hv : nv ≤ 9223372036854775807) (hc : nc ≤ 9223372036854775807) (hi : ni ≤ 9223372036854775807) :
    Calls Try.prog 21 #[.agg #[.int .i64 s.st, .slice Av nv cv, .slice Ac nc cc, .slice Ai ni ci, .int .i64 z1, .int .i64 z2], .int .i64 k, .int .i64 x] w fun e w' => ResP w w' e (takeR s k x) := by
  have mixed := mixedI
  have hal := al2 w (.cells #[.int .i64 s.st, .slice Av nv cv, .slice Ac nc cc, .slice Ai ni ci, .int .i64 z1, .int .i64 z2] 48) (.cells #[.int .i64 0, .slice none 0 0, .slice none 0 0, .slice none 0 0, .slice none 0 0] 27)
  obtain ⟨W1, hW1⟩ : ∃ W1, W1 = (w.alloc (.cells #[.int .i64 s.st, .slice Av nv cv, .slice Ac nc cc, .slice Ai ni ci, .int .i64 z1, .int .i64 z2] 48)).alloc (.cells #[.int .i64 0, .slice none 0 0, .slice none 0 0, .slice none 0 0, .slice none 0 0] 27) := ⟨_, rfl⟩
  rw [← hW1] at hal
  obtain ⟨b0, e0⟩ : ∃ b0, b0 = w.heap.size := ⟨_, rfl⟩
  obtain ⟨b1, e1⟩ : ∃ b1, b1 = w.heap.size + 1 := ⟨_, rfl⟩
  obtain ⟨y0, y1, hb1⟩ := hal
  rw [← e0] at y0; rw [← e1] at y1
  have HL : Hid (w.heap.size ≤ b0 ∧ w.heap.size ≤ b1 ∧ b0 ≠ b1) := Lib.hid ⟨by omega, by omega, by omega⟩
  have HB1 := Lib.hid hb1
  have HS := Lib.hid y0
  have HZ := Lib.hid y1
  have HT := Lib.hid h
  have HE : ∀ (r : Int) (W : World), Hid (Below W1.heap.size W1 W) → Hid ((put5 W b1 (.int .i64 0) (.slice none 0 0) (.slice none 0 0) (.slice none 0 0) (.slice none 0 0)).heap[b1]? = some (.cells #[.int .i64 0, .slice none 0 0, .slice none 0 0, .slice none 0 0, .slice none 0 0] 27 (0, 0)) ∧ Below w.heap.size w (put5 W b1 (.int .i64 0) (.slice none 0 0) (.slice none 0 0) (.slice none 0 0) (.slice none 0 0))) := fun _ W hW => Lib.hid
    ⟨put5_heap (keep HZ.out hW.out) _ _ _ _ _, put5_below (step_below HB1.out HB1.out.size hW.out) HL.out.2.1 _ _ _ _ _⟩
  have HE1 := HE 0 W1 (Lib.hid (Below.refl _ _))
  have HEH := Lib.hid HE
  obtain ⟨s0, s1, s2, s3, s4, s5, _⟩ := Sq.six y0
  obtain ⟨p0, p1, p2, p3, p4, _⟩ := five y1
  have fz0 := Lib.frozen_of_heap y1 0
  have fz1 := Lib.frozen_of_heap y1 1
  have fz2 := Lib.frozen_of_heap y1 2
  have fz3 := Lib.frozen_of_heap y1 3
  have fz4 := Lib.frozen_of_heap y1 4
  clear y0 y1 hb1 h HE
  by_cases hk : 1 ≤ k ∧ k ≤ 64 ∧ 0 ≤ x ∧ x < k
  · obtain ⟨k1, k2, k3, k4⟩ := hk
    have HR : Hid (takeR s k x = if MayP s then (nrmP (takeP s k x), 0) else (noneP, 4)) := Lib.hid (by unfold takeR; rw [if_pos ⟨k1, k2, k3, k4⟩])
    have HSW : Hid (∀ W, Below W1.heap.size W1 W → (W.cell? ⟨b0, 0, none⟩ = some (.int .i64 s.st) ∧ W.cell? ⟨b0, 1, none⟩ = some (.slice Av nv cv) ∧ W.cell? ⟨b0, 2, none⟩ = some (.slice Ac nc cc) ∧ W.cell? ⟨b0, 3, none⟩ = some (.slice Ai ni ci))) := Lib.hid (by
      intro W hb
      obtain ⟨j0, j1, j2, j3, _, _, _⟩ := Sq.six (keep HS.out hb)
      exact ⟨j0, j1, j2, j3⟩)
    have HOW : Hid (∀ W : World, Calls Try.prog 53 #[.int .i64 (nv : Int), .int .i64 1, .int .i64 0] W fun e w' => ∃ v, e = .returned v ∧ (IOwn w' W.heap.size v (vs (min nv 512)) ∧ Below W.heap.size W w')) := Lib.hid (by
      intro W
      have := Pt.owned_any (nv : Int) 1 0 W
      rw [owned_one] at this
      exact this)
    go_enter Try.func21, Try.ntmps21
    go_upto_region 1 with fail
    rw [← hW1, show w.heap.size + 1 = b1 from e1.symm, show w.heap.size = b0 from e0.symm]
    clear hW1 e0 e1
    go_upto_region 3 with fail
    go_cut [8] from 28 to 40 (fun v W => TkCut W1 s.st Av Ac Ai nv nc ni cv cc ci v W)
    case first =>
      clear s0 s1 s2 s3 s4 s5 p0 p1 p2 p3 p4 fz0 fz1 fz2 fz3 fz4
      have HD : Hid (Below W1.heap.size W1 W1.drew) := Lib.hid ((Below.refl _ W1).drew)
      have HZ1 : Hid (Below W1.heap.size W1 (W1.drew.alloc (.cells #[.int .i64 0, .slice none 0 0, .slice none 0 0, .slice none 0 0, .slice none 0 0] 27))) := Lib.hid (HD.out.alloc HD.out.size _)
      have hS := HSW.out _ HD.out
      refine Tl.headX_region (S := (fun W : World => W.cell? ⟨b0, 0, none⟩ = some (.int .i64 s.st) ∧ W.cell? ⟨b0, 1, none⟩ = some (.slice Av nv cv) ∧ W.cell? ⟨b0, 2, none⟩ = some (.slice Ac nc cc) ∧ W.cell? ⟨b0, 3, none⟩ = some (.slice Ai ni ci))) 14 mixed (by decide) ?_
      try dsimp only
      refine Tl.headX_tk 0 ?v0_1 rfl (by kernel_rfl) (by decide) (by kernel_rfl) (by kernel_rfl) (by kernel_rfl) (fun _ _ _ h => h) (by rfl) (fun W hSw => ?hy0_1) hS ?_
      case hy0_1 => ((try dsimp only at hSw); go_simp; try with_reducible rfl)
      simp only [Act.put, List.setIfInBounds_toArray, List.set_cons_zero, List.set_cons_succ]
      refine Tl.headX_tk 1 ?v1_2 rfl (by kernel_rfl) (by decide) (by kernel_rfl) (by kernel_rfl) (by kernel_rfl) (fun _ _ _ h => h) (by rfl) (fun W hSw => ?hy1_2) hS ?_
      case hy1_2 => ((try dsimp only at hSw); go_simp; try with_reducible rfl)
      simp only [Act.put, List.setIfInBounds_toArray, List.set_cons_zero, List.set_cons_succ]
      refine Tl.headX_tk 2 ?v2_3 rfl (by kernel_rfl) (by decide) (by kernel_rfl) (by kernel_rfl) (by kernel_rfl) (fun _ _ _ h => h) (by rfl) (fun W hSw => ?hy2_3) hS ?_
      case hy2_3 => ((try dsimp only at hSw); go_simp; try with_reducible rfl)
      simp only [Act.put, List.setIfInBounds_toArray, List.set_cons_zero, List.set_cons_succ]
      refine Tl.headX_tk 3 ?v3_4 rfl (by kernel_rfl) (by decide) (by kernel_rfl) (by kernel_rfl) (by kernel_rfl) (fun _ _ _ h => h) (by rfl) (fun W hSw => ?hy3_4) hS ?_
      case hy3_4 => ((try dsimp only at hSw); go_simp; try with_reducible rfl)
      simp only [Act.put, List.setIfInBounds_toArray, List.set_cons_zero, List.set_cons_succ]
      refine Tl.headX_tk 4 ?v4_5 rfl (by kernel_rfl) (by decide) (by kernel_rfl) (by kernel_rfl) (by kernel_rfl) (fun _ _ _ h => h) (by rfl) (fun W hSw => ?hy4_5) hS ?_
      case hy4_5 => ((try dsimp only at hSw); go_simp; try with_reducible rfl)
      simp only [Act.put, List.setIfInBounds_toArray, List.set_cons_zero, List.set_cons_succ]
      refine Tl.headX_tk 6 ?v6_6 rfl (by kernel_rfl) (by decide) (by kernel_rfl) (by kernel_rfl) (by kernel_rfl) (fun _ _ _ h => h) (by rfl) (fun W hSw => ?hy6_6) hS ?_
      case hy6_6 => ((try dsimp only at hSw); go_simp; try with_reducible rfl)
      simp only [Act.put, List.setIfInBounds_toArray, List.set_cons_zero, List.set_cons_succ]
      refine Tl.headX_tk 7 ?v7_7 rfl (by kernel_rfl) (by decide) (by kernel_rfl) (by kernel_rfl) (by kernel_rfl) (fun _ _ _ h => h) (by rfl) (fun W hSw => ?hy7_7) hS ?_
      case hy7_7 => ((try dsimp only at hSw); go_simp; try with_reducible rfl)
      simp only [Act.put, List.setIfInBounds_toArray, List.set_cons_zero, List.set_cons_succ]
      refine Tl.headX_tk 8 ?v8_8 rfl (by kernel_rfl) (by decide) (by kernel_rfl) (by kernel_rfl) (by kernel_rfl) (fun _ _ _ h => h) (by rfl) (fun W hSw => ?hy8_8) hS ?_
      case hy8_8 => ((try dsimp only at hSw); go_simp; try with_reducible rfl)
      simp only [Act.put, List.setIfInBounds_toArray, List.set_cons_zero, List.set_cons_succ]
      refine Tl.headX_tk 9 ?v9_9 rfl (by kernel_rfl) (by decide) (by kernel_rfl) (by kernel_rfl) (by kernel_rfl) (fun _ _ _ h => h) (by rfl) (fun W hSw => ?hy9_9) hS ?_
      case hy9_9 => ((try dsimp only at hSw); go_simp; try with_reducible rfl)
      simp only [Act.put, List.setIfInBounds_toArray, List.set_cons_zero, List.set_cons_succ]
      refine Tl.headX_tk 10 ?v10_10 rfl (by kernel_rfl) (by decide) (by kernel_rfl) (by kernel_rfl) (by kernel_rfl) (fun _ _ _ h => h) (by rfl) (fun W hSw => ?hy10_10) hS ?_
      case hy10_10 => ((try dsimp only at hSw); go_simp; try with_reducible rfl)
      simp only [Act.put, List.setIfInBounds_toArray, List.set_cons_zero, List.set_cons_succ]
      refine Tl.headX_tk 11 ?v11_11 rfl (by kernel_rfl) (by decide) (by kernel_rfl) (by kernel_rfl) (by kernel_rfl) (fun _ _ _ h => h) (by rfl) (fun W hSw => ?hy11_11) hS ?_
      case hy11_11 => ((try dsimp only at hSw); go_simp; try with_reducible rfl)
      simp only [Act.put, List.setIfInBounds_toArray, List.set_cons_zero, List.set_cons_succ]
      refine headX_cv 5 13 _ _ ?v13 ?w13 rfl rfl (by decide) (by decide) (by kernel_rfl) (by rfl) (by rfl) ?he5 ?he13 (HOW.out _) ?hs13 ?first5 ?first13
      case he5 => (go_simp; try with_reducible rfl)
      case he13 => (go_simp; first | (constructor <;> with_reducible rfl) | with_reducible rfl)
      case hs13 => exact HSW.out _ HZ1.out
      case first5 =>
        rintro v w5 ⟨hown, hb5⟩
        obtain ⟨A, c, hv5, hat⟩ := IOwn.form hown
        obtain ⟨n, hn⟩ : ∃ n, (vs (min nv 512)).length = n := ⟨_, rfl⟩
        rw [hn] at hv5
        subst hv5
        have HN := Lib.hid hn
        have HB5 : Hid (Below W1.heap.size W1 w5) := Lib.hid (step_below HD.out HD.out.size hb5)
        have HB6 : Hid (Below W1.heap.size W1 (w5.alloc (.cells #[.int .i64 0, .slice none 0 0, .slice none 0 0, .slice none 0 0, .slice none 0 0] 27))) := Lib.hid (HB5.out.alloc HB5.out.size _)
        have HB7 : Hid (Below W1.heap.size W1 (w5.alloc (.cells #[.int .i64 s.st, .slice A n c, .slice Av nv cv, .slice Ac nc cc, .slice Ai ni ci] 27))) := Lib.hid (HB5.out.alloc HB5.out.size _)
        have HA := Lib.hid (hat.below ((Below.refl _ w5).alloc (Nat.le_refl _) (.cells #[.int .i64 s.st, .slice A n c, .slice Av nv cv, .slice Ac nc cc, .slice Ai ni ci] 27)))
        clear hS hown hb5 hat hn
        have hS := HSW.out _ HB5.out
        refine ⟨hS, ?_⟩
        simp only [Act.put, List.setIfInBounds_toArray, List.set_cons_zero, List.set_cons_succ]
        refine Tl.headX_tk 12 ?v12_12 rfl (by kernel_rfl) (by decide) (by kernel_rfl) (by kernel_rfl) (by kernel_rfl) (fun _ _ _ h => h) (by rfl) (fun W hSw => ?hy12_12) hS ?_
        case hy12_12 => ((try dsimp only at hSw); go_simp; try with_reducible rfl)
        simp only [Act.put, List.setIfInBounds_toArray, List.set_cons_zero, List.set_cons_succ]
        refine Tl.headX_vl 13 ?v13_30 ?w13_30 rfl (by decide) (by kernel_rfl) (by rfl) ?hy13_30 ?hs13_30 ?_
        case hy13_30 => (go_simp; first | (constructor <;> with_reducible rfl) | with_reducible rfl)
        case hs13_30 => exact HSW.out _ HB6.out
        simp only [Act.put, List.setIfInBounds_toArray, List.set_cons_zero, List.set_cons_succ]
        refine Tl.headX_rest (by kernel_rfl) ?_
        simp only [List.drop_succ_cons, List.drop_zero]
        clear hS
        go_wp2_with fail
        go_meet
        exact ⟨_, A, n, c, rfl, Lib.hid ⟨heap_alloc_new w5 _, HA.out, by rw [← HN.out, vs_len], HB7.out⟩⟩
      case first13 =>
        simp only [Act.put, List.setIfInBounds_toArray, List.set_cons_zero, List.set_cons_succ]
        have HX2 := Lib.hid (heap_alloc_new W1.drew (.cells #[.int .i64 0, .slice none 0 0, .slice none 0 0, .slice none 0 0, .slice none 0 0] 27))
        obtain ⟨W2, hW2⟩ : ∃ W2, W2 = (W1.alloc (.cells #[.int .i64 0, .slice none 0 0, .slice none 0 0, .slice none 0 0, .slice none 0 0] 27)).drew := ⟨_, rfl⟩
        rw [show W1.drew.alloc (.cells #[.int .i64 0, .slice none 0 0, .slice none 0 0, .slice none 0 0, .slice none 0 0] 27) = W2 from hW2.symm] at HX2 HZ1
        rw [← hW2]
        obtain ⟨b8, h8⟩ : ∃ b8, b8 = W1.drew.heap.size := ⟨_, rfl⟩
        have HG8 : Hid (W1.heap.size ≤ b8) := Lib.hid (by rw [h8]; exact Nat.le_refl _)
        rw [← h8] at HX2
        rw [show W1.heap.size = b8 from h8.symm]
        clear hW2 h8
        refine Tl.headX_cl 5 _ _ rfl (by decide) (by kernel_rfl) (by rfl) ?he5b (HOW.out _) ?_
        case he5b => (go_simp; try with_reducible rfl)
        rintro v w5 ⟨hown, hb5⟩
        obtain ⟨A, c, hv5, hat⟩ := IOwn.form hown
        obtain ⟨n, hn⟩ : ∃ n, (vs (min nv 512)).length = n := ⟨_, rfl⟩
        rw [hn] at hv5
        subst hv5
        have HN := Lib.hid hn
        have HB5 : Hid (Below W1.heap.size W1 w5) := Lib.hid (step_below HZ1.out HZ1.out.size hb5)
        have HX5 := Lib.hid (keep HX2.out hb5)
        have HA : Hid (IAt (put5 w5 b8 (.int .i64 s.st) (.slice A n c) (.slice Av nv cv) (.slice Ac nc cc) (.slice Ai ni ci)) A (vs (min nv 512))) := Lib.hid (by
          obtain ⟨A', c', e', h'⟩ := IOwn.form (own_moved' hown HX5.out (by decide) (put5_other w5 b8 · (.int .i64 s.st) (.slice A n c) (.slice Av nv cv) (.slice Ac nc cc) (.slice Ai ni ci)))
          injection e' with e1 e2 e3
          rw [← e1] at h'
          exact h')
        have HP : Hid ((put5 w5 b8 (.int .i64 s.st) (.slice A n c) (.slice Av nv cv) (.slice Ac nc cc) (.slice Ai ni ci)).heap[b8]? = some (.cells #[.int .i64 s.st, .slice A n c, .slice Av nv cv, .slice Ac nc cc, .slice Ai ni ci] 27 (0, 0)) ∧ Below W1.heap.size W1 (put5 w5 b8 (.int .i64 s.st) (.slice A n c) (.slice Av nv cv) (.slice Ac nc cc) (.slice Ai ni ci))) := Lib.hid ⟨put5_heap HX5.out _ _ _ _ _, put5_below HB5.out HG8.out _ _ _ _ _⟩
        have fz0 := Lib.frozen_of_heap HX5.out 0
        have fz1 := Lib.frozen_of_heap HX5.out 1
        have fz2 := Lib.frozen_of_heap HX5.out 2
        have fz3 := Lib.frozen_of_heap HX5.out 3
        have fz4 := Lib.frozen_of_heap HX5.out 4
        obtain ⟨x0, x1, x2, x3, x4, _⟩ := five HX5.out
        clear hS hown hb5 hat hn
        have hS := HSW.out _ HB5.out
        refine ⟨hS, ?_⟩
        simp only [Act.put, List.setIfInBounds_toArray, List.set_cons_zero, List.set_cons_succ]
        refine Tl.headX_tk 12 ?v12_13 rfl (by kernel_rfl) (by decide) (by kernel_rfl) (by kernel_rfl) (by kernel_rfl) (fun _ _ _ h => h) (by rfl) (fun W hSw => ?hy12_13) hS ?_
        case hy12_13 => ((try dsimp only at hSw); go_simp; try with_reducible rfl)
        simp only [Act.put, List.setIfInBounds_toArray, List.set_cons_zero, List.set_cons_succ]
        refine Tl.headX_rest (by kernel_rfl) ?_
        simp only [List.drop_succ_cons, List.drop_zero]
        clear hS
        go_wp2_with fail
        go_meet
        exact ⟨_, A, n, c, rfl, Lib.hid ⟨HP.out.1, HA.out, by rw [← HN.out, vs_len], HP.out.2⟩⟩
    case rest =>
      obtain ⟨b8, A, n, c, hv8, H8⟩ := hcut
      subst hv8
      clear s0 s1 s2 s3 s4 s5 p0 p1 p2 p3 p4 fz0 fz1 fz2 fz3 fz4 HSW HOW
      obtain ⟨hb8, hA8, hn8, hw8⟩ := H8.out
      have HB8 := Lib.hid hw8
      have HS8 := Lib.hid (keep HS.out hw8)
      have HZ8 := Lib.hid (keep HZ.out hw8)
      have HX8 := Lib.hid hb8
      have HT8 := Lib.hid (HT.out.below (HB1.out.trans (hw8.mono HB1.out.size)))
      have hpw : PAt wc A Av Ac Ai n nv nc ni (wholeC 512 s) := by
        refine ⟨?_, HT8.out.v, HT8.out.c, HT8.out.i, ?_, HT8.out.nv, HT8.out.nc, HT8.out.ni⟩
        · show IAt wc A (vs (min s.vals.length 512))
          rw [HT.out.nv]; exact hA8
        · show (vs (min s.vals.length 512)).length = n
          rw [vs_len, HT.out.nv]; exact hn8.symm
      have HRt : Hid (Calls Try.prog 14 #[.agg #[.int .i64 s.st, .slice A n c, .slice Av nv cv, .slice Ac nc cc, .slice Ai ni ci]] wc fun e w' => e = .returned (.bool (decide (Rgt (wholeP s)))) ∧ Hid (Below wc.heap.size wc w')) := Lib.hid (by
        have h1 := right_any (wholeC 512 s) A Av Ac Ai n nv nc ni c cv cc ci wc hpw (by omega) hv hc hi
        rw [show decide (Rgt (wholeC 512 s)) = decide (Rgt (wholeP s)) from decide_eq_decide.2 (wholeC_iff (by omega) s)] at h1
        exact h1)
      obtain ⟨r, hr⟩ : ∃ r, decide (Rgt (wholeP s)) = r := ⟨_, rfl⟩
      rw [hr] at HRt
      have HRr := Lib.hid hr
      obtain ⟨s0, s1, s2, s3, s4, s5, _⟩ := Sq.six HS8.out
      obtain ⟨x0, x1, x2, x3, x4, _⟩ := five HX8.out
      clear hb8 hA8 hn8 hw8 hpw hr H8
      by_cases hnv : nv = 0
      · have q0 : ((nv : Int) == 0) = true := by simp [hnv]
        have HM : Hid (takeR s k x = (noneP, 4)) := Lib.hid (by rw [HR.out, if_neg (fun h => by have := h.1; rw [HT.out.nv] at this; omega)])
        have HF := HEH.out 0 wc HB8
        obtain ⟨p0, p1, p2, p3, p4, _⟩ := five HZ8.out
        have fz0 := Lib.frozen_of_heap HZ8.out 0
        have fz1 := Lib.frozen_of_heap HZ8.out 1
        have fz2 := Lib.frozen_of_heap HZ8.out 2
        have fz3 := Lib.frozen_of_heap HZ8.out 3
        have fz4 := Lib.frozen_of_heap HZ8.out 4
        clear hnv
        go_wp2_with fail
        refine bodyPost_ret (v := .tuple #[.agg #[.int .i64 0, .slice none 0 0, .slice none 0 0, .slice none 0 0, .slice none 0 0], .int .i64 4]) (res2_p _ 6 7 _ _ b1 _ _ _ _ _ _ rfl rfl rfl HF.out.1) rfl ?_
        rw [HM.out]
        exact ⟨_, rfl, Lib.hid (POwn.zero _ _), Lib.hid HF.out.2⟩
      · have q0 : ((nv : Int) == 0) = false := by simp [hnv]
        go_wp2_with fail
        refine HRt.out.mono ?_
        rintro e w4 ⟨rfl, hb4⟩
        have HB4 : Hid (Below W1.heap.size W1 w4) := Lib.hid (step_below HB8.out HB8.out.size hb4.out)
        have HS4 := Lib.hid (keep HS8.out hb4.out)
        have HZ4 := Lib.hid (keep HZ8.out hb4.out)
        clear s0 s1 s2 s3 s4 s5 x0 x1 x2 x3 x4 hb4 HRt HX8 HS8 HZ8
        cases r with
        | false =>
          have HM : Hid (takeR s k x = (noneP, 4)) := Lib.hid (by rw [HR.out, if_neg (fun h => of_decide_eq_false HRr.out h.2)])
          have HF := HEH.out 0 w4 HB4
          obtain ⟨p0, p1, p2, p3, p4, _⟩ := five HZ4.out
          have fz0 := Lib.frozen_of_heap HZ4.out 0
          have fz1 := Lib.frozen_of_heap HZ4.out 1
          have fz2 := Lib.frozen_of_heap HZ4.out 2
          have fz3 := Lib.frozen_of_heap HZ4.out 3
          have fz4 := Lib.frozen_of_heap HZ4.out 4
          go_wp2_with fail
          refine bodyPost_ret (v := .tuple #[.agg #[.int .i64 0, .slice none 0 0, .slice none 0 0, .slice none 0 0, .slice none 0 0], .int .i64 4]) (res2_p _ 6 7 _ _ b1 _ _ _ _ _ _ rfl rfl rfl HF.out.1) rfl ?_
          rw [HM.out]
          exact ⟨_, rfl, Lib.hid (POwn.zero _ _), Lib.hid HF.out.2⟩
        | true =>
          have hmay : MayP s := ⟨by rw [HT.out.nv]; omega, of_decide_eq_true HRr.out⟩
          have HM : Hid (takeR s k x = (nrmP (takeP s k x), 0)) := Lib.hid (by rw [HR.out, if_pos hmay])
          have HMay := Lib.hid hmay
          clear hmay
          obtain ⟨s0, s1, s2, s3, s4, s5, _⟩ := Sq.six HS4.out
          go_upto_region 7 with fail
          have hx5 := heap_alloc_new w4 (.cells #[.int .i64 s.st, .slice none 0 0, .slice none 0 0, .slice none 0 0, .slice none 0 0] 27)
          have HB5 : Hid (Below W1.heap.size W1 (w4.alloc (.cells #[.int .i64 s.st, .slice none 0 0, .slice none 0 0, .slice none 0 0, .slice none 0 0] 27))) := Lib.hid (HB4.out.alloc HB4.out.size _)
          obtain ⟨W5, hW5⟩ : ∃ W5, W5 = w4.alloc (.cells #[.int .i64 s.st, .slice none 0 0, .slice none 0 0, .slice none 0 0, .slice none 0 0] 27) := ⟨_, rfl⟩
          obtain ⟨b9, h9⟩ : ∃ b9, b9 = w4.heap.size := ⟨_, rfl⟩
          rw [← hW5] at hx5 HB5
          rw [← h9] at hx5
          have HG9 : Hid (w.heap.size ≤ b9 ∧ b0 < b9 ∧ b1 < b9) := Lib.hid (by
            have g0 := lt_of_block HS4.out
            have g1 := lt_of_block HZ4.out
            have := HB1.out.size
            have := HB4.out.size
            rw [h9]; exact ⟨by omega, g0, g1⟩)
          have HX5 := Lib.hid hx5
          rw [← hW5, show w4.heap.size = b9 from h9.symm]
          clear hW5 h9 hx5 s0 s1 s2 s3 s4 s5
          have HS5 := Lib.hid (keep HS.out HB5.out)
          have HZ5 := Lib.hid (keep HZ.out HB5.out)
          obtain ⟨s0, s1, s2, s3, s4, s5, _⟩ := Sq.six HS5.out
          obtain ⟨O, hO⟩ : ∃ O, owned (nv : Int) k x = O := ⟨_, rfl⟩
          have HO : Hid (takeL s O = nrmP (takeP s k x) ∧ ∀ v ∈ O, 0 ≤ v ∧ v < (nv : Int)) := Lib.hid (by
            have hf := (may_few HMay.out).1
            rw [← hO]
            refine ⟨?_, fun v hv => ?_⟩
            · rw [← HT.out.nv]; exact takeL_all k x hf
            · have e : Pt.nv (nv : Int) = nv := by have := HT.out.nv; unfold Pt.nv; omega
              unfold owned at hv
              rw [e] at hv
              have := ow_mem hv
              exact ⟨this.1, this.2.1⟩)
          have HOW := Lib.hid (Pt.owned_any (nv : Int) k x W5)
          rw [hO] at HOW
          clear hO
          go_wp2_with fail
          refine HOW.out.mono ?_
          rintro e w6 ⟨vo, rfl, hown, hb6⟩
          have hown2 : IOwn w6 W5.heap.size vo O := hown
          obtain ⟨A2, c2, rfl, hat2⟩ := IOwn.form hown2
          have HOl : Hid (O.length ≤ 512) := Lib.hid (by
            have hf := (may_few HMay.out).1
            have h2 := HO.out.1
            have h3 : O = (nrmP (takeP s k x)).own := by rw [← h2]; rfl
            have h4 := Pt.ow_len k x s.vals.length
            rw [h3]
            show (ow k x s.vals.length).length ≤ 512
            omega)
          have HOO := Lib.hid hown2
          obtain ⟨n2, hn2⟩ : ∃ n2, O.length = n2 := ⟨_, rfl⟩
          have HN2 := Lib.hid hn2
          rw [hn2] at HOO
          rw [hn2]
          have hn2b : n2 ≤ 512 := by have := HOl.out; omega
          have HB6 := Lib.hid (step_below HB5.out HB5.out.size hb6)
          have HX6 := Lib.hid (keep HX5.out hb6)
          have HS6 := Lib.hid (keep HS5.out hb6)
          have HZ6 := Lib.hid (keep HZ5.out hb6)
          have HG6 : Hid (b9 < W5.heap.size ∧ W5.heap.size ≤ w6.heap.size) := Lib.hid ⟨lt_of_block HX5.out, hb6.size⟩
          have HTw := Lib.hid (HB1.out.trans (HB6.out.mono HB1.out.size))
          clear hown hown2 hat2 hb6 hn2 HOW s0 s1 s2 s3 s4 s5
          go_wp2_with fail
          go_loopg [61] n2 (fun g i wr => TkRel w w6 b9 s O g i wr)
          case atStart =>
            refine ⟨0, by have := HN2.out; omega, rfl, Lib.hid ⟨HTw.out, ⟨_, _, _, _, HX6.out, IOwn.none_ _ _, QOwn.none_ _ _, BOwn.none_ _ _, KOwn.none_ _ _⟩, Nat.le_refl _, fun _ _ _ => rfl⟩⟩
          case round =>
            obtain ⟨j, hj, rfl, HH⟩ := hrel
            rw [HN2.out] at hj
            have HSr := Lib.hid ((HH.out.kept b0 (by have := HG9.out; have := HG6.out; omega) (by have := HG9.out; omega)).trans HS6.out)
            have HZr := Lib.hid ((HH.out.kept b1 (by have := HG9.out; have := HG6.out; omega) (by have := HG9.out; omega)).trans HZ6.out)
            by_cases hlt : j < n2
            · obtain ⟨v, hvj⟩ := at_lt O j (by rw [HN2.out]; exact hlt)
              have hvb := HO.out.2 v (List.mem_of_getElem? hvj)
              obtain ⟨m, rfl⟩ : ∃ m : Nat, v = (m : Int) := ⟨v.toNat, by omega⟩
              have hmn : m < nv := by omega
              have hlen := (may_few HMay.out).2
              have hat3 : IAt wr A2 O := by
                obtain ⟨A3, c3, e3, h3⟩ := IOwn.form (own_kept2 HOO.out (b := b9) HG6.out.1 (Nat.le_refl _) HH.out.kept)
                injection e3 with e3 _ _
                rw [← e3] at h3; exact h3
              obtain ⟨bk, o, rfl, c0⟩ := hat3 j _ hvj
              have hTr := HT.out.below HH.out.below
              obtain ⟨xv, hxv⟩ := at_lt s.vals m (by rw [HT.out.nv]; exact hmn)
              obtain ⟨xc, hxc⟩ := at_lt s.chg m (by rw [hlen.1, HT.out.nv]; exact hmn)
              obtain ⟨⟨mh, my⟩, hxm⟩ := at_lt s.inb m (by rw [hlen.2, HT.out.nv]; exact hmn)
              have hmc : m < nc := by have := HT.out.nc; have := HT.out.nv; omega
              have hmi : m < ni := by have := HT.out.ni; have := HT.out.nv; omega
              obtain ⟨bv, ov, rfl, d0⟩ := hTr.v m _ hxv
              obtain ⟨bc, oc, rfl, d1⟩ := hTr.c m _ hxc
              obtain ⟨bi, oi, rfl, d2, d3⟩ := hTr.i m _ hxm
              simp only at d2 d3
              obtain ⟨s0, s1, s2, s3, s4, s5, _⟩ := Sq.six HSr.out
              have HNX : Hid (addE (takeL s (O.take j)) ⟨(m : Int), xv, xc, (mh, my)⟩ = takeL s (O.take (j + 1))) := Lib.hid (by
                rw [take_at hvj, takeL_snoc, Int.toNat_natCast, nu_of hxv, bo_of hxc, mi_of hxm])
              have HLj : Hid ((O.take j).length < 1000000000) := Lib.hid (by have := HOl.out; rw [List.length_take]; omega)
              have HAD : Hid (Calls Try.prog 45 #[.pointer (some ⟨b9, 0, none⟩), .int .i64 (m : Int), .int .i64 xv, .bool xc, .agg #[.bool mh, .int .i64 my]] wr.drew fun e w' => e = .returned (.tuple #[]) ∧ Hid (PBx 27 w' b9 w6.heap.size (addE (takeL s (O.take j)) ⟨(m : Int), xv, xc, (mh, my)⟩) ∧ Below w.heap.size wr.drew w' ∧ w6.heap.size ≤ w'.heap.size ∧ ∀ k, k < w6.heap.size → k ≠ b9 → w'.heap[k]? = wr.drew.heap[k]?)) := Lib.hid (by
                refine add_any b9 w6.heap.size w.heap.size (takeL s (O.take j)) (m : Int) xv xc mh my wr.drew (HH.out.bx.below (Below.refl _ wr).drew) HG9.out.1 (Nat.le_trans HB1.out.size (Nat.le_trans HB6.out.size (Nat.le_refl _))) HH.out.size ?_ ?_ ?_ ?_
                · exact HLj.out
                · show (List.map _ (O.take j)).length < _; rw [List.length_map]; exact HLj.out
                · show (List.map _ (O.take j)).length < _; rw [List.length_map]; exact HLj.out
                · show (List.map _ (O.take j)).length < _; rw [List.length_map]; exact HLj.out)
              clear hxv hxc hxm hlen hTr hvj hvb hat3
              go_upto_region 10 with fail
              have hS : (fun W : World => W.cell? ⟨b0, 1, none⟩ = some (.slice (some ⟨bv, ov, none⟩) nv cv) ∧ W.cell? ⟨b0, 2, none⟩ = some (.slice (some ⟨bc, oc, none⟩) nc cc) ∧ W.cell? ⟨b0, 3, none⟩ = some (.slice (some ⟨bi, oi, none⟩) ni ci) ∧ W.cell? ⟨bv, ov + m, none⟩ = some (.int .i64 xv) ∧ W.cell? ⟨bc, oc + m, none⟩ = some (.bool xc) ∧ W.cell? ⟨bi, oi + m * 2, none⟩ = some (.bool mh) ∧ W.cell? ⟨bi, oi + m * 2 + 1, none⟩ = some (.int .i64 my)) wr.drew := ⟨s1, s2, s3, d0, d1, d2, d3⟩
              refine Tl.headX_region (S := (fun W : World => W.cell? ⟨b0, 1, none⟩ = some (.slice (some ⟨bv, ov, none⟩) nv cv) ∧ W.cell? ⟨b0, 2, none⟩ = some (.slice (some ⟨bc, oc, none⟩) nc cc) ∧ W.cell? ⟨b0, 3, none⟩ = some (.slice (some ⟨bi, oi, none⟩) ni ci) ∧ W.cell? ⟨bv, ov + m, none⟩ = some (.int .i64 xv) ∧ W.cell? ⟨bc, oc + m, none⟩ = some (.bool xc) ∧ W.cell? ⟨bi, oi + m * 2, none⟩ = some (.bool mh) ∧ W.cell? ⟨bi, oi + m * 2 + 1, none⟩ = some (.int .i64 my))) 16 mixed (by decide) ?_
              try dsimp only
              clear s0 s1 s2 s3 s4 s5 d0 d1 d2 d3 c0
              refine Tl.headX_tk 0 ?v0_14 rfl (by kernel_rfl) (by decide) (by kernel_rfl) (by kernel_rfl) (by kernel_rfl) (fun _ _ _ h => h) (by rfl) (fun W hSw => ?hy0_14) hS ?_
              case hy0_14 => ((try dsimp only at hSw); go_simp; try with_reducible rfl)
              simp only [Act.put, List.setIfInBounds_toArray, List.set_cons_zero, List.set_cons_succ]
              refine Tl.headX_tk 1 ?v1_15 rfl (by kernel_rfl) (by decide) (by kernel_rfl) (by kernel_rfl) (by kernel_rfl) (fun _ _ _ h => h) (by rfl) (fun W hSw => ?hy1_15) hS ?_
              case hy1_15 => ((try dsimp only at hSw); go_simp; try with_reducible rfl)
              simp only [Act.put, List.setIfInBounds_toArray, List.set_cons_zero, List.set_cons_succ]
              refine Tl.headX_tk 2 ?v2_16 rfl (by kernel_rfl) (by decide) (by kernel_rfl) (by kernel_rfl) (by kernel_rfl) (fun _ _ _ h => h) (by rfl) (fun W hSw => ?hy2_16) hS ?_
              case hy2_16 => ((try dsimp only at hSw); go_simp; try with_reducible rfl)
              simp only [Act.put, List.setIfInBounds_toArray, List.set_cons_zero, List.set_cons_succ]
              refine Tl.headX_tk 3 ?v3_17 rfl (by kernel_rfl) (by decide) (by kernel_rfl) (by kernel_rfl) (by kernel_rfl) (fun _ _ _ h => h) (by rfl) (fun W hSw => ?hy3_17) hS ?_
              case hy3_17 => ((try dsimp only at hSw); go_simp; try with_reducible rfl)
              simp only [Act.put, List.setIfInBounds_toArray, List.set_cons_zero, List.set_cons_succ]
              refine Tl.headX_tk 4 ?v4_18 rfl (by kernel_rfl) (by decide) (by kernel_rfl) (by kernel_rfl) (by kernel_rfl) (fun _ _ _ h => h) (by rfl) (fun W hSw => ?hy4_18) hS ?_
              case hy4_18 => ((try dsimp only at hSw); go_simp; try with_reducible rfl)
              simp only [Act.put, List.setIfInBounds_toArray, List.set_cons_zero, List.set_cons_succ]
              refine Tl.headX_tk 5 ?v5_19 rfl (by kernel_rfl) (by decide) (by kernel_rfl) (by kernel_rfl) (by kernel_rfl) (fun _ _ _ h => h) (by rfl) (fun W hSw => ?hy5_19) hS ?_
              case hy5_19 => ((try dsimp only at hSw); go_simp; try with_reducible rfl)
              simp only [Act.put, List.setIfInBounds_toArray, List.set_cons_zero, List.set_cons_succ]
              refine Tl.headX_tk 6 ?v6_20 rfl (by kernel_rfl) (by decide) (by kernel_rfl) (by kernel_rfl) (by kernel_rfl) (fun _ _ _ h => h) (by rfl) (fun W hSw => ?hy6_20) hS ?_
              case hy6_20 => ((try dsimp only at hSw); go_simp; try with_reducible rfl)
              simp only [Act.put, List.setIfInBounds_toArray, List.set_cons_zero, List.set_cons_succ]
              refine Tl.headX_tk 7 ?v7_21 rfl (by kernel_rfl) (by decide) (by kernel_rfl) (by kernel_rfl) (by kernel_rfl) (fun _ _ _ h => h) (by rfl) (fun W hSw => ?hy7_21) hS ?_
              case hy7_21 => ((try dsimp only at hSw); go_simp; try with_reducible rfl)
              simp only [Act.put, List.setIfInBounds_toArray, List.set_cons_zero, List.set_cons_succ]
              refine Tl.headX_tk 8 ?v8_22 rfl (by kernel_rfl) (by decide) (by kernel_rfl) (by kernel_rfl) (by kernel_rfl) (fun _ _ _ h => h) (by rfl) (fun W hSw => ?hy8_22) hS ?_
              case hy8_22 => ((try dsimp only at hSw); go_simp; try with_reducible rfl)
              simp only [Act.put, List.setIfInBounds_toArray, List.set_cons_zero, List.set_cons_succ]
              refine Tl.headX_tk 9 ?v9_23 rfl (by kernel_rfl) (by decide) (by kernel_rfl) (by kernel_rfl) (by kernel_rfl) (fun _ _ _ h => h) (by rfl) (fun W hSw => ?hy9_23) hS ?_
              case hy9_23 => ((try dsimp only at hSw); go_simp; try with_reducible rfl)
              simp only [Act.put, List.setIfInBounds_toArray, List.set_cons_zero, List.set_cons_succ]
              refine Tl.headX_tk 10 ?v10_24 rfl (by kernel_rfl) (by decide) (by kernel_rfl) (by kernel_rfl) (by kernel_rfl) (fun _ _ _ h => h) (by rfl) (fun W hSw => ?hy10_24) hS ?_
              case hy10_24 => ((try dsimp only at hSw); go_simp; try with_reducible rfl)
              simp only [Act.put, List.setIfInBounds_toArray, List.set_cons_zero, List.set_cons_succ]
              refine Tl.headX_tk 11 ?v11_25 rfl (by kernel_rfl) (by decide) (by kernel_rfl) (by kernel_rfl) (by kernel_rfl) (fun _ _ _ h => h) (by rfl) (fun W hSw => ?hy11_25) hS ?_
              case hy11_25 => ((try dsimp only at hSw); go_simp; try with_reducible rfl)
              simp only [Act.put, List.setIfInBounds_toArray, List.set_cons_zero, List.set_cons_succ]
              refine Tl.headX_tk 12 ?v12_26 rfl (by kernel_rfl) (by decide) (by kernel_rfl) (by kernel_rfl) (by kernel_rfl) (fun _ _ _ h => h) (by rfl) (fun W hSw => ?hy12_26) hS ?_
              case hy12_26 => ((try dsimp only at hSw); go_simp; try with_reducible rfl)
              simp only [Act.put, List.setIfInBounds_toArray, List.set_cons_zero, List.set_cons_succ]
              refine Tl.headX_tk 13 ?v13_27 rfl (by kernel_rfl) (by decide) (by kernel_rfl) (by kernel_rfl) (by kernel_rfl) (fun _ _ _ h => h) (by rfl) (fun W hSw => ?hy13_27) hS ?_
              case hy13_27 => ((try dsimp only at hSw); go_simp; try with_reducible rfl)
              simp only [Act.put, List.setIfInBounds_toArray, List.set_cons_zero, List.set_cons_succ]
              refine Tl.headX_tk 14 ?v14_28 rfl (by kernel_rfl) (by decide) (by kernel_rfl) (by kernel_rfl) (by kernel_rfl) (fun _ _ _ h => h) (by rfl) (fun W hSw => ?hy14_28) hS ?_
              case hy14_28 => ((try dsimp only at hSw); go_simp; try with_reducible rfl)
              simp only [Act.put, List.setIfInBounds_toArray, List.set_cons_zero, List.set_cons_succ]
              refine Tl.headX_tk 15 ?v15_29 rfl (by kernel_rfl) (by decide) (by kernel_rfl) (by kernel_rfl) (by kernel_rfl) (fun _ _ _ h => h) (by rfl) (fun W hSw => ?hy15_29) hS ?_
              case hy15_29 => ((try dsimp only at hSw); go_simp; try with_reducible rfl)
              simp only [Act.put, List.setIfInBounds_toArray, List.set_cons_zero, List.set_cons_succ]
              refine Tl.headX_rest (by kernel_rfl) ?_
              simp only [List.drop_succ_cons, List.drop_zero]
              clear hS
              go_wp2_with fail
              refine HAD.out.mono ?_
              rintro e w8 ⟨rfl, ha⟩
              have HH2 : Hid (TkH w w6 w8 b9 s O (j + 1)) := Lib.hid (by
                obtain ⟨g1, g2, g3, g4⟩ := ha.out
                rw [HNX.out] at g1
                refine ⟨HH.out.below.trans ((Below.refl _ wr).drew.trans g2), g1, g3, fun k h1 h2 => (g4 k h1 h2).trans (HH.out.kept k h1 h2)⟩)
              clear ha HAD
              go_wp2_with fail
              go_roundg (gk - 1)
              case measure => omega
              case rel => exact ⟨j + 1, by have := HN2.out; omega, by go_num, HH2⟩
            · have hjn : j = n2 := by omega
              obtain ⟨vo, vv, vc, vi, hbx, r1, r2, r3, r4⟩ := HH.out.bx
              obtain ⟨F0, N0, f0, rfl⟩ : ∃ F N f, vo = .slice F N f := by
                obtain ⟨F, f, e, _⟩ := IOwn.form r1
                exact ⟨F, _, f, e⟩
              obtain ⟨F1, N1, f1, rfl⟩ : ∃ F N f, vv = .slice F N f := by
                obtain ⟨F, f, e, _⟩ := Sq.QOwn.form r2
                exact ⟨F, _, f, e⟩
              obtain ⟨F2, N2, f2, rfl⟩ : ∃ F N f, vc = .slice F N f := by
                obtain ⟨F, f, e, _⟩ := Sq.BOwn.form r3
                exact ⟨F, _, f, e⟩
              obtain ⟨F3, N3, f3, rfl⟩ : ∃ F N f, vi = .slice F N f := by
                obtain ⟨F, f, e, _⟩ := KOwn.room r4
                exact ⟨F, _, f, e⟩
              have hbx' : wr.heap[b9]? = some (.cells #[.int .i64 s.st, .slice F0 N0 f0, .slice F1 N1 f1, .slice F2 N2 f2, .slice F3 N3 f3] 27 (0, 0)) := hbx
              obtain ⟨x0, x1, x2, x3, x4, _⟩ := five hbx'
              obtain ⟨p0, p1, p2, p3, p4, _⟩ := five HZr.out
              have fz0 := Lib.frozen_of_heap HZr.out 0
              have fz1 := Lib.frozen_of_heap HZr.out 1
              have fz2 := Lib.frozen_of_heap HZr.out 2
              have fz3 := Lib.frozen_of_heap HZr.out 3
              have fz4 := Lib.frozen_of_heap HZr.out 4
              have HPW : Hid (POwn (put5 wr b1 (.int .i64 s.st) (.slice F0 N0 f0) (.slice F1 N1 f1) (.slice F2 N2 f2) (.slice F3 N3 f3)) w.heap.size (.agg #[.int .i64 s.st, .slice F0 N0 f0, .slice F1 N1 f1, .slice F2 N2 f2, .slice F3 N3 f3]) (nrmP (takeP s k x)) ∧ (put5 wr b1 (.int .i64 s.st) (.slice F0 N0 f0) (.slice F1 N1 f1) (.slice F2 N2 f2) (.slice F3 N3 f3)).heap[b1]? = some (.cells #[.int .i64 s.st, .slice F0 N0 f0, .slice F1 N1 f1, .slice F2 N2 f2, .slice F3 N3 f3] 27 (0, 0)) ∧ Below w.heap.size w (put5 wr b1 (.int .i64 s.st) (.slice F0 N0 f0) (.slice F1 N1 f1) (.slice F2 N2 f2) (.slice F3 N3 f3))) := Lib.hid (by
                have hw6 : w.heap.size ≤ w6.heap.size := Nat.le_trans HB1.out.size (Nat.le_trans HB6.out.size (Nat.le_refl _))
                have e : O.take j = O := by rw [hjn, ← HN2.out, List.take_length]
                rw [e, HO.out.1] at r1 r2 r3 r4
                refine ⟨put5_rows ⟨_, _, _, _, rfl, own_mono r1 hw6, own_mono r2 hw6, own_mono r3 hw6, r4.mono hw6⟩ HZr.out offP _ _ _ _ _, put5_heap HZr.out _ _ _ _ _, put5_below HH.out.below HL.out.2.1 _ _ _ _ _⟩)
              clear hbx hbx' r1 r2 r3 r4 hjn
              go_wp2_with fail
              refine bodyPost_ret (v := .tuple #[.agg #[.int .i64 s.st, .slice F0 N0 f0, .slice F1 N1 f1, .slice F2 N2 f2, .slice F3 N3 f3], .int .i64 0]) (res2_p _ 6 7 _ _ b1 _ _ _ _ _ _ rfl rfl rfl HPW.out.2.1) rfl ?_
              rw [HM.out]
              exact ⟨_, rfl, Lib.hid HPW.out.1, Lib.hid HPW.out.2.2⟩
  · have HR : Hid (takeR s k x = (noneP, 2)) := Lib.hid (by unfold takeR; rw [if_neg hk])
    have HF := HE1
    go_enter Try.func21, Try.ntmps21
    go_upto_region 1 with fail
    rw [← hW1, show w.heap.size + 1 = b1 from e1.symm, show w.heap.size = b0 from e0.symm]
    clear hW1 e0 e1
    by_cases k1 : 1 ≤ k
    · by_cases k2 : k ≤ 64
      · by_cases k3 : 0 ≤ x
        · have k4 : ¬ x < k := fun h => hk ⟨k1, k2, k3, h⟩
          clear hk
          go_wp2
          refine bodyPost_ret (v := .tuple #[.agg #[.int .i64 0, .slice none 0 0, .slice none 0 0, .slice none 0 0, .slice none 0 0], .int .i64 2]) (res2_p _ 6 7 _ _ b1 _ _ _ _ _ _ rfl rfl rfl HF.out.1) rfl ?_
          rw [HR.out]
          exact ⟨_, rfl, Lib.hid (POwn.zero _ _), Lib.hid HF.out.2⟩
        · clear hk
          go_wp2
          refine bodyPost_ret (v := .tuple #[.agg #[.int .i64 0, .slice none 0 0, .slice none 0 0, .slice none 0 0, .slice none 0 0], .int .i64 2]) (res2_p _ 6 7 _ _ b1 _ _ _ _ _ _ rfl rfl rfl HF.out.1) rfl ?_
          rw [HR.out]
          exact ⟨_, rfl, Lib.hid (POwn.zero _ _), Lib.hid HF.out.2⟩
      · clear hk
        go_wp2
        refine bodyPost_ret (v := .tuple #[.agg #[.int .i64 0, .slice none 0 0, .slice none 0 0, .slice none 0 0, .slice none 0 0], .int .i64 2]) (res2_p _ 6 7 _ _ b1 _ _ _ _ _ _ rfl rfl rfl HF.out.1) rfl ?_
        rw [HR.out]
        exact ⟨_, rfl, Lib.hid (POwn.zero _ _), Lib.hid HF.out.2⟩
    · clear hk
      go_wp2
      refine bodyPost_ret (v := .tuple #[.agg #[.int .i64 0, .slice none 0 0, .slice none 0 0, .slice none 0 0, .slice none 0 0], .int .i64 2]) (res2_p _ 6 7 _ _ b1 _ _ _ _ _ _ rfl rfl rfl HF.out.1) rfl ?_
      rw [HR.out]
      exact ⟨_, rfl, Lib.hid (POwn.zero _ _), Lib.hid HF.out.2⟩
end Go.Proofs.Ytfbfckdabbaocaa.St
