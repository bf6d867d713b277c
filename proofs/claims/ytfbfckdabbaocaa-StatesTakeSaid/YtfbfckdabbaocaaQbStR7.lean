/-
  What is proved here: a contract of the document's whole: the part of all vertices, with at most 600 numbers. Condition: the values' length fits an int.
-/
import Derived.Test.YtfbfckdabbaocaaQbStR6
import Derived.Test.YtfbfckdabbaocaaQbStTk
namespace Go.Proofs.Ytfbfckdabbaocaa.St
open Go.RowKit Gr Wd Ws Fx Rk Lb Al In
open Pt (vs vs_len vs_succ)
open Sq (BAt BOwn QOwn bls app_q app_b)
open Fld (dg num)
def WhRel (w W0 : World) (b3 B : Nat) (st : Int) (Av Ac Ai : Option Addr) (nv nc ni cv cc ci M : Nat) (g : Nat) (i : Value) (wr : World) : Prop :=
  ∃ (k : Nat) (F : Option Addr) (N f : Nat), k + g = M ∧ i = .int .i64 (k : Int) ∧ Hid (Bx4 35 w.heap.size 0 W0 wr b3 B #[.int .i64 st, (.slice F N f), .slice Av nv cv, .slice Ac nc cc, .slice Ai ni ci] (.slice F N f) (.slice none 0 0) (.slice none 0 0) (.slice none 0 0) ⟨st, vs k, [], [], []⟩)
set_option maxRecDepth 100000 in
set_option maxHeartbeats 8000000 in
theorem rwhole_any (st : Int) (Av Ac Ai : Option Addr) (nv nc ni cv cc ci : Nat) (z1 z2 : Int) (w : World) (hv : nv ≤ 9223372036854775807) :
    Calls Try.prog 54 #[.agg #[.int .i64 st, .slice Av nv cv, .slice Ac nc cc, .slice Ai ni ci, .int .i64 z1, .int .i64 z2]] w fun e w' => ∃ A c, e = .returned (.agg #[.int .i64 st, .slice A (min nv 600) c, .slice Av nv cv, .slice Ac nc cc, .slice Ai ni ci]) ∧ Hid (IAt w' A (vs (min nv 600))) ∧ Hid (Below w.heap.size w w') := by
  obtain ⟨M, hM⟩ : ∃ M, min nv 600 = M := ⟨_, rfl⟩
  rw [hM]
  have hal := al2 w (.cells #[.int .i64 st, .slice Av nv cv, .slice Ac nc cc, .slice Ai ni ci, .int .i64 z1, .int .i64 z2] 48) (.cells #[.int .i64 0, .slice none 0 0, .slice none 0 0, .slice none 0 0, .slice none 0 0] 35)
  obtain ⟨W1, hW1⟩ : ∃ W1, W1 = (w.alloc (.cells #[.int .i64 st, .slice Av nv cv, .slice Ac nc cc, .slice Ai ni ci, .int .i64 z1, .int .i64 z2] 48)).alloc (.cells #[.int .i64 0, .slice none 0 0, .slice none 0 0, .slice none 0 0, .slice none 0 0] 35) := ⟨_, rfl⟩
  rw [← hW1] at hal
  obtain ⟨b1, e1⟩ : ∃ b1, b1 = w.heap.size := ⟨_, rfl⟩
  obtain ⟨b2, e2⟩ : ∃ b2, b2 = w.heap.size + 1 := ⟨_, rfl⟩
  obtain ⟨y0, y1, hb1⟩ := hal
  rw [← e1] at y0; rw [← e2] at y1
  have hb3 : Below w.heap.size w (W1.alloc (.cells #[.int .i64 st, (.slice none 0 0), .slice Av nv cv, .slice Ac nc cc, .slice Ai ni ci] 35)) := hb1.alloc hb1.size _
  have hx3 := heap_alloc_new W1 (.cells #[.int .i64 st, (.slice none 0 0), .slice Av nv cv, .slice Ac nc cc, .slice Ai ni ci] 35)
  have hy3 := (Below.refl _ W1).alloc (Nat.le_refl _) (.cells #[.int .i64 st, (.slice none 0 0), .slice Av nv cv, .slice Ac nc cc, .slice Ai ni ci] 35)
  have hs3 : (W1.alloc (.cells #[.int .i64 st, (.slice none 0 0), .slice Av nv cv, .slice Ac nc cc, .slice Ai ni ci] 35)).heap.size = W1.heap.size + 1 := by simp
  obtain ⟨s0, s1, s2, s3, s4, s5, _⟩ := Sq.six y0
  obtain ⟨W0, hW0⟩ : ∃ W0, W0 = W1.alloc (.cells #[.int .i64 st, (.slice none 0 0), .slice Av nv cv, .slice Ac nc cc, .slice Ai ni ci] 35) := ⟨_, rfl⟩
  obtain ⟨b3, e3⟩ : ∃ b3, b3 = W1.heap.size := ⟨_, rfl⟩
  rw [← hW0] at hb3 hx3 hy3 hs3
  rw [← e3] at hx3
  obtain ⟨B, eB⟩ : ∃ B, W0.heap.size = B := ⟨_, rfl⟩
  have HS := Lib.hid (keep y0 hy3)
  have HZ := Lib.hid (keep y1 hy3)
  have HG : Hid (w.heap.size ≤ b1 ∧ w.heap.size ≤ b2 ∧ w.heap.size ≤ b3 ∧ b1 ≠ b3 ∧ b2 ≠ b3 ∧ b1 ≠ b2 ∧ b1 < B ∧ b2 < B ∧ b3 < B) := Lib.hid (by
    have := lt_of_block y0; have := lt_of_block y1
    refine ⟨by omega, by omega, by omega, by omega, by omega, by omega, by omega, by omega, by omega⟩)
  have HX : Hid (Bx4 35 w.heap.size 0 W0 W0 b3 B #[.int .i64 st, (.slice none 0 0), .slice Av nv cv, .slice Ac nc cc, .slice Ai ni ci] (.slice none 0 0) (.slice none 0 0) (.slice none 0 0) (.slice none 0 0) ⟨st, vs 0, [], [], []⟩) := Lib.hid ⟨hx3, ⟨IOwn.none_ _ _, QOwn.none_ _ _, BOwn.none_ _ _, KOwn.none_ _ _⟩, Below.refl _ _, ⟨HG.out.2.2.1, by have := HG.out; omega, hb3.size, by omega, rfl⟩, fun _ _ _ => rfl⟩
  have HW0 := Lib.hid hb3
  clear y0 y1 hb1 hb3 hx3 hy3 hs3 eB
  go_enter Try.func54, Try.ntmps54
  go_upto_region 1 with fail
  rw [← hW1, show w.heap.size + 1 = b2 from e2.symm, show w.heap.size = b1 from e1.symm]
  clear hW1 e1 e2
  go_upto_region 2 with fail
  rw [← hW0, show W1.heap.size = b3 from e3.symm]
  clear hW0 e3 s0 s1 s2 s3 s4 s5
  go_wp2_with fail
  go_loopg [4] M (fun g i wr => WhRel w W0 b3 B st Av Ac Ai nv nc ni cv cc ci M g i wr)
  case atStart => exact ⟨0, none, 0, 0, by omega, rfl, HX⟩
  case round =>
    obtain ⟨k, F, N, f, hk, rfl, HXk⟩ := hrel
    clear HX
    obtain ⟨s0, s1, s2, s3, s4, s5, _⟩ := Sq.six ((HXk.out.kept b1 HG.out.2.2.2.2.2.2.1 HG.out.2.2.2.1).trans HS.out)
    obtain ⟨c0, c1, c2, c3, c4, _⟩ := five HXk.out.box
    by_cases hlt : k < nv ∧ k < 600
    · obtain ⟨hlt1, hlt2⟩ := hlt
      have HA := Lib.hid (HXk.out.alloc (.cells #[.int .i64 (k : Int)] 3))
      have HN := Lib.hid (heap_alloc_new wr (.cells #[.int .i64 (k : Int)] 3))
      go_wp2_with (at_builtin; refine app_i rfl (.tmp 26) (.tmp 28) rfl B _ _ (k : Int) rfl HA.out.rows.1 _ rfl HN.out (Nat.lt_of_le_of_lt (Nat.le_of_eq (vs_len k)) (by omega)) HA.out.lo.2.2.2.1 ?_)
      intro v' w2 ho2 hg2
      have hx2 := HA.out.appI offR ho2 hg2
      obtain ⟨F', N', f', rfl⟩ := row_sl ho2
      have HX2 := Lib.hid hx2
      have hx3 := HX2.out.put offR 1 (.slice F' N' f')
      have HX3 : Hid (Bx4 35 w.heap.size 0 W0 (w2.setCell ⟨b3, 1, none⟩ (.slice F' N' f')) b3 B #[.int .i64 st, (.slice F' N' f'), .slice Av nv cv, .slice Ac nc cc, .slice Ai ni ci] (.slice F' N' f') (.slice none 0 0) (.slice none 0 0) (.slice none 0 0) ⟨st, vs (k + 1), [], [], []⟩) := Lib.hid (by rw [vs_succ]; exact hx3)
      clear ho2 hg2 hx2 hx3 HA HN c0 c1 c2 c3 c4 s0 s1 s2 s3 s4 s5
      have fz : w2.frozen? ⟨b3, 1, none⟩ = false := Lib.frozen_of_heap HX2.out.box _
      obtain ⟨c0, c1, c2, c3, c4, _⟩ := five HX2.out.box
      go_wp2_with fail
      go_roundg (gk - 1)
      case measure => omega
      case rel => exact ⟨k + 1, F', N', f', by omega, by go_num, HX3⟩
    · obtain rfl : M = k := by omega
      obtain ⟨p0, p1, p2, p3, p4, _⟩ := five ((HXk.out.kept b2 HG.out.2.2.2.2.2.2.2.1 HG.out.2.2.2.2.1).trans HZ.out)
      have HZk := Lib.hid ((HXk.out.kept b2 HG.out.2.2.2.2.2.2.2.1 HG.out.2.2.2.2.1).trans HZ.out)
      have fz0 := Lib.frozen_of_heap HZk.out 0
      have fz1 := Lib.frozen_of_heap HZk.out 1
      have fz2 := Lib.frozen_of_heap HZk.out 2
      have fz3 := Lib.frozen_of_heap HZk.out 3
      have fz4 := Lib.frozen_of_heap HZk.out 4
      obtain ⟨F1, f1, e1, i1⟩ := IOwn.form HXk.out.rows.1
      injection e1 with e1 e2 e3
      have HNk : Hid (N = M) := Lib.hid (by rw [e2]; exact vs_len _)
      have HPW : Hid ((put5 wr b2 (.int .i64 st) (.slice F N f) (.slice Av nv cv) (.slice Ac nc cc) (.slice Ai ni ci)).heap[b2]? = some (.cells #[.int .i64 st, (.slice F N f), .slice Av nv cv, .slice Ac nc cc, .slice Ai ni ci] 35 (0, 0)) ∧ IAt (put5 wr b2 (.int .i64 st) (.slice F N f) (.slice Av nv cv) (.slice Ac nc cc) (.slice Ai ni ci)) F (vs (M)) ∧ Below w.heap.size w (put5 wr b2 (.int .i64 st) (.slice F N f) (.slice Av nv cv) (.slice Ac nc cc) (.slice Ai ni ci))) := Lib.hid (by
        refine ⟨put5_heap HZk.out _ _ _ _ _, ?_, put5_below (HW0.out.trans HXk.out.below) HG.out.2.1 _ _ _ _ _⟩
        obtain ⟨A', c', e', h'⟩ := IOwn.form (own_moved' HXk.out.rows.1 HZk.out (by decide) (put5_other wr b2 · (.int .i64 st) (.slice F N f) (.slice Av nv cv) (.slice Ac nc cc) (.slice Ai ni ci)))
        injection e' with e4 e5 e6
        rw [← e4] at h'
        exact h')
      clear e1 e2 e3 i1
      by_cases h1 : ¬ M < nv
      · have hq1 : ¬ M < nv := by omega
        clear hM
        go_wp2_with fail
        refine bodyPost_ret (v := .agg #[.int .i64 st, (.slice F N f), .slice Av nv cv, .slice Ac nc cc, .slice Ai ni ci]) (res_r _ 2 _ _ b2 _ _ _ _ _ rfl rfl HPW.out.1) rfl ?_
        refine ⟨F, f, by rw [HNk.out], Lib.hid HPW.out.2.1, Lib.hid HPW.out.2.2⟩
      · have hq1 : M < nv ∨ ¬ M < nv := by omega
        have hq2 : ¬ M < 600 := by omega
        clear hM
        go_wp2_with fail
        refine bodyPost_ret (v := .agg #[.int .i64 st, (.slice F N f), .slice Av nv cv, .slice Ac nc cc, .slice Ai ni ci]) (res_r _ 2 _ _ b2 _ _ _ _ _ rfl rfl HPW.out.1) rfl ?_
        refine ⟨F, f, by rw [HNk.out], Lib.hid HPW.out.2.1, Lib.hid HPW.out.2.2⟩
end Go.Proofs.Ytfbfckdabbaocaa.St
