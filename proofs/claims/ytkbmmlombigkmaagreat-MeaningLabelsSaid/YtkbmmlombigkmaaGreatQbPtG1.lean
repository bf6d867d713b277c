/-
  What is proved here: contracts of graph.isVertex, edgeMayBe, isAhead, turned, of the document's own fits and ahead, and of the kit's Light. Conditions: numbers fit an int.
-/
import Derived.Test.YtkbmmlombigkmaaGreatQbPtGe
import Derived.Shelf.SlSortCmp.QuietGrown
namespace Go.Proofs.YtkbmmlombigkmaaGreat.Gr
open Go.RowKit Wd Ws
def Grw (w w' : World) : Prop := ∃ (q : Nat) (os : Array Obj), w' = Sort.grow (w.drewN q) os
theorem Grw.refl (w : World) : Grw w w := ⟨0, #[], by rw [Sort.grow_empty]; rfl⟩
theorem Grw.alloc {w w' : World} (h : Grw w w') (o : Obj) : Grw w (w'.alloc o) := by
  obtain ⟨q, os, rfl⟩ := h
  exact ⟨q, os ++ #[o], by rw [Sort.alloc_eq_grow, Sort.grow_grow]⟩
theorem Grw.drew {w w' : World} (h : Grw w w') : Grw w w'.drew := by
  obtain ⟨q, os, rfl⟩ := h
  exact ⟨q + 1, os, by rw [Sort.drew_grow]; rfl⟩
theorem Grw.trans {a b c : World} (h : Grw a b) (k : Grw b c) : Grw a c := by
  obtain ⟨q, os, rfl⟩ := h
  obtain ⟨r, os', rfl⟩ := k
  refine ⟨q + r, os ++ os', ?_⟩
  show Sort.grow (Sort.grow ((a.drewN q).drewN r) os) os' = _
  rw [Sort.grow_grow, World.drewN_drewN]
theorem Grw.below {w w' : World} (h : Grw w w') : Below w.heap.size w w' := by
  obtain ⟨q, os, rfl⟩ := h
  exact below_grow w q os
theorem Grw.quiet {P : Program} {f : FuncId} {args : Array Value} {w : World} {n : Nat} {os : Array Obj} {v : Value}
    (h : Calls P f args (Sort.grow (w.drewN n) os) fun e w' => e = .returned v ∧ Grw (Sort.grow (w.drewN n) os) w') : Calls P f args (Sort.grow (w.drewN n) os) fun e w'' => e = .returned v ∧ ∃ p : GrownBy, w'' = Sort.grow (w.drewN p.n) p.os :=
  Calls.grown_of h
theorem grw_at (w : World) (n : Nat) (os : Array Obj) : Grw w (Sort.grow (w.drewN n) os) := ⟨n, os, rfl⟩
theorem two_boxes (w : World) (x y : Obj) : Below w.heap.size w ((w.alloc x).alloc y) := ((Grw.refl w).alloc x |>.alloc y).below
theorem step_below {B : Nat} {a b c : World} (h : Below B a b) (hB : B ≤ b.heap.size) (k : Below b.heap.size b c) : Below B a c := h.trans (k.mono hB)
theorem ret_b {a b : Bool} (h : a = b) : Ending.returned (.bool a) = .returned (.bool b) := by rw [h]
theorem isVertex_any (v V : Int) (w : World) : Calls Tryz.prog 70 #[.int .i64 v, .int .i64 V] w fun e w' => e = .returned (.bool (decide (0 ≤ v) && decide (v < V))) ∧ w = w' := by
  by_cases h1 : 0 ≤ v
  · go_enter Tryz.func70, Tryz.ntmps70
    go_wp2
    go_ret
    refine ⟨ret_b ?_, rfl⟩
    simp [h1]
  · go_enter Tryz.func70, Tryz.ntmps70
    go_wp2
    go_ret
    refine ⟨ret_b ?_, rfl⟩
    simp; omega
theorem isVertex_at (v V : Int) (r : Bool) (w : World) (hr : Hid ((decide (0 ≤ v) && decide (v < V)) = r)) : Calls Tryz.prog 70 #[.int .i64 v, .int .i64 V] w fun e w' => e = .returned (.bool r) ∧ w = w' := by
  rw [← hr.out]; exact isVertex_any v V w
set_option maxRecDepth 100000 in
theorem edgeMayBe_any (a b c V : Int) (w : World) :
    Calls Tryz.prog 46 #[.int .i64 a, .int .i64 b, .int .i64 c, .int .i64 V] w fun e w' => e = .returned (.bool (fitE V (a, b, c))) ∧ w = w' := by
  obtain ⟨ra, ha⟩ : ∃ ra, (decide (0 ≤ a) && decide (a < V)) = ra := ⟨_, rfl⟩
  obtain ⟨rb, hb⟩ : ∃ rb, (decide (0 ≤ b) && decide (b < V)) = rb := ⟨_, rfl⟩
  have e : fitE V (a, b, c) = (ra && rb && (decide (0 ≤ c) && decide (c < 2147483648))) := by
    rw [← ha, ← hb]; unfold fitE; simp only [Bool.and_assoc]
  rw [e]; clear e
  have HA := Lib.hid ha; have HB := Lib.hid hb; clear ha hb
  cases ra with
  | false =>
    go_enter Tryz.func46, Tryz.ntmps46
    go_wp2_with fail
    refine (isVertex_at a V _ _ HA).mono ?_
    rintro e w' ⟨rfl, rfl⟩
    go_wp2_with fail
    go_ret
    exact ⟨rfl, rfl⟩
  | true =>
    cases rb with
    | false =>
      go_enter Tryz.func46, Tryz.ntmps46
      go_wp2_with fail
      refine (isVertex_at a V _ _ HA).mono ?_
      rintro e w' ⟨rfl, rfl⟩
      go_wp2_with fail
      refine (isVertex_at b V _ _ HB).mono ?_
      rintro e w' ⟨rfl, rfl⟩
      go_wp2_with fail
      go_ret
      exact ⟨rfl, rfl⟩
    | true =>
      by_cases h1 : 0 ≤ c
      · go_enter Tryz.func46, Tryz.ntmps46
        go_wp2_with fail
        refine (isVertex_at a V _ _ HA).mono ?_
        rintro e w' ⟨rfl, rfl⟩
        go_wp2_with fail
        refine (isVertex_at b V _ _ HB).mono ?_
        rintro e w' ⟨rfl, rfl⟩
        go_wp2_with fail
        go_ret
        refine ⟨ret_b ?_, rfl⟩
        simp [h1]
      · go_enter Tryz.func46, Tryz.ntmps46
        go_wp2_with fail
        refine (isVertex_at a V _ _ HA).mono ?_
        rintro e w' ⟨rfl, rfl⟩
        go_wp2_with fail
        refine (isVertex_at b V _ _ HB).mono ?_
        rintro e w' ⟨rfl, rfl⟩
        go_wp2_with fail
        go_ret
        refine ⟨ret_b ?_, rfl⟩
        simp; omega
theorem edgeMayBe_at (a b c V : Int) (r : Bool) (w : World) (hr : Hid (fitE V (a, b, c) = r)) :
    Calls Tryz.prog 46 #[.int .i64 a, .int .i64 b, .int .i64 c, .int .i64 V] w fun e w' => e = .returned (.bool r) ∧ w = w' := by
  rw [← hr.out]; exact edgeMayBe_any a b c V w
theorem edgeMayBe_q (a b c V : Int) (r : Bool) (w : World) (hr : Hid (fitE V (a, b, c) = r)) :
    Calls Tryz.prog 46 #[.int .i64 a, .int .i64 b, .int .i64 c, .int .i64 V] w fun e w' => e = .returned (.bool r) ∧ Grw w w' :=
  (edgeMayBe_at a b c V r w hr).mono fun _ _ ⟨h1, h2⟩ => ⟨h1, by rw [← h2]; exact Grw.refl w⟩
theorem isAhead_any (a0 a1 a2 b0 b1 b2 : Int) (w : World) :
    Calls Tryz.prog 47 #[.agg #[.int .i64 a0, .int .i64 a1, .int .i64 a2], .agg #[.int .i64 b0, .int .i64 b1, .int .i64 b2]] w fun e w' => e = .returned (.bool (ahd (a0, a1, a2) (b0, b1, b2))) ∧ Grw w w' := by
  have hz : Grw w ((w.alloc (.cells #[.int .i64 a0, .int .i64 a1, .int .i64 a2] 33)).alloc (.cells #[.int .i64 b0, .int .i64 b1, .int .i64 b2] 33)) :=
    ((Grw.refl w).alloc _).alloc _
  have HZ := Lib.hid hz; clear hz
  by_cases h1 : a0 < b0
  · go_enter Tryz.func47, Tryz.ntmps47
    go_wp2
    go_ret
    refine ⟨ret_b ?_, HZ.out⟩
    simp [ahd, h1]
  · by_cases h2 : a0 = b0
    · subst h2
      go_enter Tryz.func47, Tryz.ntmps47
      go_wp2
      go_ret
      refine ⟨ret_b ?_, HZ.out⟩
      simp [ahd]
    · go_enter Tryz.func47, Tryz.ntmps47
      go_wp2
      go_ret
      refine ⟨ret_b ?_, HZ.out⟩
      simp [ahd, h1, h2]
theorem isAhead_at (a0 a1 a2 b0 b1 b2 : Int) (r : Bool) (w : World) (hr : Hid (ahd (a0, a1, a2) (b0, b1, b2) = r)) :
    Calls Tryz.prog 47 #[.agg #[.int .i64 a0, .int .i64 a1, .int .i64 a2], .agg #[.int .i64 b0, .int .i64 b1, .int .i64 b2]] w fun e w' => e = .returned (.bool r) ∧ Grw w w' := by
  rw [← hr.out]; exact isAhead_any a0 a1 a2 b0 b1 b2 w
theorem rahead_any (a0 a1 a2 b0 b1 b2 : Int) (w : World) :
    Calls Tryz.prog 45 #[.agg #[.int .i64 a0, .int .i64 a1, .int .i64 a2], .agg #[.int .i64 b0, .int .i64 b1, .int .i64 b2]] w fun e w' => e = .returned (.bool (ahd (a0, a1, a2) (b0, b1, b2))) ∧ Grw w w' := by
  have hz : Grw w ((w.alloc (.cells #[.int .i64 a0, .int .i64 a1, .int .i64 a2] 33)).alloc (.cells #[.int .i64 b0, .int .i64 b1, .int .i64 b2] 33)) :=
    ((Grw.refl w).alloc _).alloc _
  have HZ := Lib.hid hz; clear hz
  by_cases h1 : a0 < b0
  · go_enter Tryz.func45, Tryz.ntmps45
    go_wp2
    go_ret
    refine ⟨ret_b ?_, HZ.out⟩
    simp [ahd, h1]
  · by_cases h2 : a0 = b0
    · subst h2
      go_enter Tryz.func45, Tryz.ntmps45
      go_wp2
      go_ret
      refine ⟨ret_b ?_, HZ.out⟩
      simp [ahd]
    · go_enter Tryz.func45, Tryz.ntmps45
      go_wp2
      go_ret
      refine ⟨ret_b ?_, HZ.out⟩
      simp [ahd, h1, h2]
theorem rahead_at (a0 a1 a2 b0 b1 b2 : Int) (r : Bool) (w : World) (hr : Hid (ahd (a0, a1, a2) (b0, b1, b2) = r)) :
    Calls Tryz.prog 45 #[.agg #[.int .i64 a0, .int .i64 a1, .int .i64 a2], .agg #[.int .i64 b0, .int .i64 b1, .int .i64 b2]] w fun e w' => e = .returned (.bool r) ∧ Grw w w' := by
  rw [← hr.out]; exact rahead_any a0 a1 a2 b0 b1 b2 w
theorem rfits_any (a b c V : Int) (w : World) :
    Calls Tryz.prog 44 #[.agg #[.int .i64 a, .int .i64 b, .int .i64 c], .int .i64 V] w fun e w' => e = .returned (.bool (fitE V (a, b, c))) ∧ Grw w w' := by
  have hz : Grw w (w.alloc (.cells #[.int .i64 a, .int .i64 b, .int .i64 c] 33)) := (Grw.refl w).alloc _
  have HZ := Lib.hid hz; clear hz
  by_cases h1 : 0 ≤ a
  · by_cases h2 : a < V
    · by_cases h3 : 0 ≤ b
      · by_cases h4 : b < V
        · by_cases h5 : 0 ≤ c
          · go_enter Tryz.func44, Tryz.ntmps44
            go_wp2
            go_ret
            refine ⟨ret_b ?_, HZ.out⟩
            simp [fitE, h1, h2, h3, h4, h5]
          · go_enter Tryz.func44, Tryz.ntmps44
            go_wp2
            go_ret
            refine ⟨ret_b ?_, HZ.out⟩
            simp [fitE, h1, h2, h3, h4]; omega
        · go_enter Tryz.func44, Tryz.ntmps44
          go_wp2
          go_ret
          refine ⟨ret_b ?_, HZ.out⟩
          simp [fitE, h1, h2, h3]; omega
      · go_enter Tryz.func44, Tryz.ntmps44
        go_wp2
        go_ret
        refine ⟨ret_b ?_, HZ.out⟩
        simp [fitE, h1, h2]; omega
    · go_enter Tryz.func44, Tryz.ntmps44
      go_wp2
      go_ret
      refine ⟨ret_b ?_, HZ.out⟩
      simp [fitE, h1]; omega
  · go_enter Tryz.func44, Tryz.ntmps44
    go_wp2
    go_ret
    refine ⟨ret_b ?_, HZ.out⟩
    simp [fitE]; omega
theorem rfits_at (a b c V : Int) (r : Bool) (w : World) (hr : Hid (fitE V (a, b, c) = r)) :
    Calls Tryz.prog 44 #[.agg #[.int .i64 a, .int .i64 b, .int .i64 c], .int .i64 V] w fun e w' => e = .returned (.bool r) ∧ Grw w w' := by
  rw [← hr.out]; exact rfits_any a b c V w
theorem light_any (V : Int) (A : Option Addr) (n c : Nat) (top : Nat) (w : World) :
    Calls Tryz.prog 23 #[.agg #[.int .i64 V, .slice A n c], .int .i64 (top : Int)] w fun e w' => e = .returned (.bool (decide (n ≤ top))) ∧ Grw w w' := by
  go_enter Tryz.func23, Tryz.ntmps23
  go_wp2
  go_ret
  refine ⟨ret_b ?_, (Grw.refl w).alloc _⟩
  simp
end Go.Proofs.YtkbmmlombigkmaaGreat.Gr
