/-
  What is proved here: the law AlgosCheck walked: it returns true, and no block that was there has changed. Conditions: numbers of 64 bits.
-/
import Derived.Test.YtobmkhbkcmdhbaaAlL1
import Derived.Test.YtobmkhbkcmdhbaaAlP5
import Derived.Test.YtobmkhbkcmdhbaaAlQ1
import Derived.Test.YtobmkhbkcmdhbaaAlQ4
namespace Go.Proofs.Ytobmkhbkcmdhbaa.Al
open Go.RowKit Go.Sort Gr Wd Ws Fx Rk Lb

theorem light_of (V : Int) (A : Option Addr) (n c : Nat) (top : Int) (b : Bool) (t : Nat) (ht : top = (t : Int)) (hb : decide (n ≤ t) = b) (w : World) :
    Calls Try.prog 8 #[.agg #[.int .i64 V, .slice A n c], .int .i64 top] w fun e w' => e = .returned (.bool b) ∧ Below w.heap.size w w' := by
  subst ht
  have := light_any V A n c t w
  rw [hb] at this
  exact this.mono fun e w' k => ⟨k.1, k.2.below⟩
def Lg (w : World) (b d : Nat) (k st so dm ep V : Int) (A : Option Addr) (n c : Nat) (L : List Ed) (W : World) : Prop := Lb1 w b k st so dm ep W ∧ W.heap[d]? = some (.cells #[.int .i64 V, .slice A n c] 24 (0, 0)) ∧ EAt W A L
theorem Lg.step {w W W' : World} {b d n c : Nat} {k st so dm ep V : Int} {A : Option Addr} {L : List Ed} (g : Lg w b d k st so dm ep V A n c L W) (hb : Below W.heap.size W W') : Lg w b d k st so dm ep V A n c L W' := ⟨g.1.step hb, keep g.2.1 hb, g.2.2.below hb⟩
theorem g_cells {W : World} {d : Nat} {V : Int} {s : Value} {T : TypeId} (h : W.heap[d]? = some (.cells #[.int .i64 V, s] T (0, 0))) : W.cell? ⟨d, 0, none⟩ = some (.int .i64 V) ∧ W.cell? ⟨d, 1, none⟩ = some s :=
  ⟨by rw [Lib.cell_of_heap h]; rfl, by rw [Lib.cell_of_heap h]; rfl⟩

set_option maxRecDepth 100000 in
set_option maxHeartbeats 2000000 in
theorem law_check (k st so dm ep V v s m : Int) (A : Option Addr) (c : Nat) (L : List Ed) (w : World) (hL : EAt w A L) (hm : L.length ≤ 9223372036854775807) (hV0 : -9223372036854775808 ≤ V) (hV1 : V ≤ 9223372036854775807) (hv0 : -9223372036854775808 ≤ v) (hv1 : v ≤ 9223372036854775807) :
    Calls Try.prog 3 #[.agg #[.int .i64 V, .slice A L.length c], .agg #[.int .u8 k, .int .i64 st, .int .i64 so, .int .i64 dm, .int .i64 ep], .int .i64 v, .int .i64 s, .int .i64 m] w fun e w' => e = .returned (.bool true) ∧ Below w.heap.size w w' := by
  have mixed := mixedO
  have hal := al2 w (.cells #[.int .i64 V, .slice A L.length c] 24) (.cells #[.int .u8 k, .int .i64 st, .int .i64 so, .int .i64 dm, .int .i64 ep] 26)
  obtain ⟨W1, hW1⟩ : ∃ W1, W1 = (w.alloc (.cells #[.int .i64 V, .slice A L.length c] 24)).alloc (.cells #[.int .u8 k, .int .i64 st, .int .i64 so, .int .i64 dm, .int .i64 ep] 26) := ⟨_, rfl⟩
  rw [← hW1] at hal
  obtain ⟨t0, g0⟩ : ∃ t0, t0 = w.heap.size := ⟨_, rfl⟩
  obtain ⟨t1, g1⟩ : ∃ t1, t1 = w.heap.size + 1 := ⟨_, rfl⟩
  obtain ⟨x0, x1, hb⟩ := hal
  rw [← g0] at x0; rw [← g1] at x1
  obtain ⟨n, hn⟩ : ∃ n, n = L.length := ⟨_, rfl⟩
  have HC := Lib.hid (fun W (h : EAt W A L) => checkj_any k st so dm ep V A c L W h hm)
  have HD := Lib.hid (fun W (h : EAt W A L) => rcheckj_any k st so dm ep V A c L W h hm)
  obtain ⟨R, hR⟩ : ∃ R, chkJ k st so dm ep V L = R := ⟨_, rfl⟩
  rw [hR] at HC HD
  rw [← hn] at x0 hW1 hm HC HD ⊢
  have HH : Hid (Lg w t1 t0 k st so dm ep V A n c L W1) := Lib.hid ⟨⟨hb, x1⟩, x0, hL.below hb⟩
  have k1 := start_any k st so dm ep V v hV0 hV1 hv0 hv1
  have k2 := rstart_any k st so dm ep V v hV0 hV1 hv0 hv1
  have k3 := done_any k st so dm ep s m
  have k4 := rdone_any k st so dm ep s m
  obtain ⟨SM, hSM⟩ : ∃ SM, sttM k V v so = SM := ⟨_, rfl⟩
  obtain ⟨SB, hSB⟩ : ∃ SB, sttB k v so = SB := ⟨_, rfl⟩
  obtain ⟨DB, hDB⟩ : ∃ DB, donB k st ep s m = DB := ⟨_, rfl⟩
  rw [hSM, hSB] at k1 k2
  rw [hDB] at k3 k4
  have K1 := Lib.hid k1; have K2 := Lib.hid k2; have K3 := Lib.hid k3; have K4 := Lib.hid k4
  clear k1 k2 k3 k4 hSM hSB hDB hR x0 x1 hL hb hV0 hV1 hv0 hv1 hm hn
  by_cases hl : 200 < n
  · go_enter Try.func3, Try.ntmps3
    go_upto_region 1 with fail
    rw [show w.heap.size + 1 = t1 from g1.symm, show w.heap.size = t0 from g0.symm]
    rw [← hW1]
    clear hW1 g0 g1
    obtain ⟨j0, j1, j2, j3, j4, _⟩ := jb_cells HH.out.1.2
    obtain ⟨p0, p1⟩ := g_cells HH.out.2.1
    go_wp2_with fail
    refine (light_of V A n c 200 false 200 rfl (by simp; omega) _).mono ?_
    rintro e w2 ⟨rfl, h2⟩
    have HH2 := Lib.hid (HH.out.step h2)
    clear j0 j1 j2 j3 j4 p0 p1 HH h2
    go_wp2_with fail
    refine (works_any _).mono ?_
    rintro e w3 ⟨rfl, h3⟩
    have HH3 := Lib.hid (HH2.out.step h3)
    go_wp2
    go_ret
    exact ⟨rfl, HH3.out.1.1⟩
  · go_enter Try.func3, Try.ntmps3
    go_upto_region 1 with fail
    rw [show w.heap.size + 1 = t1 from g1.symm, show w.heap.size = t0 from g0.symm]
    rw [← hW1]
    clear hW1 g0 g1
    obtain ⟨j0, j1, j2, j3, j4, _⟩ := jb_cells HH.out.1.2
    obtain ⟨p0, p1⟩ := g_cells HH.out.2.1
    go_wp2_with fail
    refine (light_of V A n c 200 true 200 rfl (by simp; omega) _).mono ?_
    rintro e w2 ⟨rfl, h2⟩
    have HH2 := Lib.hid (HH.out.step h2)
    clear j0 j1 j2 j3 j4 p0 p1 HH h2
    obtain ⟨j0, j1, j2, j3, j4, _⟩ := jb_cells HH2.out.1.2
    obtain ⟨p0, p1⟩ := g_cells HH2.out.2.1
    go_wp2_with fail
    refine (K1.out _).mono ?_
    rintro e w3 ⟨rfl, h3⟩
    have HH3 := Lib.hid (HH2.out.step h3)
    clear j0 j1 j2 j3 j4 p0 p1 HH2 h3
    obtain ⟨j0, j1, j2, j3, j4, _⟩ := jb_cells HH3.out.1.2
    obtain ⟨p0, p1⟩ := g_cells HH3.out.2.1
    go_wp2_with fail
    refine (K2.out _).mono ?_
    rintro e w4 ⟨rfl, h4⟩
    have HH4 := Lib.hid (HH3.out.step h4)
    clear j0 j1 j2 j3 j4 p0 p1 HH3 h4
    obtain ⟨j0, j1, j2, j3, j4, _⟩ := jb_cells HH4.out.1.2
    obtain ⟨p0, p1⟩ := g_cells HH4.out.2.1
    go_wp2_with fail
    have f0 := cell_regrown j0; have f1 := cell_regrown j1; have f2 := cell_regrown j2; have f3 := cell_regrown j3; have f4 := cell_regrown j4
    have q0 := cell_regrown p0; have q1 := cell_regrown p1
    have C1 := Lib.hid (regr fun W (h : Below w4.heap.size w4 W) => HC.out W (HH4.out.2.2.below h))
    have C2 := Lib.hid (regr fun W (h : Below w4.heap.size w4 W) => HD.out W (HH4.out.2.2.below h))
    have C3 := Lib.hid (regr fun W (_ : Below w4.heap.size w4 W) => K3.out W)
    have C4 := Lib.hid (regr fun W (_ : Below w4.heap.size w4 W) => K4.out W)
    have C5 := Lib.hid (regr fun W (_ : Below w4.heap.size w4 W) => works_any W)
    clear j0 j1 j2 j3 j4 p0 p1
    refine wp_region_quiet_below mixed (by kernel_rfl) ?_
    repeat (go_big_quiet_step ((with_reducible first | exact C1.out _ _ | exact C2.out _ _ | exact C3.out _ _ | exact C4.out _ _ | exact C5.out _ _)))
    refine wpQuiet_nil ?_
    intro _ hw'
    obtain ⟨⟨dq, osq⟩, hw''⟩ := hw'
    subst hw''
    have HB2 := Lib.hid (HH4.out.step (below_regrown w4 dq osq))
    go_wp2
    go_ret
    exact ⟨rfl, HB2.out.1.1⟩

end Go.Proofs.Ytobmkhbkcmdhbaa.Al
