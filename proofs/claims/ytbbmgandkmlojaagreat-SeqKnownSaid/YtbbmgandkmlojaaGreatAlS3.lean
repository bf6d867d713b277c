/-
  What is proved here: contracts of the library's cmp.Compare at ints, of the closure that holds two messages against each other, and of insertionSortCmpFunc over a row of messages. Conditions: the row is one that the call has made.
-/
import Derived.Test.YtbbmgandkmlojaaGreatAlRow
namespace Go.Proofs.YtbbmgandkmlojaaGreat.Al
open Go.RowKit Go.Sort Gr Wd Ws

def cmpI (x y : Int) : Int := if x < y then -1 else if y < x then 1 else 0
theorem cmpI_neg (x y : Int) : cmpI x y < 0 ↔ x < y := by unfold cmpI; split <;> (try split) <;> omega
theorem nan_any (x : Int) (w : World) : Calls Tryz.prog 110 #[.int .i64 x] w fun e w' => e = .returned (.bool false) ∧ w = w' := by
  go_enter Tryz.func110, Tryz.ntmps110
  go_wp2
  go_ret
  exact ⟨rfl, rfl⟩
theorem compare_any (x y : Int) (w : World) : Calls Tryz.prog 107 #[.int .i64 x, .int .i64 y] w fun e w' => e = .returned (.int .i64 (cmpI x y)) ∧ w = w' := by
  obtain ⟨V, hV⟩ : ∃ V, cmpI x y = V := ⟨_, rfl⟩
  rw [hV]
  have HV := Lib.hid hV; clear hV
  rcases Int.lt_trichotomy x y with h | h | h
  · have e1 : V = -1 := by rw [← HV.out]; unfold cmpI; rw [if_pos h]
    subst e1
    go_enter Tryz.func107, Tryz.ntmps107
    go_wp2_with fail
    refine (nan_any x _).mono ?_
    rintro e w' ⟨rfl, rfl⟩
    go_wp2_with fail
    refine (nan_any y _).mono ?_
    rintro e w' ⟨rfl, rfl⟩
    go_wp2
    go_ret
    exact ⟨rfl, rfl⟩
  · have e1 : V = 0 := by rw [← HV.out]; unfold cmpI; rw [if_neg (by omega), if_neg (by omega)]
    subst e1 h
    clear HV
    go_enter Tryz.func107, Tryz.ntmps107
    go_wp2_with fail
    refine (nan_any x _).mono ?_
    rintro e w' ⟨rfl, rfl⟩
    go_wp2_with fail
    refine (nan_any x _).mono ?_
    rintro e w' ⟨rfl, rfl⟩
    go_wp2
    go_ret
    exact ⟨rfl, rfl⟩
  · have e1 : V = 1 := by rw [← HV.out]; unfold cmpI; rw [if_neg (by omega), if_pos h]
    subst e1
    go_enter Tryz.func107, Tryz.ntmps107
    go_wp2_with fail
    refine (nan_any x _).mono ?_
    rintro e w' ⟨rfl, rfl⟩
    go_wp2_with fail
    refine (nan_any y _).mono ?_
    rintro e w' ⟨rfl, rfl⟩
    go_wp2
    go_ret
    exact ⟨rfl, rfl⟩
theorem close_any (x0 x1 y0 y1 : Int) (w : World) : Calls Tryz.prog 106 #[.agg #[.int .i64 x0, .int .i64 x1], .agg #[.int .i64 y0, .int .i64 y1]] w fun e w' => e = .returned (.int .i64 (cmpI x0 y0)) ∧ Grw w w' := by
  have HZ : Hid (Grw w ((w.alloc (.cells #[.int .i64 x0, .int .i64 x1] 126)).alloc (.cells #[.int .i64 y0, .int .i64 y1] 126))) := Lib.hid (((Grw.refl w).alloc _).alloc _)
  go_enter Tryz.func106, Tryz.ntmps106
  go_wp2_with fail
  refine (compare_any x0 y0 _).mono ?_
  rintro e w' ⟨rfl, rfl⟩
  go_wp2
  go_ret
  exact ⟨rfl, HZ.out⟩
theorem close_at (x0 x1 y0 y1 V : Int) (hV : Hid (cmpI x0 y0 = V)) (w : World) : Calls Tryz.prog 106 #[.agg #[.int .i64 x0, .int .i64 x1], .agg #[.int .i64 y0, .int .i64 y1]] w fun e w' => e = .returned (.int .i64 V) ∧ Grw w w' := by
  rw [← hV.out]; exact close_any x0 x1 y0 y1 w

def IoRel (w : World) (g N n a b : Nat) (d : Array Ms) (gk : Nat) (vi : Value) (wr : World) : Prop :=
  ∃ (i : Nat) (dk : Array Ms), vi = .int .i64 (i : Int) ∧ a < i ∧ i + gk = b + 1 ∧ dk.size = n ∧ SWm w wr g N dk ∧ insOuter ltm a b i dk = insOuter ltm a b (a + 1) d
def IiRel (w : World) (g N n a i : Nat) (dk : Array Ms) (gk : Nat) (vj : Value) (wr : World) : Prop :=
  ∃ (j : Nat) (dj : Array Ms), vj = .int .i64 (j : Int) ∧ a ≤ j ∧ j ≤ i ∧ j = gk ∧ dj.size = n ∧ SWm w wr g N dj ∧ insInner ltm a j dj = insInner ltm a i dk

set_option maxRecDepth 100000 in
set_option maxHeartbeats 2000000 in
theorem insertion_any (w : World) (g N n c a b : Nat) (d : Array Ms) (h : Hid (SWm w w g N d)) (hd : Hid (d.size = n)) (hab : a ≤ b) (hbn : b ≤ n) (hn : n < 1000000000) :
    Calls Tryz.prog 112 #[.slice (some ⟨g, 0, none⟩) n c, .int .i64 (a : Int), .int .i64 (b : Int), .func (.func 106) #[] #[]] w fun e w' => e = .returned (.tuple #[]) ∧ Hid (SWm w w' g N (insertionSort ltm d a b)) := by
  have mixed := mixedO
  go_enter Tryz.func112, Tryz.ntmps112
  go_wp2
  go_loopg [8] (b - a) (fun gk vi wr => IoRel w g N n a b d gk vi wr)
  case atStart => exact ⟨a + 1, d, by go_num, by omega, by omega, hd.out, h.out, rfl⟩
  case round =>
    obtain ⟨i, dk, rfl, hai, hig, hdk, hsw, ho⟩ := hrel
    have HO := Lib.hid ho; have HSW := Lib.hid hsw; have HDK := Lib.hid hdk; clear ho hsw hdk
    by_cases hib : i < b
    · go_wp2
      obtain ⟨G, rfl⟩ : ∃ G : Nat, G = gk := ⟨_, rfl⟩
      obtain ⟨wo, rfl⟩ : ∃ wo : World, wo = wr := ⟨_, rfl⟩
      go_loopg [9] i (fun gk vj wr => IiRel w g N n a i dk gk vj wr)
      case atStart => exact ⟨i, dk, rfl, by omega, Nat.le_refl _, rfl, HDK.out, HSW.out, rfl⟩
      case round =>
        obtain ⟨j, dj, rfl, haj, hji, hjg, hdj, hsj, hi⟩ := hrel
        have HI := Lib.hid hi; have HSJ := Lib.hid hsj; have HDJ := Lib.hid hdj; have HG := Lib.hid hjg; clear hi hsj hdj hjg
        by_cases hja : a < j
        · obtain ⟨p, hp⟩ : ∃ p, j = p + 1 := ⟨j - 1, by omega⟩
          subst hp
          obtain ⟨ya, hya⟩ : ∃ x, dj[p + 1]!.1 = x := ⟨_, rfl⟩
          obtain ⟨yb, hyb⟩ : ∃ x, dj[p + 1]!.2 = x := ⟨_, rfl⟩
          obtain ⟨za, hza⟩ : ∃ x, dj[p]!.1 = x := ⟨_, rfl⟩
          obtain ⟨zb, hzb⟩ : ∃ x, dj[p]!.2 = x := ⟨_, rfl⟩
          obtain ⟨V, hV⟩ : ∃ V, cmpI ya za = V := ⟨_, rfl⟩
          have hlt : ltm dj[p + 1]! dj[p]! = decide (V < 0) := by
            unfold ltm; rw [hya, hza, ← hV]; exact decide_eq_decide.2 (cmpI_neg _ _).symm
          obtain ⟨y0, y1⟩ := HSJ.out.cells (p + 1) (by rw [HDJ.out]; omega)
          obtain ⟨z0, z1⟩ := HSJ.out.cells p (by rw [HDJ.out]; omega)
          rw [hya] at y0; rw [hyb] at y1; rw [hza] at z0; rw [hzb] at z1
          have fy0 := cell_grown (block_lt_of_cell y0) y0; have fy1 := cell_grown (block_lt_of_cell y1) y1
          have fz0 := cell_grown (block_lt_of_cell z0) z0; have fz1 := cell_grown (block_lt_of_cell z1) z1
          have HV := Lib.hid hV; have HLT := Lib.hid hlt
          have HYZ : Hid (dj[p + 1]!.1 = ya ∧ dj[p + 1]!.2 = yb ∧ dj[p]!.1 = za ∧ dj[p]!.2 = zb) := Lib.hid ⟨hya, hyb, hza, hzb⟩
          clear y0 y1 z0 z1 hya hyb hza hzb hV hlt
          have HC := Lib.hid (fun nn os => Grw.quiet (close_at ya yb za zb V HV (Sort.grow (wr.drewN nn) os)))
          have t1 : ((p : Int) + 1).toNat = p + 1 := by omega
          have i1 : IntKind.i64.wrap (p : Int) = (p : Int) := by rw [IntKind.wrap_i64]; omega
          have j1 : (a : Int) < (p : Int) + 1 := by omega
          have j2 : (p : Int) + 1 < (n : Int) := by omega
          have j3 : (p : Int) < (n : Int) := by omega
          have j4 : (0 : Int) ≤ (p : Int) + 1 := by omega
          by_cases hneg : V < 0
          · go_wp2_with fail
            refine wp_region_quiet_grown mixed (by kernel_rfl) ?_
            repeat (go_big_quiet_step ((with_reducible exact HC.out _ _)))
            refine wpQuiet_nil ?_
            intro _ hw'
            obtain ⟨⟨nq, osq⟩, hw''⟩ := hw'
            subst hw''
            obtain ⟨w2, hw2⟩ : ∃ w2, w2 = Sort.grow (wr.drewN nq) osq := ⟨_, rfl⟩
            rw [← hw2]
            have HS2 : Hid (SWm w w2 g N dj) := Lib.hid (by rw [hw2]; exact HSJ.out.below (below_grow _ _ _))
            clear hw2 fy0 fy1 fz0 fz1 HC
            obtain ⟨y0, y1⟩ := HS2.out.cells (p + 1) (by rw [HDJ.out]; omega)
            obtain ⟨z0, z1⟩ := HS2.out.cells p (by rw [HDJ.out]; omega)
            rw [HYZ.out.1] at y0; rw [HYZ.out.2.1] at y1; rw [HYZ.out.2.2.1] at z0; rw [HYZ.out.2.2.2] at z1
            have rf := HS2.out.free
            have HX := Lib.hid (HS2.out.xch (p + 1) p (by rw [HDJ.out]; omega) (by rw [HDJ.out]; omega) ya yb za zb HYZ.out.1 HYZ.out.2.1 HYZ.out.2.2.1 HYZ.out.2.2.2)
            go_wp2_with fail
            go_big_region
            go_wp2
            go_roundg (gk - 1)
            case measure => have := HG.out; omega
            case rel =>
              refine ⟨p, swp dj (p + 1) p, by first | rfl | (congr 1; omega), by omega, by omega, by have := HG.out; omega, by rw [size_swp]; exact HDJ.out, HX.out.drew, ?_⟩
              have := insInner_go ltm a (p + 1) dj hja (by simp only [Nat.add_sub_cancel]; rw [HLT.out]; exact decide_eq_true (by omega))
              simp only [Nat.add_sub_cancel] at this
              rw [← HI.out, this]
          · go_wp2_with fail
            refine wp_region_quiet_grown mixed (by kernel_rfl) ?_
            repeat (go_big_quiet_step ((with_reducible exact HC.out _ _)))
            refine wpQuiet_nil ?_
            intro _ hw'
            obtain ⟨⟨nq, osq⟩, hw''⟩ := hw'
            subst hw''
            obtain ⟨w2, hw2⟩ : ∃ w2, w2 = Sort.grow (wr.drewN nq) osq := ⟨_, rfl⟩
            rw [← hw2]
            have HS2 : Hid (SWm w w2 g N dj) := Lib.hid (by rw [hw2]; exact HSJ.out.below (below_grow _ _ _))
            clear hw2 fy0 fy1 fz0 fz1 HC
            go_wp2
            go_roundg (G - 1)
            case measure => omega
            case rel =>
              exact ⟨i + 1, dj, by go_num, by omega, by omega, HDJ.out, HS2.out, by rw [← HO.out, insOuter_go _ _ _ _ _ hib, ← HI.out, insInner_stop _ _ _ _ (Or.inr (by simp only [Nat.add_sub_cancel]; rw [HLT.out]; exact decide_eq_false (by omega)))]⟩
        · have hjaz : decide ((j : Int) > (a : Int)) = false := decide_eq_false (by omega)
          go_wp2_with fail
          go_big_region
          go_wp2
          go_roundg (G - 1)
          case measure => omega
          case rel =>
            exact ⟨i + 1, dj, by go_num, by omega, by omega, HDJ.out, HSJ.out.drew, by rw [← HO.out, insOuter_go _ _ _ _ _ hib, ← HI.out, insInner_stop _ _ _ _ (Or.inl (by omega))]⟩
    · go_wp2
      go_end0
      refine ⟨rfl, Lib.hid ?_⟩
      have : insertionSort ltm d a b = dk := by unfold Sort.insertionSort; rw [← HO.out, insOuter_stop _ _ _ _ _ hib]
      rw [this]; exact HSW.out

end Go.Proofs.YtbbmgandkmlojaaGreat.Al
