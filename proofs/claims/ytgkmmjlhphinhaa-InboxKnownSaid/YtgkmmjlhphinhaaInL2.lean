/-
  What is proved here: the law InboxMerge returns true. Conditions: vertices fit an int; lengths fit an int.
-/
import Derived.Test.YtgkmmjlhphinhaaInWk
namespace Go.Proofs.Ytgkmmjlhphinhaa.In
open Go.RowKit Go.Maps Gr Wd Ws Fx Rk Lb Al

theorem flat_le {Ls : List (List Ms)} {m : Nat} (h : ∀ L ∈ Ls, L.length ≤ m) : Ls.flatten.length ≤ Ls.length * m := by
  induction Ls with
  | nil => simp
  | cons L Ls ih =>
    have h1 := h L List.mem_cons_self
    have h2 := ih fun M hM => h M (List.mem_cons_of_mem _ hM)
    simp only [List.flatten_cons, List.length_append, List.length_cons, Nat.add_mul, Nat.one_mul]
    omega
def MlRel (w : World) (Ls : List (List Ms)) (gk : Nat) (i : Value) (wr : World) : Prop :=
  ∃ q : Nat, q + gk = Ls.length ∧ i = .int .i64 (q : Int) ∧ Hid (Below w.heap.size w wr) ∧ Hid (∀ L ∈ Ls.take q, L.length ≤ 60)

set_option maxRecDepth 100000 in
set_option maxHeartbeats 8000000 in
theorem law_merge (k st so dm ep : Int) (Ao A Ae : Option Addr) (no co n c ne ce : Nat) (own : List Int) (Ls : List (List Ms)) (oth : List Ml) (w : World) (hO : Hid (IAt w Ao own)) (hno : Hid (own.length = no)) (hR : Hid (RMs w A Ls)) (hn : Hid (Ls.length = n)) (hE : Hid (KAt w Ae oth)) (hne : Hid (oth.length = ne))
    (hT : Hid (ToIn Ls.flatten)) (hOI : Hid (OwnIn own)) (hl : Hid (∀ L ∈ Ls, L.length ≤ 9223372036854775807)) (hno2 : no ≤ 9223372036854775807) (hn2 : n ≤ 9223372036854775807) (hne2 : ne ≤ 9223372036854775807) :
    Calls Try.prog 5 #[.agg #[.int .u8 k, .int .i64 st, .int .i64 so, .int .i64 dm, .int .i64 ep], .slice Ao no co, .slice A n c, .slice Ae ne ce] w fun e w' => e = .returned (.bool true) ∧ Hid (Below w.heap.size w w') := by
  have mixed := mixedI
  obtain ⟨W1, hW1⟩ : ∃ W1, W1 = w.alloc (.cells #[.int .u8 k, .int .i64 st, .int .i64 so, .int .i64 dm, .int .i64 ep] 23) := ⟨_, rfl⟩
  have x0 : W1.heap[w.heap.size]? = some (.cells #[.int .u8 k, .int .i64 st, .int .i64 so, .int .i64 dm, .int .i64 ep] 23 (0, 0)) := by rw [hW1]; exact heap_alloc_new w _
  have hb1 : Below w.heap.size w W1 := by rw [hW1]; exact (Below.refl _ w).alloc (Nat.le_refl _) _
  have HB1 := Lib.hid hb1; have HX1 := Lib.hid x0
  obtain ⟨b, eb⟩ : ∃ b, b = w.heap.size := ⟨_, rfl⟩
  rw [← eb] at HX1
  clear x0 hb1
  have HC := Lib.hid (works_any W1)
  by_cases h1 : 60 < no
  · go_enter Try.func5, Try.ntmps5
    go_upto_region 1 with fail
    rw [← hW1, ← eb]
    clear hW1 eb
    go_wp2_with fail
    refine (HC.out).mono ?_
    rintro e w2 ⟨rfl, hb2⟩
    go_wp2
    go_ret
    exact ⟨rfl, Lib.hid (step_below HB1.out HB1.out.size hb2.out)⟩
  by_cases h2 : 8 < n
  · go_enter Try.func5, Try.ntmps5
    go_upto_region 1 with fail
    rw [← hW1, ← eb]
    clear hW1 eb
    go_wp2_with fail
    refine (HC.out).mono ?_
    rintro e w2 ⟨rfl, hb2⟩
    go_wp2
    go_ret
    exact ⟨rfl, Lib.hid (step_below HB1.out HB1.out.size hb2.out)⟩
  by_cases h3 : 60 < ne
  · go_enter Try.func5, Try.ntmps5
    go_upto_region 1 with fail
    rw [← hW1, ← eb]
    clear hW1 eb
    go_wp2_with fail
    refine (HC.out).mono ?_
    rintro e w2 ⟨rfl, hb2⟩
    go_wp2
    go_ret
    exact ⟨rfl, Lib.hid (step_below HB1.out HB1.out.size hb2.out)⟩
  clear HC
  go_enter Try.func5, Try.ntmps5
  go_upto_region 1 with fail
  rw [← hW1, ← eb]
  clear hW1 eb
  go_wp2_with fail
  go_loopg [9] n (fun gk i wr => MlRel W1 Ls gk i wr)
  case atStart => exact ⟨0, by have := hn.out; omega, rfl, Lib.hid (Below.refl _ _), Lib.hid (fun L h => by simp at h)⟩
  case round =>
    obtain ⟨q, hq, rfl, HB, HS⟩ := hrel
    rw [hn.out] at hq
    by_cases hlt : q < n
    · obtain ⟨M, hM⟩ := at_lt Ls q (by rw [hn.out]; exact hlt)
      obtain ⟨bk, o, Aa, ca, rfl, c0, _⟩ := (hR.out.below (step_below HB1.out HB1.out.size HB.out)) q M hM
      obtain ⟨z, hz⟩ : ∃ z, z = M.length := ⟨_, rfl⟩
      have hzl : z ≤ 9223372036854775807 := by rw [hz]; exact hl.out M (List.mem_of_getElem? hM)
      rw [← hz] at c0
      have HZ := Lib.hid hz; have HMm := Lib.hid hM
      clear hz hM
      by_cases hz60 : 60 < z
      · have HC := Lib.hid (works_any wr)
        go_wp2_with fail
        refine (HC.out).mono ?_
        rintro e w2 ⟨rfl, hb2⟩
        go_wp2
        go_ret
        exact ⟨rfl, Lib.hid (step_below (step_below HB1.out HB1.out.size HB.out) (step_below HB1.out HB1.out.size HB.out).size hb2.out)⟩
      · have HS2 : Hid (∀ L ∈ Ls.take (q + 1), L.length ≤ 60) := Lib.hid (by
          intro L hL
          rw [take_at HMm.out] at hL
          rcases List.mem_append.1 hL with h | h
          · exact HS.out L h
          · rw [List.mem_singleton.1 h, ← HZ.out]; omega)
        go_wp2
        go_roundg (gk - 1)
        case measure => omega
        case rel => exact ⟨q + 1, by have := hn.out; omega, by go_num, HB, HS2⟩
    · have hall : ∀ L ∈ Ls, L.length ≤ 60 := by
        have := HS.out
        rwa [show q = Ls.length by have := hn.out; omega, List.take_length] at this
      have hfl := flat_le hall
      rw [hn.out] at hfl
      have hfl2 : Ls.flatten.length < 1000000000 := by
        have : n * 60 ≤ 8 * 60 := Nat.mul_le_mul_right _ (by omega)
        omega
      have HFl := Lib.hid hfl2
      have HBr := Lib.hid (step_below HB1.out HB1.out.size HB.out)
      have HXr := Lib.hid (keep HX1.out HB.out)
      obtain ⟨j0, j1, j2, j3, j4, _⟩ := jb_cells HXr.out
      have HMg := Lib.hid (merge_any k st so dm ep Ao A no co n c own Ls wr (hO.out.below HBr.out) hno.out (hR.out.below HBr.out) hn.out hT.out hOI.out (by omega) (by omega) hfl2)
      clear hall hfl hfl2 HS HB
      go_wp2_with fail
      refine (HMg.out).mono ?_
      rintro e w3 ⟨v3, rfl, hk3, hb3⟩
      obtain ⟨X, hX⟩ : ∃ X, X = mergeM k own Ls := ⟨_, rfl⟩
      rw [← hX] at hk3
      have HXl : Hid (X.length = no) := Lib.hid (by rw [hX, mergeM_len]; exact hno.out)
      have HXX := Lib.hid hX
      obtain ⟨A3, c3, hv3, hm3⟩ := ks_at hk3.out
      rw [HXl.out] at hv3
      subst hv3
      have HK3 := Lib.hid hm3
      have HB3 := Lib.hid (step_below HBr.out HBr.out.size hb3.out)
      have HX3 := Lib.hid (keep HXr.out hb3.out)
      clear j0 j1 j2 j3 j4 HMg hk3 hb3 hm3 hX
      obtain ⟨j0, j1, j2, j3, j4, _⟩ := jb_cells HX3.out
      have HMr := Lib.hid (rmerge_any k st so dm ep Ao A no co n c own Ls w3 (hO.out.below HB3.out) hno.out (hR.out.below HB3.out) hn.out (by omega) (by omega) HFl.out)
      rw [← HXX.out] at HMr
      go_wp2_with fail
      refine (HMr.out).mono ?_
      rintro e w4 ⟨v4, rfl, hk4, hb4⟩
      obtain ⟨A4, c4, hv4, hm4⟩ := ks_at hk4.out
      rw [HXl.out] at hv4
      subst hv4
      have HK34 := Lib.hid (HK3.out.below hb4.out)
      have HK4 := Lib.hid hm4
      have HB4 := Lib.hid (step_below HB3.out HB3.out.size hb4.out)
      clear j0 j1 j2 j3 j4 HMr hk4 hb4 hm4 HK3
      have HS5 := Lib.hid (rsame_any A3 A4 no no c3 c4 X X w4 HK34.out HK4.out HXl.out HXl.out (by omega) (by omega))
      rw [sameB_refl] at HS5
      go_wp2_with fail
      refine (HS5.out).mono ?_
      rintro e w5 ⟨rfl, hb5⟩
      have HK35 := Lib.hid (HK34.out.below hb5.out)
      have HK5 := Lib.hid (HK4.out.below hb5.out)
      have HB5 := Lib.hid (step_below HB4.out HB4.out.size hb5.out)
      clear HS5 hb5 HK34 HK4
      obtain ⟨r, hr⟩ : ∃ r, sameB X oth = r := ⟨_, rfl⟩
      have HRR := Lib.hid hr
      have HS6 := Lib.hid (same_any A3 Ae no ne c3 ce X oth w5 HK35.out (hE.out.below HB5.out) HXl.out hne.out (by omega) (by omega))
      rw [hr] at HS6
      clear hr
      go_wp2_with fail
      refine (HS6.out).mono ?_
      rintro e w6 ⟨rfl, hb6⟩
      have HK36 := Lib.hid (HK35.out.below hb6.out)
      have HK6 := Lib.hid (HK5.out.below hb6.out)
      have HB6 := Lib.hid (step_below HB5.out HB5.out.size hb6.out)
      clear HS6 hb6 HK35 HK5
      have HS7 := Lib.hid (rsame_any A4 Ae no ne c4 ce X oth w6 HK6.out (hE.out.below HB6.out) HXl.out hne.out (by omega) (by omega))
      rw [HRR.out] at HS7
      go_wp2_with fail
      refine (HS7.out).mono ?_
      rintro e w7 ⟨rfl, hb7⟩
      have HK37 := Lib.hid (HK36.out.below hb7.out)
      have HK7 := Lib.hid (HK6.out.below hb7.out)
      have HB7 := Lib.hid (step_below HB6.out HB6.out.size hb7.out)
      clear HS7 hb7 HK36 HK6
      have HS8 := Lib.hid (same_any A3 A4 no no c3 c4 X X w7 HK37.out HK7.out HXl.out HXl.out (by omega) (by omega))
      rw [sameB_refl] at HS8
      have hrr : (r == r) = true := by cases r <;> rfl
      go_wp2_with fail
      refine (HS8.out).mono ?_
      rintro e w8 ⟨rfl, hb8⟩
      have HB8 := Lib.hid (step_below HB7.out HB7.out.size hb8.out)
      have HC := Lib.hid (works_any w8)
      clear HS8 hb8 HK37 HK7
      go_wp2_with fail
      refine (HC.out).mono ?_
      rintro e w9 ⟨rfl, hb9⟩
      go_wp2
      go_ret
      exact ⟨rfl, Lib.hid (step_below HB8.out HB8.out.size hb9.out)⟩

end Go.Proofs.Ytgkmmjlhphinhaa.In
