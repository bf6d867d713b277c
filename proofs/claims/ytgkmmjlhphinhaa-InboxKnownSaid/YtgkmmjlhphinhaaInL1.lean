/-
  What is proved here: the laws InboxFold and InboxSplit return true. Conditions: vertices fit an int; lengths fit an int.
-/
import Derived.Test.YtgkmmjlhphinhaaInWk
namespace Go.Proofs.Ytgkmmjlhphinhaa.In
open Go.RowKit Go.Maps Gr Wd Ws Fx Rk Lb Al

/- A row that may be written. -/
def Fr (w : World) (B : Nat) (A : Option Addr) (m : Nat) : Prop := m = 0 ∨ ∃ g cur, A = some ⟨g, 0, none⟩ ∧ B ≤ g ∧ w.heap[g]? = some (.cells cur 29 (0, 0)) ∧ m * 2 ≤ cur.size
theorem own_fr {w : World} {B : Nat} {A : Option Addr} {n m c : Nat} {L : List Ms} (h : MOwn w B (.slice A n c) L) (hm : m = L.length) : Fr w B A m := by
  subst hm
  obtain ⟨_, h1 | ⟨g, cap, cur, h1, h2, h3, h4, h5, h6, h7⟩⟩ := h
  · exact Or.inl h1.2
  · cases h1
    exact Or.inr ⟨g, cur, rfl, h2, h3, by rw [h6]; exact Nat.mul_le_mul_right _ h4⟩
def FlRel (w0 : World) (A : Option Addr) (m : Nat) (gk : Nat) (i : Value) (wr : World) : Prop :=
  ∃ q : Nat, q + gk = m ∧ i = .int .i64 (q : Int) ∧ Hid (Fr wr w0.heap.size A m) ∧ Hid (Below w0.heap.size w0 wr)

set_option maxRecDepth 100000 in
set_option maxHeartbeats 8000000 in
theorem law_fold (k st so dm ep : Int) (A : Option Addr) (n c : Nat) (L : List Ms) (w : World) (hL : Hid (MAt w A L)) (hln : Hid (L.length = n)) (hT : Hid (ToIn L)) (hn : n ≤ 9223372036854775807) :
    Calls Try.prog 3 #[.agg #[.int .u8 k, .int .i64 st, .int .i64 so, .int .i64 dm, .int .i64 ep], .slice A n c] w fun e w' => e = .returned (.bool true) ∧ Hid (Below w.heap.size w w') := by
  have mixed := mixedI
  obtain ⟨W1, hW1⟩ : ∃ W1, W1 = w.alloc (.cells #[.int .u8 k, .int .i64 st, .int .i64 so, .int .i64 dm, .int .i64 ep] 23) := ⟨_, rfl⟩
  have x0 : W1.heap[w.heap.size]? = some (.cells #[.int .u8 k, .int .i64 st, .int .i64 so, .int .i64 dm, .int .i64 ep] 23 (0, 0)) := by rw [hW1]; exact heap_alloc_new w _
  have hb1 : Below w.heap.size w W1 := by rw [hW1]; exact (Below.refl _ w).alloc (Nat.le_refl _) _
  have HB1 := Lib.hid hb1; have HX1 := Lib.hid x0
  obtain ⟨b, eb⟩ : ∃ b, b = w.heap.size := ⟨_, rfl⟩
  rw [← eb] at HX1
  clear x0 hb1
  by_cases h2 : 200 < n
  · have HC := Lib.hid (works_any W1)
    go_enter Try.func3, Try.ntmps3
    go_upto_region 1 with fail
    rw [← hW1, ← eb]
    clear hW1 eb
    go_wp2_with fail
    refine (HC.out).mono ?_
    rintro e w2 ⟨rfl, hb2⟩
    go_wp2
    go_ret
    exact ⟨rfl, Lib.hid (step_below HB1.out HB1.out.size hb2.out)⟩
  · have hL1 := hL.out.below HB1.out
    have HLN0 : Hid (([] : List Ms).length + n < 1000000000) := Lib.hid (by simp; omega)
    have HML := Lib.hid hL1
    clear hL1
    go_enter Try.func3, Try.ntmps3
    go_upto_region 1 with fail
    rw [← hW1, ← eb]
    clear hW1 eb
    go_wp2_with (at_builtin; refine app_mrest rfl (.tmp 12) (.tmp 13) rfl W1.heap.size _ [] L rfl (MOwn.none_ _ _) _ _ _ rfl HML.out hln.out HLN0.out (Nat.le_refl _) ?_)
    intro v3 w3 ho3 hg3
    have hb3 : Below W1.heap.size W1 w3 := ⟨hg3.os, hg3.tape, hg3.output, hg3.size, fun i hi => hg3.block i hi nofun⟩
    obtain ⟨A3, c3, hv3, hm3⟩ := ms_at (l := L) ho3
    rw [hln.out] at hv3
    subst hv3
    have HM3 := Lib.hid hm3
    have HB3 := Lib.hid (step_below HB1.out HB1.out.size hb3)
    obtain ⟨j0, j1, j2, j3, j4, _⟩ := jb_cells (keep HX1.out hb3)
    have HX3 := Lib.hid (keep HX1.out hb3)
    have HF := Lib.hid (fold_any k st so dm ep A3 n c3 L w3 HM3.out hln.out hT.out (by omega))
    clear ho3 hg3 hb3 hm3 HLN0
    go_wp2_with fail
    refine (HF.out).mono ?_
    rintro e w4 ⟨v4, rfl, ho4, hb4⟩
    obtain ⟨F, hF⟩ : ∃ F, F = putM k [] L := ⟨_, rfl⟩
    rw [← hF] at ho4
    have hFl : F.length ≤ n := by
      have := putM_len k L []
      rw [hF]
      simp only [List.length_nil] at this
      have := hln.out; omega
    obtain ⟨A4, c4, hv4, hm4⟩ := ms_at ho4.out
    obtain ⟨m, hm⟩ : ∃ m, m = F.length := ⟨_, rfl⟩
    rw [← hm] at hv4 hFl
    subst hv4
    have HFR := Lib.hid (own_fr ho4.out hm)
    have HMM := Lib.hid hm
    have HM4 := Lib.hid hm4
    have HB4 := Lib.hid (step_below HB3.out HB3.out.size hb4.out)
    have HX4 := Lib.hid (keep HX3.out hb4.out)
    have HD4 := Lib.hid hb4.out
    have HFF := Lib.hid hF
    clear j0 j1 j2 j3 j4 HF ho4 hb4 hm hm4 hF
    obtain ⟨j0, j1, j2, j3, j4, _⟩ := jb_cells HX4.out
    have HRF := Lib.hid (rfold_any k st so dm ep A n c L w4 (hL.out.below HB4.out) hln.out (by omega))
    rw [← HFF.out] at HRF
    go_wp2_with fail
    refine (HRF.out).mono ?_
    rintro e w5 ⟨v5, rfl, ho5, hb5⟩
    obtain ⟨A5, c5, hv5, hm5⟩ := ms_at ho5.out
    rw [← HMM.out] at hv5
    subst hv5
    have HS6 : Hid (Calls Try.prog 10 #[.slice A4 m c4, .slice A5 m c5] w5 fun e w' => e = .returned (.bool true) ∧ Below w5.heap.size w5 w') := Lib.hid (by
      have := samem_any A4 A5 c4 c5 F F w5 (HM4.out.below hb5.out) hm5 (by have := HMM.out; omega) (by have := HMM.out; omega)
      rw [← HMM.out] at this
      simpa using this)
    have HB5 := Lib.hid (step_below HB4.out HB4.out.size hb5.out)
    have HD5 := Lib.hid (step_below HD4.out HD4.out.size hb5.out)
    have HE5 := hb5
    clear j0 j1 j2 j3 j4 HRF ho5 hb5 hm5
    go_wp2_with fail
    refine (HS6.out).mono ?_
    rintro e w6 ⟨rfl, hb6⟩
    have HB6 := Lib.hid (step_below HB5.out HB5.out.size hb6)
    have HD6 := Lib.hid (step_below HD5.out HD5.out.size hb6)
    have HFR6 : Hid (Fr w6 w3.heap.size A4 m) := Lib.hid (by
      rcases HFR.out with h | ⟨g, cur, e1, e2, e3, e4⟩
      · exact Or.inl h
      · exact Or.inr ⟨g, cur, e1, e2, keep (keep e3 HE5.out) hb6, e4⟩)
    clear HS6 hb6 HFR HE5 HD5 HB5 HD4
    go_wp2_with fail
    go_loopg [7] m (fun gk i wr => FlRel w3 A4 m gk i wr)
    case atStart => exact ⟨0, by omega, rfl, HFR6, HD6⟩
    case round =>
      clear HFR6 HD6 HB6
      obtain ⟨q, hq, rfl, HFR, HD⟩ := hrel
      by_cases hlt : q < m
      · obtain ⟨g, cur, e1, e2, e3, e4⟩ : ∃ g cur, A4 = some ⟨g, 0, none⟩ ∧ w3.heap.size ≤ g ∧ wr.heap[g]? = some (.cells cur 29 (0, 0)) ∧ m * 2 ≤ cur.size := by
          rcases HFR.out with h | h
          · omega
          · exact h
        subst e1
        obtain ⟨u, hu⟩ : ∃ u, wr.cell? ⟨g, q * 2 + 1, none⟩ = some u := by
          rw [Lib.cell_of_heap e3]
          exact ⟨_, Array.getElem?_eq_getElem (show q * 2 + 1 < cur.size by omega)⟩
        have hf := Lib.frozen_of_heap e3 (q * 2 + 1)
        have HFR2 : Hid (Fr (wr.setCell ⟨g, q * 2 + 1, none⟩ (.int .i64 7777)) w3.heap.size (some ⟨g, 0, none⟩) m) := Lib.hid (Or.inr ⟨g, _, rfl, e2, heap_setCell_same wr g (q * 2 + 1) cur _ (.int .i64 7777) e3, by simpa using e4⟩)
        have HD2 := Lib.hid (HD.out.setCell (p := ⟨g, q * 2 + 1, none⟩) e2 (.int .i64 7777))
        clear e2 e3 e4 HFR
        go_wp2
        go_roundg (gk - 1)
        case measure => omega
        case rel => exact ⟨q + 1, by omega, by go_num, HFR2, HD2⟩
      · have HBr := Lib.hid (step_below HB3.out HB3.out.size HD.out)
        have HS7 : Hid (Calls Try.prog 10 #[.slice A3 n c3, .slice A n c] wr fun e w' => e = .returned (.bool true) ∧ Below wr.heap.size wr w') := Lib.hid (by
          have := samem_any A3 A c3 c L L wr (HM3.out.below HD.out) (hL.out.below HBr.out) (by have := hln.out; omega) (by have := hln.out; omega)
          rw [hln.out] at this
          simpa using this)
        go_wp2_with fail
        refine (HS7.out).mono ?_
        rintro e w8 ⟨rfl, hb8⟩
        have HB8 := Lib.hid (step_below HBr.out HBr.out.size hb8)
        have HC := Lib.hid (works_any w8)
        clear HS7 hb8
        go_wp2_with fail
        refine (HC.out).mono ?_
        rintro e w9 ⟨rfl, hb9⟩
        go_wp2
        go_ret
        exact ⟨rfl, Lib.hid (step_below HB8.out HB8.out.size hb9.out)⟩

def SlRel (w : World) (m : Nat) (gk : Nat) (i : Value) (wr : World) : Prop :=
  ∃ q : Nat, q + gk = m ∧ i = .int .i64 (q : Int) ∧ Hid (Below w.heap.size w wr)

set_option maxRecDepth 100000 in
set_option maxHeartbeats 8000000 in
theorem law_split (k : Int) (A : Option Addr) (n c : Nat) (L : List Ms) (w : World) (hL : Hid (MAt w A L)) (hln : Hid (L.length = n)) (hn : n ≤ 9223372036854775807) :
    Calls Try.prog 4 #[.slice A n c, .int .i64 k] w fun e w' => e = .returned (.bool true) ∧ Hid (Below w.heap.size w w') := by
  have mixed := mixedI
  by_cases h2 : 200 < n
  · have HC := Lib.hid (works_any w)
    go_enter Try.func4, Try.ntmps4
    go_wp2_with fail
    refine (HC.out).mono ?_
    rintro e w2 ⟨rfl, hb2⟩
    go_wp2
    go_ret
    exact ⟨rfl, hb2⟩
  · have HS := Lib.hid (split_any A n c L k w hL.out hln.out (by omega))
    go_enter Try.func4, Try.ntmps4
    go_wp2_with fail
    refine (HS.out).mono ?_
    rintro e w3 ⟨v3, rfl, hs3, hb3⟩
    obtain ⟨A3, m, c3, rfl, hm3, hr3⟩ := hs3.out
    have HR3 := Lib.hid hr3; have HM3 := Lib.hid hm3; have HB3 := hb3
    have hml : m ≤ 64 := by
      rw [← hm3]; unfold splitM
      split
      · rw [rowsW_len]; omega
      · simp
    have HS2 := Lib.hid (rsplit_any A n c L k w3 (hL.out.below hb3.out) hln.out (by omega))
    clear HS hs3 hb3 hr3 hm3
    go_wp2_with fail
    refine (HS2.out).mono ?_
    rintro e w4 ⟨v4, rfl, hs4, hb4⟩
    obtain ⟨A4, m', c4, rfl, hm4, hr4⟩ := hs4.out
    obtain rfl : m' = m := by rw [← hm4, HM3.out]
    have HR4 := Lib.hid hr4
    have HR3' := Lib.hid (HR3.out.below hb4.out)
    have HB4 := Lib.hid (step_below HB3.out HB3.out.size hb4.out)
    clear HS2 hs4 hb4 hr4 hm4 HR3 HB3
    go_wp2_with fail
    go_loopg [7] m' (fun gk i wr => SlRel w4 m' gk i wr)
    case atStart => exact ⟨0, by omega, rfl, Lib.hid (Below.refl _ _)⟩
    case round =>
      obtain ⟨q, hq, rfl, HB⟩ := hrel
      by_cases hlt : q < m'
      · obtain ⟨M, hM⟩ := at_lt (splitM L k) q (by rw [HM3.out]; exact hlt)
        obtain ⟨bk, o, Aa, ca, rfl, c0, ha⟩ := (HR3'.out.below HB.out) q M hM
        obtain ⟨bk', o', Ab, cb, rfl, d0, hb⟩ := (HR4.out.below HB.out) q M hM
        obtain ⟨z, hz⟩ : ∃ z, z = M.length := ⟨_, rfl⟩
        have hzl : z ≤ 9223372036854775807 := by
          rw [hz]
          have hmem := List.mem_of_getElem? hM
          unfold splitM at hmem
          split at hmem
          · unfold rowsW at hmem
            obtain ⟨x, _, hx⟩ := List.mem_map.1 hmem
            have : (rowW ((k.toNat : Nat) : Int) L (x : Int)).length ≤ L.length := List.length_filter_le _ _
            rw [hx] at this
            have := hln.out; omega
          · simp at hmem
        rw [← hz] at c0 d0
        have C1 := Lib.hid (regr fun W (hW : Below wr.heap.size wr W) => (show Calls Try.prog 10 #[.slice Aa z ca, .slice Ab z cb] W fun e w' => e = .returned (.bool true) ∧ Below W.heap.size W w' from by
          have := samem_any Aa Ab ca cb M M W (ha.below hW) (hb.below hW) (by omega) (by omega)
          rw [← hz] at this
          simpa using this))
        clear ha hb hM hz
        go_wp2_with fail
        have z0 := cell_regrown c0; have z1 := cell_regrown d0
        refine wp_region_quiet_below mixed (by kernel_rfl) ?_
        repeat (go_big_quiet_step ((with_reducible exact C1.out _ _)))
        refine wpQuiet_nil ?_
        intro _ hw'
        obtain ⟨⟨dq, osq⟩, hw''⟩ := hw'
        subst hw''
        have HB2 := Lib.hid (step_below HB.out HB.out.size (below_regrown wr dq osq))
        clear z0 z1 C1 c0 d0
        go_wp2
        go_roundg (gk - 1)
        case measure => omega
        case rel => exact ⟨q + 1, by omega, by go_num, HB2⟩
      · have HB9 := Lib.hid (step_below HB4.out HB4.out.size HB.out)
        have HC := Lib.hid (works_any wr)
        go_wp2_with fail
        refine (HC.out).mono ?_
        rintro e w9 ⟨rfl, hb9⟩
        go_wp2
        go_ret
        exact ⟨rfl, Lib.hid (step_below HB9.out HB9.out.size hb9.out)⟩

end Go.Proofs.Ytgkmmjlhphinhaa.In
