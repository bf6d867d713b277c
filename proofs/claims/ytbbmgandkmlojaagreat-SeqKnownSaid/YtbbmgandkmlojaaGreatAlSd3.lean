/-
  What is proved here: a contract of algos.Send: what any vertex sends is sendM. Conditions: at most 1000 edges each way.
-/
import Derived.Test.YtbbmgandkmlojaaGreatAlO2
import Derived.Test.YtbbmgandkmlojaaGreatAlO3
namespace Go.Proofs.YtbbmgandkmlojaaGreat.Al
open Go.RowKit Go.Sort Gr Wd Ws Fx Rk Lb

theorem sent_len_l (v : Int) (L : List Int) : (sentL v L).length = L.length := by simp [sentL]
theorem sendM_one (v x : Int) (ch : Bool) (L M : List Ed) : sendM 1 v x ch L M = putM 1 [] (sentR x L.length L) := by unfold sendM rawM; rw [if_pos rfl]
theorem sendM_two (v x : Int) (ch : Bool) (L M : List Ed) : sendM 2 v x ch L M = putM 2 [] (if ch = true then sentL x (nearL v L M) else []) := by
  unfold sendM rawM; rw [if_neg (by decide)]; cases ch <;> simp
theorem sendM_three (v x : Int) (ch : Bool) (L M : List Ed) : sendM 3 v x ch L M = putM 3 [] (if ch = true then sentP x L else []) := by
  unfold sendM rawM; rw [if_neg (by decide)]; cases ch <;> simp
theorem sendM_no (k v x : Int) (ch : Bool) (L M : List Ed) (h1 : ¬ k = 1) (h2 : ¬ k = 2) (h3 : ¬ k = 3) : sendM k v x ch L M = [] := by
  unfold sendM rawM; rw [if_neg h1, if_neg h2, if_neg h3]; cases ch <;> simp [putM]
theorem near_length (v : Int) (L M : List Ed) : (nearL v L M).length ≤ L.length + M.length := by
  unfold nearL
  have := putAll_len (tos v L ++ froms v M) []
  have h1 := tos_len v L; have h2 := froms_len v M
  simp at this; omega
/- Whatever row a program has made: put together. -/
theorem one_1 (st so dm ep : Int) (B : Nat) (r : Value) (L : List Ms) (w : World) (hO : Hid (MOwn w B r L)) (hn : L.length ≤ 100000) (hB : B ≤ w.heap.size) :
    Calls Tryz.prog 98 #[.iface 110 (.agg #[.int .u8 1, .int .i64 st, .int .i64 so, .int .i64 dm, .int .i64 ep]), r] w fun e w' => ∃ r, e = .returned r ∧ Hid (MOwn w' B r (putM 1 [] L)) ∧ Hid (Below B w w') := by
  obtain ⟨A, c, rfl, hat, _, _, hA⟩ := hO.out.room
  rcases hA with ⟨rfl, rfl⟩ | ⟨g, rfl, hg, _⟩
  · obtain rfl := mat_none hat
    exact one_none_1 st so dm ep w B
  · exact one_some_1 st so dm ep B g _ c L w hO (Lib.hid rfl) hn hg hB
theorem one_2 (st so dm ep : Int) (B : Nat) (r : Value) (L : List Ms) (w : World) (hO : Hid (MOwn w B r L)) (hn : L.length ≤ 100000) (hB : B ≤ w.heap.size) :
    Calls Tryz.prog 98 #[.iface 114 (.agg #[.int .u8 2, .int .i64 st, .int .i64 so, .int .i64 dm, .int .i64 ep]), r] w fun e w' => ∃ r, e = .returned r ∧ Hid (MOwn w' B r (putM 2 [] L)) ∧ Hid (Below B w w') := by
  obtain ⟨A, c, rfl, hat, _, _, hA⟩ := hO.out.room
  rcases hA with ⟨rfl, rfl⟩ | ⟨g, rfl, hg, _⟩
  · obtain rfl := mat_none hat
    exact one_none_2 st so dm ep w B
  · exact one_some_2 st so dm ep B g _ c L w hO (Lib.hid rfl) hn hg hB
theorem one_3 (st so dm ep : Int) (B : Nat) (r : Value) (L : List Ms) (w : World) (hO : Hid (MOwn w B r L)) (hn : L.length ≤ 100000) (hB : B ≤ w.heap.size) :
    Calls Tryz.prog 98 #[.iface 115 (.agg #[.int .u8 3, .int .i64 st, .int .i64 so, .int .i64 dm, .int .i64 ep]), r] w fun e w' => ∃ r, e = .returned r ∧ Hid (MOwn w' B r (putM 3 [] L)) ∧ Hid (Below B w w') := by
  obtain ⟨A, c, rfl, hat, _, _, hA⟩ := hO.out.room
  rcases hA with ⟨rfl, rfl⟩ | ⟨g, rfl, hg, _⟩
  · obtain rfl := mat_none hat
    exact one_none_3 st so dm ep w B
  · exact one_some_3 st so dm ep B g _ c L w hO (Lib.hid rfl) hn hg hB

set_option maxRecDepth 100000 in
set_option maxHeartbeats 2000000 in
theorem send_any (k st so dm ep v x : Int) (ch : Bool) (A C : Option Addr) (c d : Nat) (L M : List Ed) (w : World) (hL : EAt w A L) (hM : EAt w C M) (hl : L.length ≤ 1000) (hm : M.length ≤ 1000) (hx0 : -9223372036854775808 ≤ x) (hx1 : x ≤ 9223372036854775807) :
    Calls Tryz.prog 80 #[.agg #[.int .u8 k, .int .i64 st, .int .i64 so, .int .i64 dm, .int .i64 ep], .int .i64 v, .int .i64 x, .bool ch, .slice A L.length c, .slice C M.length d] w fun e w' => ∃ r, e = .returned r ∧ Hid (MOwn w' w.heap.size r (sendM k v x ch L M)) ∧ Hid (Below w.heap.size w w') := by
  obtain ⟨W1, hW1⟩ : ∃ W1, W1 = w.alloc (.cells #[.int .u8 k, .int .i64 st, .int .i64 so, .int .i64 dm, .int .i64 ep] 26) := ⟨_, rfl⟩
  have HB : Hid (Below w.heap.size w W1) := Lib.hid (by rw [hW1]; exact (Below.refl _ w).alloc (Nat.le_refl _) _)
  have HX : Hid (W1.heap[w.heap.size]? = some (.cells #[.int .u8 k, .int .i64 st, .int .i64 so, .int .i64 dm, .int .i64 ep] 26 (0, 0))) := Lib.hid (by rw [hW1]; exact heap_alloc_new w _)
  by_cases h1 : k = 1
  · subst h1
    have hlk := look_send_1 st so dm ep
    have HSM := Lib.hid (sendM_one v x ch L M)
    have hsl : (sentR x L.length L).length ≤ 100000 := by unfold sentR; rw [List.length_map]; omega
    have HC := Lib.hid (fun (W : World) (h : Below w.heap.size w W) => send_ranks 1 st so dm ep v x ch A C c d L M W (hL.below h) hl hx0 hx1)
    go_enter Tryz.func80, Tryz.ntmps80
    go_wp2_with fail
    refine (prog_1 st so dm ep _).mono ?_
    rintro e w2 ⟨rfl, hb2⟩
    have HB2 : Hid (Below w.heap.size w w2) := Lib.hid (by rw [← hW1] at hb2; exact step_below HB.out HB.out.size hb2)
    clear hb2 hW1 HB
    go_wp2_with fail
    refine (HC.out _ HB2.out).mono ?_
    rintro e w3 ⟨r3, rfl, HO3, hb3⟩
    have HB3 := Lib.hid (step_below HB2.out HB2.out.size hb3.out)
    clear hb3
    go_wp2_with fail
    refine (one_1 st so dm ep w.heap.size r3 _ w3 (Lib.hid (HO3.out.mono HB2.out.size)) hsl HB3.out.size).mono ?_
    rintro e w4 ⟨r4, rfl, HO4, HB4⟩
    go_wp2
    go_ret
    exact ⟨_, rfl, by rw [HSM.out]; exact HO4, Lib.hid (HB3.out.trans HB4.out)⟩
  by_cases h2 : k = 2
  · subst h2
    have hlk := look_send_2 st so dm ep
    have HSM := Lib.hid (sendM_two v x ch L M)
    have hsl : (if ch = true then sentL x (nearL v L M) else []).length ≤ 100000 := by
      have := near_length v L M
      cases ch <;> simp [sentL]; omega
    have HC := Lib.hid (fun (W : World) (h : Below w.heap.size w W) => send_labels 2 st so dm ep v x ch A C c d L M W (hL.below h) (hM.below h) hl hm)
    go_enter Tryz.func80, Tryz.ntmps80
    go_wp2_with fail
    refine (prog_2 st so dm ep _).mono ?_
    rintro e w2 ⟨rfl, hb2⟩
    have HB2 : Hid (Below w.heap.size w w2) := Lib.hid (by rw [← hW1] at hb2; exact step_below HB.out HB.out.size hb2)
    clear hb2 hW1 HB
    go_wp2_with fail
    refine (HC.out _ HB2.out).mono ?_
    rintro e w3 ⟨r3, rfl, HO3, hb3⟩
    have HB3 := Lib.hid (step_below HB2.out HB2.out.size hb3.out)
    clear hb3
    go_wp2_with fail
    refine (one_2 st so dm ep w.heap.size r3 _ w3 (Lib.hid (HO3.out.mono HB2.out.size)) hsl HB3.out.size).mono ?_
    rintro e w4 ⟨r4, rfl, HO4, HB4⟩
    go_wp2
    go_ret
    exact ⟨_, rfl, by rw [HSM.out]; exact HO4, Lib.hid (HB3.out.trans HB4.out)⟩
  by_cases h3 : k = 3
  · subst h3
    have hlk := look_send_3 st so dm ep
    have HSM := Lib.hid (sendM_three v x ch L M)
    have hsl : (if ch = true then sentP x L else []).length ≤ 100000 := by
      cases ch <;> simp [sentP]; omega
    have HC := Lib.hid (fun (W : World) (h : Below w.heap.size w W) => send_distances 3 st so dm ep v x ch A C c d L M W (hL.below h) hl)
    go_enter Tryz.func80, Tryz.ntmps80
    go_wp2_with fail
    refine (prog_3 st so dm ep _).mono ?_
    rintro e w2 ⟨rfl, hb2⟩
    have HB2 : Hid (Below w.heap.size w w2) := Lib.hid (by rw [← hW1] at hb2; exact step_below HB.out HB.out.size hb2)
    clear hb2 hW1 HB
    go_wp2_with fail
    refine (HC.out _ HB2.out).mono ?_
    rintro e w3 ⟨r3, rfl, HO3, hb3⟩
    have HB3 := Lib.hid (step_below HB2.out HB2.out.size hb3.out)
    clear hb3
    go_wp2_with fail
    refine (one_3 st so dm ep w.heap.size r3 _ w3 (Lib.hid (HO3.out.mono HB2.out.size)) hsl HB3.out.size).mono ?_
    rintro e w4 ⟨r4, rfl, HO4, HB4⟩
    go_wp2
    go_ret
    exact ⟨_, rfl, by rw [HSM.out]; exact HO4, Lib.hid (HB3.out.trans HB4.out)⟩
  have HSM := Lib.hid (sendM_no k v x ch L M h1 h2 h3)
  go_enter Tryz.func80, Tryz.ntmps80
  go_wp2_with fail
  refine (prog_no k st so dm ep h1 h2 h3 _).mono ?_
  rintro e w2 ⟨rfl, hb2⟩
  have HB2 : Hid (Below w.heap.size w w2) := Lib.hid (by rw [← hW1] at hb2; exact step_below HB.out HB.out.size hb2)
  clear hb2 hW1 HB
  go_wp2
  go_ret
  exact ⟨_, rfl, by rw [HSM.out]; exact Lib.hid (MOwn.none_ _ _), HB2⟩

end Go.Proofs.YtbbmgandkmlojaaGreat.Al
