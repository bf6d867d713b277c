/-
  What is proved here: contracts of graph.Check and of the document's own Check: may a graph be? Conditions: numbers and counts fit an int.
-/
import Derived.Test.YtkbmmlombigkmaaGreatQbPtG1
import Derived.Outline
namespace Go.Proofs.YtkbmmlombigkmaaGreat.Gr
open Go.RowKit Wd Ws
theorem mixedO : Tryz.prog.follows .mixedOrders = true := by kernel_rfl
def prv (L : List Ed) (k : Nat) : Option Ed := if k = 0 then none else L[k - 1]?
def CkRel (w : World) (V : Int) (A : Option Addr) (c : Nat) (L : List Ed) (g : Nat) (i : Value) (wr : World) : Prop :=
  ∃ k : Nat, k + g = L.length ∧ i = .int .i64 (k : Int) ∧ Below w.heap.size w wr ∧ wr.heap[w.heap.size]? = some (.cells #[.int .i64 V, .slice A L.length c] 24 (0, 0)) ∧ okL V none L = okL V (prv L k) (L.drop k)
structure Bx (w : World) (b : Nat) (V : Int) (s : Value) : Prop where
  at_ : w.heap[b]? = some (.cells #[.int .i64 V, s] 24 (0, 0))
theorem Bx.cells {w : World} {b : Nat} {V : Int} {s : Value} (h : w.heap[b]? = some (.cells #[.int .i64 V, s] 24 (0, 0))) : w.cell? ⟨b, 0, none⟩ = some (.int .i64 V) ∧ w.cell? ⟨b, 1, none⟩ = some s ∧ b < w.heap.size :=
  ⟨by rw [Lib.cell_of_heap h]; rfl, by rw [Lib.cell_of_heap h]; rfl, lt_of_block h⟩
theorem eb_cells {w : World} {b : Nat} {x y z : Int} (h : w.heap[b]? = some (.cells #[.int .i64 x, .int .i64 y, .int .i64 z] 33 (0, 0))) :
    w.cell? ⟨b, 0, none⟩ = some (.int .i64 x) ∧ w.cell? ⟨b, 1, none⟩ = some (.int .i64 y) ∧ w.cell? ⟨b, 2, none⟩ = some (.int .i64 z) ∧ b < w.heap.size :=
  ⟨by rw [Lib.cell_of_heap h]; rfl, by rw [Lib.cell_of_heap h]; rfl, by rw [Lib.cell_of_heap h]; rfl, lt_of_block h⟩
set_option maxRecDepth 100000 in
set_option maxHeartbeats 600000 in
theorem check_any (V : Int) (A : Option Addr) (c : Nat) (L : List Ed) (w : World) (hL : EAt w A L) (hm : L.length ≤ 9223372036854775807) :
    Calls Tryz.prog 25 #[.agg #[.int .i64 V, .slice A L.length c]] w fun e w' => e = .returned (.int .i64 (chk V L)) ∧ Below w.heap.size w w' := by
  have mixed := mixedO
  have HL := Lib.hid hL; clear hL
  have hz : Below w.heap.size w (w.alloc (.cells #[.int .i64 V, .slice A L.length c] 24)) := (Below.refl _ w).alloc (Nat.le_refl _) _
  have HZ := Lib.hid hz; clear hz
  by_cases hV : 512 < V
  · have hk : chk V L = 3 := by unfold chk; rw [if_pos (Or.inl hV)]
    rw [hk]; clear hk
    go_enter Tryz.func25, Tryz.ntmps25
    go_wp2
    go_ret
    exact ⟨rfl, HZ.out⟩
  · by_cases hn : 8192 < L.length
    · have hk : chk V L = 3 := by unfold chk; rw [if_pos (Or.inr hn)]
      rw [hk]; clear hk
      go_enter Tryz.func25, Tryz.ntmps25
      go_wp2
      go_ret
      exact ⟨rfl, HZ.out⟩
    · by_cases h1 : V < 1
      · have hk : chk V L = 40 := by unfold chk; rw [if_neg (by omega), if_pos h1]
        rw [hk]; clear hk
        go_enter Tryz.func25, Tryz.ntmps25
        go_wp2
        go_ret
        exact ⟨rfl, HZ.out⟩
      · have hk : chk V L = if okL V none L then 0 else 40 := by unfold chk; rw [if_neg (by omega), if_neg h1]
        rw [hk]
        clear hk
        obtain ⟨R, hR⟩ : ∃ R : Int, (if okL V none L then (0 : Int) else 40) = R := ⟨_, rfl⟩
        rw [hR]
        have HRR := Lib.hid hR; clear hR
        go_enter Tryz.func25, Tryz.ntmps25
        go_wp2
        go_loopg [20] L.length (fun g i wr => CkRel w V A c L g i wr)
        case atStart => exact ⟨0, by omega, rfl, HZ.out, heap_alloc_new w _, rfl⟩
        case round =>
          obtain ⟨k, hk, rfl, hb, hbx, hok⟩ := hrel
          by_cases hlt : k < L.length
          · obtain ⟨e, he⟩ := at_lt L k hlt
            obtain ⟨x0, x1, hsz⟩ := Bx.cells hbx
            have hea := HL.out.below hb
            obtain ⟨bk, o, rfl, c0, c1, c2⟩ := hea k e he
            have hokk : okL V (prv L k) (L.drop k) = (fitE V e && ahdO (prv L k) e && okL V (some e) (L.drop (k + 1))) := by rw [drop_at he]; rfl
            rw [hokk] at hok
            clear hokk
            have HNX : Hid (prv L (k + 1) = some e) := Lib.hid (by unfold prv; rw [if_neg (by omega), Nat.add_sub_cancel]; exact he)
            obtain ⟨e0, e1, e2⟩ := e
            have hy := heap_alloc_new wr (.cells #[.int .i64 e0, .int .i64 e1, .int .i64 e2] 33)
            have hb1 : Below w.heap.size w (wr.alloc (.cells #[.int .i64 e0, .int .i64 e1, .int .i64 e2] 33)) := hb.alloc (by omega) _
            have hbx1 := (Lib.alloc_old wr (.cells #[.int .i64 e0, .int .i64 e1, .int .i64 e2] 33) _ hsz).trans hbx
            have hea1 := HL.out.below hb1
            have HB := Lib.hid hb1; have HX := Lib.hid hbx1; have HO := Lib.hid hok; have HE := Lib.hid he; have HA := Lib.hid hea1
            have HY := Lib.hid hy
            clear hb hb1 hbx hbx1 hok he hea hea1 hy
            go_wp2
            generalize hW : wr.alloc (.cells #[.int .i64 e0, .int .i64 e1, .int .i64 e2] 33) = W at HB HX HA HY ⊢
            clear x0 x1 c0 c1 c2 hW
            obtain ⟨x0, x1, hsz1⟩ := Bx.cells HX.out
            obtain ⟨y0, y1, y2, hs1⟩ := eb_cells HY.out
            have fx0 := cell_grown hsz1 x0; have fx1 := cell_grown hsz1 x1
            have fy0 := cell_grown hs1 y0; have fy1 := cell_grown hs1 y1; have fy2 := cell_grown hs1 y2
            clear x0 x1 y0 y1 y2
            cases hf : fitE V (e0, e1, e2) with
            | false =>
              have HF := Lib.hid hf; clear hf
              have HC1 := Lib.hid (fun n os => Grw.quiet (edgeMayBe_q e0 e1 e2 V false (Sort.grow (W.drewN n) os) HF))
              refine wp_region_quiet_grown mixed (by kernel_rfl) ?_
              repeat (go_big_quiet_step (first | (go_at_call 46; exact HC1.out _ _)))
              refine wpQuiet_nil ?_
              intro _ hw'
              obtain ⟨⟨nq, osq⟩, hw''⟩ := hw'
              subst hw''
              go_wp2
              go_ret
              refine ⟨?_, HB.out.trans ((grw_at _ _ _).below.mono (by omega))⟩
              exact ret_int (by rw [← HRR.out, HO.out, HF.out]; rfl)
            | true =>
              have HF := Lib.hid hf; clear hf
              have HC1 := Lib.hid (fun n os => Grw.quiet (edgeMayBe_q e0 e1 e2 V true (Sort.grow (W.drewN n) os) HF))
              rcases k with _ | j
              · refine wp_region_quiet_grown mixed (by kernel_rfl) ?_
                repeat (go_big_quiet_step (first | (go_at_call 46; exact HC1.out _ _)))
                refine wpQuiet_nil ?_
                intro _ hw'
                obtain ⟨⟨nq, osq⟩, hw''⟩ := hw'
                subst hw''
                go_wp2
                go_roundg (gk - 1)
                case measure => omega
                case rel => 
                  refine ⟨1, by omega, by go_num, HB.out.trans ((grw_at _ _ _).below.mono (by omega)), ?_, ?_⟩
                  · exact ((grw_at _ _ _).below.block _ hsz1).trans HX.out
                  · rw [HO.out, HF.out, HNX.out]; rfl
              · obtain ⟨q, hq⟩ := at_lt L j (by omega)
                obtain ⟨bk', o', hA, p0, p1, p2⟩ := HA.out j q hq
                obtain ⟨rfl, rfl⟩ : bk = bk' ∧ o = o' := by simpa using hA
                have hP : Hid (prv L (j + 1) = some q) := Lib.hid (by unfold prv; rw [if_neg (by omega), Nat.add_sub_cancel]; exact hq)
                obtain ⟨q0, q1, q2⟩ := q
                have fp0 := cell_grown (block_lt_of_cell p0) p0; have fp1 := cell_grown (block_lt_of_cell p1) p1; have fp2 := cell_grown (block_lt_of_cell p2) p2
                clear p0 p1 p2 hq hA
                obtain ⟨r, hr⟩ : ∃ r, ahd (q0, q1, q2) (e0, e1, e2) = r := ⟨_, rfl⟩
                have HR := Lib.hid hr; clear hr
                have HC2 := Lib.hid (fun n os => Grw.quiet (isAhead_at q0 q1 q2 e0 e1 e2 r (Sort.grow (W.drewN n) os) HR))
                cases r with
                | false =>
                  refine wp_region_quiet_grown mixed (by kernel_rfl) ?_
                  repeat (go_big_quiet_step (first | (go_at_call 46; exact HC1.out _ _) | (go_at_call 47; exact HC2.out _ _)))
                  refine wpQuiet_nil ?_
                  intro _ hw'
                  obtain ⟨⟨nq, osq⟩, hw''⟩ := hw'
                  subst hw''
                  go_wp2
                  go_ret
                  refine ⟨?_, HB.out.trans ((grw_at _ _ _).below.mono (by omega))⟩
                  exact ret_int (by rw [← HRR.out, HO.out, HF.out, hP.out, show ahdO (some (q0, q1, q2)) (e0, e1, e2) = false from HR.out]; rfl)
                | true =>
                  refine wp_region_quiet_grown mixed (by kernel_rfl) ?_
                  repeat (go_big_quiet_step (first | (go_at_call 46; exact HC1.out _ _) | (go_at_call 47; exact HC2.out _ _)))
                  refine wpQuiet_nil ?_
                  intro _ hw'
                  obtain ⟨⟨nq, osq⟩, hw''⟩ := hw'
                  subst hw''
                  go_wp2
                  go_roundg (gk - 1)
                  case measure => omega
                  case rel =>
                    refine ⟨j + 2, by omega, by go_num, HB.out.trans ((grw_at _ _ _).below.mono (by omega)), ?_, ?_⟩
                    · exact ((grw_at _ _ _).below.block _ hsz1).trans HX.out
                    · rw [HO.out, HF.out, HNX.out, hP.out, show ahdO (some (q0, q1, q2)) (e0, e1, e2) = true from HR.out]; rfl
          · have hkn : k = L.length := by omega
            have HB := Lib.hid hb
            have HO : Hid (okL V none L = true) := Lib.hid (by rw [hok, hkn, List.drop_length]; rfl)
            clear hok hbx hb
            go_wp2
            go_ret
            refine ⟨?_, HB.out⟩
            exact ret_int (by rw [← HRR.out, HO.out]; rfl)
end Go.Proofs.YtkbmmlombigkmaaGreat.Gr
