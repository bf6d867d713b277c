/-
  What is proved here: the contract of the document's own Check: may a graph be? Conditions: numbers and counts fit an int.
-/
import Derived.Test.YtkbmmlombigkmaaGreatQbPtG2
namespace Go.Proofs.YtkbmmlombigkmaaGreat.Gr
open Go.RowKit Wd Ws
set_option maxRecDepth 100000 in
set_option maxHeartbeats 600000 in
theorem rcheck_any (V : Int) (A : Option Addr) (c : Nat) (L : List Ed) (w : World) (hL : EAt w A L) (hm : L.length ≤ 9223372036854775807) :
    Calls Tryz.prog 24 #[.agg #[.int .i64 V, .slice A L.length c]] w fun e w' => e = .returned (.int .i64 (chk V L)) ∧ Below w.heap.size w w' := by
  have mixed := mixedO
  have HL := Lib.hid hL; clear hL
  have hz : Below w.heap.size w (w.alloc (.cells #[.int .i64 V, .slice A L.length c] 24)) := (Below.refl _ w).alloc (Nat.le_refl _) _
  have HZ := Lib.hid hz; clear hz
  by_cases hV : 512 < V
  · have hk : chk V L = 3 := by unfold chk; rw [if_pos (Or.inl hV)]
    rw [hk]; clear hk
    go_enter Tryz.func24, Tryz.ntmps24
    go_wp2
    go_ret
    exact ⟨rfl, HZ.out⟩
  · by_cases hn : 8192 < L.length
    · have hk : chk V L = 3 := by unfold chk; rw [if_pos (Or.inr hn)]
      rw [hk]; clear hk
      go_enter Tryz.func24, Tryz.ntmps24
      go_wp2
      go_ret
      exact ⟨rfl, HZ.out⟩
    · have hk : chk V L = if okL V none L then (if V < 1 then 40 else 0) else 40 := by
        unfold chk; rw [if_neg (by omega)]
        by_cases h1 : V < 1
        · rw [if_pos h1, if_pos h1]; split <;> rfl
        · rw [if_neg h1, if_neg h1]
      rw [hk]
      clear hk
      obtain ⟨R, hR⟩ : ∃ R : Int, (if okL V none L then (if V < 1 then (40 : Int) else 0) else 40) = R := ⟨_, rfl⟩
      rw [hR]
      have HRR := Lib.hid hR; clear hR
      go_enter Tryz.func24, Tryz.ntmps24
      go_wp2
      go_loopg [3] L.length (fun g i wr => CkRel w V A c L g i wr)
      case atStart => exact ⟨0, by omega, rfl, HZ.out, heap_alloc_new w _, rfl⟩
      case round =>
        obtain ⟨k, hk, rfl, hb, hbx, hok⟩ := hrel
        by_cases hlt : k < L.length
        · obtain ⟨e, he⟩ := at_lt L k hlt
          obtain ⟨x0, x1, hsz⟩ := Bx.cells hbx
          have hea := HL.out.below hb
          obtain ⟨bk, o, rfl, c0, c1, c2⟩ := hea k e he
          have hokk : okL V (prv L k) (L.drop k) = (fitE V e && ahdO (prv L k) e && okL V (some e) (L.drop (k + 1))) := by rw [drop_at he]; rfl
          rw [hokk] at hok
          clear hokk
          have HNX : Hid (prv L (k + 1) = some e) := Lib.hid (by unfold prv; rw [if_neg (by omega), Nat.add_sub_cancel]; exact he)
          obtain ⟨e0, e1, e2⟩ := e
          have HB := Lib.hid hb; have HX := Lib.hid hbx; have HO := Lib.hid hok; have HE := Lib.hid he; have HA := Lib.hid hea
          clear hb hbx hok he hea
          go_wp2
          generalize hW : wr = W at HB HX HA hsz x0 x1 c0 c1 c2 ⊢
          clear hW
          have hsz1 := hsz
          have fx0 := cell_grown hsz1 x0; have fx1 := cell_grown hsz1 x1
          have fy0 := cell_grown (block_lt_of_cell c0) c0; have fy1 := cell_grown (block_lt_of_cell c1) c1; have fy2 := cell_grown (block_lt_of_cell c2) c2
          clear x0 x1 c0 c1 c2
          cases hf : fitE V (e0, e1, e2) with
          | false =>
            have HF := Lib.hid hf; clear hf
            have HC1 := Lib.hid (fun n os => Grw.quiet (rfits_at e0 e1 e2 V false (Sort.grow (W.drewN n) os) HF))
            refine wp_region_quiet_grown mixed (by kernel_rfl) ?_
            repeat (go_big_quiet_step (first | (go_at_call 44; exact HC1.out _ _)))
            refine wpQuiet_nil ?_
            intro _ hw'
            obtain ⟨⟨nq, osq⟩, hw''⟩ := hw'
            subst hw''
            go_wp2
            go_ret
            refine ⟨?_, HB.out.trans ((grw_at _ _ _).below.mono (by omega))⟩
            exact ret_int (by rw [← HRR.out, HO.out, HF.out]; rfl)
          | true =>
            have HF := Lib.hid hf; clear hf
            have HC1 := Lib.hid (fun n os => Grw.quiet (rfits_at e0 e1 e2 V true (Sort.grow (W.drewN n) os) HF))
            rcases k with _ | j
            · simp only [Nat.zero_mul, Nat.add_zero] at fy0 fy1 fy2
              refine wp_region_quiet_grown mixed (by kernel_rfl) ?_
              repeat (go_big_quiet_step (first | (go_at_call 44; exact HC1.out _ _)))
              refine wpQuiet_nil ?_
              intro _ hw'
              obtain ⟨⟨nq, osq⟩, hw''⟩ := hw'
              subst hw''
              go_wp2
              go_roundg (gk - 1)
              case measure => omega
              case rel => 
                refine ⟨1, by omega, by go_num, HB.out.trans ((grw_at _ _ _).below.mono (by omega)), ?_, ?_⟩
                · exact ((grw_at _ _ _).below.block _ hsz1).trans HX.out
                · rw [HO.out, HF.out, HNX.out]; rfl
            · obtain ⟨q, hq⟩ := at_lt L j (by omega)
              obtain ⟨bk', o', hA, p0, p1, p2⟩ := HA.out j q hq
              obtain ⟨rfl, rfl⟩ : bk = bk' ∧ o = o' := by simpa using hA
              have hP : Hid (prv L (j + 1) = some q) := Lib.hid (by unfold prv; rw [if_neg (by omega), Nat.add_sub_cancel]; exact hq)
              obtain ⟨q0, q1, q2⟩ := q
              have fp0 := cell_grown (block_lt_of_cell p0) p0; have fp1 := cell_grown (block_lt_of_cell p1) p1; have fp2 := cell_grown (block_lt_of_cell p2) p2
              clear p0 p1 p2 hq hA
              obtain ⟨r, hr⟩ : ∃ r, ahd (q0, q1, q2) (e0, e1, e2) = r := ⟨_, rfl⟩
              have HR := Lib.hid hr; clear hr
              have HC2 := Lib.hid (fun n os => Grw.quiet (rahead_at q0 q1 q2 e0 e1 e2 r (Sort.grow (W.drewN n) os) HR))
              cases r with
              | false =>
                refine wp_region_quiet_grown mixed (by kernel_rfl) ?_
                repeat (go_big_quiet_step (first | (go_at_call 44; exact HC1.out _ _) | (go_at_call 45; exact HC2.out _ _)))
                refine wpQuiet_nil ?_
                intro _ hw'
                obtain ⟨⟨nq, osq⟩, hw''⟩ := hw'
                subst hw''
                go_wp2
                go_ret
                refine ⟨?_, HB.out.trans ((grw_at _ _ _).below.mono (by omega))⟩
                exact ret_int (by rw [← HRR.out, HO.out, HF.out, hP.out, show ahdO (some (q0, q1, q2)) (e0, e1, e2) = false from HR.out]; rfl)
              | true =>
                refine wp_region_quiet_grown mixed (by kernel_rfl) ?_
                repeat (go_big_quiet_step (first | (go_at_call 44; exact HC1.out _ _) | (go_at_call 45; exact HC2.out _ _)))
                refine wpQuiet_nil ?_
                intro _ hw'
                obtain ⟨⟨nq, osq⟩, hw''⟩ := hw'
                subst hw''
                go_wp2
                go_roundg (gk - 1)
                case measure => omega
                case rel =>
                  refine ⟨j + 2, by omega, by go_num, HB.out.trans ((grw_at _ _ _).below.mono (by omega)), ?_, ?_⟩
                  · exact ((grw_at _ _ _).below.block _ hsz1).trans HX.out
                  · rw [HO.out, HF.out, HNX.out, hP.out, show ahdO (some (q0, q1, q2)) (e0, e1, e2) = true from HR.out]; rfl
        · have hkn : k = L.length := by omega
          have HB := Lib.hid hb
          have HO : Hid (okL V none L = true) := Lib.hid (by rw [hok, hkn, List.drop_length]; rfl)
          obtain ⟨x0, x1, hsz⟩ := Bx.cells hbx
          clear hok hbx hb
          by_cases h1 : V < 1
          · go_wp2
            go_ret
            refine ⟨?_, HB.out⟩
            exact ret_int (by rw [← HRR.out, HO.out, if_pos rfl, if_pos h1])
          · go_wp2
            go_ret
            refine ⟨?_, HB.out⟩
            exact ret_int (by rw [← HRR.out, HO.out, if_pos rfl, if_neg (by omega)])
end Go.Proofs.YtkbmmlombigkmaaGreat.Gr
