/-
  What is proved here: a contract of the closure that tells the root of a vertex's tree, and hangs what it came by right below it. Conditions: the forest is one; the vertex is one of it.
-/
import Derived.Test.YtdcaekmgfcpbmaaGreatQcMnMem
import Derived.Test.YtdcaekmgfcpbmaaGreatQcMnBfsx
import Derived.Test.YtdcaekmgfcpbmaaGreatQcTlIn
namespace Go.Proofs.YtdcaekmgfcpbmaaGreat.Mn
open Go.RowKit Gr Wd Ws Fx Rk Lb Al
open Pa (vl bt vl_of vl_at bt_of bt_at)
abbrev rootV (ba br : Nat) : Value := .func (.func 71) #[] #[.pointer (some ⟨ba, 0, none⟩), .pointer (some ⟨br, 0, none⟩)]
structure Uf (V ba br g cp B : Nat) (A : List Int) (w : World) : Prop where
  abox : w.heap[ba]? = some (.cells #[.slice (some ⟨g, 0, none⟩) V cp] 57 (0, 0))
  rbox : w.heap[br]? = some (.cells #[rootV ba br] 81 (0, 0))
  row : NOwn w 3 B (.slice (some ⟨g, 0, none⟩) V cp) A
  len : A.length = V
theorem Uf.below {V ba br g cp B : Nat} {A : List Int} {w w' : World} (h : Uf V ba br g cp B A w) (hb : Below w.heap.size w w') : Uf V ba br g cp B A w' :=
  ⟨keepB h.abox hb, keepB h.rbox hb, h.row.below hb, h.len⟩
theorem Uf.set {V ba br g cp B : Nat} {A : List Int} {w : World} (h : Uf V ba br g cp B A w) (k : Nat) (x : Int) : Uf V ba br g cp B (A.set k x) (w.setCell ⟨g, k, none⟩ (.int .i64 x)) := by
  obtain ⟨_, c, hc⟩ := h.row.blk
  exact ⟨nbox_set h.abox hc (by decide), nbox_set h.rbox hc (by decide), h.row.set h.len k x, by rw [List.length_set]; exact h.len⟩
set_option maxRecDepth 100000 in
set_option maxHeartbeats 2000000 in
theorem root_any (V ba br g cp B : Nat) (R : Nat → Nat) : ∀ (v : Nat) (A : List Int) (w : World), v < V → V ≤ 512 → Fo V A R → Uf V ba br g cp B A w →
    Calls Tryz.prog 71 #[.int .i64 (v : Int), .pointer (some ⟨ba, 0, none⟩), .pointer (some ⟨br, 0, none⟩)] w fun e w' => e = .returned (.int .i64 ((R v : Nat) : Int)) ∧ ∃ A', Hid (Fo V A' R ∧ Uf V ba br g cp B A' w' ∧ (∀ j, v < j → vl A' j = vl A j) ∧ w.grownBy w' (some g)) := by
  have mixed := mixedP
  intro v
  induction v using Nat.strongRecOn with
  | ind v ih =>
    intro A w hv hV hF hU
    obtain ⟨u, hu, huv, hR⟩ := hF.up v hv
    have HF := Lib.hid hF; have HU := Lib.hid hU
    obtain ⟨a0, a1, _⟩ := one_cell hU.abox
    obtain ⟨c0, c1⟩ := hU.row.at_ hU.len hv
    rw [hu] at c0
    by_cases e : u = v
    · subst e
      have HT := Lib.hid (hF.top u hv hu)
      clear ih hF hU hR huv hu
      go_enter Tryz.func71, Tryz.ntmps71
      go_wp2
      go_ret
      exact ⟨by rw [HT.out]; rfl, A, Lib.hid ⟨HF.out, HU.out, fun j _ => rfl, grown_refl _ _⟩⟩
    · have hlt : u < v := by omega
      obtain ⟨r0, r1, _⟩ := one_cell hU.rbox
      have HIH : Hid (∀ W : World, Uf V ba br g cp B A W → Calls Tryz.prog 71 #[.int .i64 (u : Int), .pointer (some ⟨ba, 0, none⟩), .pointer (some ⟨br, 0, none⟩)] W fun e w' => ∃ x, e = .returned x ∧ (x = .int .i64 ((R v : Nat) : Int) ∧ ∃ A', Hid (Fo V A' R ∧ Uf V ba br g cp B A' w' ∧ (∀ j, u < j → vl A' j = vl A j) ∧ W.grownBy w' (some g)))) := Lib.hid (fun W hW => by
        refine (ih u hlt A W (by omega) hV hF hW).mono ?_
        rintro e w' ⟨rfl, h⟩
        rw [hR]
        exact ⟨_, rfl, rfl, h⟩)
      have HD : Hid (Uf V ba br g cp B A w.drew) := Lib.hid (hU.below (Below.refl _ w).drew)
      have hne : ((u : Int) = (v : Int)) = False := by simp; omega
      have hS : (fun W : World => W.cell? ⟨ba, 0, none⟩ = some (.slice (some ⟨g, 0, none⟩) V cp) ∧ W.cell? ⟨br, 0, none⟩ = some (rootV ba br) ∧ W.cell? ⟨g, v, none⟩ = some (.int .i64 (u : Int))) w.drew := ⟨a0, r0, c0⟩
      clear ih hF hU hR
      go_enter Tryz.func71, Tryz.ntmps71
      go_upto_region 2 with fail
      refine Tl.headX_region (S := (fun W : World => W.cell? ⟨ba, 0, none⟩ = some (.slice (some ⟨g, 0, none⟩) V cp) ∧ W.cell? ⟨br, 0, none⟩ = some (rootV ba br) ∧ W.cell? ⟨g, v, none⟩ = some (.int .i64 (u : Int)))) 8 mixed (by decide) ?_
      try dsimp only
      refine Tl.headX_tk 0 ?v0_1 rfl (by kernel_rfl) (by decide) (by kernel_rfl) (by kernel_rfl) (by kernel_rfl) (fun _ _ _ h => h) (by rfl) (fun W hSw => ?hy0_1) hS ?_
      case hy0_1 => ((try dsimp only at hSw); go_simp; try with_reducible rfl)
      simp only [Act.put, List.setIfInBounds_toArray, List.set_cons_zero, List.set_cons_succ]
      refine Tl.headX_tk 1 ?v1_2 rfl (by kernel_rfl) (by decide) (by kernel_rfl) (by kernel_rfl) (by kernel_rfl) (fun _ _ _ h => h) (by rfl) (fun W hSw => ?hy1_2) hS ?_
      case hy1_2 => ((try dsimp only at hSw); go_simp; try with_reducible rfl)
      simp only [Act.put, List.setIfInBounds_toArray, List.set_cons_zero, List.set_cons_succ]
      refine Tl.headX_tk 2 ?v2_3 rfl (by kernel_rfl) (by decide) (by kernel_rfl) (by kernel_rfl) (by kernel_rfl) (fun _ _ _ h => h) (by rfl) (fun W hSw => ?hy2_3) hS ?_
      case hy2_3 => ((try dsimp only at hSw); go_simp; try with_reducible rfl)
      simp only [Act.put, List.setIfInBounds_toArray, List.set_cons_zero, List.set_cons_succ]
      refine Tl.headX_tk 3 ?v3_4 rfl (by kernel_rfl) (by decide) (by kernel_rfl) (by kernel_rfl) (by kernel_rfl) (fun _ _ _ h => h) (by rfl) (fun W hSw => ?hy3_4) hS ?_
      case hy3_4 => ((try dsimp only at hSw); go_simp; try with_reducible rfl)
      simp only [Act.put, List.setIfInBounds_toArray, List.set_cons_zero, List.set_cons_succ]
      refine Tl.headX_tk 4 ?v4_5 rfl (by kernel_rfl) (by decide) (by kernel_rfl) (by kernel_rfl) (by kernel_rfl) (fun _ _ _ h => h) (by rfl) (fun W hSw => ?hy4_5) hS ?_
      case hy4_5 => ((try dsimp only at hSw); go_simp; try with_reducible rfl)
      simp only [Act.put, List.setIfInBounds_toArray, List.set_cons_zero, List.set_cons_succ]
      refine Tl.headX_tk 5 ?v5_6 rfl (by kernel_rfl) (by decide) (by kernel_rfl) (by kernel_rfl) (by kernel_rfl) (fun _ _ _ h => h) (by rfl) (fun W hSw => ?hy5_6) hS ?_
      case hy5_6 => ((try dsimp only at hSw); go_simp; try with_reducible rfl)
      simp only [Act.put, List.setIfInBounds_toArray, List.set_cons_zero, List.set_cons_succ]
      refine Tl.headX_tk 6 ?v6_7 rfl (by kernel_rfl) (by decide) (by kernel_rfl) (by kernel_rfl) (by kernel_rfl) (fun _ _ _ h => h) (by rfl) (fun W hSw => ?hy6_7) hS ?_
      case hy6_7 => ((try dsimp only at hSw); go_simp; try with_reducible rfl)
      simp only [Act.put, List.setIfInBounds_toArray, List.set_cons_zero, List.set_cons_succ]
      refine Tl.headX_cl 7 _ _ rfl (by decide) (by kernel_rfl) (by rfl) ?he7 (HIH.out _ HD.out) ?_
      case he7 => (go_simp; try with_reducible rfl)
      rintro r w1 ⟨rfl, A1, HA⟩
      have HA1 := Lib.hid HA.out.1; have HU1 := Lib.hid HA.out.2.1
      have hk : vl A1 v = (u : Int) := by rw [HA.out.2.2.1 v hlt, hu]
      have HK : Hid (∀ j, v < j → vl A1 j = vl A j) := Lib.hid (fun j hj => HA.out.2.2.1 j (by omega))
      have HG := Lib.hid (grown_trans (grown_drew w (some g)) HA.out.2.2.2)
      clear a0 a1 c0 c1 r0 r1 hS HA
      obtain ⟨a0, a1, _⟩ := one_cell HU1.out.abox
      obtain ⟨r0, r1, _⟩ := one_cell HU1.out.rbox
      obtain ⟨c0, c1⟩ := HU1.out.row.at_ HU1.out.len hv
      refine ⟨⟨a0, r0, by rw [c0, hk]⟩, ?_⟩
      simp only [Act.put, List.setIfInBounds_toArray, List.set_cons_zero, List.set_cons_succ]
      refine Tl.headX_rest (by kernel_rfl) ?_
      simp only [List.drop_succ_cons, List.drop_zero]
      have HU2 := Lib.hid (HU1.out.set v ((R v : Nat) : Int))
      have HF2 := Lib.hid (HA1.out.put hv)
      have HG2 := Lib.hid (grown_trans HG.out (grown_set w1 g v (.int .i64 ((R v : Nat) : Int))))
      have HL1 := Lib.hid HU1.out.len
      clear hk r0 r1
      go_wp2_with fail
      go_ret
      exact ⟨rfl, A1.set v ((R v : Nat) : Int), Lib.hid ⟨HF2.out, HU2.out, fun j hj => by rw [Pa.vl_set _ _ _ _ (by rw [HL1.out]; exact hv), if_neg (by omega)]; exact HK.out j hj, HG2.out⟩⟩
end Go.Proofs.YtdcaekmgfcpbmaaGreat.Mn
