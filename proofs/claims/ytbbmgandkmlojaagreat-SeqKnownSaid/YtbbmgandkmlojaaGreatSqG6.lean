/-
  What is proved here: the texts SqRt SqRn SqRs SqRa SqRr SqEr of this seat, laid together (each says itself what it proves; no condition beyond theirs).
-/
import Derived.Test.YtbbmgandkmlojaaGreatSqG4
import Derived.Test.YtbbmgandkmlojaaGreatSqG1
import Derived.Test.YtbbmgandkmlojaaGreatSqG5
/-
  What is proved here: a contract of what the document's own steps tell of all. Conditions: at most 512 vertices, at most 1000 edges; values that may be.
-/
namespace Go.Proofs.YtbbmgandkmlojaaGreat.Sq
open Go.RowKit Go.Shelf Gr Wd Ws Fx Rk Lb Al In
open Pa (vl bt vl_of vl_at bt_of bt_at)

structure RtH (w W : World) (n0 : Nat) (k st so dm ep : Int) (V : Nat) (A : Option Addr) (n c : Nat) (L : List Ed) (Av : Option Addr) (cv : Nat) (Ac : Option Addr) (cc : Nat) (a0 : Int) (a3 a4 a5 : Value) (was vals : List Int) (chg : List Bool) (va vs : Value) (q : Nat) : Prop where
  below : Below w.heap.size w W
  gb : W.heap[n0]? = some (.cells #[.int .i64 (V : Int), .slice A n c] 24 (0, 0))
  jb : W.heap[n0 + 1]? = some (.cells #[.int .u8 k, .int .i64 st, .int .i64 so, .int .i64 dm, .int .i64 ep] 26 (0, 0))
  sb : W.heap[n0 + 1 + 1]? = some (.cells #[.int .i64 a0, .slice Av V cv, .slice Ac V cc, a3, a4, a5] 33 (0, 0))
  zb : W.heap[n0 + 1 + 1 + 1]? = some (.cells #[.int .i64 0, .slice none 0 0, .slice none 0 0, .slice none 0 0, .int .i64 0, .int .i64 0] 33 (0, 0))
  tb : W.heap[n0 + 1 + 1 + 1 + 1]? = some (.cells #[.int .i64 (sumF k L vals (List.range q)), .int .i64 (mosF k was vals chg (List.range q))] 96 (0, 0))
  ao : IOwn W (n0 + 5) va ((List.range q).map fun (v : Nat) => (v : Int))
  so : ROwn W (n0 + 5) vs ((List.range q).map (rowF k L vals chg))
  up : n0 + 5 ≤ W.heap.size
def RtRel (w : World) (n0 : Nat) (k st so dm ep : Int) (V : Nat) (A : Option Addr) (n c : Nat) (L : List Ed) (Av : Option Addr) (cv : Nat) (Ac : Option Addr) (cc : Nat) (a0 : Int) (a3 a4 a5 : Value) (was vals : List Int) (chg : List Bool) (gk : Nat) (va vs i : Value) (W : World) : Prop :=
  ∃ q : Nat, q + gk = V ∧ i = .int .i64 (q : Int) ∧ Hid (RtH w W n0 k st so dm ep V A n c L Av cv Ac cc a0 a3 a4 a5 was vals chg va vs q)
section
variable {w W W' : World} {n0 : Nat} {k st so dm ep : Int} {V : Nat} {A : Option Addr} {n c : Nat} {L : List Ed} {Av : Option Addr} {cv : Nat} {Ac : Option Addr} {cc : Nat} {a0 : Int} {a3 a4 a5 : Value} {was vals : List Int} {chg : List Bool} {va vs u : Value} {q : Nat}
theorem RtH.step (h : RtH w W n0 k st so dm ep V A n c L Av cv Ac cc a0 a3 a4 a5 was vals chg va vs q) (hb : Below W.heap.size W W') : RtH w W' n0 k st so dm ep V A n c L Av cv Ac cc a0 a3 a4 a5 was vals chg va vs q :=
  ⟨step_below h.below h.below.size hb, keep h.gb hb, keep h.jb hb, keep h.sb hb, keep h.zb hb, keep h.tb hb, own_below h.ao hb, h.so.below hb, Nat.le_trans h.up hb.size⟩
end
theorem al5 (w : World) (a b c d e : Obj) : (((((w.alloc a).alloc b).alloc c).alloc d).alloc e).heap[w.heap.size]? = some a ∧ (((((w.alloc a).alloc b).alloc c).alloc d).alloc e).heap[w.heap.size + 1]? = some b ∧ (((((w.alloc a).alloc b).alloc c).alloc d).alloc e).heap[w.heap.size + 2]? = some c ∧ (((((w.alloc a).alloc b).alloc c).alloc d).alloc e).heap[w.heap.size + 3]? = some d ∧ (((((w.alloc a).alloc b).alloc c).alloc d).alloc e).heap[w.heap.size + 4]? = some e ∧ Below w.heap.size w (((((w.alloc a).alloc b).alloc c).alloc d).alloc e) := by
  obtain ⟨h1, h2, h3, h4, h5⟩ := al4 w a b c d
  have h6 := heap_alloc_new ((((w.alloc a).alloc b).alloc c).alloc d) e
  rw [show ((((w.alloc a).alloc b).alloc c).alloc d).heap.size = w.heap.size + 4 by simp] at h6
  exact ⟨at_alloc h1 e, at_alloc h2 e, at_alloc h3 e, at_alloc h4 e, h6, h5.alloc h5.size e⟩

set_option maxRecDepth 100000 in
set_option maxHeartbeats 1000000 in
theorem rtold_any (k st so dm ep : Int) (V : Nat) (A Av Ac Aa : Option Addr) (n c cv cc ca : Nat) (L : List Ed) (was vals : List Int) (chg : List Bool) (a0 : Int) (a3 a4 a5 : Value) (w : World)
    (hL : EAt w A L) (hn : L.length = n) (hv : IAt w Av vals) (hc : BAt w Ac chg) (ha : IAt w Aa was) (hvl : vals.length = V) (hcl : chg.length = V) (hal : was.length = V) (hvr : ∀ x ∈ vals, I63 x) (har : ∀ x ∈ was, I63 x) (hV : V ≤ 512) (hm : L.length ≤ 1000) :
    Calls Tryz.prog 38 #[.agg #[.int .i64 (V : Int), .slice A n c], .agg #[.int .u8 k, .int .i64 st, .int .i64 so, .int .i64 dm, .int .i64 ep], .agg #[.int .i64 a0, .slice Av V cv, .slice Ac V cc, a3, a4, a5], .slice Aa V ca] w fun e w' => ∃ Ai ci, e = .returned (.agg #[.int .i64 a0, .slice Av V cv, .slice Ac V cc, .slice Ai V ci, .int .i64 (sumS k V L vals), .int .i64 (mosS k V was vals chg)]) ∧ Hid (KOwn w' w.heap.size (.slice Ai V ci) (inbS k V L vals chg)) ∧ Hid (Below w.heap.size w w') := by
  have mixed := mixedI
  have HL := Lib.hid hL; have HN := Lib.hid hn; have HVA := Lib.hid hv; have HCA := Lib.hid hc; have HAA := Lib.hid ha
  have HVL := Lib.hid hvl; have HCL := Lib.hid hcl; have HAL := Lib.hid hal; have HVR := Lib.hid hvr; have HAR := Lib.hid har
  clear hL hn hv hc ha hvl hcl hal hvr har
  obtain ⟨W5, hW5⟩ : ∃ W5, W5 = ((((w.alloc (.cells #[.int .i64 (V : Int), .slice A n c] 24)).alloc (.cells #[.int .u8 k, .int .i64 st, .int .i64 so, .int .i64 dm, .int .i64 ep] 26)).alloc (.cells #[.int .i64 a0, .slice Av V cv, .slice Ac V cc, a3, a4, a5] 33)).alloc (.cells #[.int .i64 0, .slice none 0 0, .slice none 0 0, .slice none 0 0, .int .i64 0, .int .i64 0] 33)).alloc (.cells #[.int .i64 0, .int .i64 0] 96) := ⟨_, rfl⟩
  have h5 := al5 w (.cells #[.int .i64 (V : Int), .slice A n c] 24) (.cells #[.int .u8 k, .int .i64 st, .int .i64 so, .int .i64 dm, .int .i64 ep] 26) (.cells #[.int .i64 a0, .slice Av V cv, .slice Ac V cc, a3, a4, a5] 33) (.cells #[.int .i64 0, .slice none 0 0, .slice none 0 0, .slice none 0 0, .int .i64 0, .int .i64 0] 33) (.cells #[.int .i64 0, .int .i64 0] 96)
  rw [← hW5] at h5
  obtain ⟨n0, e0⟩ : ∃ n0, n0 = w.heap.size := ⟨_, rfl⟩
  have HH : Hid (RtH w W5 n0 k st so dm ep V A n c L Av cv Ac cc a0 a3 a4 a5 was vals chg (.slice none 0 0) (.slice none 0 0) 0) := Lib.hid (by
    rw [← e0] at h5
    exact ⟨h5.2.2.2.2.2 |> fun h => by rw [e0] at h; exact h, h5.1, h5.2.1, h5.2.2.1, h5.2.2.2.1, h5.2.2.2.2.1, IOwn.none_ _ _, ROwn.none_ _ _, lt_of_block h5.2.2.2.2.1⟩)
  have HN0 : Hid (w.heap.size ≤ n0) := Lib.hid (by omega)
  clear h5
  go_enter Tryz.func38, Tryz.ntmps38
  go_upto_region 4 with fail
  rw [← hW5, show w.heap.size = n0 from e0.symm]
  clear hW5 e0
  go_wp2_with fail
  go_loopg [9, 10, 12] V (fun gk va vs i W => RtRel w n0 k st so dm ep V A n c L Av cv Ac cc a0 a3 a4 a5 was vals chg gk va vs i W)
  case atStart => exact ⟨0, by omega, rfl, HH⟩
  case round =>
    clear HH
    obtain ⟨q, hq, rfl, HH⟩ := hrel
    obtain ⟨g0, g1, _⟩ := two HH.out.gb
    by_cases hlt : q < V
    · obtain ⟨y, hy⟩ := at_lt vals q (by rw [HVL.out]; exact hlt)
      obtain ⟨ch, hch⟩ := at_lt chg q (by rw [HCL.out]; exact hlt)
      obtain ⟨z, hz⟩ := at_lt was q (by rw [HAL.out]; exact hlt)
      have HY := Lib.hid hy; have HCH := Lib.hid hch; have HZ := Lib.hid hz
      clear hy hch hz
      have HRO : Hid (∀ W, Below wr.heap.size wr W → Calls Tryz.prog 60 #[.agg #[.int .i64 (V : Int), .slice A n c], .int .i64 (q : Int)] W fun e w' => ∃ x, e = .returned x ∧ EOwn w' W.heap.size x (outE L (q : Int)) ∧ Below W.heap.size W w') := Lib.hid (fun W hW => by
        have h := rout_any (V : Int) (q : Int) A c L W (HL.out.below (step_below HH.out.below HH.out.below.size hW)) (by omega)
        rw [HN.out] at h; exact h)
      have HRB : Hid (∀ W, Below w.heap.size w W → Calls Tryz.prog 62 #[.agg #[.int .i64 (V : Int), .slice A n c], .int .i64 (q : Int)] W fun e w' => ∃ x, e = .returned x ∧ EOwn w' W.heap.size x (bckE L (q : Int)) ∧ Below W.heap.size W w') := Lib.hid (fun W hW => by
        have h := rback_any (V : Int) (q : Int) A c L W (HL.out.below hW) (by omega)
        rw [HN.out] at h; exact h)
      go_wp2_with fail
      refine (HRO.out _ (Below.refl _ _)).mono ?_
      rintro e w5 ⟨xo, rfl, ho5, hb5⟩
      have HH5 := Lib.hid (HH.out.step hb5)
      have HZ5 := Lib.hid HH.out.up
      obtain ⟨A1, c1, rfl, hea, _⟩ := ho5.form
      obtain ⟨n1, hn1⟩ : ∃ n1, n1 = (outE L (q : Int)).length := ⟨_, rfl⟩
      rw [← hn1] at ho5 ⊢
      have HN1 := Lib.hid hn1
      have HO5 := Lib.hid ho5
      have HWR : Hid (n0 + 5 ≤ wr.heap.size) := Lib.hid HH.out.up
      clear g0 g1 hn1 ho5 hb5 HRO hea HH
      -- the vertex behind all
      obtain ⟨Aal, cal, rfl, _⟩ := HH5.out.ao.form
      obtain ⟨m0, hm0⟩ : ∃ m0, m0 = ((List.range q).map fun (v : Nat) => (v : Int)).length := ⟨_, rfl⟩
      rw [← hm0] at HH5 ⊢
      clear hm0
      have HL5 : Hid (((List.range q).map fun (v : Nat) => (v : Int)).length < 1000000000) := Lib.hid (by rw [List.length_map, List.length_range]; omega)
      have hb6 : Below w5.heap.size w5 (w5.alloc (.cells #[.int .i64 (q : Int)] 3)) := (Below.refl _ w5).alloc (Nat.le_refl _) _
      have HH6 := Lib.hid (HH5.out.step hb6)
      have HO6 := Lib.hid (own_below HO5.out hb6)
      have HA6 := Lib.hid HH6.out.ao
      have HN6 : Hid ((w5.alloc (.cells #[.int .i64 (q : Int)] 3)).heap[w5.heap.size]? = some (.cells #[.int .i64 (q : Int)] 3 (0, 0))) := Lib.hid (heap_alloc_new w5 _)
      have HZ6 := Lib.hid HH6.out.up
      clear hb6 HH5 HO5
      go_wp2_with (at_builtin; refine app_i rfl (.tmp 24) (.tmp 26) rfl (n0 + 5) _ _ _ rfl HA6.out _ rfl HN6.out HL5.out HZ6.out ?_)
      intro v7 w7 ho7 hg7
      have HB7 := Lib.hid (HH6.out.below.trans (own_grown HA6.out hg7 (by have := HN0.out; omega) HH6.out.below.size))
      have HG7 : Hid (w7.heap[n0]? = some (.cells #[.int .i64 (V : Int), .slice A n c] 24 (0, 0))) := Lib.hid (box_other HH6.out.gb HA6.out (by decide) hg7)
      have HJ7 : Hid (w7.heap[n0 + 1]? = some (.cells #[.int .u8 k, .int .i64 st, .int .i64 so, .int .i64 dm, .int .i64 ep] 26 (0, 0))) := Lib.hid (box_other HH6.out.jb HA6.out (by decide) hg7)
      have HS7 : Hid (w7.heap[n0 + 1 + 1]? = some (.cells #[.int .i64 a0, .slice Av V cv, .slice Ac V cc, a3, a4, a5] 33 (0, 0))) := Lib.hid (box_other HH6.out.sb HA6.out (by decide) hg7)
      have HX7 := Lib.hid (box_other HH6.out.zb HA6.out (by decide) hg7)
      have HT7 := Lib.hid (box_other HH6.out.tb HA6.out (by decide) hg7)
      have HR7 := Lib.hid (HH6.out.so.other HA6.out (by decide) (by decide) hg7)
      have HO7 := Lib.hid (own_other HO6.out HA6.out (by decide) hg7)
      have HA7 : Hid (IOwn w7 (n0 + 5) v7 ((List.range (q + 1)).map fun (v : Nat) => (v : Int))) := Lib.hid (by rw [List.range_succ, List.map_append]; exact ho7)
      have HU7 : Hid (n0 + 5 ≤ w7.heap.size) := Lib.hid (Nat.le_trans HZ6.out hg7.size)
      clear ho7 hg7 HA6 HN6 HZ6 HL5 HH6 HO6
      obtain ⟨A7, c7, rfl, _⟩ := HA7.out.form
      obtain ⟨m7, hm7⟩ : ∃ m7, m7 = ((List.range (q + 1)).map fun (v : Nat) => (v : Int)).length := ⟨_, rfl⟩
      rw [← hm7] at HA7 ⊢
      clear hm7
      obtain ⟨As, cs, rfl, _⟩ := HR7.out.form
      obtain ⟨ms, hms⟩ : ∃ ms, ms = ((List.range q).map (rowF k L vals chg)).length := ⟨_, rfl⟩
      rw [← hms] at HR7 ⊢
      clear hms
      obtain ⟨kv, ov, rfl, _⟩ := (HVA.out.below HB7.out) q y HY.out
      obtain ⟨kc, oc, rfl, _⟩ := (HCA.out.below HB7.out) q ch HCH.out
      have HSW : Hid (∀ W' : World, Below w7.heap.size w7 W' → (fun w' : World => w'.cell? ⟨n0, 0, none⟩ = some (.int .i64 (V : Int)) ∧ w'.cell? ⟨n0, 1, none⟩ = some (.slice A n c) ∧ w'.cell? ⟨n0 + 1, 0, none⟩ = some (.int .u8 k) ∧ w'.cell? ⟨n0 + 1, 1, none⟩ = some (.int .i64 st) ∧ w'.cell? ⟨n0 + 1, 2, none⟩ = some (.int .i64 so) ∧ w'.cell? ⟨n0 + 1, 3, none⟩ = some (.int .i64 dm) ∧ w'.cell? ⟨n0 + 1, 4, none⟩ = some (.int .i64 ep) ∧ w'.cell? ⟨n0 + 1 + 1, 1, none⟩ = some (.slice (some ⟨kv, ov, none⟩) V cv) ∧ w'.cell? ⟨n0 + 1 + 1, 2, none⟩ = some (.slice (some ⟨kc, oc, none⟩) V cc) ∧ w'.cell? ⟨kv, ov + q, none⟩ = some (.int .i64 y) ∧ w'.cell? ⟨kc, oc + q, none⟩ = some (.bool ch)) W') := Lib.hid (fun W' hb => by
        obtain ⟨g0, g1, _⟩ := two (keep HG7.out hb)
        obtain ⟨j0, j1, j2, j3, j4, _⟩ := jb_cells (keep HJ7.out hb)
        obtain ⟨_, s1, s2, _, _, _, _⟩ := six (keep HS7.out hb)
        obtain ⟨_, _, e1, v0⟩ := (HVA.out.below (step_below HB7.out HB7.out.size hb)) q y HY.out
        cases e1
        obtain ⟨_, _, e2, u0⟩ := (HCA.out.below (step_below HB7.out HB7.out.size hb)) q ch HCH.out
        cases e2
        exact ⟨g0, g1, j0, j1, j2, j3, j4, s1, s2, v0, u0⟩)
      have hd7 : Below w7.heap.size w7 w7.drew := (Below.refl _ w7).drew
      have HD7 := Lib.hid hd7
      have hS := HSW.out _ hd7
      have hyr := HVR.out y (List.mem_of_getElem? HY.out)
      have HSD : Hid (∀ (W : World) (x : Value) (B2 : Nat), Below w7.heap.size w7 W → EOwn W B2 x (bckE L (q : Int)) → ∃ A2 n2 c2, x = .slice A2 n2 c2 ∧ Calls Tryz.prog 61 #[.agg #[.int .u8 k, .int .i64 st, .int .i64 so, .int .i64 dm, .int .i64 ep], .int .i64 (q : Int), .int .i64 y, .bool ch, .slice A1 n1 c1, .slice A2 n2 c2] W fun e w' => ∃ r, e = .returned r ∧ Hid (MOwn w' W.heap.size r (rowF k L vals chg q) ∧ Below W.heap.size W w')) := Lib.hid (fun W x B2 hW h2 => by
        obtain ⟨A1', c1', e1, h1, _⟩ := EOwn.form (own_below HO7.out hW)
        obtain ⟨A2, c2, e2, h2, _⟩ := h2.form
        cases e1
        refine ⟨A2, _, c2, e2, ?_⟩
        have h := rsend_any k st so dm ep (q : Int) y ch A1 A2 c1 c2 (outE L (q : Int)) (bckE L (q : Int)) W h1 h2 (Nat.le_trans (List.length_filter_le _ _) hm) (Nat.le_trans (List.length_filter_le _ _) hm) (by have := hyr.1; omega) (by have := hyr.2; omega)
        rw [HN1.out]
        refine h.mono ?_
        rintro e w' ⟨r, rfl, h3, h4⟩
        refine ⟨r, rfl, Lib.hid ⟨?_, h4.out⟩⟩
        unfold rowF
        rw [vl_of HY.out, bt_of HCH.out]
        exact h3.out)
      clear hd7
      go_upto_region 9 with fail
      refine Tl.headX_region (S := (fun w' : World => w'.cell? ⟨n0, 0, none⟩ = some (.int .i64 (V : Int)) ∧ w'.cell? ⟨n0, 1, none⟩ = some (.slice A n c) ∧ w'.cell? ⟨n0 + 1, 0, none⟩ = some (.int .u8 k) ∧ w'.cell? ⟨n0 + 1, 1, none⟩ = some (.int .i64 st) ∧ w'.cell? ⟨n0 + 1, 2, none⟩ = some (.int .i64 so) ∧ w'.cell? ⟨n0 + 1, 3, none⟩ = some (.int .i64 dm) ∧ w'.cell? ⟨n0 + 1, 4, none⟩ = some (.int .i64 ep) ∧ w'.cell? ⟨n0 + 1 + 1, 1, none⟩ = some (.slice (some ⟨kv, ov, none⟩) V cv) ∧ w'.cell? ⟨n0 + 1 + 1, 2, none⟩ = some (.slice (some ⟨kc, oc, none⟩) V cc) ∧ w'.cell? ⟨kv, ov + q, none⟩ = some (.int .i64 y) ∧ w'.cell? ⟨kc, oc + q, none⟩ = some (.bool ch))) 19 mixed (by decide) ?_
      try dsimp only
      refine Tl.headX_tk 0 ?v0_1 rfl (by kernel_rfl) (by decide) (by kernel_rfl) (by kernel_rfl) (by kernel_rfl) (fun _ _ _ h => h) (by rfl) (fun W hSw => ?hy0_1) hS ?_
      case hy0_1 => ((try dsimp only at hSw); go_simp; try with_reducible rfl)
      simp only [Act.put, List.setIfInBounds_toArray, List.set_cons_zero, List.set_cons_succ]
      refine Tl.headX_tk 1 ?v1_2 rfl (by kernel_rfl) (by decide) (by kernel_rfl) (by kernel_rfl) (by kernel_rfl) (fun _ _ _ h => h) (by rfl) (fun W hSw => ?hy1_2) hS ?_
      case hy1_2 => ((try dsimp only at hSw); go_simp; try with_reducible rfl)
      simp only [Act.put, List.setIfInBounds_toArray, List.set_cons_zero, List.set_cons_succ]
      refine Tl.headX_tk 2 ?v2_3 rfl (by kernel_rfl) (by decide) (by kernel_rfl) (by kernel_rfl) (by kernel_rfl) (fun _ _ _ h => h) (by rfl) (fun W hSw => ?hy2_3) hS ?_
      case hy2_3 => ((try dsimp only at hSw); go_simp; try with_reducible rfl)
      simp only [Act.put, List.setIfInBounds_toArray, List.set_cons_zero, List.set_cons_succ]
      refine Tl.headX_tk 3 ?v3_4 rfl (by kernel_rfl) (by decide) (by kernel_rfl) (by kernel_rfl) (by kernel_rfl) (fun _ _ _ h => h) (by rfl) (fun W hSw => ?hy3_4) hS ?_
      case hy3_4 => ((try dsimp only at hSw); go_simp; try with_reducible rfl)
      simp only [Act.put, List.setIfInBounds_toArray, List.set_cons_zero, List.set_cons_succ]
      refine Tl.headX_tk 4 ?v4_5 rfl (by kernel_rfl) (by decide) (by kernel_rfl) (by kernel_rfl) (by kernel_rfl) (fun _ _ _ h => h) (by rfl) (fun W hSw => ?hy4_5) hS ?_
      case hy4_5 => ((try dsimp only at hSw); go_simp; try with_reducible rfl)
      simp only [Act.put, List.setIfInBounds_toArray, List.set_cons_zero, List.set_cons_succ]
      refine Tl.headX_tk 5 ?v5_6 rfl (by kernel_rfl) (by decide) (by kernel_rfl) (by kernel_rfl) (by kernel_rfl) (fun _ _ _ h => h) (by rfl) (fun W hSw => ?hy5_6) hS ?_
      case hy5_6 => ((try dsimp only at hSw); go_simp; try with_reducible rfl)
      simp only [Act.put, List.setIfInBounds_toArray, List.set_cons_zero, List.set_cons_succ]
      refine Tl.headX_tk 6 ?v6_7 rfl (by kernel_rfl) (by decide) (by kernel_rfl) (by kernel_rfl) (by kernel_rfl) (fun _ _ _ h => h) (by rfl) (fun W hSw => ?hy6_7) hS ?_
      case hy6_7 => ((try dsimp only at hSw); go_simp; try with_reducible rfl)
      simp only [Act.put, List.setIfInBounds_toArray, List.set_cons_zero, List.set_cons_succ]
      refine Tl.headX_tk 7 ?v7_8 rfl (by kernel_rfl) (by decide) (by kernel_rfl) (by kernel_rfl) (by kernel_rfl) (fun _ _ _ h => h) (by rfl) (fun W hSw => ?hy7_8) hS ?_
      case hy7_8 => ((try dsimp only at hSw); go_simp; try with_reducible rfl)
      simp only [Act.put, List.setIfInBounds_toArray, List.set_cons_zero, List.set_cons_succ]
      refine Tl.headX_tk 8 ?v8_9 rfl (by kernel_rfl) (by decide) (by kernel_rfl) (by kernel_rfl) (by kernel_rfl) (fun _ _ _ h => h) (by rfl) (fun W hSw => ?hy8_9) hS ?_
      case hy8_9 => ((try dsimp only at hSw); go_simp; try with_reducible rfl)
      simp only [Act.put, List.setIfInBounds_toArray, List.set_cons_zero, List.set_cons_succ]
      refine Tl.headX_tk 9 ?v9_10 rfl (by kernel_rfl) (by decide) (by kernel_rfl) (by kernel_rfl) (by kernel_rfl) (fun _ _ _ h => h) (by rfl) (fun W hSw => ?hy9_10) hS ?_
      case hy9_10 => ((try dsimp only at hSw); go_simp; try with_reducible rfl)
      simp only [Act.put, List.setIfInBounds_toArray, List.set_cons_zero, List.set_cons_succ]
      refine Tl.headX_tk 10 ?v10_11 rfl (by kernel_rfl) (by decide) (by kernel_rfl) (by kernel_rfl) (by kernel_rfl) (fun _ _ _ h => h) (by rfl) (fun W hSw => ?hy10_11) hS ?_
      case hy10_11 => ((try dsimp only at hSw); go_simp; try with_reducible rfl)
      simp only [Act.put, List.setIfInBounds_toArray, List.set_cons_zero, List.set_cons_succ]
      refine Tl.headX_tk 11 ?v11_12 rfl (by kernel_rfl) (by decide) (by kernel_rfl) (by kernel_rfl) (by kernel_rfl) (fun _ _ _ h => h) (by rfl) (fun W hSw => ?hy11_12) hS ?_
      case hy11_12 => ((try dsimp only at hSw); go_simp; try with_reducible rfl)
      simp only [Act.put, List.setIfInBounds_toArray, List.set_cons_zero, List.set_cons_succ]
      refine Tl.headX_tk 12 ?v12_13 rfl (by kernel_rfl) (by decide) (by kernel_rfl) (by kernel_rfl) (by kernel_rfl) (fun _ _ _ h => h) (by rfl) (fun W hSw => ?hy12_13) hS ?_
      case hy12_13 => ((try dsimp only at hSw); go_simp; try with_reducible rfl)
      simp only [Act.put, List.setIfInBounds_toArray, List.set_cons_zero, List.set_cons_succ]
      refine Tl.headX_tk 13 ?v13_14 rfl (by kernel_rfl) (by decide) (by kernel_rfl) (by kernel_rfl) (by kernel_rfl) (fun _ _ _ h => h) (by rfl) (fun W hSw => ?hy13_14) hS ?_
      case hy13_14 => ((try dsimp only at hSw); go_simp; try with_reducible rfl)
      simp only [Act.put, List.setIfInBounds_toArray, List.set_cons_zero, List.set_cons_succ]
      refine Tl.headX_tk 14 ?v14_15 rfl (by kernel_rfl) (by decide) (by kernel_rfl) (by kernel_rfl) (by kernel_rfl) (fun _ _ _ h => h) (by rfl) (fun W hSw => ?hy14_15) hS ?_
      case hy14_15 => ((try dsimp only at hSw); go_simp; try with_reducible rfl)
      simp only [Act.put, List.setIfInBounds_toArray, List.set_cons_zero, List.set_cons_succ]
      refine Tl.headX_tk 15 ?v15_16 rfl (by kernel_rfl) (by decide) (by kernel_rfl) (by kernel_rfl) (by kernel_rfl) (fun _ _ _ h => h) (by rfl) (fun W hSw => ?hy15_16) hS ?_
      case hy15_16 => ((try dsimp only at hSw); go_simp; try with_reducible rfl)
      simp only [Act.put, List.setIfInBounds_toArray, List.set_cons_zero, List.set_cons_succ]
      have HWD : Hid (Below w.heap.size w w7.drew) := Lib.hid (step_below HB7.out HB7.out.size HD7.out)
      refine Tl.headX_cl (R := fun v w' => Hid (EOwn w' w7.drew.heap.size v (bckE L (q : Int)) ∧ Below w7.drew.heap.size w7.drew w')) 16 _ _ rfl (by decide) (by kernel_rfl) (by rfl) ?he16 ((HRB.out _ HWD.out).mono (by rintro e w' ⟨x, rfl, h1, h2⟩; exact ⟨x, rfl, Lib.hid ⟨h1, h2⟩⟩)) ?_
      case he16 => (go_simp; try with_reducible rfl)
      rintro r w8 hr
      have HB8 : Hid (Below w7.heap.size w7 w8) := Lib.hid (step_below HD7.out HD7.out.size hr.out.2)
      obtain ⟨A2, n2, c2, rfl, hsd⟩ := HSD.out w8 r _ HB8.out hr.out.1
      have HS8 := Lib.hid hsd
      clear hr hS hsd
      have hS := HSW.out _ HB8.out
      refine ⟨hS, ?_⟩
      simp only [Act.put, List.setIfInBounds_toArray, List.set_cons_zero, List.set_cons_succ]
      refine Tl.headX_cl 17 _ _ rfl (by decide) (by kernel_rfl) (by rfl) ?he17 HS8.out ?_
      case he17 => (go_simp; try with_reducible rfl)
      rintro r w9 hr
      have HB9 : Hid (Below w7.heap.size w7 w9) := Lib.hid (step_below HB8.out HB8.out.size hr.out.2)
      have HR9 : Hid (MOwn w9 (n0 + 5) r (rowF k L vals chg q)) := Lib.hid (own_mono hr.out.1 (Nat.le_trans HU7.out HB8.out.size))
      clear hr hS
      obtain ⟨Ar, cr, rfl, _⟩ := HR9.out.room
      obtain ⟨mr, hmr⟩ : ∃ mr, mr = (rowF k L vals chg q).length := ⟨_, rfl⟩
      rw [← hmr] at HR9 ⊢
      clear hmr
      have hS := HSW.out _ HB9.out
      refine ⟨hS, ?_⟩
      simp only [Act.put, List.setIfInBounds_toArray, List.set_cons_zero, List.set_cons_succ]
      have hb10 : Below w9.heap.size w9 (w9.alloc (.cells #[.slice Ar mr cr] 97)) := (Below.refl _ w9).alloc (Nat.le_refl _) _
      have HB10 : Hid (Below w7.heap.size w7 (w9.alloc (.cells #[.slice Ar mr cr] 97))) := Lib.hid (step_below HB9.out HB9.out.size hb10)
      have HR10 : Hid (MOwn (w9.alloc (.cells #[.slice Ar mr cr] 97)) (n0 + 5) (.slice Ar mr cr) (rowF k L vals chg q)) := Lib.hid (own_below HR9.out hb10)
      have HO10 : Hid (ROwn (w9.alloc (.cells #[.slice Ar mr cr] 97)) (n0 + 5) (.slice As ms cs) ((List.range q).map (rowF k L vals chg))) := Lib.hid (HR7.out.below HB10.out)
      have HA10 := Lib.hid (own_below HA7.out HB10.out)
      have HN10 : Hid ((w9.alloc (.cells #[.slice Ar mr cr] 97)).heap[w9.heap.size]? = some (.cells #[.slice Ar mr cr] 97 (0, 0))) := Lib.hid (heap_alloc_new w9 _)
      have HU10 : Hid (n0 + 5 ≤ (w9.alloc (.cells #[.slice Ar mr cr] 97)).heap.size) := Lib.hid (Nat.le_trans HU7.out HB10.out.size)
      have HL9 : Hid (((List.range q).map (rowF k L vals chg)).length < 1000000000) := Lib.hid (by rw [List.length_map, List.length_range]; omega)
      refine Tl.headX_vl 18 ?v18_17 ?w18_17 rfl (by decide) (by kernel_rfl) (by rfl) ?hy18_17 ?hs18_17 ?_
      case hy18_17 => (go_simp; first | (constructor <;> with_reducible rfl) | with_reducible rfl)
      case hs18_17 => exact HSW.out _ HB10.out
      simp only [Act.put, List.setIfInBounds_toArray, List.set_cons_zero, List.set_cons_succ]
      refine Tl.headX_rest (by kernel_rfl) ?_
      simp only [List.drop_succ_cons, List.drop_zero]
      clear hS HSD HR9 HB9 HB8 HS8 HSW hb10 HWD
      go_wp2_with (at_builtin; refine app_r rfl (.tmp 28) (.tmp 46) rfl (n0 + 5) _ _ _ _ rfl HO10.out _ rfl HN10.out HR10.out HL9.out HU10.out ?_)
      intro v11 w11 ho11 hg11
      have hso := HO10.out
      obtain ⟨xs10, ho10, _⟩ := hso
      have HB11 := Lib.hid ((step_below HB7.out HB7.out.size HB10.out).trans (own_grown ho10 hg11 (by have := HN0.out; omega) (step_below HB7.out HB7.out.size HB10.out).size))
      have HG11 := Lib.hid (box_other (keep HG7.out HB10.out) ho10 (by decide) hg11)
      have HJ11 := Lib.hid (box_other (keep HJ7.out HB10.out) ho10 (by decide) hg11)
      have HS11 := Lib.hid (box_other (keep HS7.out HB10.out) ho10 (by decide) hg11)
      have HX11 := Lib.hid (box_other (keep HX7.out HB10.out) ho10 (by decide) hg11)
      have HT11 := Lib.hid (box_other (keep HT7.out HB10.out) ho10 (by decide) hg11)
      have HA11 := Lib.hid (own_other HA10.out ho10 (by decide) hg11)
      have HR11 : Hid (ROwn w11 (n0 + 5) v11 ((List.range (q + 1)).map (rowF k L vals chg))) := Lib.hid (by rw [List.range_succ, List.map_append]; exact ho11)
      have HU11 : Hid (n0 + 5 ≤ w11.heap.size) := Lib.hid (Nat.le_trans HU10.out hg11.size)
      clear ho11 hg11 ho10 HO10 HN10 HR10 HL9 HU10 HB10 HA10
      -- its part of the total
      obtain ⟨A11, c11, rfl, _⟩ := HR11.out.form
      obtain ⟨j0, j1, j2, j3, j4, _⟩ := jb_cells HJ11.out
      obtain ⟨_, s1, s2, _, _, _, _⟩ := six HS11.out
      obtain ⟨t0, t1, _⟩ := two HT11.out
      obtain ⟨_, _, e1, v0⟩ := (HVA.out.below HB11.out) q y HY.out
      cases e1
      obtain ⟨_, _, e2, u0⟩ := (HCA.out.below HB11.out) q ch HCH.out
      cases e2
      obtain ⟨ka, oa, rfl, z0⟩ := (HAA.out.below HB11.out) q z HZ.out
      have hzr := HAR.out z (List.mem_of_getElem? HZ.out)
      obtain ⟨x1, hx1⟩ : ∃ s1, s1 = sumF k L vals (List.range (q + 1)) := ⟨_, rfl⟩
      obtain ⟨x2, hx2⟩ : ∃ m1, m1 = mosF k was vals chg (List.range (q + 1)) := ⟨_, rfl⟩
      obtain ⟨x3, hx3⟩ : ∃ s0, s0 = sumF k L vals (List.range q) := ⟨_, rfl⟩
      obtain ⟨x4, hx4⟩ : ∃ m0, m0 = mosF k was vals chg (List.range q) := ⟨_, rfl⟩
      obtain ⟨p1, hp1⟩ : ∃ p1, p1 = prtS k y n1 := ⟨_, rfl⟩
      obtain ⟨p2, hp2⟩ : ∃ p2, p2 = prtM k z y ch := ⟨_, rfl⟩
      have es : jonS k x3 p1 = x1 := by rw [hx1, List.range_succ, sumF_next, hx3, hp1, vl_of HY.out, HN1.out]
      have em : jonM k x4 p2 = x2 := by rw [hx2, List.range_succ, mosF_next, hx4, hp2, vl_of HY.out, vl_of HZ.out, bt_of HCH.out]
      rw [← hx3] at t0
      rw [← hx4] at t1
      rw [← hx3, ← hx4] at HT11
      have C1 := Lib.hid (regr fun W (_ : Below w11.heap.size w11 W) => rpart_any k st so dm ep z y ch A1 n1 c1 (by have := hzr.1; omega) (by have := hzr.2; omega) (by have := hyr.1; omega) (by have := hyr.2; omega) W)
      have C2 := Lib.hid (regr fun W (_ : Below w11.heap.size w11 W) => rjoin_any k st so dm ep x3 x4 p1 p2 W)
      rw [← hp1, ← hp2] at C1
      rw [es, em] at C2
      have HX1 := Lib.hid hx1; have HX2 := Lib.hid hx2
      clear hx1 hx2 hx3 hx4 hp1 hp2 es em hyr hzr
      have y0 := cell_regrown j0; have y1 := cell_regrown j1; have y2 := cell_regrown j2; have y3 := cell_regrown j3; have y4 := cell_regrown j4
      have y5 := cell_regrown t0; have y6 := cell_regrown t1; have y7 := cell_regrown s1; have y8 := cell_regrown s2; have y9 := cell_regrown v0; have y10 := cell_regrown u0; have y11 := cell_regrown z0
      clear j0 j1 j2 j3 j4 t0 t1 s1 s2 v0 u0 z0
      go_upto_region 10 with fail
      refine Tl.region_tail_below 20 mixed (by kernel_rfl) ?_
      simp only [List.take_succ_cons, List.take_zero, List.drop_succ_cons, List.drop_zero]
      repeat (go_big_quiet_step ((with_reducible first | exact C1.out _ _ | exact C2.out _ _)))
      refine wpQuiet_nil ?_
      intro w12 hw12
      have hb12 : Below w11.heap.size w11 w12 := by obtain ⟨⟨dq, osq⟩, rfl⟩ := hw12; exact below_regrown w11 dq osq
      have HB12 := Lib.hid hb12
      clear hb12 hw12 y0 y1 y2 y3 y4 y5 y6 y7 y8 y9 y10 y11 C1 C2
      have HT12 := Lib.hid (keep HT11.out HB12.out)
      have f0 := warm HT12.out 0; have f1 := warm HT12.out 1
      obtain ⟨t0, t1, _⟩ := two HT12.out
      obtain ⟨X, hX⟩ : ∃ X, X = (w12.setCell ⟨n0 + 1 + 1 + 1 + 1, 0, none⟩ (.int .i64 x1)).setCell ⟨n0 + 1 + 1 + 1 + 1, 1, none⟩ (.int .i64 x2) := ⟨_, rfl⟩
      have HX := Lib.hid hX
      have HHX : Hid (RtH w X n0 k st so dm ep V A n c L (some ⟨kv, ov, none⟩) cv (some ⟨kc, oc, none⟩) cc a0 a3 a4 a5 was vals chg (.slice A7 m7 c7) (.slice A11 ((List.range (q + 1)).map (rowF k L vals chg)).length c11) (q + 1)) := Lib.hid (by
        have ho : ∀ j, j ≠ n0 + 1 + 1 + 1 + 1 → X.heap[j]? = w12.heap[j]? := fun j hj => by rw [hX]; exact (set_other _ _ _ _ _ hj).trans (set_other _ _ _ _ _ hj)
        have hbw := HN0.out
        refine ⟨?_, (ho _ (by omega)).trans (keep HG11.out HB12.out), (ho _ (by omega)).trans (keep HJ11.out HB12.out), (ho _ (by omega)).trans (keep HS11.out HB12.out), (ho _ (by omega)).trans (keep HX11.out HB12.out), ?_, own_moved (own_below HA11.out HB12.out) HT12.out (by decide) ho, ?_, ?_⟩
        · rw [hX]
          exact ((step_below HB11.out HB11.out.size HB12.out).setCell (p := ⟨n0 + 1 + 1 + 1 + 1, 0, none⟩) (by show w.heap.size ≤ n0 + 1 + 1 + 1 + 1; omega) _).setCell (p := ⟨n0 + 1 + 1 + 1 + 1, 1, none⟩) (by show w.heap.size ≤ n0 + 1 + 1 + 1 + 1; omega) _
        · rw [hX, ← HX1.out, ← HX2.out]
          exact set_heap (i := 1) (set_heap (i := 0) HT12.out (.int .i64 x1)) (.int .i64 x2)
        · obtain ⟨xs, h1, h2⟩ := HR11.out.below HB12.out
          exact ⟨xs, own_moved h1 HT12.out (by decide) ho, h2.1, fun i M hi => by obtain ⟨x, e1, e2⟩ := h2.2 i M hi; exact ⟨x, e1, own_moved e2 HT12.out (by decide) ho⟩⟩
        · rw [hX]
          exact Nat.le_trans (Nat.le_trans HU11.out HB12.out.size) (by simp))
      clear hX HB12 HG11 HJ11 HS11 HX11 HT11 HA11 HR11 HU11 HB11 HG7 HJ7 HS7 HX7 HT7 HR7 HO7 HA7 HU7 HB7
      go_wp2
      rw [← HX.out]
      go_wp2
      go_roundg (gk - 1)
      case measure => omega
      case rel => exact ⟨q + 1, by omega, by go_num, HHX⟩
    · obtain rfl : q = V := by omega
      obtain ⟨Aal, cal, rfl, hal⟩ := HH.out.ao.form
      obtain ⟨As, cs, rfl, hrm⟩ := HH.out.so.form
      rw [List.length_map, List.length_range] at HH
      rw [List.length_map, List.length_range] at HH
      have HMG : Hid (Calls Tryz.prog 65 #[.agg #[.int .u8 k, .int .i64 st, .int .i64 so, .int .i64 dm, .int .i64 ep], .slice Aal q cal, .slice As q cs] wr fun e w' => ∃ Ai ci, e = .returned (.slice Ai q ci) ∧ Hid (KOwn w' wr.heap.size (.slice Ai q ci) (inbS k q L vals chg) ∧ Below wr.heap.size wr w')) := Lib.hid (by
        have h := rmerge_any k st so dm ep Aal As q cal q cs ((List.range q).map fun (v : Nat) => (v : Int)) (rowsS k q L vals chg) wr hal (by simp) (fun i M hi => hrm i M hi) (by simp [rowsS]) (by omega) (by omega) (rows_few k q L vals chg hV hm)
        refine h.mono ?_
        rintro e w' ⟨v, rfl, h1, h2⟩
        obtain ⟨Ar, cr, rfl, _⟩ := h1.out.room
        have h3 := h1.out
        have hl : (mergeM k ((List.range q).map fun (v : Nat) => (v : Int)) (rowsS k q L vals chg)).length = q := inb_len k q L vals chg
        rw [hl] at h3 ⊢
        exact ⟨Ar, cr, rfl, Lib.hid ⟨h3, h2.out⟩⟩)
      clear hal hrm g1
      obtain ⟨j0, j1, j2, j3, j4, _⟩ := jb_cells HH.out.jb
      go_wp2_with fail
      refine HMG.out.mono ?_
      rintro e w3 ⟨Ai, ci, rfl, hr⟩
      have HK3 := Lib.hid hr.out.1
      have HH3 := Lib.hid (HH.out.step hr.out.2)
      have HWR : Hid (w.heap.size ≤ wr.heap.size) := Lib.hid HH.out.below.size
      clear hr HMG HH j0 j1 j2 j3 j4 g0
      obtain ⟨s1, hs1⟩ : ∃ s1, s1 = sumF k L vals (List.range q) := ⟨_, rfl⟩
      obtain ⟨m1, hm1⟩ : ∃ m1, m1 = mosF k was vals chg (List.range q) := ⟨_, rfl⟩
      have HT3 := Lib.hid HH3.out.tb
      rw [← hs1, ← hm1] at HT3
      have HS1 : Hid (sumS k q L vals = s1) := Lib.hid (by rw [hs1]; rfl)
      have HM1 : Hid (mosS k q was vals chg = m1) := Lib.hid (by rw [hm1]; rfl)
      clear hs1 hm1
      have HSB := Lib.hid HH3.out.sb; have HZB := Lib.hid HH3.out.zb
      -- the row, the sum, the most
      have hx3 := set_heap (i := 3) HSB.out (.slice Ai q ci)
      have hx4 := set_heap (i := 4) hx3 (.int .i64 s1)
      have hx5 := set_heap (i := 5) hx4 (.int .i64 m1)
      obtain ⟨X3, hX3⟩ : ∃ X3, X3 = w3.setCell ⟨n0 + 1 + 1, 3, none⟩ (.slice Ai q ci) := ⟨_, rfl⟩
      obtain ⟨X4, hX4⟩ : ∃ X4, X4 = X3.setCell ⟨n0 + 1 + 1, 4, none⟩ (.int .i64 s1) := ⟨_, rfl⟩
      obtain ⟨X5, hX5⟩ : ∃ X5, X5 = X4.setCell ⟨n0 + 1 + 1, 5, none⟩ (.int .i64 m1) := ⟨_, rfl⟩
      rw [← hX3] at hx3 hx4 hx5
      rw [← hX4] at hx4 hx5
      rw [← hX5] at hx5
      have ho3 : ∀ j, j ≠ n0 + 1 + 1 → X3.heap[j]? = w3.heap[j]? := fun j hj => by rw [hX3]; exact set_other _ _ _ _ _ hj
      have ho4 : ∀ j, j ≠ n0 + 1 + 1 → X4.heap[j]? = w3.heap[j]? := fun j hj => by rw [hX4]; exact (set_other _ _ _ _ _ hj).trans (ho3 j hj)
      have ho5 : ∀ j, j ≠ n0 + 1 + 1 → X5.heap[j]? = w3.heap[j]? := fun j hj => by rw [hX5]; exact (set_other _ _ _ _ _ hj).trans (ho4 j hj)
      have HE3 := Lib.hid hX3; have HE4 := Lib.hid hX4; have HE5 := Lib.hid hX5
      have HY3 : Hid (X3.heap[n0 + 1 + 1]? = some (.cells #[.int .i64 a0, .slice Av q cv, .slice Ac q cc, .slice Ai q ci, a4, a5] 33 (0, 0))) := Lib.hid hx3
      have HY4 : Hid (X4.heap[n0 + 1 + 1]? = some (.cells #[.int .i64 a0, .slice Av q cv, .slice Ac q cc, .slice Ai q ci, .int .i64 s1, a5] 33 (0, 0))) := Lib.hid hx4
      have HY5 : Hid (X5.heap[n0 + 1 + 1]? = some (.cells #[.int .i64 a0, .slice Av q cv, .slice Ac q cc, .slice Ai q ci, .int .i64 s1, .int .i64 m1] 33 (0, 0))) := Lib.hid hx5
      have HT4 := Lib.hid ((ho3 _ (by omega)).trans HT3.out); have HT5 := Lib.hid ((ho4 _ (by omega)).trans HT3.out)
      have HZ5 := Lib.hid ((ho5 _ (by omega)).trans HZB.out)
      have HK5 := Lib.hid (own_moved HK3.out HSB.out (by decide) ho5)
      have HB5 : Hid (Below w.heap.size w X5) := Lib.hid (by
        have hbw := HN0.out
        rw [hX5, hX4, hX3]
        exact ((HH3.out.below.setCell (p := ⟨n0 + 1 + 1, 3, none⟩) (by show w.heap.size ≤ n0 + 1 + 1; omega) _).setCell (p := ⟨n0 + 1 + 1, 4, none⟩) (by show w.heap.size ≤ n0 + 1 + 1; omega) _).setCell (p := ⟨n0 + 1 + 1, 5, none⟩) (by show w.heap.size ≤ n0 + 1 + 1; omega) _)
      clear hx3 hx4 hx5 hX3 hX4 hX5 ho3 ho4 ho5
      obtain ⟨_, _, _, b3, _, _, _⟩ := six HSB.out
      have f3 := warm HSB.out 3
      go_upto_region 12 with fail
      rw [← HE3.out]
      clear b3 f3
      obtain ⟨t0, t1, _⟩ := two HT4.out
      obtain ⟨_, _, _, _, b4, _, _⟩ := six HY3.out
      have f4 := warm HY3.out 4
      go_upto_region 13 with fail
      rw [← HE4.out]
      clear t0 t1 b4 f4
      obtain ⟨t0, t1, _⟩ := two HT5.out
      obtain ⟨_, _, _, _, _, b5, _⟩ := six HY4.out
      have f5 := warm HY4.out 5
      go_upto_region 14 with fail
      rw [← HE5.out]
      clear t0 t1 b5 f5
      obtain ⟨x0, x1, x2, x3, x4, x5, _⟩ := six HY5.out
      obtain ⟨r0, r1, r2, r3, r4, r5, rl⟩ := six HZ5.out
      have f0 := warm HZ5.out 0; have f1 := warm HZ5.out 1; have f2 := warm HZ5.out 2; have f3 := warm HZ5.out 3; have f4 := warm HZ5.out 4; have f5 := warm HZ5.out 5
      go_wp2
      have hX := put6_heap HZ5.out (.int .i64 a0) (.slice Av q cv) (.slice Ac q cc) (.slice Ai q ci) (.int .i64 s1) (.int .i64 m1)
      have hBX := put6_below HB5.out (b := n0 + 1 + 1 + 1) (by have := HN0.out; omega) (.int .i64 a0) (.slice Av q cv) (.slice Ac q cc) (.slice Ai q ci) (.int .i64 s1) (.int .i64 m1)
      have h1 := put6_moved (own_mono HK5.out HWR.out) HZ5.out (by decide) (.int .i64 a0) (.slice Av q cv) (.slice Ac q cc) (.slice Ai q ci) (.int .i64 s1) (.int .i64 m1)
      unfold put6 at hX hBX h1
      exact bodyPost_ret (v := .agg #[.int .i64 a0, .slice Av q cv, .slice Ac q cc, .slice Ai q ci, .int .i64 s1, .int .i64 m1]) (res_s _ _ _ _ _ _ _ _ _ _ _ Tryz.results38 rfl hX) rfl ⟨Ai, ci, by rw [HS1.out, HM1.out], Lib.hid h1, Lib.hid hBX⟩

end Go.Proofs.YtbbmgandkmlojaaGreat.Sq

/-
  What is proved here: a contract of a step on, as the document has it. Conditions: at most 512 vertices, at most 1000 edges; numbers that fit an int.
-/
namespace Go.Proofs.YtbbmgandkmlojaaGreat.Sq
open Go.RowKit Go.Shelf Gr Wd Ws Fx Rk Lb Al In
open Pa (vl bt vl_of vl_at bt_of bt_at)

set_option maxRecDepth 100000 in
set_option maxHeartbeats 1000000 in
theorem rnext_any (k st so dm ep step : Int) (V : Nat) (A : Option Addr) (n c : Nat) (L : List Ed) (Av Ac Ai : Option Addr) (cv cc ci nc : Nat) (s : Sq) (w : World)
    (hL : EAt w A L) (hn : L.length = n) (hv : IAt w Av s.vals) (hi : KAt w Ai s.inb) (hvl : s.vals.length = V) (hil : s.inb.length = V) (hvr : ∀ x ∈ s.vals, I63 x) (hir : ∀ m ∈ s.inb, I63 m.2) (hsr : I63 s.sum) (hnr : ∀ x ∈ nxtV k dm V s, I63 x)
    (hd : I63 dm) (hst : 0 ≤ step ∧ step ≤ 2000) (hV : V ≤ 512) (hm : L.length ≤ 1000) :
    Calls Tryz.prog 42 #[.agg #[.int .i64 (V : Int), .slice A n c], .agg #[.int .u8 k, .int .i64 st, .int .i64 so, .int .i64 dm, .int .i64 ep], .agg #[.int .i64 step, .slice Av V cv, .slice Ac nc cc, .slice Ai V ci, .int .i64 s.sum, .int .i64 s.most]] w fun e w' => ∃ x, e = .returned x ∧ Hid (SOwn w' w.heap.size x (step + 1) (nxtS k dm V L s)) ∧ Hid (Below w.heap.size w w') := by
  have mixed := mixedI
  have HL := Lib.hid hL; have HN := Lib.hid hn; have HVA := Lib.hid hv; have HIA := Lib.hid hi; have HVL := Lib.hid hvl; have HIL := Lib.hid hil; have HVR := Lib.hid hvr; have HIR := Lib.hid hir; have HSR := Lib.hid hsr; have HNR := Lib.hid hnr; have HDR := Lib.hid hd
  clear hL hn hv hi hvl hil hvr hir hsr hnr hd
  obtain ⟨sm, hsm⟩ : ∃ sm, sm = s.sum := ⟨_, rfl⟩
  obtain ⟨mo, hmo⟩ : ∃ mo, mo = s.most := ⟨_, rfl⟩
  rw [← hsm, ← hmo]
  have HSM := Lib.hid hsm; have HMO := Lib.hid hmo
  clear hsm hmo
  obtain ⟨W5, hW5⟩ : ∃ W5, W5 = ((((w.alloc (.cells #[.int .i64 (V : Int), .slice A n c] 24)).alloc (.cells #[.int .u8 k, .int .i64 st, .int .i64 so, .int .i64 dm, .int .i64 ep] 26)).alloc (.cells #[.int .i64 step, .slice Av V cv, .slice Ac nc cc, .slice Ai V ci, .int .i64 sm, .int .i64 mo] 33)).alloc (.cells #[.int .i64 0, .slice none 0 0, .slice none 0 0, .slice none 0 0, .int .i64 0, .int .i64 0] 33)).alloc (.cells #[.int .i64 (step + 1), .slice none 0 0, .slice none 0 0, .slice none 0 0, .int .i64 0, .int .i64 0] 33) := ⟨_, rfl⟩
  have hal := al5 w (.cells #[.int .i64 (V : Int), .slice A n c] 24) (.cells #[.int .u8 k, .int .i64 st, .int .i64 so, .int .i64 dm, .int .i64 ep] 26) (.cells #[.int .i64 step, .slice Av V cv, .slice Ac nc cc, .slice Ai V ci, .int .i64 sm, .int .i64 mo] 33) (.cells #[.int .i64 0, .slice none 0 0, .slice none 0 0, .slice none 0 0, .int .i64 0, .int .i64 0] 33) (.cells #[.int .i64 (step + 1), .slice none 0 0, .slice none 0 0, .slice none 0 0, .int .i64 0, .int .i64 0] 33)
  rw [← hW5] at hal
  obtain ⟨n0, e0⟩ : ∃ n0, n0 = w.heap.size := ⟨_, rfl⟩
  obtain ⟨fx, hfx⟩ : ∃ fx : Fxd, fx = [(n0, #[.int .i64 (V : Int), .slice A n c], 24), (n0 + 1, #[.int .u8 k, .int .i64 st, .int .i64 so, .int .i64 dm, .int .i64 ep], 26), (n0 + 1 + 1, #[.int .i64 step, .slice Av V cv, .slice Ac nc cc, .slice Ai V ci, .int .i64 sm, .int .i64 mo], 33), (n0 + 1 + 1 + 1, #[.int .i64 0, .slice none 0 0, .slice none 0 0, .slice none 0 0, .int .i64 0, .int .i64 0], 33)] := ⟨_, rfl⟩
  have HH : Hid (NxH w W5 (n0 + 1 + 1 + 1 + 1) w.heap.size fx (.int .i64 (step + 1)) (.slice none 0 0) (.int .i64 0) (.int .i64 0) [] [] (.slice none 0 0) (.slice none 0 0) (.slice none 0 0) (.slice none 0 0)) := Lib.hid (by
    refine ⟨hal.2.2.2.2.2, ?_, by rw [e0]; exact hal.2.2.2.2.1, QOwn.none_ _ _, BOwn.none_ _ _, ?_, by omega⟩
    · rw [hfx]; intro p hp
      simp only [List.mem_cons, List.not_mem_nil, or_false] at hp
      rcases hp with rfl | rfl | rfl | rfl
      · rw [e0]; exact hal.1
      · rw [e0]; exact hal.2.1
      · rw [e0]; exact hal.2.2.1
      · rw [e0]; exact hal.2.2.2.1
    · rw [hfx]; intro p hp
      simp only [List.mem_cons, List.not_mem_nil, or_false] at hp
      rcases hp with rfl | rfl | rfl | rfl <;> exact ⟨by simp only []; omega, by simp only []; decide, by simp only []; decide⟩)
  have HF0 : Hid (∀ W l1 l2 va ua vb ub, NxH w W (n0 + 1 + 1 + 1 + 1) w.heap.size fx (.int .i64 (step + 1)) (.slice none 0 0) (.int .i64 0) (.int .i64 0) l1 l2 va ua vb ub → W.heap[n0]? = some (.cells #[.int .i64 (V : Int), .slice A n c] 24 (0, 0))) := Lib.hid (fun W _ _ _ _ _ _ h => h.fixed (n0, #[.int .i64 (V : Int), .slice A n c], 24) (by rw [hfx]; exact List.mem_cons_self))
  have HF1 : Hid (∀ W l1 l2 va ua vb ub, NxH w W (n0 + 1 + 1 + 1 + 1) w.heap.size fx (.int .i64 (step + 1)) (.slice none 0 0) (.int .i64 0) (.int .i64 0) l1 l2 va ua vb ub → W.heap[n0 + 1]? = some (.cells #[.int .u8 k, .int .i64 st, .int .i64 so, .int .i64 dm, .int .i64 ep] 26 (0, 0))) := Lib.hid (fun W _ _ _ _ _ _ h => h.fixed (n0 + 1, #[.int .u8 k, .int .i64 st, .int .i64 so, .int .i64 dm, .int .i64 ep], 26) (by rw [hfx]; exact List.mem_cons_of_mem _ List.mem_cons_self))
  have HF2 : Hid (∀ W l1 l2 va ua vb ub, NxH w W (n0 + 1 + 1 + 1 + 1) w.heap.size fx (.int .i64 (step + 1)) (.slice none 0 0) (.int .i64 0) (.int .i64 0) l1 l2 va ua vb ub → W.heap[n0 + 1 + 1]? = some (.cells #[.int .i64 step, .slice Av V cv, .slice Ac nc cc, .slice Ai V ci, .int .i64 sm, .int .i64 mo] 33 (0, 0))) := Lib.hid (fun W _ _ _ _ _ _ h => h.fixed (n0 + 1 + 1, #[.int .i64 step, .slice Av V cv, .slice Ac nc cc, .slice Ai V ci, .int .i64 sm, .int .i64 mo], 33) (by rw [hfx]; exact List.mem_cons_of_mem _ (List.mem_cons_of_mem _ List.mem_cons_self)))
  have HF3 : Hid (∀ W l1 l2 va ua vb ub, NxH w W (n0 + 1 + 1 + 1 + 1) w.heap.size fx (.int .i64 (step + 1)) (.slice none 0 0) (.int .i64 0) (.int .i64 0) l1 l2 va ua vb ub → W.heap[n0 + 1 + 1 + 1]? = some (.cells #[.int .i64 0, .slice none 0 0, .slice none 0 0, .slice none 0 0, .int .i64 0, .int .i64 0] 33 (0, 0))) := Lib.hid (fun W _ _ _ _ _ _ h => h.fixed (n0 + 1 + 1 + 1, #[.int .i64 0, .slice none 0 0, .slice none 0 0, .slice none 0 0, .int .i64 0, .int .i64 0], 33) (by rw [hfx]; exact List.mem_cons_of_mem _ (List.mem_cons_of_mem _ (List.mem_cons_of_mem _ List.mem_cons_self))))
  have HN0 : Hid (w.heap.size ≤ n0) := Lib.hid (by omega)
  clear hal hfx
  go_enter Tryz.func42, Tryz.ntmps42
  go_upto_region 2 with fail
  rw [← hW5, show w.heap.size = n0 from e0.symm]
  clear hW5 e0
  go_wp2_with fail
  go_loopg [8] V (fun gk i W => ∃ q : Nat, q + gk = V ∧ i = .int .i64 (q : Int) ∧ ∃ va vb, Hid (NxH w W (n0 + 1 + 1 + 1 + 1) w.heap.size fx (.int .i64 (step + 1)) (.slice none 0 0) (.int .i64 0) (.int .i64 0) ((List.range q).map (nvF k dm V s)) ((List.range q).map (ncF k dm V s)) va va vb vb))
  case atStart => exact ⟨0, by omega, rfl, _, _, HH⟩
  case round =>
    clear HH
    obtain ⟨q, hq, rfl, va, vb, HH⟩ := hrel
    obtain ⟨g0, g1, _⟩ := two (HF0.out _ _ _ _ _ _ _ HH.out)
    by_cases hlt : q < V
    · obtain ⟨y, hy⟩ := at_lt s.vals q (by rw [HVL.out]; exact hlt)
      obtain ⟨⟨p, r⟩, hr⟩ := at_lt s.inb q (by rw [HIL.out]; exact hlt)
      obtain ⟨kv, ov, rfl, v0⟩ := (HVA.out.below HH.out.below) q y hy
      obtain ⟨ki, oi, rfl, i0, i1⟩ := (HIA.out.below HH.out.below) q (p, r) hr
      simp only at i0 i1
      obtain ⟨nv, hnv⟩ : ∃ nv, nv = nvF k dm V s q := ⟨_, rfl⟩
      obtain ⟨nb, hnb⟩ : ∃ nb, nb = ncF k dm V s q := ⟨_, rfl⟩
      have hyr := HVR.out y (List.mem_of_getElem? hy)
      have hqr := HIR.out (p, r) (List.mem_of_getElem? hr)
      have hsr := HSR.out
      have hdr := HDR.out
      have C1 := Lib.hid (regr (w := wr) fun W' (_ : Below wr.heap.size wr W') => rcompute_any k st so dm ep (V : Int) y r sm p (by omega) (by omega) hdr.1 hdr.2 hqr.1 hqr.2 (by rw [HSM.out]; exact hsr.1) (by rw [HSM.out]; exact hsr.2) W')
      have ev : cmpM k (V : Int) dm y p r sm = nv := by rw [hnv]; unfold nvF; rw [vl_of hy, ml_of hr, ← HSM.out]
      have eb : cmpB k (V : Int) dm y p r sm = nb := by rw [hnb]; unfold ncF; rw [vl_of hy, ml_of hr, ← HSM.out]
      rw [ev, eb] at C1
      have HNV := Lib.hid hnv; have HNB := Lib.hid hnb
      clear hnv hnb hyr hqr hsr hdr hy hr ev eb
      obtain ⟨c0, c1, c2, c3, c4, _⟩ := jb_cells (HF1.out _ _ _ _ _ _ _ HH.out)
      obtain ⟨_, d1, _, d3, d4, _, _⟩ := six (HF2.out _ _ _ _ _ _ _ HH.out)
      have y0 := cell_regrown c0; have y1 := cell_regrown c1; have y2 := cell_regrown c2; have y3 := cell_regrown c3; have y4 := cell_regrown c4; have y5 := cell_regrown g0
      have z1 := cell_regrown d1; have z3 := cell_regrown d3; have z4 := cell_regrown d4; have zv := cell_regrown v0; have zi := cell_regrown i0; have zj := cell_regrown i1
      clear c0 c1 c2 c3 c4 d1 d3 d4 v0 i0 i1
      go_upto_region 5 with fail
      clear g0 g1
      refine wp_region_quiet_below mixed (by kernel_rfl) ?_
      repeat (go_big_quiet_step ((with_reducible exact C1.out _ _)))
      refine wpQuiet_nil ?_
      intro W8 hw8
      have hb8 : Below wr.heap.size wr W8 := by obtain ⟨⟨dq, osq⟩, rfl⟩ := hw8; exact below_regrown wr dq osq
      have HT8 := Lib.hid (HH.out.step hb8)
      clear hb8 hw8 y0 y1 y2 y3 y4 y5 z1 z3 z4 zv zi zj C1 HH
      obtain ⟨Aq, cq, rfl, _⟩ := HT8.out.qo.form
      obtain ⟨Ab, cb, rfl, _⟩ := HT8.out.mo.form
      rw [List.length_map, List.length_map, List.length_range] at HT8
      have HLQ : Hid (((List.range q).map (nvF k dm V s)).length < 1000000000) := Lib.hid (by rw [List.length_map, List.length_range]; omega)
      have HLB : Hid (((List.range q).map (ncF k dm V s)).length < 1000000000) := Lib.hid (by rw [List.length_map, List.length_range]; omega)
      obtain ⟨_, a1, _, _, _, _, _⟩ := six HT8.out.ob
      have hb9 : Below W8.heap.size W8 (W8.alloc (.cells #[.int .i64 nv] 2)) := (Below.refl _ W8).alloc (Nat.le_refl _) _
      have HT9 := Lib.hid (HT8.out.step hb9)
      have HQ9 := Lib.hid HT9.out.qo
      have HN9 : Hid ((W8.alloc (.cells #[.int .i64 nv] 2)).heap[W8.heap.size]? = some (.cells #[.int .i64 nv] 2 (0, 0))) := Lib.hid (heap_alloc_new W8 _)
      have HZ9 : Hid (w.heap.size ≤ (W8.alloc (.cells #[.int .i64 nv] 2)).heap.size) := Lib.hid HT9.out.below.size
      clear hb9
      go_wp2_with (at_builtin; refine app_q rfl (.tmp 41) (.tmp 43) rfl w.heap.size _ _ _ rfl HQ9.out _ rfl HN9.out HLQ.out HZ9.out ?_)
      intro v10 w10 ho10 hg10
      have HT10 := Lib.hid (HT9.out.grownQ hg10 ho10)
      obtain ⟨A10, c10, rfl, _⟩ := ho10.form
      rw [show ((List.range q).map (nvF k dm V s) ++ [nv]).length = q + 1 by simp] at HT10 ⊢
      have HT11 := Lib.hid HT10.out.putQ
      have fr10 := warm HT10.out.ob 1
      obtain ⟨_, a11, _, _, _, _, _⟩ := six HT10.out.ob
      obtain ⟨W11, hW11⟩ : ∃ W11, W11 = w10.setCell ⟨n0 + 1 + 1 + 1 + 1, 1, none⟩ (.slice A10 (q + 1) c10) := ⟨_, rfl⟩
      rw [← hW11] at HT11
      clear ho10 hg10 HQ9 HT9 HN9 HLQ HZ9 HT8 a1
      go_upto_region 7 with fail
      rw [← hW11]
      clear hW11 a11 fr10 HT10
      obtain ⟨_, _, a2, _, _, _, _⟩ := six HT11.out.ob
      have hb12 : Below W11.heap.size W11 (W11.alloc (.cells #[.bool nb] 4)) := (Below.refl _ W11).alloc (Nat.le_refl _) _
      have HT12 := Lib.hid (HT11.out.step hb12)
      have HQ12 := Lib.hid HT12.out.mo
      have HN12 : Hid ((W11.alloc (.cells #[.bool nb] 4)).heap[W11.heap.size]? = some (.cells #[.bool nb] 4 (0, 0))) := Lib.hid (heap_alloc_new W11 _)
      have HZ12 : Hid (w.heap.size ≤ (W11.alloc (.cells #[.bool nb] 4)).heap.size) := Lib.hid HT12.out.below.size
      clear hb12
      go_wp2_with (at_builtin; refine app_b rfl (.tmp 47) (.tmp 49) rfl w.heap.size _ _ _ rfl HQ12.out _ rfl HN12.out HLB.out HZ12.out ?_)
      intro v13 w13 ho13 hg13
      have HT13 := Lib.hid (HT12.out.grownB hg13 ho13)
      obtain ⟨A13, c13, rfl, _⟩ := ho13.form
      rw [show ((List.range q).map (ncF k dm V s) ++ [nb]).length = q + 1 by simp] at HT13 ⊢
      have HT14 := Lib.hid HT13.out.putB
      have fr13 := warm HT13.out.ob 2
      obtain ⟨_, _, a12, _, _, _, _⟩ := six HT13.out.ob
      rw [HNV.out, HNB.out] at HT14
      have e1 : (List.range q).map (nvF k dm V s) ++ [nvF k dm V s q] = (List.range (q + 1)).map (nvF k dm V s) := by rw [List.range_succ, List.map_append]; rfl
      have e2 : (List.range q).map (ncF k dm V s) ++ [ncF k dm V s q] = (List.range (q + 1)).map (ncF k dm V s) := by rw [List.range_succ, List.map_append]; rfl
      rw [e1, e2] at HT14
      obtain ⟨W14, hW14⟩ : ∃ W14, W14 = w13.setCell ⟨n0 + 1 + 1 + 1 + 1, 2, none⟩ (.slice A13 (q + 1) c13) := ⟨_, rfl⟩
      rw [← hW14] at HT14
      clear ho13 hg13 HQ12 HT12 HN12 HLB HZ12 HT11 a2 HT13 HNV HNB e1 e2
      go_wp2
      rw [← hW14]
      clear hW14 a12 fr13
      go_wp2
      go_roundg (gk - 1)
      case measure => omega
      case rel => exact ⟨q + 1, by omega, by go_num, _, _, HT14⟩
    · obtain rfl : q = V := by omega
      obtain ⟨Aq, cq, rfl, hqa⟩ := HH.out.qo.form
      obtain ⟨Ab, cb, rfl, hba⟩ := HH.out.mo.form
      rw [List.length_map, List.length_map, List.length_range] at HH
      have HTL := Lib.hid (rtold_any k st so dm ep q A Aq Ab Av n c cq cb cv L s.vals (nxtV k dm q s) (nxtC k dm q s) (step + 1) (.slice none 0 0) (.int .i64 0) (.int .i64 0) wr (HL.out.below HH.out.below) HN.out hqa hba (HVA.out.below HH.out.below) (nxtV_len ..) (nxtC_len ..) HVL.out HNR.out HVR.out hV hm)
      clear hqa hba
      obtain ⟨c0, c1, c2, c3, c4, _⟩ := jb_cells (HF1.out _ _ _ _ _ _ _ HH.out)
      obtain ⟨_, d1, _, _, _, _, _⟩ := six (HF2.out _ _ _ _ _ _ _ HH.out)
      obtain ⟨o0, o1, o2, o3, o4, o5, _⟩ := six HH.out.ob
      go_wp2_with fail
      refine HTL.out.mono ?_
      rintro e w9 ⟨Aj, cj, rfl, hk9, hb9⟩
      have HK9 := Lib.hid (hk9.out.mono HH.out.below.size)
      have HH9 := Lib.hid (HH.out.step hb9.out)
      have HRB := Lib.hid (HF3.out _ _ _ _ _ _ _ HH9.out)
      clear hk9 hb9 HTL c0 c1 c2 c3 c4 d1 o0 o1 o2 o3 o4 o5 g0 g1 HH
      obtain ⟨r0, r1, r2, r3, r4, r5, rl⟩ := six HRB.out
      have f0 := warm HRB.out 0; have f1 := warm HRB.out 1; have f2 := warm HRB.out 2; have f3 := warm HRB.out 3; have f4 := warm HRB.out 4; have f5 := warm HRB.out 5
      obtain ⟨s1, hs1⟩ : ∃ s1, s1 = sumS k q L (nxtV k dm q s) := ⟨_, rfl⟩
      obtain ⟨m1, hm1⟩ : ∃ m1, m1 = mosS k q s.vals (nxtV k dm q s) (nxtC k dm q s) := ⟨_, rfl⟩
      rw [← hs1, ← hm1]
      have HS1 := Lib.hid hs1; have HM1 := Lib.hid hm1
      clear hs1 hm1
      go_wp2
      have hX := put6_heap HRB.out (.int .i64 (step + 1)) (.slice Aq q cq) (.slice Ab q cb) (.slice Aj q cj) (.int .i64 s1) (.int .i64 m1)
      have hBX := put6_below HH9.out.below (b := n0 + 1 + 1 + 1) (by have := HN0.out; omega) (.int .i64 (step + 1)) (.slice Aq q cq) (.slice Ab q cb) (.slice Aj q cj) (.int .i64 s1) (.int .i64 m1)
      have h1 := put6_moved HH9.out.qo HRB.out (by decide) (.int .i64 (step + 1)) (.slice Aq q cq) (.slice Ab q cb) (.slice Aj q cj) (.int .i64 s1) (.int .i64 m1)
      have h2 := put6_moved HH9.out.mo HRB.out (by decide) (.int .i64 (step + 1)) (.slice Aq q cq) (.slice Ab q cb) (.slice Aj q cj) (.int .i64 s1) (.int .i64 m1)
      have h3 := put6_moved HK9.out HRB.out (by decide) (.int .i64 (step + 1)) (.slice Aq q cq) (.slice Ab q cb) (.slice Aj q cj) (.int .i64 s1) (.int .i64 m1)
      unfold put6 at hX hBX h1 h2 h3
      exact bodyPost_ret (v := .agg #[.int .i64 (step + 1), .slice Aq q cq, .slice Ab q cb, .slice Aj q cj, .int .i64 s1, .int .i64 m1]) (res_s _ _ _ _ _ _ _ _ _ _ _ Tryz.results42 rfl hX) rfl ⟨_, rfl, Lib.hid ⟨_, _, _, by rw [HS1.out, HM1.out]; rfl, h1, h2, h3⟩, Lib.hid hBX⟩

end Go.Proofs.YtbbmgandkmlojaaGreat.Sq

/-
  What is proved here: a contract of the document's own Start. Conditions: at most 1000 edges; numbers that fit an int.
-/
namespace Go.Proofs.YtbbmgandkmlojaaGreat.Sq
open Go.RowKit Go.Shelf Gr Wd Ws Fx Rk Lb Al In
open Pa (vl bt vl_of vl_at bt_of bt_at)

set_option maxRecDepth 100000 in
set_option maxHeartbeats 1000000 in
theorem rstart_any' (k st so dm ep V0 : Int) (A : Option Addr) (n c : Nat) (L : List Ed) (w : World) (hL : EAt w A L) (hn : L.length = n) (hm : n ≤ 1000) :
    Calls Tryz.prog 13 #[.agg #[.int .i64 V0, .slice A n c], .agg #[.int .u8 k, .int .i64 st, .int .i64 so, .int .i64 dm, .int .i64 ep]] w fun e w' => Res w w' e (startR k st so dm ep V0 L) := by
  have HL := Lib.hid hL; have HN := Lib.hid hn
  clear hL hn
  obtain ⟨W3, hW3⟩ : ∃ W3, W3 = ((w.alloc (.cells #[.int .i64 V0, .slice A n c] 24)).alloc (.cells #[.int .u8 k, .int .i64 st, .int .i64 so, .int .i64 dm, .int .i64 ep] 26)).alloc (.cells #[.int .i64 0, .slice none 0 0, .slice none 0 0, .slice none 0 0, .int .i64 0, .int .i64 0] 33) := ⟨_, rfl⟩
  have hal := al3 w (.cells #[.int .i64 V0, .slice A n c] 24) (.cells #[.int .u8 k, .int .i64 st, .int .i64 so, .int .i64 dm, .int .i64 ep] 26) (.cells #[.int .i64 0, .slice none 0 0, .slice none 0 0, .slice none 0 0, .int .i64 0, .int .i64 0] 33)
  rw [← hW3] at hal
  obtain ⟨n0, e0⟩ : ∃ n0, n0 = w.heap.size := ⟨_, rfl⟩
  have HG : Hid (W3.heap[n0]? = some (.cells #[.int .i64 V0, .slice A n c] 24 (0, 0))) := Lib.hid (by rw [e0]; exact hal.1)
  have HJ : Hid (W3.heap[n0 + 1]? = some (.cells #[.int .u8 k, .int .i64 st, .int .i64 so, .int .i64 dm, .int .i64 ep] 26 (0, 0))) := Lib.hid (by rw [e0]; exact hal.2.1)
  have HR : Hid (W3.heap[n0 + 1 + 1]? = some (.cells #[.int .i64 0, .slice none 0 0, .slice none 0 0, .slice none 0 0, .int .i64 0, .int .i64 0] 33 (0, 0))) := Lib.hid (by rw [e0]; exact hal.2.2.1)
  have HB := Lib.hid hal.2.2.2
  have HN0 : Hid (w.heap.size ≤ n0) := Lib.hid (by omega)
  clear hal
  obtain ⟨g0, g1, _⟩ := two HG.out
  obtain ⟨j0, j1, j2, j3, j4, _⟩ := jb_cells HJ.out
  obtain ⟨E, hE⟩ : ∃ E, E = chkJ k st so dm ep V0 L := ⟨_, rfl⟩
  have HC : Hid (∀ W, Below w.heap.size w W → Calls Tryz.prog 36 #[.agg #[.int .i64 V0, .slice A n c], .agg #[.int .u8 k, .int .i64 st, .int .i64 so, .int .i64 dm, .int .i64 ep]] W fun e w' => e = .returned (.int .i64 E) ∧ Below W.heap.size W w') := Lib.hid (fun W h => by
    rw [hE, ← HN.out]
    exact rcheckj_any k st so dm ep V0 A c L W (HL.out.below h) (by rw [HN.out]; omega))
  have HE := Lib.hid hE
  clear hE
  go_enter Tryz.func13, Tryz.ntmps13
  go_upto_region 1 with fail
  rw [← hW3, show w.heap.size = n0 from e0.symm]
  clear hW3 e0
  go_wp2_with fail
  refine (HC.out _ HB.out).mono ?_
  rintro e w4 ⟨rfl, hb4⟩
  have HG4 := Lib.hid (keep HG.out hb4); have HJ4 := Lib.hid (keep HJ.out hb4); have HR4 := Lib.hid (keep HR.out hb4)
  have HB4 := Lib.hid (step_below HB.out HB.out.size hb4)
  clear hb4 g0 g1 j0 j1 j2 j3 j4 HG HJ HR HB HC
  by_cases hE0 : E = 0
  · subst hE0
    obtain ⟨hz, _, _, _, _, _⟩ := chkJ_zero HE.out.symm
    obtain ⟨V, rfl, hV1, hV, hfit⟩ := chk_facts hz
    have HZ : Hid (startR k st so dm ep (V : Int) L = (0, strS k so V L, 0)) := Lib.hid (by unfold startR; rw [if_pos HE.out.symm]; rfl)
    clear hfit hz
    obtain ⟨W5, hW5⟩ : ∃ W5, W5 = w4.alloc (.cells #[.int .i64 0, .slice none 0 0, .slice none 0 0, .slice none 0 0, .int .i64 0, .int .i64 0] 33) := ⟨_, rfl⟩
    obtain ⟨bo, hbo⟩ : ∃ bo, bo = w4.heap.size := ⟨_, rfl⟩
    have hb5 : Below w4.heap.size w4 W5 := by rw [hW5]; exact (Below.refl _ w4).alloc (Nat.le_refl _) _
    have hrl := lt_of_block HR4.out
    obtain ⟨fx, hfx⟩ : ∃ fx : Fxd, fx = [(n0, #[.int .i64 (V : Int), .slice A n c], 24), (n0 + 1, #[.int .u8 k, .int .i64 st, .int .i64 so, .int .i64 dm, .int .i64 ep], 26), (n0 + 1 + 1, #[.int .i64 0, .slice none 0 0, .slice none 0 0, .slice none 0 0, .int .i64 0, .int .i64 0], 33)] := ⟨_, rfl⟩
    have HH : Hid (NxH w W5 (bo) w.heap.size fx (.int .i64 0) (.slice none 0 0) (.int .i64 0) (.int .i64 0) [] [] (.slice none 0 0) (.slice none 0 0) (.slice none 0 0) (.slice none 0 0)) := Lib.hid (by
      refine ⟨step_below HB4.out HB4.out.size hb5, ?_, by rw [hW5, hbo]; exact heap_alloc_new w4 _, QOwn.none_ _ _, BOwn.none_ _ _, ?_, by have := HN0.out; omega⟩
      · rw [hfx]; intro p hp
        simp only [List.mem_cons, List.not_mem_nil, or_false] at hp
        rcases hp with rfl | rfl | rfl
        · exact keep HG4.out hb5
        · exact keep HJ4.out hb5
        · exact keep HR4.out hb5
      · rw [hfx]; intro p hp
        simp only [List.mem_cons, List.not_mem_nil, or_false] at hp
        rcases hp with rfl | rfl | rfl <;> exact ⟨by simp only []; omega, by simp only []; decide, by simp only []; decide⟩)
    have HF0 : Hid (∀ W l1 l2 va ua vb ub, NxH w W (bo) w.heap.size fx (.int .i64 0) (.slice none 0 0) (.int .i64 0) (.int .i64 0) l1 l2 va ua vb ub → W.heap[n0]? = some (.cells #[.int .i64 (V : Int), .slice A n c] 24 (0, 0))) := Lib.hid (fun W _ _ _ _ _ _ h => h.fixed (n0, #[.int .i64 (V : Int), .slice A n c], 24) (by rw [hfx]; exact List.mem_cons_self))
    have HF1 : Hid (∀ W l1 l2 va ua vb ub, NxH w W (bo) w.heap.size fx (.int .i64 0) (.slice none 0 0) (.int .i64 0) (.int .i64 0) l1 l2 va ua vb ub → W.heap[n0 + 1]? = some (.cells #[.int .u8 k, .int .i64 st, .int .i64 so, .int .i64 dm, .int .i64 ep] 26 (0, 0))) := Lib.hid (fun W _ _ _ _ _ _ h => h.fixed (n0 + 1, #[.int .u8 k, .int .i64 st, .int .i64 so, .int .i64 dm, .int .i64 ep], 26) (by rw [hfx]; exact List.mem_cons_of_mem _ List.mem_cons_self))
    have HF2 : Hid (∀ W l1 l2 va ua vb ub, NxH w W (bo) w.heap.size fx (.int .i64 0) (.slice none 0 0) (.int .i64 0) (.int .i64 0) l1 l2 va ua vb ub → W.heap[n0 + 1 + 1]? = some (.cells #[.int .i64 0, .slice none 0 0, .slice none 0 0, .slice none 0 0, .int .i64 0, .int .i64 0] 33 (0, 0))) := Lib.hid (fun W _ _ _ _ _ _ h => h.fixed (n0 + 1 + 1, #[.int .i64 0, .slice none 0 0, .slice none 0 0, .slice none 0 0, .int .i64 0, .int .i64 0], 33) (by rw [hfx]; exact List.mem_cons_of_mem _ (List.mem_cons_of_mem _ List.mem_cons_self)))
    have HBO : Hid (n0 + 1 + 1 < bo) := Lib.hid (by omega)
    clear hfx hb5 hrl
    go_upto_region 5 with fail
    rw [← hW5, show w4.heap.size = bo from hbo.symm]
    clear hW5 hbo HG4 HJ4 HR4 HB4
    go_wp2_with fail
    go_loopg [8] V (fun gk i W => ∃ q : Nat, q + gk = V ∧ i = .int .i64 (q : Int) ∧ ∃ va vb, Hid (NxH w W (bo) w.heap.size fx (.int .i64 0) (.slice none 0 0) (.int .i64 0) (.int .i64 0) ((List.range q).map (svF k so V)) ((List.range q).map (scF k so)) va va vb vb))
    case atStart => exact ⟨0, by omega, rfl, _, _, HH⟩
    case round =>
      clear HH
      obtain ⟨q, hq, rfl, va, vb, HH⟩ := hrel
      obtain ⟨g0, g1, _⟩ := two (HF0.out _ _ _ _ _ _ _ HH.out)
      by_cases hlt : q < V
      · obtain ⟨nv, hnv⟩ : ∃ nv, nv = svF k so V q := ⟨_, rfl⟩
        obtain ⟨nb, hnb⟩ : ∃ nb, nb = scF k so q := ⟨_, rfl⟩
        have C1 : Hid (Calls Tryz.prog 37 #[.agg #[.int .u8 k, .int .i64 st, .int .i64 so, .int .i64 dm, .int .i64 ep], .int .i64 (V : Int), .int .i64 (q : Int)] wr fun e w' => e = .returned (.tuple #[.int .i64 nv, .bool nb]) ∧ Below wr.heap.size wr w') := Lib.hid (by
          rw [hnv, hnb]
          exact rstart_any k st so dm ep (V : Int) (q : Int) (by omega) (by omega) (by omega) (by omega) wr)
        have HNV := Lib.hid hnv; have HNB := Lib.hid hnb
        clear hnv hnb
        obtain ⟨c0, c1, c2, c3, c4, _⟩ := jb_cells (HF1.out _ _ _ _ _ _ _ HH.out)
        go_wp2_with fail
        refine C1.out.mono ?_
        rintro e W8 ⟨rfl, hb8⟩
        have HT8 := Lib.hid (HH.out.step hb8)
        clear hb8 C1 HH c0 c1 c2 c3 c4 g0 g1
        obtain ⟨Aq, cq, rfl, _⟩ := HT8.out.qo.form
        obtain ⟨Ab, cb, rfl, _⟩ := HT8.out.mo.form
        rw [List.length_map, List.length_map, List.length_range] at HT8
        have HLQ : Hid (((List.range q).map (svF k so V)).length < 1000000000) := Lib.hid (by rw [List.length_map, List.length_range]; omega)
        have HLB : Hid (((List.range q).map (scF k so)).length < 1000000000) := Lib.hid (by rw [List.length_map, List.length_range]; omega)
        obtain ⟨_, a1, _, _, _, _, _⟩ := six HT8.out.ob
        have hb9 : Below W8.heap.size W8 (W8.alloc (.cells #[.int .i64 nv] 2)) := (Below.refl _ W8).alloc (Nat.le_refl _) _
        have HT9 := Lib.hid (HT8.out.step hb9)
        have HQ9 := Lib.hid HT9.out.qo
        have HN9 : Hid ((W8.alloc (.cells #[.int .i64 nv] 2)).heap[W8.heap.size]? = some (.cells #[.int .i64 nv] 2 (0, 0))) := Lib.hid (heap_alloc_new W8 _)
        have HZ9 : Hid (w.heap.size ≤ (W8.alloc (.cells #[.int .i64 nv] 2)).heap.size) := Lib.hid HT9.out.below.size
        clear hb9
        go_wp2_with (at_builtin; refine app_q rfl (.tmp 33) (.tmp 35) rfl w.heap.size _ _ _ rfl HQ9.out _ rfl HN9.out HLQ.out HZ9.out ?_)
        intro v10 w10 ho10 hg10
        have HT10 := Lib.hid (HT9.out.grownQ hg10 ho10)
        obtain ⟨A10, c10, rfl, _⟩ := ho10.form
        rw [show ((List.range q).map (svF k so V) ++ [nv]).length = q + 1 by simp] at HT10 ⊢
        have HT11 := Lib.hid HT10.out.putQ
        have fr10 := warm HT10.out.ob 1
        obtain ⟨_, a11, _, _, _, _, _⟩ := six HT10.out.ob
        obtain ⟨W11, hW11⟩ : ∃ W11, W11 = w10.setCell ⟨bo, 1, none⟩ (.slice A10 (q + 1) c10) := ⟨_, rfl⟩
        rw [← hW11] at HT11
        clear ho10 hg10 HQ9 HT9 HN9 HLQ HZ9 HT8 a1
        go_upto_region 10 with fail
        rw [← hW11]
        clear hW11 a11 fr10 HT10
        obtain ⟨_, _, a2, _, _, _, _⟩ := six HT11.out.ob
        have hb12 : Below W11.heap.size W11 (W11.alloc (.cells #[.bool nb] 4)) := (Below.refl _ W11).alloc (Nat.le_refl _) _
        have HT12 := Lib.hid (HT11.out.step hb12)
        have HQ12 := Lib.hid HT12.out.mo
        have HN12 : Hid ((W11.alloc (.cells #[.bool nb] 4)).heap[W11.heap.size]? = some (.cells #[.bool nb] 4 (0, 0))) := Lib.hid (heap_alloc_new W11 _)
        have HZ12 : Hid (w.heap.size ≤ (W11.alloc (.cells #[.bool nb] 4)).heap.size) := Lib.hid HT12.out.below.size
        clear hb12
        go_wp2_with (at_builtin; refine app_b rfl (.tmp 39) (.tmp 41) rfl w.heap.size _ _ _ rfl HQ12.out _ rfl HN12.out HLB.out HZ12.out ?_)
        intro v13 w13 ho13 hg13
        have HT13 := Lib.hid (HT12.out.grownB hg13 ho13)
        obtain ⟨A13, c13, rfl, _⟩ := ho13.form
        rw [show ((List.range q).map (scF k so) ++ [nb]).length = q + 1 by simp] at HT13 ⊢
        have HT14 := Lib.hid HT13.out.putB
        have fr13 := warm HT13.out.ob 2
        obtain ⟨_, _, a12, _, _, _, _⟩ := six HT13.out.ob
        rw [HNV.out, HNB.out] at HT14
        have e1 : (List.range q).map (svF k so V) ++ [svF k so V q] = (List.range (q + 1)).map (svF k so V) := by rw [List.range_succ, List.map_append]; rfl
        have e2 : (List.range q).map (scF k so) ++ [scF k so q] = (List.range (q + 1)).map (scF k so) := by rw [List.range_succ, List.map_append]; rfl
        rw [e1, e2] at HT14
        obtain ⟨W14, hW14⟩ : ∃ W14, W14 = w13.setCell ⟨bo, 2, none⟩ (.slice A13 (q + 1) c13) := ⟨_, rfl⟩
        rw [← hW14] at HT14
        clear ho13 hg13 HQ12 HT12 HN12 HLB HZ12 HT11 a2 HT13 HNV HNB e1 e2
        go_wp2
        rw [← hW14]
        clear hW14 a12 fr13
        go_wp2
        go_roundg (gk - 1)
        case measure => omega
        case rel => exact ⟨q + 1, by omega, by go_num, _, _, HT14⟩
      · obtain rfl : q = V := by omega
        obtain ⟨Aq, cq, rfl, hqa⟩ := HH.out.qo.form
        obtain ⟨Ab, cb, rfl, hba⟩ := HH.out.mo.form
        rw [List.length_map, List.length_map, List.length_range] at HH
        have HIR : Hid (∀ x ∈ strV k so q, I63 x) := Lib.hid (fun x hx => (strV_in hV x hx).i63)
        have HTL := Lib.hid (rtold_any k st so dm ep q A Aq Ab Aq n c cq cb cq L (strV k so q) (strV k so q) (strC k so q) 0 (.slice none 0 0) (.int .i64 0) (.int .i64 0) wr (HL.out.below HH.out.below) HN.out hqa hba hqa (by simp [strV]) (by simp [strC]) (by simp [strV]) HIR.out HIR.out hV (by rw [HN.out]; omega))
        clear hqa hba
        obtain ⟨c0, c1, c2, c3, c4, _⟩ := jb_cells (HF1.out _ _ _ _ _ _ _ HH.out)
        obtain ⟨o0, o1, o2, o3, o4, o5, _⟩ := six HH.out.ob
        go_wp2_with fail
        refine HTL.out.mono ?_
        rintro e w9 ⟨Aj, cj, rfl, hk9, hb9⟩
        have HK9 := Lib.hid (hk9.out.mono HH.out.below.size)
        have HH9 := Lib.hid (HH.out.step hb9.out)
        have HOB := Lib.hid HH9.out.ob
        have HRB := Lib.hid (HF2.out _ _ _ _ _ _ _ HH9.out)
        clear hk9 hb9 HTL c0 c1 c2 c3 c4 o0 o1 o2 o3 o4 o5 g0 g1 HH
        obtain ⟨o0, o1, o2, o3, o4, o5, _⟩ := six HOB.out
        have f0 := warm HOB.out 0; have f1 := warm HOB.out 1; have f2 := warm HOB.out 2; have f3 := warm HOB.out 3; have f4 := warm HOB.out 4; have f5 := warm HOB.out 5
        obtain ⟨s1, hs1⟩ : ∃ s1, s1 = sumS k q L (strV k so q) := ⟨_, rfl⟩
        obtain ⟨m1, hm1⟩ : ∃ m1, m1 = mosS k q (strV k so q) (strV k so q) (strC k so q) := ⟨_, rfl⟩
        rw [← hs1, ← hm1]
        have HS1 := Lib.hid hs1
        clear hs1 hm1
        have hX := put6_heap HOB.out (.int .i64 0) (.slice Aq q cq) (.slice Ab q cb) (.slice Aj q cj) (.int .i64 s1) (.int .i64 m1)
        have hXo : ∀ j, j ≠ bo → (put6 w9 bo (.int .i64 0) (.slice Aq q cq) (.slice Ab q cb) (.slice Aj q cj) (.int .i64 s1) (.int .i64 m1)).heap[j]? = w9.heap[j]? := fun j hj => put6_other _ _ _ _ _ _ _ _ _ hj
        have hBX := put6_below HH9.out.below (b := bo) (by have := HN0.out; have := HBO.out; omega) (.int .i64 0) (.slice Aq q cq) (.slice Ab q cb) (.slice Aj q cj) (.int .i64 s1) (.int .i64 m1)
        have h1 := put6_moved HH9.out.qo HOB.out (by decide) (.int .i64 0) (.slice Aq q cq) (.slice Ab q cb) (.slice Aj q cj) (.int .i64 s1) (.int .i64 m1)
        have h2 := put6_moved HH9.out.mo HOB.out (by decide) (.int .i64 0) (.slice Aq q cq) (.slice Ab q cb) (.slice Aj q cj) (.int .i64 s1) (.int .i64 m1)
        have h3 := put6_moved HK9.out HOB.out (by decide) (.int .i64 0) (.slice Aq q cq) (.slice Ab q cb) (.slice Aj q cj) (.int .i64 s1) (.int .i64 m1)
        obtain ⟨X, hXe⟩ : ∃ X, X = put6 w9 bo (.int .i64 0) (.slice Aq q cq) (.slice Ab q cb) (.slice Aj q cj) (.int .i64 s1) (.int .i64 m1) := ⟨_, rfl⟩
        rw [← hXe] at hX hXo hBX h1 h2 h3
        unfold put6 at hXe
        have HX := Lib.hid hX; have HXO := Lib.hid hXo; have HBX := Lib.hid hBX; have H1 := Lib.hid h1; have H2 := Lib.hid h2; have H3 := Lib.hid h3; have HXE := Lib.hid hXe
        clear hX hXo hBX h1 h2 h3 hXe
        go_upto_region 12 with fail
        rw [← HXE.out]
        clear o0 o1 o2 o3 o4 o5 f0 f1 f2 f3 f4 f5 HXE
        obtain ⟨_, _, _, _, _, o5, _⟩ := six HX.out
        have f5 := warm HX.out 5
        obtain ⟨Y, hY⟩ : ∃ Y, Y = X.setCell ⟨bo, 5, none⟩ (.int .i64 0) := ⟨_, rfl⟩
        have HY : Hid (Y.heap[bo]? = some (.cells #[.int .i64 0, .slice Aq q cq, .slice Ab q cb, .slice Aj q cj, .int .i64 s1, .int .i64 0] 33 (0, 0))) := Lib.hid (by rw [hY]; exact set_heap (i := 5) HX.out (.int .i64 0))
        have HYO : Hid (∀ j, j ≠ bo → Y.heap[j]? = X.heap[j]?) := Lib.hid (fun j hj => by rw [hY]; exact set_other _ _ _ _ _ hj)
        have HBY : Hid (Below w.heap.size w Y) := Lib.hid (by rw [hY]; exact HBX.out.setCell (p := ⟨bo, 5, none⟩) (by show w.heap.size ≤ bo; have := HN0.out; have := HBO.out; omega) _)
        have HYE := Lib.hid hY
        clear hY
        go_upto_region 13 with fail
        rw [← HYE.out]
        clear o5 f5 HYE
        have HRY := Lib.hid ((HYO.out _ (by have := HBO.out; omega)).trans ((HXO.out _ (by have := HBO.out; omega)).trans HRB.out))
        have K1 := Lib.hid (own_moved H1.out HX.out (by decide) HYO.out); have K2 := Lib.hid (own_moved H2.out HX.out (by decide) HYO.out); have K3 := Lib.hid (own_moved H3.out HX.out (by decide) HYO.out)
        obtain ⟨o0, o1, o2, o3, o4, o5, _⟩ := six HY.out
        obtain ⟨r0, r1, r2, r3, r4, r5, rl⟩ := six HRY.out
        have f0 := warm HRY.out 0; have f1 := warm HRY.out 1; have f2 := warm HRY.out 2; have f3 := warm HRY.out 3; have f4 := warm HRY.out 4; have f5 := warm HRY.out 5
        go_wp2
        have hX := put6_heap HRY.out (.int .i64 0) (.slice Aq q cq) (.slice Ab q cb) (.slice Aj q cj) (.int .i64 s1) (.int .i64 0)
        have hBX := put6_below HBY.out (b := n0 + 1 + 1) (by have := HN0.out; omega) (.int .i64 0) (.slice Aq q cq) (.slice Ab q cb) (.slice Aj q cj) (.int .i64 s1) (.int .i64 0)
        have h1 := put6_moved K1.out HRY.out (by decide) (.int .i64 0) (.slice Aq q cq) (.slice Ab q cb) (.slice Aj q cj) (.int .i64 s1) (.int .i64 0)
        have h2 := put6_moved K2.out HRY.out (by decide) (.int .i64 0) (.slice Aq q cq) (.slice Ab q cb) (.slice Aj q cj) (.int .i64 s1) (.int .i64 0)
        have h3 := put6_moved K3.out HRY.out (by decide) (.int .i64 0) (.slice Aq q cq) (.slice Ab q cb) (.slice Aj q cj) (.int .i64 s1) (.int .i64 0)
        unfold put6 at hX hBX h1 h2 h3
        exact bodyPost_ret (v := .tuple #[.agg #[.int .i64 0, .slice Aq q cq, .slice Ab q cb, .slice Aj q cj, .int .i64 s1, .int .i64 0], .int .i64 0]) (res2_s _ _ _ _ _ _ _ _ _ _ _ _ _ Tryz.results13 rfl rfl hX) rfl ⟨_, by rw [HZ.out], Lib.hid (by rw [HZ.out]; exact ⟨_, _, _, by rw [HS1.out]; rfl, h1, h2, h3⟩), Lib.hid hBX⟩
  · have HZ : Hid (startR k st so dm ep V0 L = (0, zS, E)) := Lib.hid (by unfold startR; rw [if_neg (by rw [← HE.out]; exact hE0), ← HE.out])
    obtain ⟨r0, r1, r2, r3, r4, r5, rl⟩ := six HR4.out
    have f0 := warm HR4.out 0; have f1 := warm HR4.out 1; have f2 := warm HR4.out 2; have f3 := warm HR4.out 3; have f4 := warm HR4.out 4; have f5 := warm HR4.out 5
    go_wp2
    have hX := put6_heap HR4.out (.int .i64 0) (.slice none 0 0) (.slice none 0 0) (.slice none 0 0) (.int .i64 0) (.int .i64 0)
    have hBX := put6_below HB4.out (b := n0 + 1 + 1) (by have := HN0.out; omega) (.int .i64 0) (.slice none 0 0) (.slice none 0 0) (.slice none 0 0) (.int .i64 0) (.int .i64 0)
    unfold put6 at hX hBX
    exact bodyPost_ret (v := .tuple #[.agg #[.int .i64 0, .slice none 0 0, .slice none 0 0, .slice none 0 0, .int .i64 0, .int .i64 0], .int .i64 E]) (res2_s _ _ _ _ _ _ _ _ _ _ _ _ _ Tryz.results13 rfl rfl hX) rfl ⟨_, by rw [HZ.out], Lib.hid (by rw [HZ.out]; exact SOwn.zero _ _), Lib.hid hBX⟩

end Go.Proofs.YtbbmgandkmlojaaGreat.Sq

/-
  What is proved here: a contract of the document's own At. Conditions: at most 1000 edges; numbers that fit an int.
-/
namespace Go.Proofs.YtbbmgandkmlojaaGreat.Sq
open Go.RowKit Go.Shelf Gr Wd Ws Fx Rk Lb Al In
open Pa (vl bt vl_of vl_at bt_of bt_at)

set_option maxRecDepth 100000 in
set_option maxHeartbeats 1000000 in
theorem rat_any (k st so dm ep V : Int) (A : Option Addr) (n c : Nat) (L : List Ed) (kk : Int) (w : World) (hL : EAt w A L) (hn : L.length = n) (hm : n ≤ 1000) :
    Calls Tryz.prog 20 #[.agg #[.int .i64 V, .slice A n c], .agg #[.int .u8 k, .int .i64 st, .int .i64 so, .int .i64 dm, .int .i64 ep], .int .i64 kk] w fun e w' => Res w w' e (atR k st so dm ep V L kk) := by
  have mixed := mixedI
  have HL := Lib.hid hL; have HN := Lib.hid hn
  clear hL hn
  obtain ⟨W3, hW3⟩ : ∃ W3, W3 = ((w.alloc (.cells #[.int .i64 V, .slice A n c] 24)).alloc (.cells #[.int .u8 k, .int .i64 st, .int .i64 so, .int .i64 dm, .int .i64 ep] 26)).alloc (.cells #[.int .i64 0, .slice none 0 0, .slice none 0 0, .slice none 0 0, .int .i64 0, .int .i64 0] 33) := ⟨_, rfl⟩
  have hal := al3 w (.cells #[.int .i64 V, .slice A n c] 24) (.cells #[.int .u8 k, .int .i64 st, .int .i64 so, .int .i64 dm, .int .i64 ep] 26) (.cells #[.int .i64 0, .slice none 0 0, .slice none 0 0, .slice none 0 0, .int .i64 0, .int .i64 0] 33)
  rw [← hW3] at hal
  obtain ⟨n0, e0⟩ : ∃ n0, n0 = w.heap.size := ⟨_, rfl⟩
  have HG : Hid (W3.heap[n0]? = some (.cells #[.int .i64 V, .slice A n c] 24 (0, 0))) := Lib.hid (by rw [e0]; exact hal.1)
  have HJ : Hid (W3.heap[n0 + 1]? = some (.cells #[.int .u8 k, .int .i64 st, .int .i64 so, .int .i64 dm, .int .i64 ep] 26 (0, 0))) := Lib.hid (by rw [e0]; exact hal.2.1)
  have HR : Hid (W3.heap[n0 + 1 + 1]? = some (.cells #[.int .i64 0, .slice none 0 0, .slice none 0 0, .slice none 0 0, .int .i64 0, .int .i64 0] 33 (0, 0))) := Lib.hid (by rw [e0]; exact hal.2.2.1)
  have HB := Lib.hid hal.2.2.2
  have HN0 : Hid (w.heap.size ≤ n0) := Lib.hid (by omega)
  clear hal
  obtain ⟨g0, g1, _⟩ := two HG.out
  obtain ⟨j0, j1, j2, j3, j4, _⟩ := jb_cells HJ.out
  have HS := Lib.hid (rstart_any' k st so dm ep V A n c L W3 (HL.out.below HB.out) HN.out hm)
  obtain ⟨E, hE⟩ : ∃ E, E = chkJ k st so dm ep V L := ⟨_, rfl⟩
  have HE := Lib.hid hE
  clear hE
  go_enter Tryz.func20, Tryz.ntmps20
  go_upto_region 1 with fail
  rw [← hW3, show w.heap.size = n0 from e0.symm]
  clear hW3 e0
  go_wp2_with fail
  refine HS.out.mono ?_
  rintro e w4 ⟨x, rfl, hx, hb4⟩
  have HB4 := Lib.hid (step_below HB.out HB.out.size hb4.out)
  have HG4 := Lib.hid (keep HG.out hb4.out); have HJ4 := Lib.hid (keep HJ.out hb4.out); have HR4 := Lib.hid (keep HR.out hb4.out)
  have HX4 := Lib.hid (hx.out.mono HB.out.size)
  clear hx hb4 g0 g1 j0 j1 j2 j3 j4 HG HJ HR HB HS
  by_cases hE0 : E = 0
  · subst hE0
    have hsr : startR k st so dm ep V L = (0, strS k so V.toNat L, 0) := by unfold startR; rw [if_pos HE.out.symm]
    rw [hsr] at HX4 ⊢
    clear hsr
    obtain ⟨hz, hst0, hst1, hk, hd0, hd1⟩ := chkJ_zero HE.out.symm
    obtain ⟨Vn, rfl, hV1, hV2, hfit⟩ := chk_facts hz
    have HGO : Hid (∀ q, GoS k Vn L (stS k so dm Vn L q)) := Lib.hid (fun q => go_all hz (fun _ => ⟨hd0, hd1⟩) q)
    have HDM : Hid (I63 dm) := Lib.hid (by unfold I63; omega)
    clear hfit hz hst0 hst1 hk hd0 hd1
    have HX7 : Hid (SOwn w4 w.heap.size x 0 (stS k so dm Vn L 0)) := Lib.hid HX4.out
    clear HX4
    obtain ⟨Av, cv, Ac, cc, Ai, ci, rfl, ⟨hq0, hm0, hk0⟩⟩ := HX7.out.at'
    obtain ⟨s0, hs0⟩ : ∃ s0, s0 = stS k so dm Vn L 0 := ⟨_, rfl⟩
    rw [← hs0] at HX7 hq0 hm0 hk0 ⊢
    obtain ⟨a1, ha1⟩ : ∃ a, a = s0.vals.length := ⟨_, rfl⟩
    obtain ⟨a2, ha2⟩ : ∃ a, a = s0.chg.length := ⟨_, rfl⟩
    obtain ⟨a3, ha3⟩ : ∃ a, a = s0.inb.length := ⟨_, rfl⟩
    rw [← ha1, ← ha2, ← ha3] at HX7 ⊢
    rw [← ha1] at hq0; rw [← ha2] at hm0; rw [← ha3] at hk0
    clear ha1 ha2 ha3
    obtain ⟨W8, hW8⟩ : ∃ W8, W8 = w4.alloc (.cells #[.int .i64 0, .slice Av a1 cv, .slice Ac a2 cc, .slice Ai a3 ci, .int .i64 s0.sum, .int .i64 s0.most] 33) := ⟨_, rfl⟩
    have hb8 : Below w4.heap.size w4 W8 := by rw [hW8]; exact (Below.refl _ w4).alloc (Nat.le_refl _) _
    obtain ⟨bo, ebo⟩ : ∃ bo, bo = w4.heap.size := ⟨_, rfl⟩
    obtain ⟨fx, hfx⟩ : ∃ fx : Fxd, fx = [(n0, #[.int .i64 (Vn : Int), .slice A n c], 24), (n0 + 1, #[.int .u8 k, .int .i64 st, .int .i64 so, .int .i64 dm, .int .i64 ep], 26), (n0 + 1 + 1, #[.int .i64 0, .slice none 0 0, .slice none 0 0, .slice none 0 0, .int .i64 0, .int .i64 0], 33)] := ⟨_, rfl⟩
    have hrl := lt_of_block HR4.out
    have HH8 : Hid (LpH w W8 bo w.heap.size w.heap.size fx ((0 : Nat) : Int) (stS k so dm Vn L 0) (.slice none 0 0) []) := Lib.hid (by
      refine ⟨step_below HB4.out HB4.out.size hb8, ?_, ⟨.slice Av a1 cv, .slice Ac a2 cc, .slice Ai a3 ci, ?_, (own_below (hs0 ▸ hq0) hb8), (own_below (hs0 ▸ hm0) hb8), (own_below (hs0 ▸ hk0) hb8)⟩, WOwn.none_ _ _, ?_, by rw [ebo]; exact HB4.out.size⟩
      · rw [hfx]; intro p hp
        simp only [List.mem_cons, List.not_mem_nil, or_false] at hp
        rcases hp with rfl | rfl | rfl
        · exact keep HG4.out hb8
        · exact keep HJ4.out hb8
        · exact keep HR4.out hb8
      · rw [hW8, ebo, ← hs0]; exact heap_alloc_new w4 _
      · rw [hfx]; intro p hp
        simp only [List.mem_cons, List.not_mem_nil, or_false] at hp
        rcases hp with rfl | rfl | rfl <;> (simp only []; omega))
    have HRB8 := Lib.hid (keep HR4.out hb8)
    have HB8 := Lib.hid (step_below HB4.out HB4.out.size hb8)
    have HF0 : Hid (∀ W i s, LpH w W bo w.heap.size w.heap.size fx i s (.slice none 0 0) [] → W.heap[n0]? = some (.cells #[.int .i64 (Vn : Int), .slice A n c] 24 (0, 0))) := Lib.hid (fun W i s h => h.fixed (n0, #[.int .i64 (Vn : Int), .slice A n c], 24) (by rw [hfx]; exact List.mem_cons_self))
    have HF1 : Hid (∀ W i s, LpH w W bo w.heap.size w.heap.size fx i s (.slice none 0 0) [] → W.heap[n0 + 1]? = some (.cells #[.int .u8 k, .int .i64 st, .int .i64 so, .int .i64 dm, .int .i64 ep] 26 (0, 0))) := Lib.hid (fun W i s h => h.fixed (n0 + 1, #[.int .u8 k, .int .i64 st, .int .i64 so, .int .i64 dm, .int .i64 ep], 26) (by rw [hfx]; exact List.mem_cons_of_mem _ List.mem_cons_self))
    have HF2 : Hid (∀ W i s, LpH w W bo w.heap.size w.heap.size fx i s (.slice none 0 0) [] → W.heap[n0 + 1 + 1]? = some (.cells #[.int .i64 0, .slice none 0 0, .slice none 0 0, .slice none 0 0, .int .i64 0, .int .i64 0] 33 (0, 0))) := Lib.hid (fun W i s h => h.fixed (n0 + 1 + 1, #[.int .i64 0, .slice none 0 0, .slice none 0 0, .slice none 0 0, .int .i64 0, .int .i64 0], 33) (by rw [hfx]; exact List.mem_cons_of_mem _ (List.mem_cons_of_mem _ List.mem_cons_self)))
    clear hs0 hfx hq0 hm0 hk0 hrl
    go_upto_region 2 with fail
    rw [← hW8, show w4.heap.size = bo from ebo.symm]
    clear hW8 hb8 ebo HX7 HG4 HJ4 HR4
    by_cases hr : 0 ≤ kk ∧ kk ≤ 2000
    case neg =>
      have hq : atR k st so dm ep (Vn : Int) L kk = (0, zS, 4) := by unfold atR; rw [if_pos HE.out.symm, if_neg hr]
      obtain ⟨r0, r1, r2, r3, r4, r5, rl⟩ := six HRB8.out
      have f0 := warm HRB8.out 0; have f1 := warm HRB8.out 1; have f2 := warm HRB8.out 2; have f3 := warm HRB8.out 3; have f4 := warm HRB8.out 4; have f5 := warm HRB8.out 5
      have HQ := Lib.hid hq
      clear hq
      by_cases h0 : kk < 0
      · clear hr
        go_wp2
        obtain ⟨hX, hRes⟩ := bad_res HQ.out HB8.out (b := n0 + 1 + 1) (by have := HN0.out; omega) HRB8.out
        unfold put6 at hX hRes
        exact bodyPost_ret (v := .tuple #[.agg #[.int .i64 0, .slice none 0 0, .slice none 0 0, .slice none 0 0, .int .i64 0, .int .i64 0], .int .i64 4]) (res2_s _ _ _ _ _ _ _ _ _ _ _ _ _ Tryz.results20 rfl rfl hX) rfl hRes
      · have h2 : 2000 < kk := by omega
        clear hr
        go_wp2
        obtain ⟨hX, hRes⟩ := bad_res HQ.out HB8.out (b := n0 + 1 + 1) (by have := HN0.out; omega) HRB8.out
        unfold put6 at hX hRes
        exact bodyPost_ret (v := .tuple #[.agg #[.int .i64 0, .slice none 0 0, .slice none 0 0, .slice none 0 0, .int .i64 0, .int .i64 0], .int .i64 4]) (res2_s _ _ _ _ _ _ _ _ _ _ _ _ _ Tryz.results20 rfl rfl hX) rfl hRes
    obtain ⟨m, rfl⟩ : ∃ m : Nat, kk = (m : Int) := ⟨kk.toNat, by omega⟩
    have hm2 : m ≤ 2000 := by omega
    have HZ0 : Hid (∀ q, q = m → atR k st so dm ep (Vn : Int) L (m : Int) = ((q : Int), stS k so dm Vn L q, 0)) := Lib.hid (fun q e => by subst e; unfold atR; rw [if_pos HE.out.symm, if_pos hr]; rfl)
    clear hr HRB8 HB8
    go_wp2_with fail
    go_loopg [] m (fun gk W => ∃ q : Nat, q + gk = m ∧ Hid (LpH w W bo w.heap.size w.heap.size fx (q : Int) (stS k so dm Vn L q) (.slice none 0 0) []))
    case atStart => exact ⟨0, by omega, HH8⟩
    case round =>
      clear HH8
      obtain ⟨q, hq, HH⟩ := hrel
      by_cases hlt : q < m
      · skip
        obtain ⟨va, vc, vi, hbs, hq0, hm0, hk0⟩ := HH.out.rows
        have FIT := Lib.hid (fit_go (HGO.out q))
        obtain ⟨S, hS⟩ : ∃ S, S = stS k so dm Vn L q := ⟨_, rfl⟩
        rw [← hS] at hbs hq0 hm0 hk0 FIT HH
        have HS := Lib.hid hS
        clear hS
        obtain ⟨Av, cv, rfl, hv0⟩ := hq0.form
        obtain ⟨Ac, cc, rfl, hc0⟩ := hm0.form
        obtain ⟨Ai, ci, rfl, hi0, _⟩ := hk0.room
        have hsv : SAt wr Av Ac Ai S.vals.length S.chg.length S.inb.length S := ⟨hv0, hc0, hi0, rfl, rfl, rfl⟩
        rw [FIT.out.nv, FIT.out.ni] at hbs
        obtain ⟨a2, ha2⟩ : ∃ a, a = S.chg.length := ⟨_, rfl⟩
        rw [← ha2] at hbs
        clear ha2 hq0 hm0 hk0 hv0 hc0 hi0
        have HSB := Lib.hid hbs
        clear hbs
        obtain ⟨x0, x1, x2, x3, x4, x5, _⟩ := six HSB.out
        obtain ⟨j0, j1, j2, j3, j4, _⟩ := jb_cells (HF1.out _ _ _ HH.out)
        obtain ⟨g0, g1, _⟩ := two (HF0.out _ _ _ HH.out)
        go_wp2_with fail
        refine (rnext_any k st so dm ep (q : Int) Vn A n c L Av Ac Ai cv cc ci a2 S wr (HL.out.below HH.out.below) HN.out hsv.v hsv.i FIT.out.nv FIT.out.ni FIT.out.v FIT.out.i FIT.out.sm (nxt_i63 FIT.out.v FIT.out.i) HDM.out ⟨by omega, by omega⟩ hV2 (by rw [HN.out]; omega)).mono ?_
        rintro e w9 ⟨x, rfl, hx, hb9⟩
        have HH9 := Lib.hid (HH.out.step hb9.out)
        have HX9 := Lib.hid (hx.out.mono HH.out.below.size)
        clear hx hb9 hsv HSB g0 g1 j0 j1 j2 j3 j4 x0 x1 x2 x3 x4 x5 FIT
        obtain ⟨Bv, dv, Bc, dc, Bi, di, rfl, ⟨hq1, hm1, hk1⟩⟩ := HX9.out.at'
        obtain ⟨T, hT⟩ : ∃ T, nxtS k dm Vn L S = T := ⟨_, rfl⟩
        rw [hT] at HX9 hq1 hm1 hk1 ⊢
        have HT : Hid (T = stS k so dm Vn L (q + 1)) := Lib.hid (by rw [← hT, HS.out]; exact (stS_next k so dm Vn L q).symm)
        clear hT
        obtain ⟨m1, hm1'⟩ : ∃ a, a = T.vals.length := ⟨_, rfl⟩
        obtain ⟨m2, hm2'⟩ : ∃ a, a = T.chg.length := ⟨_, rfl⟩
        obtain ⟨m3, hm3'⟩ : ∃ a, a = T.inb.length := ⟨_, rfl⟩
        rw [← hm1', ← hm2', ← hm3'] at HX9 ⊢
        rw [← hm1'] at hq1; rw [← hm2'] at hm1; rw [← hm3'] at hk1
        clear hm1' hm2' hm3'
        have HP := Lib.hid (HH9.out.put (j := (q : Int) + 1) hq1 hm1 hk1)
        obtain ⟨z1, z2, z3, hzb, _, _, _⟩ := HH9.out.rows
        obtain ⟨y0, y1, y2, y3, y4, y5, yl⟩ := six hzb
        have f0 := warm hzb 0; have f1 := warm hzb 1; have f2 := warm hzb 2; have f3 := warm hzb 3; have f4 := warm hzb 4; have f5 := warm hzb 5
        clear hzb hq1 hm1 hk1 HX9 HH HH9
        go_wp2
        go_roundg (gk - 1)
        case measure => omega
        case rel =>
          refine ⟨q + 1, by omega, ?_⟩
          have h := HP.out
          unfold put6 at h
          rw [← HT.out, show ((q + 1 : Nat) : Int) = (q : Int) + 1 from rfl]
          exact Lib.hid h
      · obtain rfl : q = m := by omega
        have HZ := Lib.hid (HZ0.out q rfl)
        clear HZ0
        obtain ⟨va, vc, vi, hbs, hq0, hm0, hk0⟩ := HH.out.rows
        obtain ⟨Av, cv, rfl, _⟩ := hq0.form
        obtain ⟨Ac, cc, rfl, _⟩ := hm0.form
        obtain ⟨Ai, ci, rfl, _⟩ := hk0.room
        skip
        obtain ⟨S, hS⟩ : ∃ S, stS k so dm Vn L q = S := ⟨_, rfl⟩
        rw [hS] at hbs hq0 hm0 hk0 HZ
        clear hS
        obtain ⟨a1, ha1⟩ : ∃ a, a = S.vals.length := ⟨_, rfl⟩
        obtain ⟨a2, ha2⟩ : ∃ a, a = S.chg.length := ⟨_, rfl⟩
        obtain ⟨a3, ha3⟩ : ∃ a, a = S.inb.length := ⟨_, rfl⟩
        rw [← ha1, ← ha2, ← ha3] at hbs
        rw [← ha1] at hq0; rw [← ha2] at hm0; rw [← ha3] at hk0
        clear ha1 ha2 ha3
        have HBS := Lib.hid hbs; have HQ0 := Lib.hid hq0; have HM0 := Lib.hid hm0; have HK0 := Lib.hid hk0
        have HRB := Lib.hid (HF2.out _ _ _ HH.out)
        have HBW := Lib.hid HH.out.below
        clear hbs hq0 hm0 hk0
        obtain ⟨x0, x1, x2, x3, x4, x5, _⟩ := six HBS.out
        obtain ⟨r0, r1, r2, r3, r4, r5, rl⟩ := six HRB.out
        have f0 := warm HRB.out 0; have f1 := warm HRB.out 1; have f2 := warm HRB.out 2; have f3 := warm HRB.out 3; have f4 := warm HRB.out 4; have f5 := warm HRB.out 5
        go_wp2
        have hX := put6_heap HRB.out (.int .i64 (q : Int)) (.slice Av a1 cv) (.slice Ac a2 cc) (.slice Ai a3 ci) (.int .i64 S.sum) (.int .i64 S.most)
        have hBX := put6_below HBW.out (b := n0 + 1 + 1) (by have := HN0.out; omega) (.int .i64 (q : Int)) (.slice Av a1 cv) (.slice Ac a2 cc) (.slice Ai a3 ci) (.int .i64 S.sum) (.int .i64 S.most)
        have h1 := put6_moved HQ0.out HRB.out (by decide) (.int .i64 (q : Int)) (.slice Av a1 cv) (.slice Ac a2 cc) (.slice Ai a3 ci) (.int .i64 S.sum) (.int .i64 S.most)
        have h2 := put6_moved HM0.out HRB.out (by decide) (.int .i64 (q : Int)) (.slice Av a1 cv) (.slice Ac a2 cc) (.slice Ai a3 ci) (.int .i64 S.sum) (.int .i64 S.most)
        have h3 := put6_moved HK0.out HRB.out (by decide) (.int .i64 (q : Int)) (.slice Av a1 cv) (.slice Ac a2 cc) (.slice Ai a3 ci) (.int .i64 S.sum) (.int .i64 S.most)
        unfold put6 at hX hBX h1 h2 h3
        exact bodyPost_ret (v := .tuple #[.agg #[.int .i64 (q : Int), .slice Av a1 cv, .slice Ac a2 cc, .slice Ai a3 ci, .int .i64 S.sum, .int .i64 S.most], .int .i64 0]) (res2_s _ _ _ _ _ _ _ _ _ _ _ _ _ Tryz.results20 rfl rfl hX) rfl ⟨_, by rw [HZ.out], Lib.hid (by rw [HZ.out]; exact ⟨_, _, _, rfl, h1, h2, h3⟩), Lib.hid hBX⟩
  · have hsr : startR k st so dm ep V L = (0, zS, E) := by unfold startR; rw [if_neg (by rw [← HE.out]; exact hE0), ← HE.out]
    rw [hsr] at HX4 ⊢
    clear hsr
    have hq : atR k st so dm ep V L kk = (0, zS, E) := by unfold atR; rw [if_neg (by rw [← HE.out]; exact hE0), ← HE.out]
    obtain ⟨Av, cv, Ac, cc, Ai, ci, rfl, ⟨hq0, hm0, hk0⟩⟩ := HX4.out.at'
    obtain ⟨a1, ha1⟩ : ∃ a, a = zS.vals.length := ⟨_, rfl⟩
    obtain ⟨a2, ha2⟩ : ∃ a, a = zS.chg.length := ⟨_, rfl⟩
    obtain ⟨a3, ha3⟩ : ∃ a, a = zS.inb.length := ⟨_, rfl⟩
    obtain ⟨a4, ha4⟩ : ∃ a, a = zS.sum := ⟨_, rfl⟩
    obtain ⟨a5, ha5⟩ : ∃ a, a = zS.most := ⟨_, rfl⟩
    rw [← ha1, ← ha2, ← ha3, ← ha4, ← ha5]
    clear ha1 ha2 ha3 ha4 ha5 hq0 hm0 hk0 HX4
    obtain ⟨W8, hW8⟩ : ∃ W8, W8 = w4.alloc (.cells #[.int .i64 0, .slice Av a1 cv, .slice Ac a2 cc, .slice Ai a3 ci, .int .i64 a4, .int .i64 a5] 33) := ⟨_, rfl⟩
    have hb8 : Below w4.heap.size w4 W8 := by rw [hW8]; exact (Below.refl _ w4).alloc (Nat.le_refl _) _
    have HR8 := Lib.hid (keep HR4.out hb8); have HB8 := Lib.hid (step_below HB4.out HB4.out.size hb8)
    clear hb8
    go_upto_region 2 with fail
    rw [← hW8]
    clear hW8
    obtain ⟨r0, r1, r2, r3, r4, r5, rl⟩ := six HR8.out
    have f0 := warm HR8.out 0; have f1 := warm HR8.out 1; have f2 := warm HR8.out 2; have f3 := warm HR8.out 3; have f4 := warm HR8.out 4; have f5 := warm HR8.out 5
    have HQ := Lib.hid hq
    clear hq
    go_wp2
    obtain ⟨hX, hRes⟩ := bad_res HQ.out HB8.out (b := n0 + 1 + 1) (by have := HN0.out; omega) HR8.out
    unfold put6 at hX hRes
    exact bodyPost_ret (v := .tuple #[.agg #[.int .i64 0, .slice none 0 0, .slice none 0 0, .slice none 0 0, .int .i64 0, .int .i64 0], .int .i64 E]) (res2_s _ _ _ _ _ _ _ _ _ _ _ _ _ Tryz.results20 rfl rfl hX) rfl hRes

end Go.Proofs.YtbbmgandkmlojaaGreat.Sq

/-
  What is proved here: a contract of the document's own Run. Conditions: at most 1000 edges; numbers that fit an int.
-/
namespace Go.Proofs.YtbbmgandkmlojaaGreat.Sq
open Go.RowKit Go.Shelf Gr Wd Ws Fx Rk Lb Al In
open Pa (vl bt vl_of vl_at bt_of bt_at)

set_option maxRecDepth 100000 in
set_option maxHeartbeats 1000000 in
theorem rrun_any (k st so dm ep V : Int) (A : Option Addr) (n c : Nat) (L : List Ed) (N : Nat) (w : World) (hL : EAt w A L) (hn : L.length = n) (hm : n ≤ 1000) (hN : chkJ k st so dm ep V L = 0 → donB k st ep (N : Int) (stS k so dm V.toNat L N).most = true ∧ N ≤ 2000 ∧ ∀ i : Nat, i < N → donB k st ep (i : Int) (stS k so dm V.toNat L i).most = false) :
    Calls Tryz.prog 22 #[.agg #[.int .i64 V, .slice A n c], .agg #[.int .u8 k, .int .i64 st, .int .i64 so, .int .i64 dm, .int .i64 ep]] w fun e w' => Res w w' e (runR k st so dm ep V L N) := by
  have mixed := mixedI
  have HL := Lib.hid hL; have HN := Lib.hid hn
  clear hL hn
  obtain ⟨W3, hW3⟩ : ∃ W3, W3 = ((w.alloc (.cells #[.int .i64 V, .slice A n c] 24)).alloc (.cells #[.int .u8 k, .int .i64 st, .int .i64 so, .int .i64 dm, .int .i64 ep] 26)).alloc (.cells #[.int .i64 0, .slice none 0 0, .slice none 0 0, .slice none 0 0, .int .i64 0, .int .i64 0] 33) := ⟨_, rfl⟩
  have hal := al3 w (.cells #[.int .i64 V, .slice A n c] 24) (.cells #[.int .u8 k, .int .i64 st, .int .i64 so, .int .i64 dm, .int .i64 ep] 26) (.cells #[.int .i64 0, .slice none 0 0, .slice none 0 0, .slice none 0 0, .int .i64 0, .int .i64 0] 33)
  rw [← hW3] at hal
  obtain ⟨n0, e0⟩ : ∃ n0, n0 = w.heap.size := ⟨_, rfl⟩
  have HG : Hid (W3.heap[n0]? = some (.cells #[.int .i64 V, .slice A n c] 24 (0, 0))) := Lib.hid (by rw [e0]; exact hal.1)
  have HJ : Hid (W3.heap[n0 + 1]? = some (.cells #[.int .u8 k, .int .i64 st, .int .i64 so, .int .i64 dm, .int .i64 ep] 26 (0, 0))) := Lib.hid (by rw [e0]; exact hal.2.1)
  have HR : Hid (W3.heap[n0 + 1 + 1]? = some (.cells #[.int .i64 0, .slice none 0 0, .slice none 0 0, .slice none 0 0, .int .i64 0, .int .i64 0] 33 (0, 0))) := Lib.hid (by rw [e0]; exact hal.2.2.1)
  have HB := Lib.hid hal.2.2.2
  have HN0 : Hid (w.heap.size ≤ n0) := Lib.hid (by omega)
  clear hal
  obtain ⟨g0, g1, _⟩ := two HG.out
  obtain ⟨j0, j1, j2, j3, j4, _⟩ := jb_cells HJ.out
  have HS := Lib.hid (rstart_any' k st so dm ep V A n c L W3 (HL.out.below HB.out) HN.out hm)
  obtain ⟨E, hE⟩ : ∃ E, E = chkJ k st so dm ep V L := ⟨_, rfl⟩
  have HE := Lib.hid hE
  clear hE
  go_enter Tryz.func22, Tryz.ntmps22
  go_upto_region 1 with fail
  rw [← hW3, show w.heap.size = n0 from e0.symm]
  clear hW3 e0
  go_wp2_with fail
  refine HS.out.mono ?_
  rintro e w4 ⟨x, rfl, hx, hb4⟩
  have HB4 := Lib.hid (step_below HB.out HB.out.size hb4.out)
  have HG4 := Lib.hid (keep HG.out hb4.out); have HJ4 := Lib.hid (keep HJ.out hb4.out); have HR4 := Lib.hid (keep HR.out hb4.out)
  have HX4 := Lib.hid (hx.out.mono HB.out.size)
  clear hx hb4 g0 g1 j0 j1 j2 j3 j4 HG HJ HR HB HS
  by_cases hE0 : E = 0
  · subst hE0
    have hsr : startR k st so dm ep V L = (0, strS k so V.toNat L, 0) := by unfold startR; rw [if_pos HE.out.symm]
    rw [hsr] at HX4 ⊢
    clear hsr
    obtain ⟨hz, hst0, hst1, hk, hd0, hd1⟩ := chkJ_zero HE.out.symm
    obtain ⟨Vn, rfl, hV1, hV2, hfit⟩ := chk_facts hz
    have HGO : Hid (∀ q, GoS k Vn L (stS k so dm Vn L q)) := Lib.hid (fun q => go_all hz (fun _ => ⟨hd0, hd1⟩) q)
    have HDM : Hid (I63 dm) := Lib.hid (by unfold I63; omega)
    clear hfit hz hst0 hst1 hk hd0 hd1
    have HX7 : Hid (SOwn w4 w.heap.size x 0 (stS k so dm Vn L 0)) := Lib.hid HX4.out
    clear HX4
    obtain ⟨Av, cv, Ac, cc, Ai, ci, rfl, ⟨hq0, hm0, hk0⟩⟩ := HX7.out.at'
    obtain ⟨s0, hs0⟩ : ∃ s0, s0 = stS k so dm Vn L 0 := ⟨_, rfl⟩
    rw [← hs0] at HX7 hq0 hm0 hk0 ⊢
    obtain ⟨a1, ha1⟩ : ∃ a, a = s0.vals.length := ⟨_, rfl⟩
    obtain ⟨a2, ha2⟩ : ∃ a, a = s0.chg.length := ⟨_, rfl⟩
    obtain ⟨a3, ha3⟩ : ∃ a, a = s0.inb.length := ⟨_, rfl⟩
    rw [← ha1, ← ha2, ← ha3] at HX7 ⊢
    rw [← ha1] at hq0; rw [← ha2] at hm0; rw [← ha3] at hk0
    clear ha1 ha2 ha3
    obtain ⟨W8, hW8⟩ : ∃ W8, W8 = w4.alloc (.cells #[.int .i64 0, .slice Av a1 cv, .slice Ac a2 cc, .slice Ai a3 ci, .int .i64 s0.sum, .int .i64 s0.most] 33) := ⟨_, rfl⟩
    have hb8 : Below w4.heap.size w4 W8 := by rw [hW8]; exact (Below.refl _ w4).alloc (Nat.le_refl _) _
    obtain ⟨bo, ebo⟩ : ∃ bo, bo = w4.heap.size := ⟨_, rfl⟩
    obtain ⟨fx, hfx⟩ : ∃ fx : Fxd, fx = [(n0, #[.int .i64 (Vn : Int), .slice A n c], 24), (n0 + 1, #[.int .u8 k, .int .i64 st, .int .i64 so, .int .i64 dm, .int .i64 ep], 26), (n0 + 1 + 1, #[.int .i64 0, .slice none 0 0, .slice none 0 0, .slice none 0 0, .int .i64 0, .int .i64 0], 33)] := ⟨_, rfl⟩
    have hrl := lt_of_block HR4.out
    have HH8 : Hid (LpH w W8 bo w.heap.size w.heap.size fx ((0 : Nat) : Int) (stS k so dm Vn L 0) (.slice none 0 0) []) := Lib.hid (by
      refine ⟨step_below HB4.out HB4.out.size hb8, ?_, ⟨.slice Av a1 cv, .slice Ac a2 cc, .slice Ai a3 ci, ?_, (own_below (hs0 ▸ hq0) hb8), (own_below (hs0 ▸ hm0) hb8), (own_below (hs0 ▸ hk0) hb8)⟩, WOwn.none_ _ _, ?_, by rw [ebo]; exact HB4.out.size⟩
      · rw [hfx]; intro p hp
        simp only [List.mem_cons, List.not_mem_nil, or_false] at hp
        rcases hp with rfl | rfl | rfl
        · exact keep HG4.out hb8
        · exact keep HJ4.out hb8
        · exact keep HR4.out hb8
      · rw [hW8, ebo, ← hs0]; exact heap_alloc_new w4 _
      · rw [hfx]; intro p hp
        simp only [List.mem_cons, List.not_mem_nil, or_false] at hp
        rcases hp with rfl | rfl | rfl <;> (simp only []; omega))
    have HRB8 := Lib.hid (keep HR4.out hb8)
    have HB8 := Lib.hid (step_below HB4.out HB4.out.size hb8)
    have HF0 : Hid (∀ W i s, LpH w W bo w.heap.size w.heap.size fx i s (.slice none 0 0) [] → W.heap[n0]? = some (.cells #[.int .i64 (Vn : Int), .slice A n c] 24 (0, 0))) := Lib.hid (fun W i s h => h.fixed (n0, #[.int .i64 (Vn : Int), .slice A n c], 24) (by rw [hfx]; exact List.mem_cons_self))
    have HF1 : Hid (∀ W i s, LpH w W bo w.heap.size w.heap.size fx i s (.slice none 0 0) [] → W.heap[n0 + 1]? = some (.cells #[.int .u8 k, .int .i64 st, .int .i64 so, .int .i64 dm, .int .i64 ep] 26 (0, 0))) := Lib.hid (fun W i s h => h.fixed (n0 + 1, #[.int .u8 k, .int .i64 st, .int .i64 so, .int .i64 dm, .int .i64 ep], 26) (by rw [hfx]; exact List.mem_cons_of_mem _ List.mem_cons_self))
    have HF2 : Hid (∀ W i s, LpH w W bo w.heap.size w.heap.size fx i s (.slice none 0 0) [] → W.heap[n0 + 1 + 1]? = some (.cells #[.int .i64 0, .slice none 0 0, .slice none 0 0, .slice none 0 0, .int .i64 0, .int .i64 0] 33 (0, 0))) := Lib.hid (fun W i s h => h.fixed (n0 + 1 + 1, #[.int .i64 0, .slice none 0 0, .slice none 0 0, .slice none 0 0, .int .i64 0, .int .i64 0], 33) (by rw [hfx]; exact List.mem_cons_of_mem _ (List.mem_cons_of_mem _ List.mem_cons_self)))
    clear hs0 hfx hq0 hm0 hk0 hrl
    go_upto_region 2 with fail
    rw [← hW8, show w4.heap.size = bo from ebo.symm]
    clear hW8 hb8 ebo HX7 HG4 HJ4 HR4
    clear HRB8 HB8
    obtain ⟨hN1, hN2, hN3⟩ : donB k st ep (N : Int) (stS k so dm Vn L N).most = true ∧ N ≤ 2000 ∧ ∀ i : Nat, i < N → donB k st ep (i : Int) (stS k so dm Vn L i).most = false := hN HE.out.symm
    have HDN := Lib.hid hN1; have HDF := Lib.hid hN3
    have HZ0 : Hid (∀ q, q = N → runR k st so dm ep (Vn : Int) L N = ((q : Int), stS k so dm Vn L q, 0)) := Lib.hid (fun q e => by subst e; unfold runR; rw [if_pos HE.out.symm]; rfl)
    clear hN hN1 hN3
    go_wp2_with fail
    go_loopg [] N (fun gk W => ∃ q : Nat, q + gk = N ∧ Hid (LpH w W bo w.heap.size w.heap.size fx (q : Int) (stS k so dm Vn L q) (.slice none 0 0) []))
    case atStart => exact ⟨0, by omega, HH8⟩
    case round =>
      clear HH8
      obtain ⟨q, hq, HH⟩ := hrel
      by_cases hlt : q < N
      · have HDQ := Lib.hid (HDF.out q hlt)
        obtain ⟨va, vc, vi, hbs, hq0, hm0, hk0⟩ := HH.out.rows
        have FIT := Lib.hid (fit_go (HGO.out q))
        obtain ⟨S, hS⟩ : ∃ S, S = stS k so dm Vn L q := ⟨_, rfl⟩
        rw [← hS] at hbs hq0 hm0 hk0 FIT HH HDQ
        have HS := Lib.hid hS
        clear hS
        obtain ⟨Av, cv, rfl, hv0⟩ := hq0.form
        obtain ⟨Ac, cc, rfl, hc0⟩ := hm0.form
        obtain ⟨Ai, ci, rfl, hi0, _⟩ := hk0.room
        have hsv : SAt wr Av Ac Ai S.vals.length S.chg.length S.inb.length S := ⟨hv0, hc0, hi0, rfl, rfl, rfl⟩
        rw [FIT.out.nv, FIT.out.ni] at hbs
        obtain ⟨a2, ha2⟩ : ∃ a, a = S.chg.length := ⟨_, rfl⟩
        rw [← ha2] at hbs
        clear ha2 hq0 hm0 hk0 hv0 hc0 hi0
        have HSB := Lib.hid hbs
        clear hbs
        obtain ⟨x0, x1, x2, x3, x4, x5, _⟩ := six HSB.out
        obtain ⟨j0, j1, j2, j3, j4, _⟩ := jb_cells (HF1.out _ _ _ HH.out)
        obtain ⟨g0, g1, _⟩ := two (HF0.out _ _ _ HH.out)
        have HDC : Hid (Calls Tryz.prog 43 #[.agg #[.int .u8 k, .int .i64 st, .int .i64 so, .int .i64 dm, .int .i64 ep], .int .i64 (q : Int), .int .i64 S.most] wr fun e w' => e = .returned (.bool false) ∧ Below wr.heap.size wr w') := Lib.hid (by
          have h := rdone_any k st so dm ep (q : Int) S.most wr
          rw [show donB k st ep (q : Int) S.most = false from HDQ.out] at h; exact h)
        go_wp2_with fail
        refine HDC.out.mono ?_
        rintro e wq ⟨rfl, hbq⟩
        have HHq := Lib.hid (HH.out.step hbq)
        have HSBq := Lib.hid (keep HSB.out hbq)
        have hsvq := hsv.below hbq
        clear hbq x0 x1 x2 x3 x4 x5 g0 g1 j0 j1 j2 j3 j4 HDC HH HSB hsv HDQ
        obtain ⟨x0, x1, x2, x3, x4, x5, _⟩ := six HSBq.out
        obtain ⟨j0, j1, j2, j3, j4, _⟩ := jb_cells (HF1.out _ _ _ HHq.out)
        obtain ⟨g0, g1, _⟩ := two (HF0.out _ _ _ HHq.out)
        go_wp2_with fail
        refine (rnext_any k st so dm ep (q : Int) Vn A n c L Av Ac Ai cv cc ci a2 S wq (HL.out.below HHq.out.below) HN.out hsvq.v hsvq.i FIT.out.nv FIT.out.ni FIT.out.v FIT.out.i FIT.out.sm (nxt_i63 FIT.out.v FIT.out.i) HDM.out ⟨by omega, by omega⟩ hV2 (by rw [HN.out]; omega)).mono ?_
        rintro e w9 ⟨x, rfl, hx, hb9⟩
        have HH9 := Lib.hid (HHq.out.step hb9.out)
        have HX9 := Lib.hid (hx.out.mono HHq.out.below.size)
        clear hx hb9 hsvq HSBq g0 g1 j0 j1 j2 j3 j4 x0 x1 x2 x3 x4 x5 FIT
        obtain ⟨Bv, dv, Bc, dc, Bi, di, rfl, ⟨hq1, hm1, hk1⟩⟩ := HX9.out.at'
        obtain ⟨T, hT⟩ : ∃ T, nxtS k dm Vn L S = T := ⟨_, rfl⟩
        rw [hT] at HX9 hq1 hm1 hk1 ⊢
        have HT : Hid (T = stS k so dm Vn L (q + 1)) := Lib.hid (by rw [← hT, HS.out]; exact (stS_next k so dm Vn L q).symm)
        clear hT
        obtain ⟨m1, hm1'⟩ : ∃ a, a = T.vals.length := ⟨_, rfl⟩
        obtain ⟨m2, hm2'⟩ : ∃ a, a = T.chg.length := ⟨_, rfl⟩
        obtain ⟨m3, hm3'⟩ : ∃ a, a = T.inb.length := ⟨_, rfl⟩
        rw [← hm1', ← hm2', ← hm3'] at HX9 ⊢
        rw [← hm1'] at hq1; rw [← hm2'] at hm1; rw [← hm3'] at hk1
        clear hm1' hm2' hm3'
        have HP := Lib.hid (HH9.out.put (j := (q : Int) + 1) hq1 hm1 hk1)
        obtain ⟨z1, z2, z3, hzb, _, _, _⟩ := HH9.out.rows
        obtain ⟨y0, y1, y2, y3, y4, y5, yl⟩ := six hzb
        have f0 := warm hzb 0; have f1 := warm hzb 1; have f2 := warm hzb 2; have f3 := warm hzb 3; have f4 := warm hzb 4; have f5 := warm hzb 5
        clear hzb hq1 hm1 hk1 HX9 HHq HH9
        go_wp2
        go_roundg (gk - 1)
        case measure => omega
        case rel =>
          refine ⟨q + 1, by omega, ?_⟩
          have h := HP.out
          unfold put6 at h
          rw [← HT.out, show ((q + 1 : Nat) : Int) = (q : Int) + 1 from rfl]
          exact Lib.hid h
      · obtain rfl : q = N := by omega
        have HZ := Lib.hid (HZ0.out q rfl)
        clear HZ0
        obtain ⟨va, vc, vi, hbs, hq0, hm0, hk0⟩ := HH.out.rows
        obtain ⟨Av, cv, rfl, _⟩ := hq0.form
        obtain ⟨Ac, cc, rfl, _⟩ := hm0.form
        obtain ⟨Ai, ci, rfl, _⟩ := hk0.room
        have HDQ := HDN
        obtain ⟨S, hS⟩ : ∃ S, stS k so dm Vn L q = S := ⟨_, rfl⟩
        rw [hS] at HDQ
        rw [hS] at hbs hq0 hm0 hk0 HZ
        clear hS
        obtain ⟨a1, ha1⟩ : ∃ a, a = S.vals.length := ⟨_, rfl⟩
        obtain ⟨a2, ha2⟩ : ∃ a, a = S.chg.length := ⟨_, rfl⟩
        obtain ⟨a3, ha3⟩ : ∃ a, a = S.inb.length := ⟨_, rfl⟩
        rw [← ha1, ← ha2, ← ha3] at hbs
        rw [← ha1] at hq0; rw [← ha2] at hm0; rw [← ha3] at hk0
        clear ha1 ha2 ha3
        have HBS := Lib.hid hbs; have HQ0 := Lib.hid hq0; have HM0 := Lib.hid hm0; have HK0 := Lib.hid hk0
        have HRB := Lib.hid (HF2.out _ _ _ HH.out)
        have HBW := Lib.hid HH.out.below
        clear hbs hq0 hm0 hk0
        obtain ⟨x0, x1, x2, x3, x4, x5, _⟩ := six HBS.out
        obtain ⟨j0, j1, j2, j3, j4, _⟩ := jb_cells (HF1.out _ _ _ HH.out)
        have HDC : Hid (Calls Tryz.prog 43 #[.agg #[.int .u8 k, .int .i64 st, .int .i64 so, .int .i64 dm, .int .i64 ep], .int .i64 (q : Int), .int .i64 S.most] wr fun e w' => e = .returned (.bool true) ∧ Below wr.heap.size wr w') := Lib.hid (by
          have h := rdone_any k st so dm ep (q : Int) S.most wr
          rw [show donB k st ep (q : Int) S.most = true from HDQ.out] at h; exact h)
        go_wp2_with fail
        refine HDC.out.mono ?_
        rintro e wq ⟨rfl, hbq⟩
        replace HBS := Lib.hid (keep HBS.out hbq); replace HRB := Lib.hid (keep HRB.out hbq); replace HQ0 := Lib.hid (HQ0.out.below hbq); replace HM0 := Lib.hid (HM0.out.below hbq); replace HK0 := Lib.hid (HK0.out.below hbq)
        replace HBW := Lib.hid (step_below HBW.out HBW.out.size hbq)
        clear hbq x0 x1 x2 x3 x4 x5 j0 j1 j2 j3 j4 HDC
        obtain ⟨x0, x1, x2, x3, x4, x5, _⟩ := six HBS.out
        obtain ⟨r0, r1, r2, r3, r4, r5, rl⟩ := six HRB.out
        have f0 := warm HRB.out 0; have f1 := warm HRB.out 1; have f2 := warm HRB.out 2; have f3 := warm HRB.out 3; have f4 := warm HRB.out 4; have f5 := warm HRB.out 5
        go_wp2
        have hX := put6_heap HRB.out (.int .i64 (q : Int)) (.slice Av a1 cv) (.slice Ac a2 cc) (.slice Ai a3 ci) (.int .i64 S.sum) (.int .i64 S.most)
        have hBX := put6_below HBW.out (b := n0 + 1 + 1) (by have := HN0.out; omega) (.int .i64 (q : Int)) (.slice Av a1 cv) (.slice Ac a2 cc) (.slice Ai a3 ci) (.int .i64 S.sum) (.int .i64 S.most)
        have h1 := put6_moved HQ0.out HRB.out (by decide) (.int .i64 (q : Int)) (.slice Av a1 cv) (.slice Ac a2 cc) (.slice Ai a3 ci) (.int .i64 S.sum) (.int .i64 S.most)
        have h2 := put6_moved HM0.out HRB.out (by decide) (.int .i64 (q : Int)) (.slice Av a1 cv) (.slice Ac a2 cc) (.slice Ai a3 ci) (.int .i64 S.sum) (.int .i64 S.most)
        have h3 := put6_moved HK0.out HRB.out (by decide) (.int .i64 (q : Int)) (.slice Av a1 cv) (.slice Ac a2 cc) (.slice Ai a3 ci) (.int .i64 S.sum) (.int .i64 S.most)
        unfold put6 at hX hBX h1 h2 h3
        exact bodyPost_ret (v := .tuple #[.agg #[.int .i64 (q : Int), .slice Av a1 cv, .slice Ac a2 cc, .slice Ai a3 ci, .int .i64 S.sum, .int .i64 S.most], .int .i64 0]) (res2_s _ _ _ _ _ _ _ _ _ _ _ _ _ Tryz.results22 rfl rfl hX) rfl ⟨_, by rw [HZ.out], Lib.hid (by rw [HZ.out]; exact ⟨_, _, _, rfl, h1, h2, h3⟩), Lib.hid hBX⟩
  · have hsr : startR k st so dm ep V L = (0, zS, E) := by unfold startR; rw [if_neg (by rw [← HE.out]; exact hE0), ← HE.out]
    rw [hsr] at HX4 ⊢
    clear hsr
    have hq : runR k st so dm ep V L N = (0, zS, E) := by unfold runR; rw [if_neg (by rw [← HE.out]; exact hE0), ← HE.out]
    obtain ⟨Av, cv, Ac, cc, Ai, ci, rfl, ⟨hq0, hm0, hk0⟩⟩ := HX4.out.at'
    obtain ⟨a1, ha1⟩ : ∃ a, a = zS.vals.length := ⟨_, rfl⟩
    obtain ⟨a2, ha2⟩ : ∃ a, a = zS.chg.length := ⟨_, rfl⟩
    obtain ⟨a3, ha3⟩ : ∃ a, a = zS.inb.length := ⟨_, rfl⟩
    obtain ⟨a4, ha4⟩ : ∃ a, a = zS.sum := ⟨_, rfl⟩
    obtain ⟨a5, ha5⟩ : ∃ a, a = zS.most := ⟨_, rfl⟩
    rw [← ha1, ← ha2, ← ha3, ← ha4, ← ha5]
    clear ha1 ha2 ha3 ha4 ha5 hq0 hm0 hk0 HX4
    obtain ⟨W8, hW8⟩ : ∃ W8, W8 = w4.alloc (.cells #[.int .i64 0, .slice Av a1 cv, .slice Ac a2 cc, .slice Ai a3 ci, .int .i64 a4, .int .i64 a5] 33) := ⟨_, rfl⟩
    have hb8 : Below w4.heap.size w4 W8 := by rw [hW8]; exact (Below.refl _ w4).alloc (Nat.le_refl _) _
    have HR8 := Lib.hid (keep HR4.out hb8); have HB8 := Lib.hid (step_below HB4.out HB4.out.size hb8)
    clear hb8
    go_upto_region 2 with fail
    rw [← hW8]
    clear hW8
    obtain ⟨r0, r1, r2, r3, r4, r5, rl⟩ := six HR8.out
    have f0 := warm HR8.out 0; have f1 := warm HR8.out 1; have f2 := warm HR8.out 2; have f3 := warm HR8.out 3; have f4 := warm HR8.out 4; have f5 := warm HR8.out 5
    have HQ := Lib.hid hq
    clear hq
    go_wp2
    obtain ⟨hX, hRes⟩ := bad_res HQ.out HB8.out (b := n0 + 1 + 1) (by have := HN0.out; omega) HR8.out
    unfold put6 at hX hRes
    exact bodyPost_ret (v := .tuple #[.agg #[.int .i64 0, .slice none 0 0, .slice none 0 0, .slice none 0 0, .int .i64 0, .int .i64 0], .int .i64 E]) (res2_s _ _ _ _ _ _ _ _ _ _ _ _ _ Tryz.results22 rfl rfl hX) rfl hRes

end Go.Proofs.YtbbmgandkmlojaaGreat.Sq

/-
  What is proved here: a contract of the document's own Same of two states. Conditions: counts fit an int.
-/
namespace Go.Proofs.YtbbmgandkmlojaaGreat.Sq
open Go.RowKit Gr Wd Ws Fx Rk Lb Al In

def RqRel {α : Type} [DecidableEq α] (w : World) (L M : List α) (g : Nat) (i : Value) (wr : World) : Prop :=
  ∃ k : Nat, k + g = L.length ∧ i = .int .i64 (k : Int) ∧ Hid (Below w.heap.size w wr) ∧ Hid (decide (L = M) = decide (L.drop k = M.drop k))
set_option maxRecDepth 100000 in
set_option maxHeartbeats 4000000 in
theorem rsqSame_any (p q : Int) (a b : Sq) (Av Ac Ai Bv Bc Bi : Option Addr) (nv nc ni cv cc ci mv mc mi dv dc di : Nat) (w : World) (ha : SAt w Av Ac Ai nv nc ni a) (hb : SAt w Bv Bc Bi mv mc mi b)
    (h1 : nv ≤ 9223372036854775807) (h2 : nc ≤ 9223372036854775807) (h3 : ni ≤ 9223372036854775807) (g1 : mv ≤ 9223372036854775807) (g2 : mc ≤ 9223372036854775807) (g3 : mi ≤ 9223372036854775807) :
    Calls Tryz.prog 14 #[.agg #[.int .i64 p, .slice Av nv cv, .slice Ac nc cc, .slice Ai ni ci, .int .i64 a.sum, .int .i64 a.most], .agg #[.int .i64 q, .slice Bv mv dv, .slice Bc mc dc, .slice Bi mi di, .int .i64 b.sum, .int .i64 b.most]] w fun e w' => e = .returned (.bool (sameS p q a b)) ∧ Below w.heap.size w w' := by
  have mixed := mixedI
  have HA := Lib.hid ha; have HB := Lib.hid hb
  clear ha hb
  obtain ⟨sa, esa⟩ : ∃ sa, sa = a.sum := ⟨_, rfl⟩
  obtain ⟨ma, ema⟩ : ∃ ma, ma = a.most := ⟨_, rfl⟩
  obtain ⟨sb, esb⟩ : ∃ sb, sb = b.sum := ⟨_, rfl⟩
  obtain ⟨mb, emb⟩ : ∃ mb, mb = b.most := ⟨_, rfl⟩
  obtain ⟨r, hr⟩ : ∃ r, sameS p q a b = r := ⟨_, rfl⟩
  rw [hr]
  unfold sameS at hr
  rw [← esa, ← ema, ← esb, ← emb] at hr ⊢
  clear esa ema esb emb
  obtain ⟨W2, hW2⟩ : ∃ W2, W2 = (w.alloc (.cells #[.int .i64 p, .slice Av nv cv, .slice Ac nc cc, .slice Ai ni ci, .int .i64 sa, .int .i64 ma] 33)).alloc (.cells #[.int .i64 q, .slice Bv mv dv, .slice Bc mc dc, .slice Bi mi di, .int .i64 sb, .int .i64 mb] 33) := ⟨_, rfl⟩
  have hal := al2 w (.cells #[.int .i64 p, .slice Av nv cv, .slice Ac nc cc, .slice Ai ni ci, .int .i64 sa, .int .i64 ma] 33) (.cells #[.int .i64 q, .slice Bv mv dv, .slice Bc mc dc, .slice Bi mi di, .int .i64 sb, .int .i64 mb] 33)
  rw [← hW2] at hal
  have HB2 := Lib.hid hal.2.2
  have HX := Lib.hid hal.1; have HY := Lib.hid hal.2.1
  obtain ⟨b0, e0⟩ : ∃ b0, b0 = w.heap.size := ⟨_, rfl⟩
  obtain ⟨b1, e1⟩ : ∃ b1, b1 = w.heap.size + 1 := ⟨_, rfl⟩
  rw [← e0] at HX
  rw [← e1] at HY
  obtain ⟨x0, x1, x2, x3, x4, x5, _⟩ := six HX.out
  obtain ⟨y0, y1, y2, y3, y4, y5, _⟩ := six HY.out
  clear hal
  by_cases k1 : p = q
  · by_cases k2 : sa = sb
    · by_cases k3 : ma = mb
      · by_cases k4 : nv = mv
        · by_cases k5 : nc = mc
          · rw [decide_eq_true k1, decide_eq_true k2, decide_eq_true k3, Bool.true_and, Bool.true_and, Bool.true_and] at hr
            subst k1; subst k2; subst k3; subst k4; subst k5
            obtain ⟨t3, ht3⟩ : ∃ t, sameB a.inb b.inb = t := ⟨_, rfl⟩
            rw [ht3] at hr
            have HR := Lib.hid hr
            have HC3 := Lib.hid (fun W (h : Below w.heap.size w W) => In.rsame_any Ai Bi ni mi ci di a.inb b.inb W (HA.out.i.below h) (HB.out.i.below h) HA.out.ni HB.out.ni h3 g3)
            rw [ht3] at HC3
            clear ht3 hr
            go_enter Tryz.func14, Tryz.ntmps14
            go_upto_region 1 with fail
            rw [← hW2, show w.heap.size + 1 = b1 from e1.symm, show w.heap.size = b0 from e0.symm]
            clear hW2 e0 e1
            go_wp2_with fail
            refine (HC3.out _ HB2.out).mono ?_
            rintro e w3 ⟨rfl, hb3⟩
            have HB3 := Lib.hid (step_below HB2.out HB2.out.size hb3.out)
            have HX3 := Lib.hid (keep HX.out hb3.out); have HY3 := Lib.hid (keep HY.out hb3.out)
            clear hb3 x0 x1 x2 x3 x4 x5 y0 y1 y2 y3 y4 y5 HC3 HX HY HB2
            obtain ⟨x0, x1, x2, x3, x4, x5, _⟩ := six HX3.out
            obtain ⟨y0, y1, y2, y3, y4, y5, _⟩ := six HY3.out
            cases t3 with
            | false =>
              obtain rfl : false = r := by rw [← HR.out]; simp
              go_wp2_with fail
              go_ret
              exact ⟨rfl, HB3.out⟩
            | true =>
              go_wp2_with fail
              clear x0 x1 x2 x3 x4 x5 y0 y1 y2 y3 y4 y5
              go_loopg [5] nv (fun g i wr => RqRel w3 a.vals b.vals g i wr)
              case atStart => exact ⟨0, by have := HA.out.nv; omega, rfl, Lib.hid (Below.refl _ w3), Lib.hid rfl⟩
              case round =>
                obtain ⟨k, hk, rfl, hb, hd⟩ := hrel
                rw [HA.out.nv] at hk
                obtain ⟨x0, x1, x2, x3, x4, x5, _⟩ := six (keep HX3.out hb.out)
                obtain ⟨y0, y1, y2, y3, y4, y5, _⟩ := six (keep HY3.out hb.out)
                by_cases hlt : k < nv
                · obtain ⟨e, he⟩ := at_lt a.vals k (by rw [HA.out.nv]; exact hlt)
                  obtain ⟨f, hf⟩ := at_lt b.vals k (by rw [HB.out.nv]; exact hlt)
                  obtain ⟨bk, o, rfl, c0⟩ := ((HA.out.v.below HB3.out).below hb.out) k e he
                  obtain ⟨bk', o', rfl, d0⟩ := ((HB.out.v.below HB3.out).below hb.out) k f hf
                  have HD : Hid (decide (a.vals = b.vals) = decide (e :: a.vals.drop (k + 1) = f :: b.vals.drop (k + 1))) := Lib.hid (by rw [hd.out, drop_at he, drop_at hf])
                  clear hd he hf
                  by_cases hef : e = f
                  · subst hef
                    go_wp2
                    go_quiet (fail)
                    go_wp2
                    go_roundg (gk - 1)
                    case measure => omega
                    case rel =>
                      refine ⟨k + 1, by have := HA.out.nv; omega, by go_num, Lib.hid (Ws.below_drewN hb.out _), Lib.hid ?_⟩
                      rw [HD.out]; simp
                  · have e3 : false = r := by rw [← HR.out, HD.out]; simp [hef]
                    subst e3
                    go_wp2
                    go_quiet (fail)
                    go_wp2
                    go_ret
                    exact ⟨rfl, Ws.below_drewN (step_below HB3.out HB3.out.size hb.out) _⟩
                · have hkn : k = nv := by omega
                  have hval : decide (a.vals = b.vals) = true := by
                    rw [hd.out, List.drop_eq_nil_of_le (by rw [HA.out.nv]; omega), List.drop_eq_nil_of_le (by rw [HB.out.nv]; omega)]; simp
                  have HR2 : Hid (decide (a.chg = b.chg) = r) := Lib.hid (by rw [← HR.out, hval]; simp)
                  clear hd hval
                  go_wp2_with fail
                  clear x0 x1 x2 x3 x4 x5 y0 y1 y2 y3 y4 y5
                  obtain ⟨G, rfl⟩ : ∃ G : Nat, G = gk := ⟨_, rfl⟩
                  obtain ⟨w4, rfl⟩ : ∃ w4 : World, w4 = wr := ⟨_, rfl⟩
                  have HB4 := Lib.hid (step_below HB3.out HB3.out.size hb.out)
                  have HX4 := Lib.hid (keep HX3.out hb.out); have HY4 := Lib.hid (keep HY3.out hb.out)
                  clear hb HX3 HY3 HB3 hk hkn
                  go_loopg [6] nc (fun g i wr => RqRel w4 a.chg b.chg g i wr)
                  case atStart => exact ⟨0, by have := HA.out.nc; omega, rfl, Lib.hid (Below.refl _ w4), Lib.hid rfl⟩
                  case round =>
                    obtain ⟨j, hj, rfl, hb, hd⟩ := hrel
                    rw [HA.out.nc] at hj
                    obtain ⟨x0, x1, x2, x3, x4, x5, _⟩ := six (keep HX4.out hb.out)
                    obtain ⟨y0, y1, y2, y3, y4, y5, _⟩ := six (keep HY4.out hb.out)
                    by_cases hlt2 : j < nc
                    · obtain ⟨e, he⟩ := at_lt a.chg j (by rw [HA.out.nc]; exact hlt2)
                      obtain ⟨f, hf⟩ := at_lt b.chg j (by rw [HB.out.nc]; exact hlt2)
                      obtain ⟨bk, o, rfl, c0⟩ := ((HA.out.c.below HB4.out).below hb.out) j e he
                      obtain ⟨bk', o', rfl, d0⟩ := ((HB.out.c.below HB4.out).below hb.out) j f hf
                      have HD : Hid (decide (a.chg = b.chg) = decide (e :: a.chg.drop (j + 1) = f :: b.chg.drop (j + 1))) := Lib.hid (by rw [hd.out, drop_at he, drop_at hf])
                      clear hd he hf
                      rcases e with _ | _ <;> rcases f with _ | _
                      · go_wp2
                        go_quiet (fail)
                        go_wp2
                        go_roundg (gk - 1)
                        case measure => omega
                        case rel =>
                          refine ⟨j + 1, by have := HA.out.nc; omega, by go_num, Lib.hid (Ws.below_drewN hb.out _), Lib.hid ?_⟩
                          rw [HD.out]; simp
                      · have e3 : false = r := by rw [← HR2.out, HD.out]; simp
                        subst e3
                        go_wp2
                        go_quiet (fail)
                        go_wp2
                        go_ret
                        exact ⟨rfl, Ws.below_drewN (step_below HB4.out HB4.out.size hb.out) _⟩
                      · have e3 : false = r := by rw [← HR2.out, HD.out]; simp
                        subst e3
                        go_wp2
                        go_quiet (fail)
                        go_wp2
                        go_ret
                        exact ⟨rfl, Ws.below_drewN (step_below HB4.out HB4.out.size hb.out) _⟩
                      · go_wp2
                        go_quiet (fail)
                        go_wp2
                        go_roundg (gk - 1)
                        case measure => omega
                        case rel =>
                          refine ⟨j + 1, by have := HA.out.nc; omega, by go_num, Lib.hid (Ws.below_drewN hb.out _), Lib.hid ?_⟩
                          rw [HD.out]; simp
                    · have e3 : true = r := by
                        rw [← HR2.out, hd.out, List.drop_eq_nil_of_le (by rw [HA.out.nc]; omega), List.drop_eq_nil_of_le (by rw [HB.out.nc]; omega)]; simp
                      subst e3
                      go_wp2_with fail
                      go_ret
                      exact ⟨rfl, step_below HB4.out HB4.out.size hb.out⟩
          · obtain rfl : false = r := by
              rw [← hr, show decide (a.chg = b.chg) = false from decide_eq_false fun h => k5 (by rw [← HA.out.nc, ← HB.out.nc, h])]; simp
            clear hr
            subst k1; subst k2; subst k3; subst k4
            go_enter Tryz.func14, Tryz.ntmps14
            go_upto_region 1 with fail
            rw [← hW2, show w.heap.size + 1 = b1 from e1.symm, show w.heap.size = b0 from e0.symm]
            clear hW2 e0 e1
            go_wp2_with fail
            go_ret
            exact ⟨rfl, HB2.out⟩
        · obtain rfl : false = r := by
            rw [← hr, show decide (a.vals = b.vals) = false from decide_eq_false fun h => k4 (by rw [← HA.out.nv, ← HB.out.nv, h])]; simp
          clear hr
          subst k1; subst k2; subst k3
          go_enter Tryz.func14, Tryz.ntmps14
          go_upto_region 1 with fail
          rw [← hW2, show w.heap.size + 1 = b1 from e1.symm, show w.heap.size = b0 from e0.symm]
          clear hW2 e0 e1
          go_wp2_with fail
          go_ret
          exact ⟨rfl, HB2.out⟩
      · obtain rfl : false = r := by rw [← hr]; rw [decide_eq_false k3]; simp
        clear hr
        subst k1; subst k2
        go_enter Tryz.func14, Tryz.ntmps14
        go_upto_region 1 with fail
        rw [← hW2, show w.heap.size + 1 = b1 from e1.symm, show w.heap.size = b0 from e0.symm]
        clear hW2 e0 e1
        go_wp2_with fail
        go_ret
        exact ⟨rfl, HB2.out⟩
    · obtain rfl : false = r := by rw [← hr]; rw [decide_eq_false k2]; simp
      clear hr
      subst k1
      go_enter Tryz.func14, Tryz.ntmps14
      go_upto_region 1 with fail
      rw [← hW2, show w.heap.size + 1 = b1 from e1.symm, show w.heap.size = b0 from e0.symm]
      clear hW2 e0 e1
      go_wp2_with fail
      go_ret
      exact ⟨rfl, HB2.out⟩
  · obtain rfl : false = r := by rw [← hr]; rw [decide_eq_false k1]; simp
    clear hr
    go_enter Tryz.func14, Tryz.ntmps14
    go_upto_region 1 with fail
    rw [← hW2, show w.heap.size + 1 = b1 from e1.symm, show w.heap.size = b0 from e0.symm]
    clear hW2 e0 e1
    go_wp2_with fail
    go_ret
    exact ⟨rfl, HB2.out⟩

end Go.Proofs.YtbbmgandkmlojaaGreat.Sq

