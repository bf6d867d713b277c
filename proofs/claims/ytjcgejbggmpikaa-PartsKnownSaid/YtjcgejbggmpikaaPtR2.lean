/-
  What is proved here: the contract of the document's own Cut. Conditions: at most 100000 edges.
-/
import Derived.Test.YtjcgejbggmpikaaPtR1
import Derived.Test.YtjcgejbggmpikaaPtG4
namespace Go.Proofs.Ytjcgejbggmpikaa.Pt
open Go.RowKit Gr Wd Ws

theorem ctb_base {w w3 w4 wr : World} {V : Int} {A : Option Addr} {c : Nat} {L : List Ed} {x k : Int} {l : List Int} {s1 : Value} {bp : Nat} (hb3 : Below w.heap.size w w3) (hs3 : w.heap.size + 2 ≤ w3.heap.size) (hg : GBox w3 w.heap.size V A c L) (heL : EAt w A L)
    (hr : w3.heap[w.heap.size + 1]? = some (.cells #[.int .i64 0, .int .i64 0, .int .i64 0, .slice none 0 0, .slice none 0 0, .slice none 0 0] 38 (0, 0)))
    (hb4 : Below w3.heap.size w3 w4) (hv : IOwn w4 w3.heap.size s1 l) (hbr : Below w3.heap.size w4 wr) (hlo : w3.heap.size ≤ bp) (hv2 : IOwn w4 w3.heap.size s1 l → IOwn wr w3.heap.size s1 l)
    (hbox : wr.heap[bp]? = some (.cells #[.int .i64 x, .int .i64 k, .int .i64 V, s1, .slice none 0 0, .slice none 0 0] 38 (0, 0))) :
    CtB w wr bp V A c L x k l s1 (.slice none 0 0) (.slice none 0 0) (.slice none 0 0) (.slice none 0 0) [] [] := by
  have hb := hb4.trans hbr
  exact ⟨hb3.trans (hb.mono (by omega)), by omega, hbox, (hb.block _ (by omega)).trans hg.1, heL, (hb.block _ (by omega)).trans hr, own_mono (hv2 hv) hs3, ROwn.none_ _ _, ROwn.none_ _ _, fun j hj => by cases hj⟩
theorem ctb_new {w w3 w4 : World} {V : Int} {A : Option Addr} {c : Nat} {L : List Ed} {x k : Int} {l : List Int} {s1 : Value} (hb3 : Below w.heap.size w w3) (hs3 : w.heap.size + 2 ≤ w3.heap.size) (hg : GBox w3 w.heap.size V A c L) (heL : EAt w A L)
    (hr : w3.heap[w.heap.size + 1]? = some (.cells #[.int .i64 0, .int .i64 0, .int .i64 0, .slice none 0 0, .slice none 0 0, .slice none 0 0] 38 (0, 0)))
    (hb4 : Below w3.heap.size w3 w4) (hv : IOwn w4 w3.heap.size s1 l) : CtB w (w4.alloc (.cells #[.int .i64 x, .int .i64 k, .int .i64 V, s1, .slice none 0 0, .slice none 0 0] 38)) w4.heap.size V A c L x k l s1 (.slice none 0 0) (.slice none 0 0) (.slice none 0 0) (.slice none 0 0) [] [] :=
  ctb_base hb3 hs3 hg heL hr hb4 hv ((Below.refl _ w4).alloc hb4.size _) hb4.size (fun h => h.alloc _) (heap_alloc_new w4 _)
theorem ctb_put {w w3 w4 : World} {V : Int} {A : Option Addr} {c : Nat} {L : List Ed} {x k : Int} {l : List Int} {s1 a0 a1 a2 a3 a4 a5 : Value} (hb3 : Below w.heap.size w w3) (hs3 : w.heap.size + 2 ≤ w3.heap.size) (hg : GBox w3 w.heap.size V A c L) (heL : EAt w A L)
    (hr : w3.heap[w.heap.size + 1]? = some (.cells #[.int .i64 0, .int .i64 0, .int .i64 0, .slice none 0 0, .slice none 0 0, .slice none 0 0] 38 (0, 0)))
    (hb4 : Below w3.heap.size w3 w4) (hv : IOwn w4 (w3.heap.size + 1) s1 l) (hn : w4.heap[w3.heap.size]? = some (.cells #[a0, a1, a2, a3, a4, a5] 38 (0, 0))) : CtB w (put6 w4 w3.heap.size (.int .i64 x) (.int .i64 k) (.int .i64 V) s1 (.slice none 0 0) (.slice none 0 0)) w3.heap.size V A c L x k l s1 (.slice none 0 0) (.slice none 0 0) (.slice none 0 0) (.slice none 0 0) [] [] :=
  ctb_base hb3 hs3 hg heL hr hb4 (own_mono hv (by omega)) (put6_below (Below.refl _ w4) (Nat.le_refl _) _ _ _ _ _ _) (Nat.le_refl _) (fun _ => own_mono (hv.put6 (by omega) _ _ _ _ _ _) (by omega)) (put6_heap hn _ _ _ _ _ _)
def CcRel (w : World) (bp : Nat) (V : Int) (A : Option Addr) (c : Nat) (L : List Ed) (x k : Int) (l : List Int) (s1 : Value) (n g : Nat) (i : Value) (wr : World) : Prop :=
  ∃ j : Nat, j + g = n ∧ i = .int .i64 (j : Int) ∧ ∃ s2 s3, Hid (CtB w wr bp V A c L x k l s1 s2 s3 s2 s3 ((l.take j).map (frm L)) ((l.take j).map (tow L)))

/- One row more, its number of rows by name. -/
theorem step_rm {ops : Array Oper} {o : Oper} {a : Act} {w : World} {K : Act → World → Prop} {Q : Exit → Act → World → Prop} {E : Prop} (hgd : o.guard = none) (s x : Operand)
    (ho : o.op = .call { callee := .builtin .append, args := #[s, x], argTypes := #[32, 32] }) (B : Nat) (v : Value) (Ls : List (List Ed)) (m : Nat) (hm : Ls.length = m) (y : Value) (L : List Ed) (hs : a.eval s = v) (hown : ROwn w B v Ls)
    (g : Nat) (hx : a.eval x = .slice (some ⟨g, 0, none⟩) 1 1) (hg : w.heap[g]? = some (.cells #[y] 28 (0, 0))) (hy : EOwn w B y L) (hn : m < 1000000000) (hB : B ≤ w.heap.size)
    (h : ∀ g' cap w', ROwn w' B (.slice (some ⟨g', 0, none⟩) (m + 1) cap) (Ls ++ [L]) → w.grownBy w' v.ownBlock → (v.ownBlock = some g' ∨ g' = w.heap.size) → K (a.put o.dst (.slice (some ⟨g', 0, none⟩) (m + 1) cap)) w') :
    if Region.wanted o (yielded ops a.tmps) = true then Oper.wp Try.prog o a w K Q else E := by
  subst hm
  exact step_r hgd s x ho B v Ls y L hs hown g hx hg hy hn hB h

attribute [local irreducible] Calls in
set_option maxRecDepth 100000 in
set_option maxHeartbeats 12000000 in
theorem rCut_any (V k x : Int) (A : Option Addr) (c : Nat) (L : List Ed) (w : World) (hL : EAt w A L) (hm : L.length ≤ 100000) :
    Calls Try.prog 16 #[.agg #[.int .i64 V, .slice A L.length c], .int .i64 k, .int .i64 x] w fun e w' => CutRes w w' e (cutA V L k x) ∧ Below w.heap.size w w' := by
  obtain ⟨w1, hw1⟩ : ∃ w1, w1 = w.alloc (.cells #[.int .i64 V, .slice A L.length c] 30) := ⟨_, rfl⟩
  obtain ⟨w2, hw2⟩ : ∃ w2, w2 = w1.alloc (.cells #[.int .i64 0, .int .i64 0, .int .i64 0, .slice none 0 0, .slice none 0 0, .slice none 0 0] 38) := ⟨_, rfl⟩
  have s1 : w1.heap.size = w.heap.size + 1 := by rw [hw1]; simp
  have s2 : w2.heap.size = w.heap.size + 2 := by rw [hw2]; simp; omega
  have b1 : Below w.heap.size w w1 := by rw [hw1]; exact (Below.refl _ w).alloc (Nat.le_refl _) _
  have b2 : Below w1.heap.size w1 w2 := by rw [hw2]; exact (Below.refl _ w1).alloc (Nat.le_refl _) _
  have b12 := b1.trans (b2.mono (by omega))
  have e1 : w1.heap[w.heap.size]? = some (.cells #[.int .i64 V, .slice A L.length c] 30 (0, 0)) := by rw [hw1]; exact heap_alloc_new w _
  have e2 : w2.heap[w.heap.size + 1]? = some (.cells #[.int .i64 0, .int .i64 0, .int .i64 0, .slice none 0 0, .slice none 0 0, .slice none 0 0] 38 (0, 0)) := by rw [hw2, ← s1]; exact heap_alloc_new w1 _
  have HG2 : Hid (GBox w2 w.heap.size V A c L) := Lib.hid ⟨(b2.block _ (by omega)).trans e1, hL.below b12⟩
  have HR2 := Lib.hid e2
  have HB2 := Lib.hid b12
  have HW : Hid (w2 = (w.alloc (.cells #[.int .i64 V, .slice A L.length c] 30)).alloc (.cells #[.int .i64 0, .int .i64 0, .int .i64 0, .slice none 0 0, .slice none 0 0, .slice none 0 0] 38)) := Lib.hid (by rw [hw2, hw1])
  clear hw1 hw2 b1 b2 b12 e1 e2 s1
  have HeL := Lib.hid hL; clear hL
  obtain ⟨E, hE⟩ : ∃ E, chk V L = E := ⟨_, rfl⟩
  have HCK := Lib.hid (rcheck_any V A c L w2 HG2.out.2 (by omega))
  rw [hE] at HCK
  have HE := Lib.hid hE; clear hE
  go_enter Try.func16, Try.ntmps16
  go_wp2_with fail
  rw [← HW.out]
  obtain ⟨x0, x1, hxs⟩ := Bx.cells HG2.out.1
  go_wp2_with fail
  refine HCK.out.mono ?_
  rintro e w3 ⟨rfl, hb3⟩
  have hs3 := hb3.size
  have HG3 := Lib.hid (HG2.out.below hb3)
  have HR3 := Lib.hid ((hb3.block _ (by omega)).trans HR2.out)
  have HB3 := Lib.hid (HB2.out.trans (hb3.mono HB2.out.size))
  clear hb3 x0 x1 hxs
  by_cases hE0 : E = 0
  · subst hE0
    by_cases hk1 : k < 1
    · skip
      have ha : cutA V L k x = (noP, 2) := by unfold cutA; rw [if_neg (by rw [HE.out]; simp), if_neg (by omega)]
      have HA := Lib.hid ha
      clear ha
      obtain ⟨p0, p1, p2, p3, p4, p5, q0, q1, q2, q3, q4, q5, q6⟩ := six HR3.out
      go_wp2_with fail
      clear p0 p1 p2 p3 p4 p5 q0 q1 q2 q3 q4 q5 q6
      have h1 := put6_heap HR3.out (.int .i64 0) (.int .i64 0) (.int .i64 0) (.slice none 0 0) (.slice none 0 0) (.slice none 0 0)
      have h3 := put6_below HB3.out (b := w.heap.size + 1) (by omega) (.int .i64 0) (.int .i64 0) (.int .i64 0) (.slice none 0 0) (.slice none 0 0) (.slice none 0 0)
      unfold put6 at h1 h3
      exact bodyPost_ret (v := .tuple #[zeroP, .int .i64 2]) (res2_q _ _ _ _ _ _ _ _ _ _ _ _ _ Try.results16 rfl rfl h1) rfl ⟨by rw [HA.out]; exact ⟨_, rfl, noP_own _ _⟩, h3⟩
    · by_cases hk2 : 64 < k
      · skip
        have ha : cutA V L k x = (noP, 2) := by unfold cutA; rw [if_neg (by rw [HE.out]; simp), if_neg (by omega)]
        have HA := Lib.hid ha
        clear ha
        obtain ⟨p0, p1, p2, p3, p4, p5, q0, q1, q2, q3, q4, q5, q6⟩ := six HR3.out
        go_wp2_with fail
        clear p0 p1 p2 p3 p4 p5 q0 q1 q2 q3 q4 q5 q6
        have h1 := put6_heap HR3.out (.int .i64 0) (.int .i64 0) (.int .i64 0) (.slice none 0 0) (.slice none 0 0) (.slice none 0 0)
        have h3 := put6_below HB3.out (b := w.heap.size + 1) (by omega) (.int .i64 0) (.int .i64 0) (.int .i64 0) (.slice none 0 0) (.slice none 0 0) (.slice none 0 0)
        unfold put6 at h1 h3
        exact bodyPost_ret (v := .tuple #[zeroP, .int .i64 2]) (res2_q _ _ _ _ _ _ _ _ _ _ _ _ _ Try.results16 rfl rfl h1) rfl ⟨by rw [HA.out]; exact ⟨_, rfl, noP_own _ _⟩, h3⟩
      · by_cases hk3 : x < 0
        · skip
          have ha : cutA V L k x = (noP, 2) := by unfold cutA; rw [if_neg (by rw [HE.out]; simp), if_neg (by omega)]
          have HA := Lib.hid ha
          clear ha
          obtain ⟨p0, p1, p2, p3, p4, p5, q0, q1, q2, q3, q4, q5, q6⟩ := six HR3.out
          go_wp2_with fail
          clear p0 p1 p2 p3 p4 p5 q0 q1 q2 q3 q4 q5 q6
          have h1 := put6_heap HR3.out (.int .i64 0) (.int .i64 0) (.int .i64 0) (.slice none 0 0) (.slice none 0 0) (.slice none 0 0)
          have h3 := put6_below HB3.out (b := w.heap.size + 1) (by omega) (.int .i64 0) (.int .i64 0) (.int .i64 0) (.slice none 0 0) (.slice none 0 0) (.slice none 0 0)
          unfold put6 at h1 h3
          exact bodyPost_ret (v := .tuple #[zeroP, .int .i64 2]) (res2_q _ _ _ _ _ _ _ _ _ _ _ _ _ Try.results16 rfl rfl h1) rfl ⟨by rw [HA.out]; exact ⟨_, rfl, noP_own _ _⟩, h3⟩
        · by_cases hk4 : k ≤ x
          · skip
            have ha : cutA V L k x = (noP, 2) := by unfold cutA; rw [if_neg (by rw [HE.out]; simp), if_neg (by omega)]
            have HA := Lib.hid ha
            clear ha
            obtain ⟨p0, p1, p2, p3, p4, p5, q0, q1, q2, q3, q4, q5, q6⟩ := six HR3.out
            go_wp2_with fail
            clear p0 p1 p2 p3 p4 p5 q0 q1 q2 q3 q4 q5 q6
            have h1 := put6_heap HR3.out (.int .i64 0) (.int .i64 0) (.int .i64 0) (.slice none 0 0) (.slice none 0 0) (.slice none 0 0)
            have h3 := put6_below HB3.out (b := w.heap.size + 1) (by omega) (.int .i64 0) (.int .i64 0) (.int .i64 0) (.slice none 0 0) (.slice none 0 0) (.slice none 0 0)
            unfold put6 at h1 h3
            exact bodyPost_ret (v := .tuple #[zeroP, .int .i64 2]) (res2_q _ _ _ _ _ _ _ _ _ _ _ _ _ Try.results16 rfl rfl h1) rfl ⟨by rw [HA.out]; exact ⟨_, rfl, noP_own _ _⟩, h3⟩
          · have ha : cutA V L k x = (cutP V L k x, 0) := by unfold cutA; rw [if_neg (by rw [HE.out]; simp), if_pos (by omega)]
            have HA := Lib.hid ha
            have hlo := owned_len V k x
            obtain ⟨l, hl⟩ : ∃ l, owned V k x = l := ⟨_, rfl⟩
            have hcp : cutP V L k x = ⟨x, k, V, l, l.map (frm L), l.map (tow L)⟩ := by unfold cutP; rw [hl]
            have HCP := Lib.hid hcp
            have H1 := Lib.hid (fun W => rowned_any V k x W)
            rw [hl] at H1 hlo
            clear hl hcp ha
            obtain ⟨x0, x1, hxs⟩ := Bx.cells HG3.out.1
            have B3 : Hid (Below w3.heap.size w3 w3.drew) := Lib.hid ((Below.refl _ w3).drew)
            have HN3 : Hid ((w3.drew.alloc (.cells #[.int .i64 0, .int .i64 0, .int .i64 0, .slice none 0 0, .slice none 0 0, .slice none 0 0] 38)).heap[w3.heap.size]? = some (.cells #[.int .i64 0, .int .i64 0, .int .i64 0, .slice none 0 0, .slice none 0 0, .slice none 0 0] 38 (0, 0))) := Lib.hid (heap_alloc_new w3.drew (.cells #[.int .i64 0, .int .i64 0, .int .i64 0, .slice none 0 0, .slice none 0 0, .slice none 0 0] 38))
            go_wp2_with fail
            go_cut [9] from 33 (fun p W => ∃ bp s1, p = .pointer (some ⟨bp, 0, none⟩) ∧ Hid (CtB w W bp V A c L x k l s1 (.slice none 0 0) (.slice none 0 0) (.slice none 0 0) (.slice none 0 0) [] []))
            case first =>
              have hne1 : ¬ w.heap.size = w3.heap.size := by omega
              have hne2 : ¬ w3.heap.size = w.heap.size := by omega
              go_region_held3 (fun w' => w'.cell? ⟨w.heap.size, 0, none⟩ = some (.int .i64 V)) (first | (with_reducible assumption) | go_keep) (first
                | (go_at_call 12; refine (H1.out w3.drew).mono ?_; rintro e w4 ⟨v4, rfl, hv4, hb4⟩; obtain ⟨A1, c1, rfl, hA1⟩ := hv4.form; have B4 := Lib.hid (B3.out.trans hb4); have V4 := Lib.hid hv4; obtain ⟨k4, l4, m4⟩ := Bx.cells (HG3.out.below B4.out).1; have HN4 := Lib.hid (heap_alloc_new w4 (.cells #[.int .i64 0, .int .i64 0, .int .i64 0, .slice none 0 0, .slice none 0 0, .slice none 0 0] 38)); obtain ⟨p0, p1, p2, p3, p4, p5, q0, q1, q2, q3, q4, q5, q6⟩ := six HN4.out; have HE := Lib.hid (ctb_new (x := x) (k := k) HB3.out (by omega) HG3.out HeL.out HR3.out B4.out (own_mono hv4 (Nat.le_of_eq rfl))); clear hv4 hb4 hA1)
                | (go_at_call 12; refine (H1.out (w3.drew.alloc (.cells #[.int .i64 0, .int .i64 0, .int .i64 0, .slice none 0 0, .slice none 0 0, .slice none 0 0] 38))).mono ?_; rintro e w4 ⟨v4, rfl, hv4, hb4⟩; obtain ⟨A1, c1, rfl, hA1⟩ := hv4.form; have B4 := Lib.hid ((B3.out.alloc B3.out.size (.cells #[.int .i64 0, .int .i64 0, .int .i64 0, .slice none 0 0, .slice none 0 0, .slice none 0 0] 38)).trans (hb4.mono (by simp))); have V4 := Lib.hid hv4; obtain ⟨k4, l4, m4⟩ := Bx.cells (HG3.out.below B4.out).1; have HN4 := Lib.hid ((hb4.block _ (lt_of_block HN3.out)).trans HN3.out); obtain ⟨p0, p1, p2, p3, p4, p5, q0, q1, q2, q3, q4, q5, q6⟩ := six HN4.out; have HE := Lib.hid (ctb_put (x := x) (k := k) HB3.out (by omega) HG3.out HeL.out HR3.out B4.out (own_mono hv4 (by simp)) HN4.out); clear hv4 hb4 hA1))
              all_goals
                clear p0 p1 p2 p3 p4 p5 q0 q1 q2 q3 q4 q5 q6
                go_wp2_with fail
                go_meet
                exact ⟨_, _, rfl, HE⟩
            case rest =>
              obtain ⟨bp, s1, rfl, HT⟩ := hcut
              obtain ⟨A1, c1, rfl, _⟩ := HT.out.own.form
              obtain ⟨n, hn⟩ : ∃ n, n = l.length := ⟨_, rfl⟩
              rw [← hn] at HT hlo
              have HN := Lib.hid hn; clear hn x0 x1 hxs B3
              go_wp2_with fail
              go_loopg [10] n (fun g i wr => CcRel w bp V A c L x k l (.slice A1 n c1) n g i wr)
              case atStart => exact ⟨0, by omega, rfl, _, _, HT⟩
              case round =>
                obtain ⟨j, hj, rfl, t2, t3, HW⟩ := hrel
                obtain ⟨y0, y1, y2, y3, y4, y5, z0, z1, z2, z3, z4, z5, z6⟩ := six HW.out.box
                by_cases hlt : j < n
                · obtain ⟨v, hv⟩ := at_lt l j (by rw [← HN.out]; exact hlt)
                  obtain ⟨_, _, e1, hA1⟩ := HW.out.own.form
                  obtain ⟨bk, o, rfl, c0⟩ : ∃ bk o, A1 = some ⟨bk, o, none⟩ ∧ wr.cell? ⟨bk, o + j, none⟩ = some (.int .i64 v) := by
                    cases e1
                    exact hA1 j v hv
                  have HV := Lib.hid hv
                  clear hA1 e1 hv
                  obtain ⟨x0, x1, hxs⟩ := Bx.cells HW.out.gb
                  have BD : Hid (Below wr.heap.size wr wr.drew) := Lib.hid ((Below.refl _ wr).drew)
                  have HQ1 : Hid (∀ W, Below wr.heap.size wr W → Calls Try.prog 33 #[.agg #[.int .i64 V, .slice A L.length c], .int .i64 v] W fun e w' => ∃ x, e = .returned x ∧ Hid (EOwn w' W.heap.size x (frm L v) ∧ Below W.heap.size W w')) :=
                    Lib.hid fun W h => (rout_any V v A c L W (HW.out.eat.below h) hm).mono fun _ _ ⟨x, h1, h2, h3⟩ => ⟨x, h1, Lib.hid ⟨h2, h3⟩⟩
                  have HF1 : Hid ((l.take (j + 1)).map (frm L) = (l.take j).map (frm L) ++ [frm L v]) := Lib.hid (by rw [take_at HV.out, List.map_append]; rfl)
                  have HF2 : Hid ((l.take (j + 1)).map (tow L) = (l.take j).map (tow L) ++ [tow L v]) := Lib.hid (by rw [take_at HV.out, List.map_append]; rfl)
                  have HJ1 : Hid (((l.take j).map (frm L)).length = j) := Lib.hid (by rw [List.length_map, List.length_take]; have := HN.out; omega)
                  have HJ2 : Hid (((l.take j).map (tow L)).length = j) := Lib.hid (by rw [List.length_map, List.length_take]; have := HN.out; omega)
                  have HS1 : Hid (w.heap.size + 2 ≤ wr.drew.heap.size) := Lib.hid (by have := HW.out.lo; show w.heap.size + 2 ≤ wr.heap.size; omega)
                  go_wp2_with fail
                  go_cut [] from 50 to 61 (fun W => ∃ s2, Hid (CtB w W bp V A c L x k l (.slice (some ⟨bk, o, none⟩) n c1) s2 t3 s2 t3 ((l.take (j + 1)).map (frm L)) ((l.take j).map (tow L))))
                  case first =>
                    go_region_law (first
                      | (go_simp; go_at_call 33; refine (HQ1.out _ BD.out).mono ?_; rintro e w5 ⟨x5, rfl, H5⟩; obtain ⟨X5, d5, rfl, _⟩ := H5.out.1.form; have C5 := Lib.hid (HW.out.below (BD.out.trans H5.out.2)); obtain ⟨p0, p1, p2, p3, p4, p5, q0, q1, q2, q3, q4, q5, q6⟩ := six C5.out.box; have HN6 := Lib.hid (heap_alloc_new w5 (.cells #[.slice X5 (frm L v).length d5] 28)); have C6 := Lib.hid (C5.out.below ((Below.refl _ w5).alloc (Nat.le_refl _) (.cells #[.slice X5 (frm L v).length d5] 28))); have X6 := Lib.hid ((eown_mono H5.out.1 HS1.out).alloc (.cells #[.slice X5 (frm L v).length d5] 28)))
                      | (refine step_rm rfl (.tmp 51) (.tmp 59) rfl (w.heap.size + 2) _ _ j HJ1.out _ (frm L v) (by simp [Act.eval]) C6.out.out _ (by simp [Act.eval]) HN6.out X6.out (by omega) (by have := C6.out.bel.size; have := C6.out.lo; have := lt_of_block C6.out.box; omega) ?_; intro g7 c7 w7 ho7 hg7 hat7; have C7 := Lib.hid (C6.out.app2 ho7 hg7 hat7); obtain ⟨p0, p1, p2, p3, p4, p5, q0, q1, q2, q3, q4, q5, q6⟩ := six C7.out.box))
                    all_goals
                      clear p0 p1 p2 p3 p4 p5 q0 q1 q2 q3 q4 q5 q6
                      go_wp2_with fail
                      go_meet
                      exact ⟨_, Lib.hid (by rw [HF1.out]; exact C7.out.set2)⟩
                  case rest =>
                    clear y0 y1 y2 y3 y4 y5 z0 z1 z2 z3 z4 z5 z6 x0 x1 hxs c0 HQ1 HJ1 BD HS1
                    obtain ⟨s2, HX⟩ := hcut
                    obtain ⟨y0, y1, y2, y3, y4, y5, z0, z1, z2, z3, z4, z5, z6⟩ := six HX.out.box
                    obtain ⟨_, _, e1, hA1⟩ := HX.out.own.form
                    have c0 : wc.cell? ⟨bk, o + j, none⟩ = some (.int .i64 v) := by
                      obtain ⟨bk', o', e2, e3⟩ := hA1 j v HV.out
                      cases e1; cases e2; exact e3
                    clear hA1 e1
                    obtain ⟨x0, x1, hxs⟩ := Bx.cells HX.out.gb
                    have BD : Hid (Below wc.heap.size wc wc.drew) := Lib.hid ((Below.refl _ wc).drew)
                    have HQ2 : Hid (∀ W, Below wc.heap.size wc W → Calls Try.prog 34 #[.agg #[.int .i64 V, .slice A L.length c], .int .i64 v] W fun e w' => ∃ x, e = .returned x ∧ Hid (EOwn w' W.heap.size x (tow L v) ∧ Below W.heap.size W w')) :=
                      Lib.hid fun W h => (rback_any V v A c L W (HX.out.eat.below h) hm).mono fun _ _ ⟨x, h1, h2, h3⟩ => ⟨x, h1, Lib.hid ⟨h2, h3⟩⟩
                    have HS2 : Hid (w.heap.size + 2 ≤ wc.drew.heap.size) := Lib.hid (by have := HX.out.lo; show w.heap.size + 2 ≤ wc.heap.size; omega)
                    go_wp2_with fail
                    go_region_law (first
                      | (go_simp; go_at_call 34; refine (HQ2.out _ BD.out).mono ?_; rintro e w5 ⟨x5, rfl, H5⟩; obtain ⟨X5, d5, rfl, _⟩ := H5.out.1.form; have C5 := Lib.hid (HX.out.below (BD.out.trans H5.out.2)); obtain ⟨p0, p1, p2, p3, p4, p5, q0, q1, q2, q3, q4, q5, q6⟩ := six C5.out.box; have HN6 := Lib.hid (heap_alloc_new w5 (.cells #[.slice X5 (tow L v).length d5] 28)); have C6 := Lib.hid (C5.out.below ((Below.refl _ w5).alloc (Nat.le_refl _) (.cells #[.slice X5 (tow L v).length d5] 28))); have X6 := Lib.hid ((eown_mono H5.out.1 HS2.out).alloc (.cells #[.slice X5 (tow L v).length d5] 28)))
                      | (refine step_rm rfl (.tmp 63) (.tmp 71) rfl (w.heap.size + 2) _ _ j HJ2.out _ (tow L v) (by simp [Act.eval]) C6.out.back _ (by simp [Act.eval]) HN6.out X6.out (by omega) (by have := C6.out.bel.size; have := C6.out.lo; have := lt_of_block C6.out.box; omega) ?_; intro g7 c7 w7 ho7 hg7 hat7; have C7 := Lib.hid (C6.out.app3 ho7 hg7 hat7); obtain ⟨p0, p1, p2, p3, p4, p5, q0, q1, q2, q3, q4, q5, q6⟩ := six C7.out.box))
                    all_goals
                      clear p0 p1 p2 p3 p4 p5 q0 q1 q2 q3 q4 q5 q6
                      go_wp2_with fail
                      go_roundg (gk - 1)
                      case measure => omega
                      case rel => exact ⟨j + 1, by omega, by go_num, s2, _, Lib.hid (by rw [HF1.out, HF2.out]; have := C7.out.set3; rw [HF1.out] at this; exact this)⟩
                · have HK : Hid (j = n) := Lib.hid (by omega)
                  have HT2 := Lib.hid HW.out.out
                  have HT3 := Lib.hid HW.out.back
                  obtain ⟨A2, c2, rfl, _⟩ := HW.out.out.form
                  obtain ⟨A3, c3, rfl, _⟩ := HW.out.back.form
                  obtain ⟨r0, r1, r2, r3, r4, r5, f0, f1, f2, f3, f4, f5, f6⟩ := six HW.out.res
                  obtain ⟨n2, hn2⟩ : ∃ n2, (List.map (frm L) (List.take j l)).length = n2 := ⟨_, rfl⟩
                  obtain ⟨n3, hn3⟩ : ∃ n3, (List.map (tow L) (List.take j l)).length = n3 := ⟨_, rfl⟩
                  rw [hn2] at HW HT2 y4; rw [hn3] at HW HT3 y5
                  clear hn2 hn3
                  go_wp2_with fail
                  clear r0 r1 r2 r3 r4 r5 f0 f1 f2 f3 f4 f5 f6 y0 y1 y2 y3 y4 y5 z0 z1 z2 z3 z4 z5 z6
                  have hlow : w.heap.size + 1 < w.heap.size + 2 := by omega
                  have h1 := put6_heap HW.out.res (.int .i64 x) (.int .i64 k) (.int .i64 V) (.slice A1 n c1) (.slice A2 n2 c2) (.slice A3 n3 c3)
                  have h2 : POwnV (put6 wr (w.heap.size + 1) (.int .i64 x) (.int .i64 k) (.int .i64 V) (.slice A1 n c1) (.slice A2 n2 c2) (.slice A3 n3 c3)) (w.heap.size + 2) (.agg #[.int .i64 x, .int .i64 k, .int .i64 V, .slice A1 n c1, .slice A2 n2 c2, .slice A3 n3 c3]) ⟨x, k, V, l, l.map (frm L), l.map (tow L)⟩ := by
                    have g2 := HT2.out; have g3 := HT3.out
                    rw [HK.out, HN.out, List.take_length] at g2 g3
                    exact ⟨_, _, _, rfl, HW.out.own.put6 hlow _ _ _ _ _ _, g2.put6 hlow _ _ _ _ _ _, g3.put6 hlow _ _ _ _ _ _⟩
                  have h3 := put6_below HW.out.bel (b := w.heap.size + 1) (by omega) (.int .i64 x) (.int .i64 k) (.int .i64 V) (.slice A1 n c1) (.slice A2 n2 c2) (.slice A3 n3 c3)
                  unfold put6 at h1 h2 h3
                  exact bodyPost_ret (v := .tuple #[_, .int .i64 0]) (res2_q _ _ _ _ _ _ _ _ _ _ _ _ _ Try.results16 rfl rfl h1) rfl ⟨by rw [HA.out, HCP.out]; exact ⟨_, rfl, h2.mono (by omega)⟩, h3⟩
  · have ha : cutA V L k x = (noP, E) := by unfold cutA; rw [if_pos (by rw [HE.out]; exact hE0), HE.out]
    have HA := Lib.hid ha
    clear ha
    obtain ⟨p0, p1, p2, p3, p4, p5, q0, q1, q2, q3, q4, q5, q6⟩ := six HR3.out
    go_wp2_with fail
    clear p0 p1 p2 p3 p4 p5 q0 q1 q2 q3 q4 q5 q6
    have h1 := put6_heap HR3.out (.int .i64 0) (.int .i64 0) (.int .i64 0) (.slice none 0 0) (.slice none 0 0) (.slice none 0 0)
    have h3 := put6_below HB3.out (b := w.heap.size + 1) (by omega) (.int .i64 0) (.int .i64 0) (.int .i64 0) (.slice none 0 0) (.slice none 0 0) (.slice none 0 0)
    unfold put6 at h1 h3
    exact bodyPost_ret (v := .tuple #[zeroP, .int .i64 E]) (res2_q _ _ _ _ _ _ _ _ _ _ _ _ _ Try.results16 rfl rfl h1) rfl ⟨by rw [HA.out]; exact ⟨_, rfl, noP_own _ _⟩, h3⟩

end Go.Proofs.Ytjcgejbggmpikaa.Pt
