/-
  What is proved here: the contract of parts.Cut. Conditions: at most 100000 edges.
-/
import Derived.Test.YtjcgejbggmpikaaPtW6
namespace Go.Proofs.Ytjcgejbggmpikaa.Pt
open Go.RowKit Gr Wd Ws

/- What Cut answers. -/
def CutRes (w w' : World) (e : Ending) (a : Pt × Int) : Prop := ∃ v, e = .returned (.tuple #[v, .int .i64 a.2]) ∧ POwnV w' w.heap.size v a.1
def zeroP : Value := .agg #[.int .i64 0, .int .i64 0, .int .i64 0, .slice none 0 0, .slice none 0 0, .slice none 0 0]
theorem noP_own (w : World) (B : Nat) : POwnV w B zeroP noP := ⟨_, _, _, rfl, IOwn.none_ _ _, ROwn.none_ _ _, ROwn.none_ _ _⟩
theorem POwnV.put6 {w : World} {B : Nat} {x : Value} {P : Pt} (h : POwnV w B x P) {b : Nat} (hb : b < B) (u0 u1 u2 u3 u4 u5 : Value) : POwnV (put6 w b u0 u1 u2 u3 u4 u5) B x P := by
  obtain ⟨s1, s2, s3, e, h1, h2, h3⟩ := h
  exact ⟨s1, s2, s3, e, h1.put6 hb _ _ _ _ _ _, h2.put6 hb _ _ _ _ _ _, h3.put6 hb _ _ _ _ _ _⟩

set_option maxRecDepth 100000 in
set_option maxHeartbeats 1000000 in
theorem Cut_any (V k x : Int) (A : Option Addr) (c : Nat) (L : List Ed) (w : World) (hL : EAt w A L) (hm : L.length ≤ 100000) :
    Calls Try.prog 15 #[.agg #[.int .i64 V, .slice A L.length c], .int .i64 k, .int .i64 x] w fun e w' => CutRes w w' e (cutA V L k x) ∧ Below w.heap.size w w' := by
  obtain ⟨w1, hw1⟩ : ∃ w1, w1 = w.alloc (.cells #[.int .i64 V, .slice A L.length c] 30) := ⟨_, rfl⟩
  obtain ⟨w2, hw2⟩ : ∃ w2, w2 = w1.alloc (.cells #[.int .i64 0, .int .i64 0, .int .i64 0, .slice none 0 0, .slice none 0 0, .slice none 0 0] 34) := ⟨_, rfl⟩
  have s1 : w1.heap.size = w.heap.size + 1 := by rw [hw1]; simp
  have s2 : w2.heap.size = w.heap.size + 2 := by rw [hw2]; simp; omega
  have b1 : Below w.heap.size w w1 := by rw [hw1]; exact (Below.refl _ w).alloc (Nat.le_refl _) _
  have b2 : Below w1.heap.size w1 w2 := by rw [hw2]; exact (Below.refl _ w1).alloc (Nat.le_refl _) _
  have b12 := b1.trans (b2.mono (by omega))
  have e1 : w1.heap[w.heap.size]? = some (.cells #[.int .i64 V, .slice A L.length c] 30 (0, 0)) := by rw [hw1]; exact heap_alloc_new w _
  have e2 : w2.heap[w.heap.size + 1]? = some (.cells #[.int .i64 0, .int .i64 0, .int .i64 0, .slice none 0 0, .slice none 0 0, .slice none 0 0] 34 (0, 0)) := by rw [hw2, ← s1]; exact heap_alloc_new w1 _
  have HG2 : Hid (GBox w2 w.heap.size V A c L) := Lib.hid ⟨(b2.block _ (by omega)).trans e1, hL.below b12⟩
  have HR2 := Lib.hid e2
  have HB2 := Lib.hid b12
  have HW : Hid (w2 = (w.alloc (.cells #[.int .i64 V, .slice A L.length c] 30)).alloc (.cells #[.int .i64 0, .int .i64 0, .int .i64 0, .slice none 0 0, .slice none 0 0, .slice none 0 0] 34)) := Lib.hid (by rw [hw2, hw1])
  clear hw1 hw2 b1 b2 b12 e1 e2 s1 hL
  obtain ⟨E, hE⟩ : ∃ E, chk V L = E := ⟨_, rfl⟩
  have HCK := Lib.hid (check_any V A c L w2 HG2.out.2 (by omega))
  rw [hE] at HCK
  have HE := Lib.hid hE; clear hE
  go_enter Try.func15, Try.ntmps15
  go_wp2_with fail
  rw [← HW.out]
  obtain ⟨x0, x1, hxs⟩ := Bx.cells HG2.out.1
  go_wp2_with fail
  refine HCK.out.mono ?_
  rintro e w3 ⟨rfl, hb3⟩
  have hs3 := hb3.size
  have HG3 := Lib.hid (HG2.out.below hb3)
  have HR3 := Lib.hid ((hb3.block _ (by omega)).trans HR2.out)
  have HB3 := Lib.hid (HB2.out.trans (hb3.mono HB2.out.size))
  clear hb3 x0 x1 hxs
  by_cases hE0 : E = 0
  · subst hE0
    obtain ⟨r, hr⟩ : ∃ r, isK x k = r := ⟨_, rfl⟩
    have HK := Lib.hid (fun W => isWorker_any x k W)
    rw [hr] at HK
    cases r with
    | false =>
      have hn : ¬ (1 ≤ k ∧ k ≤ 64 ∧ 0 ≤ x ∧ x < k) := of_decide_eq_false hr
      have ha : cutA V L k x = (noP, 2) := by unfold cutA; rw [if_neg (by rw [HE.out]; simp), if_neg hn]
      have HA := Lib.hid ha
      clear ha hn hr
      obtain ⟨p0, p1, p2, p3, p4, p5, q0, q1, q2, q3, q4, q5, q6⟩ := six HR3.out
      go_wp2_with fail
      refine (HK.out _).mono ?_
      rintro e w4 ⟨rfl, rfl⟩
      go_wp2_with fail
      clear p0 p1 p2 p3 p4 p5 q0 q1 q2 q3 q4 q5 q6
      have h1 := put6_heap HR3.out (.int .i64 0) (.int .i64 0) (.int .i64 0) (.slice none 0 0) (.slice none 0 0) (.slice none 0 0)
      have h3 := put6_below HB3.out (b := w.heap.size + 1) (by omega) (.int .i64 0) (.int .i64 0) (.int .i64 0) (.slice none 0 0) (.slice none 0 0) (.slice none 0 0)
      unfold put6 at h1 h3
      exact bodyPost_ret (v := .tuple #[zeroP, .int .i64 2]) (res2_p _ _ _ _ _ _ _ _ _ _ _ _ _ Try.results15 rfl rfl h1) rfl ⟨by rw [HA.out]; exact ⟨_, rfl, noP_own _ _⟩, h3⟩
    | true =>
      have hn : 1 ≤ k ∧ k ≤ 64 ∧ 0 ≤ x ∧ x < k := of_decide_eq_true hr
      have ha : cutA V L k x = (cutP V L k x, 0) := by unfold cutA; rw [if_neg (by rw [HE.out]; simp), if_pos hn]
      have HA := Lib.hid ha
      clear ha hn hr
      obtain ⟨x0, x1, hxs⟩ := Bx.cells HG3.out.1
      go_wp2_with fail
      refine (HK.out _).mono ?_
      rintro e w4 ⟨rfl, rfl⟩
      have HC := Lib.hid (cut_any V k x A c L w3 HG3.out.2 hm)
      go_wp2_with fail
      refine HC.out.mono ?_
      rintro e w4 ⟨v, rfl, hv, hb4⟩
      have hs4 := hb4.size
      have HR4 := Lib.hid ((hb4.block _ (by omega)).trans HR3.out)
      have HB4 := Lib.hid (HB3.out.trans (hb4.mono HB3.out.size))
      obtain ⟨a0, a1, a2, u3, u4, u5, rfl, hu3, hu4, hu5⟩ : ∃ a0 a1 a2 u3 u4 u5, v = .agg #[.int .i64 a0, .int .i64 a1, .int .i64 a2, u3, u4, u5] ∧ (∃ A n c, u3 = .slice A n c) ∧ (∃ A n c, u4 = .slice A n c) ∧ (∃ A n c, u5 = .slice A n c) := by
        obtain ⟨s1, s2, s3, e, h1, h2, h3⟩ := hv
        obtain ⟨A1, c1, g1, _⟩ := h1.form
        obtain ⟨A2, c2, g2, _⟩ := h2.form
        obtain ⟨A3, c3, g3, _⟩ := h3.form
        exact ⟨_, _, _, _, _, _, e, ⟨_, _, _, g1⟩, ⟨_, _, _, g2⟩, ⟨_, _, _, g3⟩⟩
      obtain ⟨A3, n3, c3, rfl⟩ := hu3
      obtain ⟨A4, n4, c4, rfl⟩ := hu4
      obtain ⟨A5, n5, c5, rfl⟩ := hu5
      have HV := Lib.hid hv
      clear hv hb4 x0 x1 hxs HC
      obtain ⟨p0, p1, p2, p3, p4, p5, q0, q1, q2, q3, q4, q5, q6⟩ := six HR4.out
      go_wp2_with fail
      clear p0 p1 p2 p3 p4 p5 q0 q1 q2 q3 q4 q5 q6
      have h1 := put6_heap HR4.out (.int .i64 a0) (.int .i64 a1) (.int .i64 a2) (.slice A3 n3 c3) (.slice A4 n4 c4) (.slice A5 n5 c5)
      have h2 := HV.out.put6 (b := w.heap.size + 1) (by omega) (.int .i64 a0) (.int .i64 a1) (.int .i64 a2) (.slice A3 n3 c3) (.slice A4 n4 c4) (.slice A5 n5 c5)
      have h3 := put6_below HB4.out (b := w.heap.size + 1) (by omega) (.int .i64 a0) (.int .i64 a1) (.int .i64 a2) (.slice A3 n3 c3) (.slice A4 n4 c4) (.slice A5 n5 c5)
      unfold put6 at h1 h2 h3
      exact bodyPost_ret (v := .tuple #[_, .int .i64 0]) (res2_p _ _ _ _ _ _ _ _ _ _ _ _ _ Try.results15 rfl rfl h1) rfl ⟨by rw [HA.out]; exact ⟨_, rfl, h2.mono (by omega)⟩, h3⟩
  · have ha : cutA V L k x = (noP, E) := by unfold cutA; rw [if_pos (by rw [HE.out]; exact hE0), HE.out]
    have HA := Lib.hid ha
    clear ha
    obtain ⟨p0, p1, p2, p3, p4, p5, q0, q1, q2, q3, q4, q5, q6⟩ := six HR3.out
    go_wp2_with fail
    clear p0 p1 p2 p3 p4 p5 q0 q1 q2 q3 q4 q5 q6
    have h1 := put6_heap HR3.out (.int .i64 0) (.int .i64 0) (.int .i64 0) (.slice none 0 0) (.slice none 0 0) (.slice none 0 0)
    have h3 := put6_below HB3.out (b := w.heap.size + 1) (by omega) (.int .i64 0) (.int .i64 0) (.int .i64 0) (.slice none 0 0) (.slice none 0 0) (.slice none 0 0)
    unfold put6 at h1 h3
    exact bodyPost_ret (v := .tuple #[zeroP, .int .i64 E]) (res2_p _ _ _ _ _ _ _ _ _ _ _ _ _ Try.results15 rfl rfl h1) rfl ⟨by rw [HA.out]; exact ⟨_, rfl, noP_own _ _⟩, h3⟩

end Go.Proofs.Ytjcgejbggmpikaa.Pt
