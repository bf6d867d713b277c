/-
  What is proved here: words for the law's spoilt: parts cut, a copy of their row, a part of it changed. No condition.
-/
import Derived.Test.YtjcgejbggmpikaaPtWho
import Derived.Test.YtjcgejbggmpikaaPtJoi
import Derived.Test.YtjcgejbggmpikaaPtK1
namespace Go.Proofs.Ytjcgejbggmpikaa.Pt
open Go.RowKit Gr Wd Ws

theorem cutA_sm0 (V : Int) (L : List Ed) (k x : Int) (h : L.length ≤ 100000) : Sm (cutA V L k x).1 := by
  have h0 : Sm noP := ⟨by simp [noP], by simp [noP], by simp [noP], by simp [noP, Fits], by simp [noP, Fits]⟩
  unfold cutA
  split
  · exact h0
  · split
    · exact cutP_sm V L k x h
    · exact h0
def pcA (V : Int) (L : List Ed) (k : Int) (j : Nat) : List Pt := (List.range j).map fun (i : Nat) => (cutA V L k i).1
theorem pcA_len (V : Int) (L : List Ed) (k : Int) (j : Nat) : (pcA V L k j).length = j := by simp [pcA]
theorem pcA_succ (V : Int) (L : List Ed) (k : Int) (j : Nat) : pcA V L k (j + 1) = pcA V L k j ++ [(cutA V L k j).1] := by simp [pcA, List.range_succ]
theorem pcA_sm (V : Int) (L : List Ed) (k : Int) (j : Nat) (h : L.length ≤ 100000) : ∀ Q ∈ pcA V L k j, Sm Q := by
  intro Q hQ
  obtain ⟨i, _, rfl⟩ := List.mem_map.1 hQ
  exact cutA_sm0 V L k i h
/- The cells of parts are one cell each. -/
theorem ptv_cells {w : World} {cs : List Value} {P : Pt} (h : PtV w (.agg cs.toArray) P) : ∃ A1 c1 A2 c2 A3 c3, cs = [.int .i64 P.w, .int .i64 P.k, .int .i64 P.n, .slice A1 P.own.length c1, .slice A2 P.out.length c2, .slice A3 P.back.length c3] := by
  obtain ⟨A1, c1, A2, c2, A3, c3, e, _⟩ := h
  injection e with e
  have := congrArg Array.toList e
  exact ⟨A1, c1, A2, c2, A3, c3, by simpa using this⟩
theorem con_one {w : World} {css : List (List Value)} {l : List Pt} (h : Con w css l) : ∀ u ∈ css.flatten, u.oneCell' = true := by
  intro u hu
  obtain ⟨cs, hcs, hu⟩ := List.mem_flatten.1 hu
  obtain ⟨i, hi⟩ := List.mem_iff_getElem?.1 hcs
  obtain ⟨P, hP⟩ := at_lt l i (by rw [← h.1]; exact lt_at hi)
  obtain ⟨ds, hd, hp⟩ := h.2 i P hP
  rw [hi] at hd; cases hd
  obtain ⟨A1, c1, A2, c2, A3, c3, rfl⟩ := ptv_cells hp
  simp only [List.mem_cons, List.not_mem_nil, or_false] at hu
  rcases hu with rfl | rfl | rfl | rfl | rfl | rfl <;> rfl
/- A row that holds nothing, in a block of its own. -/
theorem own_fresh (w : World) (T : TypeId) (size : Nat) (B : Nat) (hB : B ≤ w.heap.size) : (w.alloc (.cells #[] T)).ownsRow B T size (.slice (some ⟨w.heap.size, 0, none⟩) 0 0) 0 [] := by
  refine ⟨by simp, .inr ⟨w.heap.size, 0, #[], rfl, hB, heap_alloc_new w _, ?_⟩⟩
  simp
/- All parts of a row, behind a row that holds nothing. -/
theorem app_parts {w : World} {ops : Array Oper} {rest : List Oper} {o : Oper} {a : Act} {Q : Exit → Act → World → Prop} (hgd : o.guard = none) (s x : Operand)
    (ho : o.op = .call { callee := .builtin .append, args := #[s, x], argTypes := #[47, 47] }) (B : Nat) (v : Value) (hs : a.eval s = v) (hown : w.ownsRow B 34 6 v 0 [])
    (B0 : Nat) (AL : Option Addr) (k cl : Nat) (css : List (List Value)) (hl : LRow w B0 34 (.slice AL k cl) css) (hk : css.length = k) (hk0 : 0 < k) (hone : ∀ u ∈ css.flatten, u.oneCell' = true)
    (hx : a.eval x = .slice AL k cl) (hn : k < 1000000) (hB : B ≤ w.heap.size)
    (h : ∀ A' c' w', LRow w' B 34 (.slice (some ⟨A', 0, none⟩) k c') css → w.grownBy w' v.ownBlock → wpList Try.prog ops Q rest (a.put o.dst (.slice (some ⟨A', 0, none⟩) k c')) w') : wpList Try.prog ops Q (o :: rest) a w := by
  obtain ⟨i0, hi, hz0, hz1, hz2⟩ := info_parts infoPp
  obtain ⟨⟨h0, h1 | ⟨g, cap, cur, h1, h2, h3, h4, h5, h6, h7⟩⟩, hl6⟩ := hl
  · have := h1.2; omega
  · injection h1 with e1 e2 e3
    subst e1 e3
    refine wpList_append_own w hgd s x 47 ho B 34 i0 _ 6 96 Try.underlying47 hi hz0 hz1 hz2 rfl (by decide) v 0 [] hs hown ⟨g, 0, none⟩ k cl css.flatten hx (by rw [flat6_len css hl6, hk]) ?_ hone ?_ ?_ hB ?_
    · intro j u hu
      have hj := lt_at hu
      rw [flat6_len css hl6] at hj
      rw [add_plain, Nat.zero_add, cell_of_row w g _ _ 34 (0, 0) h3]
      have e1 : cur[j]? = (cur.toList.take (css.length * 6))[j]? := by
        rw [List.getElem?_take, if_pos (by omega), Array.getElem?_toList]
      rw [e1, h7]; exact hu
    · unfold maxLen; omega
    · omega
    · intro v' w' q2 q3 _
      rw [Nat.zero_add, List.nil_append] at q2
      rcases q2.2 with q4 | ⟨g', cap', cur', q4, _⟩
      · have := q4.2; omega
      · subst q4
        exact h _ _ w' ⟨by rw [hk]; exact q2, hl6⟩ q3
/- What is read of a world but for one block. -/
def Off (b : Nat) (w w' : World) : Prop := ∀ (p : Addr) (v : Value), p.block ≠ b → w.cell? p = some v → w'.cell? p = some v
def PtN (w : World) (b : Nat) (x : Value) (P : Pt) : Prop := ∀ w', Off b w w' → PtV w' x P

theorem off_below {wl w : World} {b : Nat} (h : Below wl.heap.size wl w) (hb : wl.heap.size ≤ b) {w' : World} (ho : Off b w w') : Ck wl w' := fun p v hp => by
  have h1 := block_lt_of_cell hp
  exact ho p v (fun e => by rw [e] at h1; omega) ((h.cell h1).trans hp)
/- Six cells of a row of parts, written. -/
def put6o (w : World) (b o : Nat) (u0 u1 u2 u3 u4 u5 : Value) : World :=
  (((((w.setCell ⟨b, o, none⟩ u0).setCell ⟨b, o + 1, none⟩ u1).setCell ⟨b, o + 2, none⟩ u2).setCell ⟨b, o + 3, none⟩ u3).setCell ⟨b, o + 4, none⟩ u4).setCell ⟨b, o + 5, none⟩ u5
theorem put6o_heap {w : World} {b o : Nat} {T : TypeId} {cur : Array Value} (h : w.heap[b]? = some (.cells cur T (0, 0))) (u0 u1 u2 u3 u4 u5 : Value) :
    (put6o w b o u0 u1 u2 u3 u4 u5).heap[b]? = some (.cells ((((((cur.setIfInBounds o u0).setIfInBounds (o + 1) u1).setIfInBounds (o + 2) u2).setIfInBounds (o + 3) u3).setIfInBounds (o + 4) u4).setIfInBounds (o + 5) u5) T (0, 0)) := by
  have e0 := Go.heap_setCell_same w b o _ _ u0 h
  have e1 := Go.heap_setCell_same _ b (o + 1) _ _ u1 e0
  have e2 := Go.heap_setCell_same _ b (o + 2) _ _ u2 e1
  have e3 := Go.heap_setCell_same _ b (o + 3) _ _ u3 e2
  have e4 := Go.heap_setCell_same _ b (o + 4) _ _ u4 e3
  have e5 := Go.heap_setCell_same _ b (o + 5) _ _ u5 e4
  exact e5
theorem put6o_below {B : Nat} {a w : World} (h : Below B a w) {b : Nat} (hb : B ≤ b) (o : Nat) (u0 u1 u2 u3 u4 u5 : Value) : Below B a (put6o w b o u0 u1 u2 u3 u4 u5) :=
  (((((h.setCell (p := ⟨b, o, none⟩) hb u0).setCell (p := ⟨b, o + 1, none⟩) hb u1).setCell (p := ⟨b, o + 2, none⟩) hb u2).setCell (p := ⟨b, o + 3, none⟩) hb u3).setCell (p := ⟨b, o + 4, none⟩) hb u4).setCell (p := ⟨b, o + 5, none⟩) hb u5
theorem put6o_off (w : World) (b o : Nat) (u0 u1 u2 u3 u4 u5 : Value) : Off b w (put6o w b o u0 u1 u2 u3 u4 u5) := by
  intro p v hp h
  have key : ∀ (W : World) (i : Nat) (u : Value), (W.setCell ⟨b, i, none⟩ u).heap[p.block]? = W.heap[p.block]? := fun W i u => Below.heap_setCell W ⟨b, i, none⟩ u p.block (fun e => hp e)
  have : (put6o w b o u0 u1 u2 u3 u4 u5).heap[p.block]? = w.heap[p.block]? := by unfold put6o; rw [key, key, key, key, key, key]
  exact (World.cell?_of_block this).trans h
theorem put6o_cell {w : World} {b o : Nat} {T : TypeId} {cur : Array Value} (h : w.heap[b]? = some (.cells cur T (0, 0))) (hs : o + 6 ≤ cur.size) (u0 u1 u2 u3 u4 u5 : Value) :
    (∀ i, (i < o ∨ o + 6 ≤ i) → (put6o w b o u0 u1 u2 u3 u4 u5).cell? ⟨b, i, none⟩ = w.cell? ⟨b, i, none⟩) ∧
    (put6o w b o u0 u1 u2 u3 u4 u5).cell? ⟨b, o, none⟩ = some u0 ∧ (put6o w b o u0 u1 u2 u3 u4 u5).cell? ⟨b, o + 1, none⟩ = some u1 ∧ (put6o w b o u0 u1 u2 u3 u4 u5).cell? ⟨b, o + 2, none⟩ = some u2 ∧
    (put6o w b o u0 u1 u2 u3 u4 u5).cell? ⟨b, o + 3, none⟩ = some u3 ∧ (put6o w b o u0 u1 u2 u3 u4 u5).cell? ⟨b, o + 4, none⟩ = some u4 ∧ (put6o w b o u0 u1 u2 u3 u4 u5).cell? ⟨b, o + 5, none⟩ = some u5 := by
  have hh := put6o_heap (o := o) h u0 u1 u2 u3 u4 u5
  refine ⟨fun i hi => ?_, ?_, ?_, ?_, ?_, ?_, ?_⟩
  · rw [cell_of_row _ b i _ T (0, 0) hh, cell_of_row _ b i _ T (0, 0) h]
    simp only [Array.getElem?_setIfInBounds, Array.size_setIfInBounds]
    rw [if_neg (by omega), if_neg (by omega), if_neg (by omega), if_neg (by omega), if_neg (by omega), if_neg (by omega)]
  all_goals
    rw [cell_of_row _ b _ _ T (0, 0) hh]
    simp only [Array.getElem?_setIfInBounds, Array.size_setIfInBounds]
    simp
    try omega
/- A part put in its place. -/
attribute [local irreducible] put6o in
set_option maxHeartbeats 2000000 in
theorem set6_lat {wl W : World} {bm cm x B : Nat} {css : List (List Value)} {ps : List Pt} (hM : LRow W B 34 (.slice (some ⟨bm, 0, none⟩) ps.length cm) css) (hC : Con wl css ps) (hb : Below wl.heap.size wl W) (hlow : wl.heap.size ≤ bm) (hx : x < ps.length)
    {a0 a1 a2 a3 a4 a5 : Value} {P' : Pt} (hP : PtN W bm (.agg #[a0, a1, a2, a3, a4, a5]) P') : LAt (put6o W bm (x * 6) a0 a1 a2 a3 a4 a5) (some ⟨bm, 0, none⟩) (ps.set x P') ∧ W.heap[bm]?.isSome := by
  obtain ⟨A', c', e, hLA⟩ := hM.form (hC.below hb)
  cases e
  obtain ⟨⟨h0, h1 | ⟨g, cap, cur, h1, h2, h3, h4, h5, h6, h7⟩⟩, hl6⟩ := hM
  · cases h1.1
  · injection h1 with e1 e2 e3
    injection e1 with e1
    injection e1 with e1
    subst e1
    have hsz : x * 6 + 6 ≤ cur.size := by
      have h8 := congrArg List.length h7
      rw [flat6_len css hl6, List.length_take] at h8
      have h9 : css.length = ps.length := hC.1
      have : cur.toList.length = cur.size := by simp
      omega
    obtain ⟨k0, k1, k2, k3, k4, k5, k6⟩ := put6o_cell h3 hsz a0 a1 a2 a3 a4 a5
    have hoff := put6o_off W bm (x * 6) a0 a1 a2 a3 a4 a5
    have hck := off_below hb hlow hoff
    refine ⟨fun q Q hQ => ?_, by rw [h3]; rfl⟩
    by_cases e : x = q
    · subst e
      rw [List.getElem?_set_self hx] at hQ
      cases hQ
      obtain ⟨A1, c1, A2, c2, A3, c3, e, p1, p2, p3⟩ := hP _ hoff
      injection e with e
      have e := congrArg Array.toList e
      simp only [List.cons.injEq] at e
      obtain ⟨rfl, rfl, rfl, rfl, rfl, rfl, _⟩ := e
      refine ⟨bm, 0, A1, A2, A3, c1, c2, c3, rfl, ?_⟩
      rw [Nat.zero_add]
      exact ⟨k1, k2, k3, k4, k5, k6, p1, p2, p3⟩
    · rw [List.getElem?_set_ne e] at hQ
      obtain ⟨ds, hds, A1, c1, A2, c2, A3, c3, e1, p1, p2, p3⟩ := hC.2 q Q hQ
      have hqc := lt_at hds
      have eds : ds = [.int .i64 Q.w, .int .i64 Q.k, .int .i64 Q.n, .slice A1 Q.own.length c1, .slice A2 Q.out.length c2, .slice A3 Q.back.length c3] := by
        injection e1 with e1
        have := congrArg Array.toList e1
        simpa using this
      have hne : q * 6 + 6 ≤ x * 6 ∨ x * 6 + 6 ≤ q * 6 := by omega
      have key : ∀ i, i < 6 → (put6o W bm (x * 6) a0 a1 a2 a3 a4 a5).cell? ⟨bm, q * 6 + i, none⟩ = ds[i]? := fun i hi => by
        rw [k0 _ (by omega), cell_of_row W bm _ _ _ (0, 0) h3]
        have e2 : cur[q * 6 + i]? = (cur.toList.take (css.length * 6))[q * 6 + i]? := by
          rw [List.getElem?_take, if_pos (by omega), Array.getElem?_toList]
        rw [e2, h7, flat6 css q i ds hl6 hds hi]
      refine ⟨bm, 0, A1, A2, A3, c1, c2, c3, rfl, ?_⟩
      rw [Nat.zero_add]
      refine ⟨?_, ?_, ?_, ?_, ?_, ?_, p1.ck hck, p2.ck hck, p3.ck hck⟩
      · have := key 0 (by omega); rw [Nat.add_zero] at this; rw [this, eds]; rfl
      · rw [key 1 (by omega), eds]; rfl
      · rw [key 2 (by omega), eds]; rfl
      · rw [key 3 (by omega), eds]; rfl
      · rw [key 4 (by omega), eds]; rfl
      · rw [key 5 (by omega), eds]; rfl

end Go.Proofs.Ytjcgejbggmpikaa.Pt
