/-
  What is proved here: words for slices of parts that a call has made, and how one part more is put behind them. No condition.
-/
import Derived.Test.YtjcgejbggmpikaaPtJ4
namespace Go.Proofs.Ytjcgejbggmpikaa.Pt
open Go.RowKit Gr Wd Ws

/- A slice of structs of six cells, that the call has made. -/
def LRow (w : World) (B : Nat) (T : TypeId) (v : Value) (css : List (List Value)) : Prop := w.ownsRow B T 6 v css.length css.flatten ∧ ∀ cs ∈ css, cs.length = 6
/- What it reads as. -/
def Con (w : World) (css : List (List Value)) (l : List Pt) : Prop := css.length = l.length ∧ ∀ (i : Nat) (P : Pt), l[i]? = some P → ∃ cs, css[i]? = some cs ∧ PtV w (.agg cs.toArray) P
theorem LRow.none_ (w : World) (B : Nat) (T : TypeId) : LRow w B T (.slice none 0 0) [] := ⟨World.ownsRow_nil _ _ _ _, by simp⟩
theorem Con.nil (w : World) : Con w [] [] := ⟨rfl, by simp⟩
theorem LRow.below {w w' : World} {B : Nat} {T : TypeId} {v : Value} {css : List (List Value)} (h : LRow w B T v css) (hb : Below w.heap.size w w') : LRow w' B T v css := ⟨own_below h.1 hb, h.2⟩
theorem LRow.alloc {w : World} {B : Nat} {T : TypeId} {v : Value} {css : List (List Value)} (h : LRow w B T v css) (o : Obj) : LRow (w.alloc o) B T v css := ⟨World.ownsRow.alloc h.1 o, h.2⟩
theorem Con.below {w w' : World} {css : List (List Value)} {l : List Pt} (h : Con w css l) (hb : Below w.heap.size w w') : Con w' css l := ⟨h.1, fun i P hi => by obtain ⟨cs, h1, h2⟩ := h.2 i P hi; exact ⟨cs, h1, h2.below hb⟩⟩
theorem Con.snoc {w : World} {css : List (List Value)} {l : List Pt} (h : Con w css l) {cs : List Value} {P : Pt} (hp : PtV w (.agg cs.toArray) P) : Con w (css ++ [cs]) (l ++ [P]) := by
  refine ⟨by simp [h.1], fun i Q hi => ?_⟩
  rcases Nat.lt_or_ge i l.length with hh | hh
  · rw [List.getElem?_append_left hh] at hi
    obtain ⟨ds, h1, h2⟩ := h.2 i Q hi
    exact ⟨ds, by rw [List.getElem?_append_left (by rw [h.1]; exact hh)]; exact h1, h2⟩
  · rw [List.getElem?_append_right hh] at hi
    have h0 : i - l.length = 0 := by have := lt_at hi; simp at this; omega
    rw [h0] at hi
    simp at hi; subst hi
    exact ⟨cs, by rw [List.getElem?_append_right (by rw [h.1]; exact hh), h.1, h0]; rfl, hp⟩
theorem flat6 : ∀ (css : List (List Value)) (i j : Nat) (cs : List Value), (∀ c ∈ css, c.length = 6) → css[i]? = some cs → j < 6 → css.flatten[i * 6 + j]? = cs[j]?
  | [], i, j, cs, _, h, _ => by simp at h
  | c :: css, 0, j, cs, hl, h, hj => by
    simp at h; subst h
    rw [List.flatten_cons, List.getElem?_append_left (by rw [hl c List.mem_cons_self]; omega)]; congr 1; omega
  | c :: css, i + 1, j, cs, hl, h, hj => by
    have h' : css[i]? = some cs := by simpa using h
    rw [List.flatten_cons, List.getElem?_append_right (by rw [hl c List.mem_cons_self]; omega), hl c List.mem_cons_self, ← flat6 css i j cs (fun d hd => hl d (List.mem_cons_of_mem _ hd)) h' hj]
    congr 1; omega
theorem flat6_len : ∀ (css : List (List Value)), (∀ c ∈ css, c.length = 6) → css.flatten.length = css.length * 6
  | [], _ => rfl
  | c :: css, hl => by
    rw [List.flatten_cons, List.length_append, hl c List.mem_cons_self, flat6_len css fun d hd => hl d (List.mem_cons_of_mem _ hd), List.length_cons]; omega
theorem LRow.form {w : World} {B : Nat} {T : TypeId} {v : Value} {css : List (List Value)} {l : List Pt} (h : LRow w B T v css) (hc : Con w css l) : ∃ (A : Option Addr) (c : Nat), v = .slice A l.length c ∧ LAt w A l := by
  obtain ⟨⟨h0, h1 | ⟨g, cap, cur, h1, h2, h3, h4, h5, h6, h7⟩⟩, hl⟩ := h
  · have h8 : css = [] := List.eq_nil_of_length_eq_zero h1.2
    have h9 : l = [] := List.eq_nil_of_length_eq_zero (by rw [← hc.1, h8]; rfl)
    subst h9
    exact ⟨none, 0, h1.1, fun k P hk => by simp at hk⟩
  · refine ⟨some ⟨g, 0, none⟩, cap, by rw [← hc.1]; exact h1, fun k P hk => ?_⟩
    obtain ⟨cs, hk1, A1, c1, A2, c2, A3, c3, e, p1, p2, p3⟩ := hc.2 k P hk
    have hkl := lt_at hk1
    have ecs : cs = [.int .i64 P.w, .int .i64 P.k, .int .i64 P.n, .slice A1 P.own.length c1, .slice A2 P.out.length c2, .slice A3 P.back.length c3] := by
      injection e with e
      have := congrArg Array.toList e
      simpa using this
    have key : ∀ j, j < 6 → w.cell? ⟨g, 0 + k * 6 + j, none⟩ = cs[j]? := fun j hj => by
      rw [Nat.zero_add, cell_of_row w g _ _ T (0, 0) h3]
      have e1 : cur[k * 6 + j]? = (cur.toList.take (css.length * 6))[k * 6 + j]? := by
        rw [List.getElem?_take, if_pos (by omega), Array.getElem?_toList]
      rw [e1, h7, flat6 css k j cs hl hk1 hj]
    refine ⟨g, 0, A1, A2, A3, c1, c2, c3, rfl, ⟨?_, ?_, ?_, ?_, ?_, ?_, p1, p2, p3⟩⟩
    · have := key 0 (by omega); rw [Nat.add_zero] at this; rw [this, ecs]; rfl
    · rw [key 1 (by omega), ecs]; rfl
    · rw [key 2 (by omega), ecs]; rfl
    · rw [key 3 (by omega), ecs]; rfl
    · rw [key 4 (by omega), ecs]; rfl
    · rw [key 5 (by omega), ecs]; rfl

theorem infoPp : (Try.prog.info? 34).map (fun i => (i.zero, i.size, i.bytes)) = some (some (.agg #[.int .i64 0, .int .i64 0, .int .i64 0, .slice none 0 0, .slice none 0 0, .slice none 0 0]), 6, 96) := by kernel_rfl
/- One part more. -/
theorem app_p {w : World} {ops : Array Oper} {rest : List Oper} {o : Oper} {a : Act} {Q : Exit → Act → World → Prop} (hgd : o.guard = none) (s x : Operand)
    (ho : o.op = .call { callee := .builtin .append, args := #[s, x], argTypes := #[47, 47] }) (B : Nat) (v : Value) (css : List (List Value)) (hs : a.eval s = v) (hown : LRow w B 34 v css)
    (g : Nat) (a0 a1 a2 a3 a4 a5 : Value) (h1 : ∀ u ∈ [a0, a1, a2, a3, a4, a5], u.oneCell' = true) (hx : a.eval x = .slice (some ⟨g, 0, none⟩) 1 1) (hg : w.heap[g]? = some (.cells #[a0, a1, a2, a3, a4, a5] 34 (0, 0))) (hn : css.length < 1000000) (hB : B ≤ w.heap.size)
    (h : ∀ v' w', LRow w' B 34 v' (css ++ [[a0, a1, a2, a3, a4, a5]]) → w.grownBy w' v.ownBlock → Hid (∃ A n c, v' = .slice A n c) → wpList Try.prog ops Q rest (a.put o.dst v') w') : wpList Try.prog ops Q (o :: rest) a w := by
  obtain ⟨i0, hi, hz0, hz1, hz2⟩ := info_parts infoPp
  refine wpList_append_own w hgd s x 47 ho B 34 i0 _ 6 96 Try.underlying47 hi hz0 hz1 hz2 rfl (by decide) v css.length css.flatten hs hown.1 ⟨g, 0, none⟩ 1 1 [a0, a1, a2, a3, a4, a5] hx rfl ?_ h1 ?_ ?_ hB ?_
  · intro j u hu
    rw [add_plain, Lib.cell_of_heap hg]
    rcases j with _ | _ | _ | _ | _ | _ | j
    · simpa using hu
    · simpa using hu
    · simpa using hu
    · simpa using hu
    · simpa using hu
    · simpa using hu
    · simp at hu
  · unfold maxLen; omega
  · omega
  · intro v' w' h2 h3 _
    refine h v' w' ⟨by rw [List.length_append, List.flatten_append]; simpa using h2, fun cs hcs => ?_⟩ h3 ?_
    · rcases List.mem_append.1 hcs with hcs | hcs
      · exact hown.2 cs hcs
      · simp at hcs; subst hcs; rfl
    · obtain ⟨_, h4 | ⟨g', cap, cur, h4, _⟩⟩ := h2
      · exact Lib.hid ⟨_, _, _, h4.1⟩
      · exact Lib.hid ⟨_, _, _, h4⟩

theorem infoPq : (Try.prog.info? 38).map (fun i => (i.zero, i.size, i.bytes)) = some (some (.agg #[.int .i64 0, .int .i64 0, .int .i64 0, .slice none 0 0, .slice none 0 0, .slice none 0 0]), 6, 96) := by kernel_rfl
/- One part more. -/
theorem app_q {w : World} {ops : Array Oper} {rest : List Oper} {o : Oper} {a : Act} {Q : Exit → Act → World → Prop} (hgd : o.guard = none) (s x : Operand)
    (ho : o.op = .call { callee := .builtin .append, args := #[s, x], argTypes := #[48, 48] }) (B : Nat) (v : Value) (css : List (List Value)) (hs : a.eval s = v) (hown : LRow w B 38 v css)
    (g : Nat) (a0 a1 a2 a3 a4 a5 : Value) (h1 : ∀ u ∈ [a0, a1, a2, a3, a4, a5], u.oneCell' = true) (hx : a.eval x = .slice (some ⟨g, 0, none⟩) 1 1) (hg : w.heap[g]? = some (.cells #[a0, a1, a2, a3, a4, a5] 38 (0, 0))) (hn : css.length < 1000000) (hB : B ≤ w.heap.size)
    (h : ∀ v' w', LRow w' B 38 v' (css ++ [[a0, a1, a2, a3, a4, a5]]) → w.grownBy w' v.ownBlock → Hid (∃ A n c, v' = .slice A n c) → wpList Try.prog ops Q rest (a.put o.dst v') w') : wpList Try.prog ops Q (o :: rest) a w := by
  obtain ⟨i0, hi, hz0, hz1, hz2⟩ := info_parts infoPq
  refine wpList_append_own w hgd s x 48 ho B 38 i0 _ 6 96 Try.underlying48 hi hz0 hz1 hz2 rfl (by decide) v css.length css.flatten hs hown.1 ⟨g, 0, none⟩ 1 1 [a0, a1, a2, a3, a4, a5] hx rfl ?_ h1 ?_ ?_ hB ?_
  · intro j u hu
    rw [add_plain, Lib.cell_of_heap hg]
    rcases j with _ | _ | _ | _ | _ | _ | j
    · simpa using hu
    · simpa using hu
    · simpa using hu
    · simpa using hu
    · simpa using hu
    · simpa using hu
    · simp at hu
  · unfold maxLen; omega
  · omega
  · intro v' w' h2 h3 _
    refine h v' w' ⟨by rw [List.length_append, List.flatten_append]; simpa using h2, fun cs hcs => ?_⟩ h3 ?_
    · rcases List.mem_append.1 hcs with hcs | hcs
      · exact hown.2 cs hcs
      · simp at hcs; subst hcs; rfl
    · obtain ⟨_, h4 | ⟨g', cap, cur, h4, _⟩⟩ := h2
      · exact Lib.hid ⟨_, _, _, h4.1⟩
      · exact Lib.hid ⟨_, _, _, h4⟩

end Go.Proofs.Ytjcgejbggmpikaa.Pt
