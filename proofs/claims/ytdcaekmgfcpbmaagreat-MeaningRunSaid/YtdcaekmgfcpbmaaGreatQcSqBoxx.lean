/-
  What is proved here: words for a state in memory: rows of values, of marks, of mail, of rows of messages, of vertices' edges; append of one to each. No condition. What is proved here: boxes of six cells: what they read, what they hold behind a store of all six, and as a function's result. No condition.
-/
import Derived.Test.YtdcaekmgfcpbmaaGreatQcSqMath
import Derived.Test.YtdcaekmgfcpbmaaGreatQcSqRowx
import Derived.Test.YtdcaekmgfcpbmaaGreatQcPtG6x
namespace Go.Proofs.YtdcaekmgfcpbmaaGreat.Sq
open Go.RowKit Gr Wd Ws Fx Rk Lb Al In
theorem own_other {w w' : World} {B B' : Nat} {T T' : TypeId} {s s' n n' : Nat} {z v : Value} {xs ys : List Value} (hz : w.ownsRow B T s z n xs) (hv : w.ownsRow B' T' s' v n' ys) (hT : T ≠ T') (hg : w.grownBy w' v.ownBlock) : w'.ownsRow B T s z n xs :=
  own_kept hz fun b c fz hb hc => hg.block b (lt_of_block hc) (fun e => by
    obtain ⟨_, c1, hc1⟩ := own_lt hv b e.symm
    rw [hc1] at hc; injection hc with hc; injection hc with _ hc _
    exact hT hc.symm)
theorem box_other {w w' : World} {B' b : Nat} {T T' : TypeId} {s' n' : Nat} {v : Value} {ys : List Value} {c : Array Value} {fz : Nat × Nat} (hb : w.heap[b]? = some (.cells c T fz)) (hv : w.ownsRow B' T' s' v n' ys) (hT : T ≠ T') (hg : w.grownBy w' v.ownBlock) : w'.heap[b]? = some (.cells c T fz) :=
  (hg.block b (lt_of_block hb) (fun e => by
    obtain ⟨_, c1, hc1⟩ := own_lt hv b e.symm
    rw [hc1] at hb; injection hb with hb; injection hb with _ hb _
    exact hT hb.symm)).trans hb
theorem own_grown {w w' : World} {B B' : Nat} {T' : TypeId} {s' n' : Nat} {v : Value} {ys : List Value} (hv : w.ownsRow B' T' s' v n' ys) (hg : w.grownBy w' v.ownBlock) (h : B ≤ B') (hs : B ≤ w.heap.size) : Below B w w' :=
  Below.grown (Below.refl _ _) hg hs (fun j e => Nat.le_trans h (own_lt hv j e).1)
def QOwn (w : World) (B : Nat) (v : Value) (l : List Int) : Prop := w.ownsRow B 2 1 v l.length (ints l)
theorem QOwn.none_ (w : World) (B : Nat) : QOwn w B (.slice none 0 0) [] := World.ownsRow_nil _ _ _ _
theorem QOwn.below {w w' : World} {B : Nat} {v : Value} {l : List Int} (h : QOwn w B v l) (hb : Below w.heap.size w w') : QOwn w' B v l := own_below h hb
theorem QOwn.mono {w : World} {B B' : Nat} {v : Value} {l : List Int} (h : QOwn w B v l) (hb : B' ≤ B) : QOwn w B' v l := own_mono h hb
theorem QOwn.form {w : World} {B : Nat} {v : Value} {l : List Int} (h : QOwn w B v l) : ∃ (A : Option Addr) (c : Nat), v = .slice A l.length c ∧ IAt w A l := by
  obtain ⟨h0, h1 | ⟨g, cap, cur, h1, h2, h3, h4, h5, h6, h7⟩⟩ := h
  · have : l = [] := List.eq_nil_of_length_eq_zero h1.2
    subst this
    exact ⟨none, 0, h1.1, IAt.nil _ _⟩
  · refine ⟨some ⟨g, 0, none⟩, cap, h1, fun k x hx => ⟨g, 0, rfl, ?_⟩⟩
    have hk := lt_at hx
    rw [Nat.zero_add, cell_of_row w g k _ 2 (0, 0) h3]
    have e1 : cur[k]? = (cur.toList.take (l.length * 1))[k]? := by
      rw [List.getElem?_take, if_pos (by omega), Array.getElem?_toList]
    rw [e1, h7, ints_at, hx]; rfl
theorem infoQ : (Tryz.prog.info? 2).map (fun i => (i.zero, i.size, i.bytes)) = some (some (.int .i64 0), 1, 8) := by kernel_rfl
theorem app_q {w : World} {ops : Array Oper} {rest : List Oper} {o : Oper} {a : Act} {Q : Exit → Act → World → Prop} (hgd : o.guard = none) (s x : Operand)
    (ho : o.op = .call { callee := .builtin .append, args := #[s, x], argTypes := #[27, 27] }) (B : Nat) (v : Value) (l : List Int) (y : Int) (hs : a.eval s = v) (hown : QOwn w B v l)
    (g : Nat) (hx : a.eval x = .slice (some ⟨g, 0, none⟩) 1 1) (hg : w.heap[g]? = some (.cells #[.int .i64 y] 2 (0, 0))) (hn : l.length < 1000000000) (hB : B ≤ w.heap.size)
    (h : ∀ v' w', QOwn w' B v' (l ++ [y]) → w.grownBy w' v.ownBlock → wpList Tryz.prog ops Q rest (a.put o.dst v') w') : wpList Tryz.prog ops Q (o :: rest) a w := by
  obtain ⟨i0, hi, hz0, hz1, hz2⟩ := info_parts infoQ
  refine wpList_append_own w hgd s x 27 ho B 2 i0 _ 1 8 Tryz.underlying27 hi hz0 hz1 hz2 rfl (by decide) v l.length (ints l) hs hown ⟨g, 0, none⟩ 1 1 [.int .i64 y] hx rfl ?_ ?_ ?_ ?_ hB ?_
  · intro j u hu
    rw [add_plain, Lib.cell_of_heap hg]
    rcases j with _ | j
    · simpa using hu
    · simp at hu
  · intro u hu
    simp only [List.mem_cons, List.not_mem_nil, or_false] at hu
    rw [hu]; rfl
  · unfold maxLen; omega
  · omega
  · intro v' w' h1 h2 _
    refine h v' w' ?_ h2
    unfold QOwn
    rw [show ints (l ++ [y]) = ints l ++ [.int .i64 y] by simp [ints], List.length_append]; exact h1
def bls (l : List Bool) : List Value := l.map Value.bool
theorem bls_at (l : List Bool) (k : Nat) : (bls l)[k]? = (l[k]?).map Value.bool := by simp [bls]
def BAt (w : World) (A : Option Addr) (l : List Bool) : Prop := ∀ (k : Nat) (x : Bool), l[k]? = some x → ∃ bk o, A = some ⟨bk, o, none⟩ ∧ w.cell? ⟨bk, o + k, none⟩ = some (.bool x)
theorem BAt.below {w w' : World} {A : Option Addr} {l : List Bool} (h : BAt w A l) (hb : Below w.heap.size w w') : BAt w' A l := by
  intro k x hx
  obtain ⟨bk, o, hA, c⟩ := h k x hx
  exact ⟨bk, o, hA, (hb.cell (block_lt_of_cell c)).trans c⟩
theorem BAt.nil (w : World) (A : Option Addr) : BAt w A [] := fun k x h => by simp at h
def BOwn (w : World) (B : Nat) (v : Value) (l : List Bool) : Prop := w.ownsRow B 4 1 v l.length (bls l)
theorem BOwn.none_ (w : World) (B : Nat) : BOwn w B (.slice none 0 0) [] := World.ownsRow_nil _ _ _ _
theorem BOwn.below {w w' : World} {B : Nat} {v : Value} {l : List Bool} (h : BOwn w B v l) (hb : Below w.heap.size w w') : BOwn w' B v l := own_below h hb
theorem BOwn.mono {w : World} {B B' : Nat} {v : Value} {l : List Bool} (h : BOwn w B v l) (hb : B' ≤ B) : BOwn w B' v l := own_mono h hb
theorem BOwn.form {w : World} {B : Nat} {v : Value} {l : List Bool} (h : BOwn w B v l) : ∃ (A : Option Addr) (c : Nat), v = .slice A l.length c ∧ BAt w A l := by
  obtain ⟨h0, h1 | ⟨g, cap, cur, h1, h2, h3, h4, h5, h6, h7⟩⟩ := h
  · have : l = [] := List.eq_nil_of_length_eq_zero h1.2
    subst this
    exact ⟨none, 0, h1.1, BAt.nil _ _⟩
  · refine ⟨some ⟨g, 0, none⟩, cap, h1, fun k x hx => ⟨g, 0, rfl, ?_⟩⟩
    have hk := lt_at hx
    rw [Nat.zero_add, cell_of_row w g k _ 4 (0, 0) h3]
    have e1 : cur[k]? = (cur.toList.take (l.length * 1))[k]? := by
      rw [List.getElem?_take, if_pos (by omega), Array.getElem?_toList]
    rw [e1, h7, bls_at, hx]; rfl
theorem infoB : (Tryz.prog.info? 4).map (fun i => (i.zero, i.size, i.bytes)) = some (some (.bool false), 1, 1) := by kernel_rfl
theorem app_b {w : World} {ops : Array Oper} {rest : List Oper} {o : Oper} {a : Act} {Q : Exit → Act → World → Prop} (hgd : o.guard = none) (s x : Operand)
    (ho : o.op = .call { callee := .builtin .append, args := #[s, x], argTypes := #[42, 42] }) (B : Nat) (v : Value) (l : List Bool) (y : Bool) (hs : a.eval s = v) (hown : BOwn w B v l)
    (g : Nat) (hx : a.eval x = .slice (some ⟨g, 0, none⟩) 1 1) (hg : w.heap[g]? = some (.cells #[.bool y] 4 (0, 0))) (hn : l.length < 1000000000) (hB : B ≤ w.heap.size)
    (h : ∀ v' w', BOwn w' B v' (l ++ [y]) → w.grownBy w' v.ownBlock → wpList Tryz.prog ops Q rest (a.put o.dst v') w') : wpList Tryz.prog ops Q (o :: rest) a w := by
  obtain ⟨i0, hi, hz0, hz1, hz2⟩ := info_parts infoB
  refine wpList_append_own w hgd s x 42 ho B 4 i0 _ 1 1 Tryz.underlying42 hi hz0 hz1 hz2 rfl (by decide) v l.length (bls l) hs hown ⟨g, 0, none⟩ 1 1 [.bool y] hx rfl ?_ ?_ ?_ ?_ hB ?_
  · intro j u hu
    rw [add_plain, Lib.cell_of_heap hg]
    rcases j with _ | j
    · simpa using hu
    · simp at hu
  · intro u hu
    simp only [List.mem_cons, List.not_mem_nil, or_false] at hu
    rw [hu]; rfl
  · unfold maxLen; omega
  · omega
  · intro v' w' h1 h2 _
    refine h v' w' ?_ h2
    unfold BOwn
    rw [show bls (l ++ [y]) = bls l ++ [.bool y] by simp [bls], List.length_append]; exact h1
def EachM (w : World) (B : Nat) (xs : List Value) (Ls : List (List Ms)) : Prop := xs.length = Ls.length ∧ ∀ (k : Nat) (L : List Ms), Ls[k]? = some L → ∃ x, xs[k]? = some x ∧ MOwn w B x L
theorem EachM.below {w w' : World} {B : Nat} {xs : List Value} {Ls : List (List Ms)} (h : EachM w B xs Ls) (hb : Below w.heap.size w w') : EachM w' B xs Ls :=
  ⟨h.1, fun k L hk => by obtain ⟨x, h1, h2⟩ := h.2 k L hk; exact ⟨x, h1, h2.below hb⟩⟩
theorem EachM.nil (w : World) (B : Nat) : EachM w B [] [] := ⟨rfl, fun k L h => by simp at h⟩
theorem EachM.snoc {w : World} {B : Nat} {xs : List Value} {Ls : List (List Ms)} (h : EachM w B xs Ls) {x : Value} {L : List Ms} (hx : MOwn w B x L) : EachM w B (xs ++ [x]) (Ls ++ [L]) := by
  refine ⟨by simp [h.1], fun k M hk => ?_⟩
  rcases Nat.lt_or_ge k Ls.length with hh | hh
  · rw [List.getElem?_append_left hh] at hk
    obtain ⟨y, h1, h2⟩ := h.2 k M hk
    exact ⟨y, by rw [List.getElem?_append_left (by rw [h.1]; exact hh)]; exact h1, h2⟩
  · rw [List.getElem?_append_right hh] at hk
    have hk0 : k - Ls.length = 0 := by
      have := lt_at hk; simp at this; omega
    rw [hk0] at hk
    simp at hk; subst hk
    exact ⟨x, by rw [List.getElem?_append_right (by rw [h.1]; exact hh), h.1, hk0]; rfl, hx⟩
def ROwn (w : World) (B : Nat) (v : Value) (Ls : List (List Ms)) : Prop := ∃ xs, w.ownsRow B 133 1 v Ls.length xs ∧ EachM w B xs Ls
theorem ROwn.none_ (w : World) (B : Nat) : ROwn w B (.slice none 0 0) [] := ⟨[], World.ownsRow_nil _ _ _ _, EachM.nil _ _⟩
theorem ROwn.below {w w' : World} {B : Nat} {v : Value} {Ls : List (List Ms)} (h : ROwn w B v Ls) (hb : Below w.heap.size w w') : ROwn w' B v Ls := by
  obtain ⟨xs, h1, h2⟩ := h
  exact ⟨xs, own_below h1 hb, h2.below hb⟩
theorem ROwn.other {w w' : World} {B B' : Nat} {T' : TypeId} {s' n' : Nat} {v z : Value} {ys : List Value} {Ls : List (List Ms)} (h : ROwn w B z Ls) (hv : w.ownsRow B' T' s' v n' ys) (h1 : 133 ≠ T') (h2 : 155 ≠ T') (hg : w.grownBy w' v.ownBlock) : ROwn w' B z Ls := by
  obtain ⟨xs, g1, g2⟩ := h
  exact ⟨xs, own_other g1 hv h1 hg, g2.1, fun k L hk => by obtain ⟨x, e1, e2⟩ := g2.2 k L hk; exact ⟨x, e1, own_other e2 hv h2 hg⟩⟩
theorem ROwn.form {w : World} {B : Nat} {v : Value} {Ls : List (List Ms)} (h : ROwn w B v Ls) : ∃ (A : Option Addr) (c : Nat), v = .slice A Ls.length c ∧ RMs w A Ls := by
  obtain ⟨xs, ⟨h0, h1 | ⟨g, cap, cur, h1, h2, h3, h4, h5, h6, h7⟩⟩, he⟩ := h
  · have : Ls = [] := List.eq_nil_of_length_eq_zero h1.2
    subst this
    exact ⟨none, 0, h1.1, fun k L hk => by simp at hk⟩
  · refine ⟨some ⟨g, 0, none⟩, cap, h1, fun k L hx => ?_⟩
    have hk := lt_at hx
    obtain ⟨x, hx1, hx2⟩ := he.2 k L hx
    obtain ⟨A', c', rfl, hE, _⟩ := hx2.room
    refine ⟨g, 0, A', c', rfl, ?_, hE⟩
    rw [Nat.zero_add, cell_of_row w g k _ 133 (0, 0) h3]
    have e1 : cur[k]? = (cur.toList.take (Ls.length * 1))[k]? := by
      rw [List.getElem?_take, if_pos (by omega), Array.getElem?_toList]
    rw [e1, h7, hx1]
theorem infoR : (Tryz.prog.info? 133).map (fun i => (i.zero, i.size, i.bytes)) = some (some (.slice none 0 0), 1, 24) := by kernel_rfl
theorem app_r {w : World} {ops : Array Oper} {rest : List Oper} {o : Oper} {a : Act} {Q : Exit → Act → World → Prop} (hgd : o.guard = none) (s x : Operand)
    (ho : o.op = .call { callee := .builtin .append, args := #[s, x], argTypes := #[130, 130] }) (B : Nat) (v : Value) (Ls : List (List Ms)) (y : Value) (L : List Ms) (hs : a.eval s = v) (hown : ROwn w B v Ls)
    (g : Nat) (hx : a.eval x = .slice (some ⟨g, 0, none⟩) 1 1) (hg : w.heap[g]? = some (.cells #[y] 133 (0, 0))) (hy : MOwn w B y L) (hn : Ls.length < 1000000000) (hB : B ≤ w.heap.size)
    (h : ∀ v' w', ROwn w' B v' (Ls ++ [L]) → w.grownBy w' v.ownBlock → wpList Tryz.prog ops Q rest (a.put o.dst v') w') : wpList Tryz.prog ops Q (o :: rest) a w := by
  obtain ⟨i0, hi, hz0, hz1, hz2⟩ := info_parts infoR
  obtain ⟨xs, hown, hea⟩ := hown
  refine wpList_append_own w hgd s x 130 ho B 133 i0 _ 1 24 Tryz.underlying130 hi hz0 hz1 hz2 rfl (by decide) v Ls.length xs hs hown ⟨g, 0, none⟩ 1 1 [y] hx rfl ?_ ?_ ?_ ?_ hB ?_
  · intro j u hu
    rw [add_plain, Lib.cell_of_heap hg]
    rcases j with _ | j
    · simpa using hu
    · simp at hu
  · intro u hu
    simp only [List.mem_cons, List.not_mem_nil, or_false] at hu
    rw [hu]
    obtain ⟨A, c, rfl, _⟩ := hy.room; rfl
  · unfold maxLen; omega
  · omega
  · intro v' w' h1 h2 _
    have hk : ∀ (z : Value) (M : List Ms), MOwn w B z M → MOwn w' B z M := fun z M hz => own_other hz hown (by decide) h2
    refine h v' w' ⟨xs ++ [y], by rw [List.length_append]; exact h1, EachM.snoc ⟨hea.1, fun k M hM => ?_⟩ (hk _ _ hy)⟩ h2
    obtain ⟨z, h3, h4⟩ := hea.2 k M hM
    exact ⟨z, h3, hk _ _ h4⟩
abbrev Eg := List Ed × List Ed
def WAt (w : World) (A : Option Addr) (Ls : List Eg) : Prop := ∀ (k : Nat) (L : Eg), Ls[k]? = some L → ∃ bk o A1 c1 A2 c2, A = some ⟨bk, o, none⟩ ∧ w.cell? ⟨bk, o + k * 2, none⟩ = some (.slice A1 L.1.length c1) ∧ w.cell? ⟨bk, o + k * 2 + 1, none⟩ = some (.slice A2 L.2.length c2) ∧ EAt w A1 L.1 ∧ EAt w A2 L.2
theorem WAt.below {w w' : World} {A : Option Addr} {Ls : List Eg} (h : WAt w A Ls) (hb : Below w.heap.size w w') : WAt w' A Ls := by
  intro k L hx
  obtain ⟨bk, o, A1, c1, A2, c2, hA, e1, e2, g1, g2⟩ := h k L hx
  exact ⟨bk, o, A1, c1, A2, c2, hA, (hb.cell (block_lt_of_cell e1)).trans e1, (hb.cell (block_lt_of_cell e2)).trans e2, g1.below hb, g2.below hb⟩
theorem WAt.nil (w : World) (A : Option Addr) : WAt w A [] := fun k x h => by simp at h
def EachW (w : World) (B : Nat) (xs : List Value) (Ls : List Eg) : Prop := xs.length = Ls.length * 2 ∧ ∀ (k : Nat) (L : Eg), Ls[k]? = some L → ∃ x y, xs[k * 2]? = some x ∧ xs[k * 2 + 1]? = some y ∧ EOwn w B x L.1 ∧ EOwn w B y L.2
theorem EachW.below {w w' : World} {B : Nat} {xs : List Value} {Ls : List Eg} (h : EachW w B xs Ls) (hb : Below w.heap.size w w') : EachW w' B xs Ls :=
  ⟨h.1, fun k L hk => by obtain ⟨x, y, h1, h2, h3, h4⟩ := h.2 k L hk; exact ⟨x, y, h1, h2, h3.below hb, h4.below hb⟩⟩
theorem EachW.nil (w : World) (B : Nat) : EachW w B [] [] := ⟨rfl, fun k L h => by simp at h⟩
theorem EachW.snoc {w : World} {B : Nat} {xs : List Value} {Ls : List Eg} (h : EachW w B xs Ls) {x y : Value} {L M : List Ed} (hx : EOwn w B x L) (hy : EOwn w B y M) : EachW w B (xs ++ [x, y]) (Ls ++ [(L, M)]) := by
  refine ⟨by simp [h.1]; omega, fun k N hk => ?_⟩
  rcases Nat.lt_or_ge k Ls.length with hh | hh
  · rw [List.getElem?_append_left hh] at hk
    obtain ⟨u, v, h1, h2, h3, h4⟩ := h.2 k N hk
    exact ⟨u, v, by rw [List.getElem?_append_left (by rw [h.1]; omega)]; exact h1, by rw [List.getElem?_append_left (by rw [h.1]; omega)]; exact h2, h3, h4⟩
  · rw [List.getElem?_append_right hh] at hk
    have hk0 : k - Ls.length = 0 := by
      have := lt_at hk; simp at this; omega
    rw [hk0] at hk
    simp at hk; subst hk
    obtain rfl : k = Ls.length := by omega
    refine ⟨x, y, ?_, ?_, hx, hy⟩
    · rw [List.getElem?_append_right (by rw [h.1]; exact Nat.le_refl _), h.1, Nat.sub_self]; rfl
    · rw [List.getElem?_append_right (by rw [h.1]; omega), h.1, show Ls.length * 2 + 1 - Ls.length * 2 = 1 by omega]; rfl
def WOwn (w : World) (B : Nat) (v : Value) (Ls : List Eg) : Prop := ∃ xs, w.ownsRow B 103 2 v Ls.length xs ∧ EachW w B xs Ls
theorem WOwn.none_ (w : World) (B : Nat) : WOwn w B (.slice none 0 0) [] := ⟨[], World.ownsRow_nil _ _ _ _, EachW.nil _ _⟩
theorem WOwn.below {w w' : World} {B : Nat} {v : Value} {Ls : List Eg} (h : WOwn w B v Ls) (hb : Below w.heap.size w w') : WOwn w' B v Ls := by
  obtain ⟨xs, h1, h2⟩ := h
  exact ⟨xs, own_below h1 hb, h2.below hb⟩
theorem WOwn.form {w : World} {B : Nat} {v : Value} {Ls : List Eg} (h : WOwn w B v Ls) : ∃ (A : Option Addr) (c : Nat), v = .slice A Ls.length c ∧ WAt w A Ls := by
  obtain ⟨xs, ⟨h0, h1 | ⟨g, cap, cur, h1, h2, h3, h4, h5, h6, h7⟩⟩, he⟩ := h
  · have : Ls = [] := List.eq_nil_of_length_eq_zero h1.2
    subst this
    exact ⟨none, 0, h1.1, fun k L hk => by simp at hk⟩
  · refine ⟨some ⟨g, 0, none⟩, cap, h1, fun k L hx => ?_⟩
    have hk := lt_at hx
    obtain ⟨x, y, hx1, hx2, hx3, hx4⟩ := he.2 k L hx
    obtain ⟨A1, c1, rfl, g1, _⟩ := hx3.form
    obtain ⟨A2, c2, rfl, g2, _⟩ := hx4.form
    have key : ∀ j, j < Ls.length * 2 → w.cell? ⟨g, 0 + j, none⟩ = xs[j]? := fun j hj => by
      rw [Nat.zero_add, cell_of_row w g j _ 103 (0, 0) h3]
      have e1 : cur[j]? = (cur.toList.take (Ls.length * 2))[j]? := by
        rw [List.getElem?_take, if_pos hj, Array.getElem?_toList]
      rw [e1, h7]
    refine ⟨g, 0, A1, c1, A2, c2, rfl, ?_, ?_, g1, g2⟩
    · rw [key _ (by omega)]; exact hx1
    · rw [Nat.add_assoc, key _ (by omega)]; exact hx2
theorem infoW : (Tryz.prog.info? 103).map (fun i => (i.zero, i.size, i.bytes)) = some (some (.agg #[.slice none 0 0, .slice none 0 0]), 2, 48) := by kernel_rfl
theorem app_w {w : World} {ops : Array Oper} {rest : List Oper} {o : Oper} {a : Act} {Q : Exit → Act → World → Prop} (hgd : o.guard = none) (s x : Operand)
    (ho : o.op = .call { callee := .builtin .append, args := #[s, x], argTypes := #[69, 69] }) (B : Nat) (v : Value) (Ls : List Eg) (y z : Value) (L M : List Ed) (hs : a.eval s = v) (hown : WOwn w B v Ls)
    (g : Nat) (hx : a.eval x = .slice (some ⟨g, 0, none⟩) 1 1) (hg : w.heap[g]? = some (.cells #[y, z] 103 (0, 0))) (hy : EOwn w B y L) (hz : EOwn w B z M) (hn : Ls.length < 1000000000) (hB : B ≤ w.heap.size)
    (h : ∀ v' w', WOwn w' B v' (Ls ++ [(L, M)]) → w.grownBy w' v.ownBlock → wpList Tryz.prog ops Q rest (a.put o.dst v') w') : wpList Tryz.prog ops Q (o :: rest) a w := by
  obtain ⟨i0, hi, hz0, hz1, hz2⟩ := info_parts infoW
  obtain ⟨xs, hown, hea⟩ := hown
  refine wpList_append_own w hgd s x 69 ho B 103 i0 _ 2 48 Tryz.underlying69 hi hz0 hz1 hz2 rfl (by decide) v Ls.length xs hs hown ⟨g, 0, none⟩ 1 1 [y, z] hx rfl ?_ ?_ ?_ ?_ hB ?_
  · intro j u hu
    rw [add_plain, Lib.cell_of_heap hg]
    rcases j with _ | _ | j
    · simpa using hu
    · simpa using hu
    · simp at hu
  · intro u hu
    simp only [List.mem_cons, List.not_mem_nil, or_false] at hu
    rcases hu with rfl | rfl
    · obtain ⟨A, c, rfl, _⟩ := hy.form; rfl
    · obtain ⟨A, c, rfl, _⟩ := hz.form; rfl
  · unfold maxLen; omega
  · omega
  · intro v' w' h1 h2 _
    have hk : ∀ (u : Value) (N : List Ed), EOwn w B u N → EOwn w' B u N := fun u N hu => own_other hu hown (by decide) h2
    refine h v' w' ⟨xs ++ [y, z], by rw [List.length_append]; exact h1, EachW.snoc ⟨hea.1, fun k N hN => ?_⟩ (hk _ _ hy) (hk _ _ hz)⟩ h2
    obtain ⟨u, t, h3, h4, h5, h6⟩ := hea.2 k N hN
    exact ⟨u, t, h3, h4, hk _ _ h5, hk _ _ h6⟩
end Go.Proofs.YtdcaekmgfcpbmaaGreat.Sq
namespace Go.Proofs.YtdcaekmgfcpbmaaGreat.Sq
open Go.RowKit Gr Wd Ws Fx Rk Lb Al In
theorem six {w : World} {b : Nat} {T : TypeId} {a0 a1 a2 a3 a4 a5 : Value} (h : w.heap[b]? = some (.cells #[a0, a1, a2, a3, a4, a5] T (0, 0))) :
    w.cell? ⟨b, 0, none⟩ = some a0 ∧ w.cell? ⟨b, 1, none⟩ = some a1 ∧ w.cell? ⟨b, 2, none⟩ = some a2 ∧ w.cell? ⟨b, 3, none⟩ = some a3 ∧ w.cell? ⟨b, 4, none⟩ = some a4 ∧ w.cell? ⟨b, 5, none⟩ = some a5 ∧ b < w.heap.size :=
  ⟨by rw [Lib.cell_of_heap h]; rfl, by rw [Lib.cell_of_heap h]; rfl, by rw [Lib.cell_of_heap h]; rfl, by rw [Lib.cell_of_heap h]; rfl, by rw [Lib.cell_of_heap h]; rfl, by rw [Lib.cell_of_heap h]; rfl, lt_of_block h⟩
theorem warm {w : World} {b : Nat} {T : TypeId} {c : Array Value} (h : w.heap[b]? = some (.cells c T (0, 0))) (i : Nat) : w.frozen? ⟨b, i, none⟩ = false := Lib.frozen_of_heap h _
def put6 (w : World) (b : Nat) (u0 u1 u2 u3 u4 u5 : Value) : World := (((((w.setCell ⟨b, 0, none⟩ u0).setCell ⟨b, 1, none⟩ u1).setCell ⟨b, 2, none⟩ u2).setCell ⟨b, 3, none⟩ u3).setCell ⟨b, 4, none⟩ u4).setCell ⟨b, 5, none⟩ u5
theorem set_heap {w : World} {b i : Nat} {T : TypeId} {c : Array Value} (h : w.heap[b]? = some (.cells c T (0, 0))) (u : Value) : (w.setCell ⟨b, i, none⟩ u).heap[b]? = some (.cells (c.setIfInBounds i u) T (0, 0)) := heap_setCell_same w b i c T u h
theorem put6_heap {w : World} {b : Nat} {T : TypeId} {a0 a1 a2 a3 a4 a5 : Value} (h : w.heap[b]? = some (.cells #[a0, a1, a2, a3, a4, a5] T (0, 0))) (u0 u1 u2 u3 u4 u5 : Value) : (put6 w b u0 u1 u2 u3 u4 u5).heap[b]? = some (.cells #[u0, u1, u2, u3, u4, u5] T (0, 0)) := by
  have h0 := set_heap (i := 0) h u0
  have h1 := set_heap (i := 1) h0 u1
  have h2 := set_heap (i := 2) h1 u2
  have h3 := set_heap (i := 3) h2 u3
  have h4 := set_heap (i := 4) h3 u4
  exact set_heap (i := 5) h4 u5
theorem set_other (w : World) (b i k : Nat) (u : Value) (hk : k ≠ b) : (w.setCell ⟨b, i, none⟩ u).heap[k]? = w.heap[k]? := Below.heap_setCell w ⟨b, i, none⟩ u k hk
theorem put6_other (w : World) (b k : Nat) (u0 u1 u2 u3 u4 u5 : Value) (hk : k ≠ b) : (put6 w b u0 u1 u2 u3 u4 u5).heap[k]? = w.heap[k]? := by
  unfold put6
  rw [set_other _ _ _ _ _ hk, set_other _ _ _ _ _ hk, set_other _ _ _ _ _ hk, set_other _ _ _ _ _ hk, set_other _ _ _ _ _ hk, set_other _ _ _ _ _ hk]
theorem put6_below {B : Nat} {a w : World} (h : Below B a w) {b : Nat} (hb : B ≤ b) (u0 u1 u2 u3 u4 u5 : Value) : Below B a (put6 w b u0 u1 u2 u3 u4 u5) :=
  (((((h.setCell (p := ⟨b, 0, none⟩) hb u0).setCell (p := ⟨b, 1, none⟩) hb u1).setCell (p := ⟨b, 2, none⟩) hb u2).setCell (p := ⟨b, 3, none⟩) hb u3).setCell (p := ⟨b, 4, none⟩) hb u4).setCell (p := ⟨b, 5, none⟩) hb u5
theorem own_moved {w w' : World} {b B n s : Nat} {T : TypeId} {v : Value} {xs : List Value} {c : Array Value} {T' : TypeId} (h : w.ownsRow B T s v n xs) (hb : w.heap[b]? = some (.cells c T' (0, 0))) (hT : T ≠ T') (ho : ∀ k, k ≠ b → w'.heap[k]? = w.heap[k]?) : w'.ownsRow B T s v n xs :=
  own_kept h fun g c' fz _ hc => ho g fun e => by
    subst e; rw [hb] at hc; injection hc with hc; injection hc with _ hc _
    exact hT hc.symm
theorem EachM.moved {w w' : World} {b B : Nat} {xs : List Value} {Ls : List (List Ms)} {c : Array Value} {T' : TypeId} (h : EachM w B xs Ls) (hb : w.heap[b]? = some (.cells c T' (0, 0))) (hT : 155 ≠ T') (ho : ∀ k, k ≠ b → w'.heap[k]? = w.heap[k]?) : EachM w' B xs Ls :=
  ⟨h.1, fun k L hk => by obtain ⟨x, h1, h2⟩ := h.2 k L hk; exact ⟨x, h1, own_moved h2 hb hT ho⟩⟩
theorem EachW.moved {w w' : World} {b B : Nat} {xs : List Value} {Ls : List Eg} {c : Array Value} {T' : TypeId} (h : EachW w B xs Ls) (hb : w.heap[b]? = some (.cells c T' (0, 0))) (hT : 33 ≠ T') (ho : ∀ k, k ≠ b → w'.heap[k]? = w.heap[k]?) : EachW w' B xs Ls :=
  ⟨h.1, fun k L hk => by obtain ⟨x, y, h1, h2, h3, h4⟩ := h.2 k L hk; exact ⟨x, y, h1, h2, own_moved h3 hb hT ho, own_moved h4 hb hT ho⟩⟩
theorem WOwn.moved {w w' : World} {b B : Nat} {v : Value} {Ls : List Eg} {c : Array Value} {T' : TypeId} (h : WOwn w B v Ls) (hb : w.heap[b]? = some (.cells c T' (0, 0))) (hT : 103 ≠ T') (hT2 : 33 ≠ T') (ho : ∀ k, k ≠ b → w'.heap[k]? = w.heap[k]?) : WOwn w' B v Ls := by
  obtain ⟨xs, h1, h2⟩ := h
  exact ⟨xs, own_moved h1 hb hT ho, h2.moved hb hT2 ho⟩
theorem ROwn.moved {w w' : World} {b B : Nat} {v : Value} {Ls : List (List Ms)} {c : Array Value} {T' : TypeId} (h : ROwn w B v Ls) (hb : w.heap[b]? = some (.cells c T' (0, 0))) (hT : 133 ≠ T') (hT2 : 155 ≠ T') (ho : ∀ k, k ≠ b → w'.heap[k]? = w.heap[k]?) : ROwn w' B v Ls := by
  obtain ⟨xs, h1, h2⟩ := h
  exact ⟨xs, own_moved h1 hb hT ho, h2.moved hb hT2 ho⟩
set_option maxRecDepth 100000 in
theorem res_c (fn : Func) (c : Nat) (tmps : Array Value) (w : World) (b : Nat) (a0 a1 a2 a3 a4 a5 : Value) (hr : fn.results = #[.cell c 71]) (ht : tmps.getD c undef = .pointer (some ⟨b, 0, none⟩))
    (f : w.heap[b]? = some (.cells #[a0, a1, a2, a3, a4, a5] 71 (0, 0))) : (results fn tmps).run Tryz.prog w = .ok (.agg #[a0, a1, a2, a3, a4, a5]) w := by
  have ht' : tmps[c]?.getD undef = .pointer (some ⟨b, 0, none⟩) := by simpa using ht
  obtain ⟨f0, f1, f2, f3, f4, f5, _⟩ := six f
  simp [results, hr, ht', go_sem, f0, f1, f2, f3, f4, f5]
set_option maxRecDepth 100000 in
theorem res_s (fn : Func) (c : Nat) (tmps : Array Value) (w : World) (b : Nat) (a0 a1 a2 a3 a4 a5 : Value) (hr : fn.results = #[.cell c 45]) (ht : tmps.getD c undef = .pointer (some ⟨b, 0, none⟩))
    (f : w.heap[b]? = some (.cells #[a0, a1, a2, a3, a4, a5] 45 (0, 0))) : (results fn tmps).run Tryz.prog w = .ok (.agg #[a0, a1, a2, a3, a4, a5]) w := by
  have ht' : tmps[c]?.getD undef = .pointer (some ⟨b, 0, none⟩) := by simpa using ht
  obtain ⟨f0, f1, f2, f3, f4, f5, _⟩ := six f
  simp [results, hr, ht', go_sem, f0, f1, f2, f3, f4, f5]
set_option maxRecDepth 100000 in
theorem res2_s (fn : Func) (c d : Nat) (tmps : Array Value) (w : World) (b : Nat) (a0 a1 a2 a3 a4 a5 u : Value) (hr : fn.results = #[.cell c 45, .tmp d]) (ht : tmps.getD c undef = .pointer (some ⟨b, 0, none⟩)) (hd : tmps.getD d undef = u)
    (f : w.heap[b]? = some (.cells #[a0, a1, a2, a3, a4, a5] 45 (0, 0))) : (results fn tmps).run Tryz.prog w = .ok (.tuple #[.agg #[a0, a1, a2, a3, a4, a5], u]) w := by
  have ht' : tmps[c]?.getD undef = .pointer (some ⟨b, 0, none⟩) := by simpa using ht
  have hd' : tmps[d]?.getD undef = u := by simpa using hd
  obtain ⟨f0, f1, f2, f3, f4, f5, _⟩ := six f
  simp [results, hr, ht', hd', go_sem, f0, f1, f2, f3, f4, f5]
end Go.Proofs.YtdcaekmgfcpbmaaGreat.Sq
