/-
  What is proved here: words for a state in memory: rows of values, of marks, of mail, of rows of messages, of vertices' edges; append of one to each. No condition.
-/
import Derived.Test.YtkbmmlombigkmaaGreatQbSqMathx
import Derived.Test.YtkbmmlombigkmaaGreatQbInR3x
import Derived.Test.YtkbmmlombigkmaaGreatQbPtMathx
namespace Go.Proofs.YtkbmmlombigkmaaGreat.Sq
open Go.RowKit Gr Wd Ws Fx Rk Lb Al In
theorem own_other {w w' : World} {B B' : Nat} {T T' : TypeId} {s s' n n' : Nat} {z v : Value} {xs ys : List Value} (hz : w.ownsRow B T s z n xs) (hv : w.ownsRow B' T' s' v n' ys) (hT : T ≠ T') (hg : w.grownBy w' v.ownBlock) : w'.ownsRow B T s z n xs :=
  own_kept hz fun b c fz hb hc => hg.block b (lt_of_block hc) (fun e => by
    obtain ⟨_, c1, hc1⟩ := own_lt hv b e.symm
    rw [hc1] at hc; injection hc with hc; injection hc with _ hc _
    exact hT hc.symm)
theorem box_other {w w' : World} {B' b : Nat} {T T' : TypeId} {s' n' : Nat} {v : Value} {ys : List Value} {c : Array Value} {fz : Nat × Nat} (hb : w.heap[b]? = some (.cells c T fz)) (hv : w.ownsRow B' T' s' v n' ys) (hT : T ≠ T') (hg : w.grownBy w' v.ownBlock) : w'.heap[b]? = some (.cells c T fz) :=
  (hg.block b (lt_of_block hb) (fun e => by
    obtain ⟨_, c1, hc1⟩ := own_lt hv b e.symm
    rw [hc1] at hb; injection hb with hb; injection hb with _ hb _
    exact hT hb.symm)).trans hb
theorem own_grown {w w' : World} {B B' : Nat} {T' : TypeId} {s' n' : Nat} {v : Value} {ys : List Value} (hv : w.ownsRow B' T' s' v n' ys) (hg : w.grownBy w' v.ownBlock) (h : B ≤ B') (hs : B ≤ w.heap.size) : Below B w w' :=
  Below.grown (Below.refl _ _) hg hs (fun j e => Nat.le_trans h (own_lt hv j e).1)
def QOwn (w : World) (B : Nat) (v : Value) (l : List Int) : Prop := w.ownsRow B 2 1 v l.length (ints l)
theorem QOwn.none_ (w : World) (B : Nat) : QOwn w B (.slice none 0 0) [] := World.ownsRow_nil _ _ _ _
theorem QOwn.below {w w' : World} {B : Nat} {v : Value} {l : List Int} (h : QOwn w B v l) (hb : Below w.heap.size w w') : QOwn w' B v l := own_below h hb
theorem QOwn.mono {w : World} {B B' : Nat} {v : Value} {l : List Int} (h : QOwn w B v l) (hb : B' ≤ B) : QOwn w B' v l := own_mono h hb
theorem QOwn.form {w : World} {B : Nat} {v : Value} {l : List Int} (h : QOwn w B v l) : ∃ (A : Option Addr) (c : Nat), v = .slice A l.length c ∧ IAt w A l := by
  obtain ⟨h0, h1 | ⟨g, cap, cur, h1, h2, h3, h4, h5, h6, h7⟩⟩ := h
  · have : l = [] := List.eq_nil_of_length_eq_zero h1.2
    subst this
    exact ⟨none, 0, h1.1, IAt.nil _ _⟩
  · refine ⟨some ⟨g, 0, none⟩, cap, h1, fun k x hx => ⟨g, 0, rfl, ?_⟩⟩
    have hk := lt_at hx
    rw [Nat.zero_add, cell_of_row w g k _ 2 (0, 0) h3]
    have e1 : cur[k]? = (cur.toList.take (l.length * 1))[k]? := by
      rw [List.getElem?_take, if_pos (by omega), Array.getElem?_toList]
    rw [e1, h7, ints_at, hx]; rfl
def bls (l : List Bool) : List Value := l.map Value.bool
theorem bls_at (l : List Bool) (k : Nat) : (bls l)[k]? = (l[k]?).map Value.bool := by simp [bls]
def BAt (w : World) (A : Option Addr) (l : List Bool) : Prop := ∀ (k : Nat) (x : Bool), l[k]? = some x → ∃ bk o, A = some ⟨bk, o, none⟩ ∧ w.cell? ⟨bk, o + k, none⟩ = some (.bool x)
theorem BAt.below {w w' : World} {A : Option Addr} {l : List Bool} (h : BAt w A l) (hb : Below w.heap.size w w') : BAt w' A l := by
  intro k x hx
  obtain ⟨bk, o, hA, c⟩ := h k x hx
  exact ⟨bk, o, hA, (hb.cell (block_lt_of_cell c)).trans c⟩
theorem BAt.nil (w : World) (A : Option Addr) : BAt w A [] := fun k x h => by simp at h
def BOwn (w : World) (B : Nat) (v : Value) (l : List Bool) : Prop := w.ownsRow B 4 1 v l.length (bls l)
theorem BOwn.none_ (w : World) (B : Nat) : BOwn w B (.slice none 0 0) [] := World.ownsRow_nil _ _ _ _
theorem BOwn.below {w w' : World} {B : Nat} {v : Value} {l : List Bool} (h : BOwn w B v l) (hb : Below w.heap.size w w') : BOwn w' B v l := own_below h hb
theorem BOwn.mono {w : World} {B B' : Nat} {v : Value} {l : List Bool} (h : BOwn w B v l) (hb : B' ≤ B) : BOwn w B' v l := own_mono h hb
theorem BOwn.form {w : World} {B : Nat} {v : Value} {l : List Bool} (h : BOwn w B v l) : ∃ (A : Option Addr) (c : Nat), v = .slice A l.length c ∧ BAt w A l := by
  obtain ⟨h0, h1 | ⟨g, cap, cur, h1, h2, h3, h4, h5, h6, h7⟩⟩ := h
  · have : l = [] := List.eq_nil_of_length_eq_zero h1.2
    subst this
    exact ⟨none, 0, h1.1, BAt.nil _ _⟩
  · refine ⟨some ⟨g, 0, none⟩, cap, h1, fun k x hx => ⟨g, 0, rfl, ?_⟩⟩
    have hk := lt_at hx
    rw [Nat.zero_add, cell_of_row w g k _ 4 (0, 0) h3]
    have e1 : cur[k]? = (cur.toList.take (l.length * 1))[k]? := by
      rw [List.getElem?_take, if_pos (by omega), Array.getElem?_toList]
    rw [e1, h7, bls_at, hx]; rfl
def EachM (w : World) (B : Nat) (xs : List Value) (Ls : List (List Ms)) : Prop := xs.length = Ls.length ∧ ∀ (k : Nat) (L : List Ms), Ls[k]? = some L → ∃ x, xs[k]? = some x ∧ MOwn w B x L
theorem EachM.below {w w' : World} {B : Nat} {xs : List Value} {Ls : List (List Ms)} (h : EachM w B xs Ls) (hb : Below w.heap.size w w') : EachM w' B xs Ls :=
  ⟨h.1, fun k L hk => by obtain ⟨x, h1, h2⟩ := h.2 k L hk; exact ⟨x, h1, h2.below hb⟩⟩
theorem EachM.nil (w : World) (B : Nat) : EachM w B [] [] := ⟨rfl, fun k L h => by simp at h⟩
theorem EachM.snoc {w : World} {B : Nat} {xs : List Value} {Ls : List (List Ms)} (h : EachM w B xs Ls) {x : Value} {L : List Ms} (hx : MOwn w B x L) : EachM w B (xs ++ [x]) (Ls ++ [L]) := by
  refine ⟨by simp [h.1], fun k M hk => ?_⟩
  rcases Nat.lt_or_ge k Ls.length with hh | hh
  · rw [List.getElem?_append_left hh] at hk
    obtain ⟨y, h1, h2⟩ := h.2 k M hk
    exact ⟨y, by rw [List.getElem?_append_left (by rw [h.1]; exact hh)]; exact h1, h2⟩
  · rw [List.getElem?_append_right hh] at hk
    have hk0 : k - Ls.length = 0 := by
      have := lt_at hk; simp at this; omega
    rw [hk0] at hk
    simp at hk; subst hk
    exact ⟨x, by rw [List.getElem?_append_right (by rw [h.1]; exact hh), h.1, hk0]; rfl, hx⟩
def ROwn (w : World) (B : Nat) (v : Value) (Ls : List (List Ms)) : Prop := ∃ xs, w.ownsRow B 133 1 v Ls.length xs ∧ EachM w B xs Ls
theorem ROwn.none_ (w : World) (B : Nat) : ROwn w B (.slice none 0 0) [] := ⟨[], World.ownsRow_nil _ _ _ _, EachM.nil _ _⟩
theorem ROwn.below {w w' : World} {B : Nat} {v : Value} {Ls : List (List Ms)} (h : ROwn w B v Ls) (hb : Below w.heap.size w w') : ROwn w' B v Ls := by
  obtain ⟨xs, h1, h2⟩ := h
  exact ⟨xs, own_below h1 hb, h2.below hb⟩
theorem ROwn.other {w w' : World} {B B' : Nat} {T' : TypeId} {s' n' : Nat} {v z : Value} {ys : List Value} {Ls : List (List Ms)} (h : ROwn w B z Ls) (hv : w.ownsRow B' T' s' v n' ys) (h1 : 133 ≠ T') (h2 : 155 ≠ T') (hg : w.grownBy w' v.ownBlock) : ROwn w' B z Ls := by
  obtain ⟨xs, g1, g2⟩ := h
  exact ⟨xs, own_other g1 hv h1 hg, g2.1, fun k L hk => by obtain ⟨x, e1, e2⟩ := g2.2 k L hk; exact ⟨x, e1, own_other e2 hv h2 hg⟩⟩
theorem ROwn.form {w : World} {B : Nat} {v : Value} {Ls : List (List Ms)} (h : ROwn w B v Ls) : ∃ (A : Option Addr) (c : Nat), v = .slice A Ls.length c ∧ RMs w A Ls := by
  obtain ⟨xs, ⟨h0, h1 | ⟨g, cap, cur, h1, h2, h3, h4, h5, h6, h7⟩⟩, he⟩ := h
  · have : Ls = [] := List.eq_nil_of_length_eq_zero h1.2
    subst this
    exact ⟨none, 0, h1.1, fun k L hk => by simp at hk⟩
  · refine ⟨some ⟨g, 0, none⟩, cap, h1, fun k L hx => ?_⟩
    have hk := lt_at hx
    obtain ⟨x, hx1, hx2⟩ := he.2 k L hx
    obtain ⟨A', c', rfl, hE, _⟩ := hx2.room
    refine ⟨g, 0, A', c', rfl, ?_, hE⟩
    rw [Nat.zero_add, cell_of_row w g k _ 133 (0, 0) h3]
    have e1 : cur[k]? = (cur.toList.take (Ls.length * 1))[k]? := by
      rw [List.getElem?_take, if_pos (by omega), Array.getElem?_toList]
    rw [e1, h7, hx1]
abbrev Eg := List Ed × List Ed
def WAt (w : World) (A : Option Addr) (Ls : List Eg) : Prop := ∀ (k : Nat) (L : Eg), Ls[k]? = some L → ∃ bk o A1 c1 A2 c2, A = some ⟨bk, o, none⟩ ∧ w.cell? ⟨bk, o + k * 2, none⟩ = some (.slice A1 L.1.length c1) ∧ w.cell? ⟨bk, o + k * 2 + 1, none⟩ = some (.slice A2 L.2.length c2) ∧ EAt w A1 L.1 ∧ EAt w A2 L.2
theorem WAt.below {w w' : World} {A : Option Addr} {Ls : List Eg} (h : WAt w A Ls) (hb : Below w.heap.size w w') : WAt w' A Ls := by
  intro k L hx
  obtain ⟨bk, o, A1, c1, A2, c2, hA, e1, e2, g1, g2⟩ := h k L hx
  exact ⟨bk, o, A1, c1, A2, c2, hA, (hb.cell (block_lt_of_cell e1)).trans e1, (hb.cell (block_lt_of_cell e2)).trans e2, g1.below hb, g2.below hb⟩
theorem WAt.nil (w : World) (A : Option Addr) : WAt w A [] := fun k x h => by simp at h
def EachW (w : World) (B : Nat) (xs : List Value) (Ls : List Eg) : Prop := xs.length = Ls.length * 2 ∧ ∀ (k : Nat) (L : Eg), Ls[k]? = some L → ∃ x y, xs[k * 2]? = some x ∧ xs[k * 2 + 1]? = some y ∧ EOwn w B x L.1 ∧ EOwn w B y L.2
theorem EachW.below {w w' : World} {B : Nat} {xs : List Value} {Ls : List Eg} (h : EachW w B xs Ls) (hb : Below w.heap.size w w') : EachW w' B xs Ls :=
  ⟨h.1, fun k L hk => by obtain ⟨x, y, h1, h2, h3, h4⟩ := h.2 k L hk; exact ⟨x, y, h1, h2, h3.below hb, h4.below hb⟩⟩
theorem EachW.nil (w : World) (B : Nat) : EachW w B [] [] := ⟨rfl, fun k L h => by simp at h⟩
theorem EachW.snoc {w : World} {B : Nat} {xs : List Value} {Ls : List Eg} (h : EachW w B xs Ls) {x y : Value} {L M : List Ed} (hx : EOwn w B x L) (hy : EOwn w B y M) : EachW w B (xs ++ [x, y]) (Ls ++ [(L, M)]) := by
  refine ⟨by simp [h.1]; omega, fun k N hk => ?_⟩
  rcases Nat.lt_or_ge k Ls.length with hh | hh
  · rw [List.getElem?_append_left hh] at hk
    obtain ⟨u, v, h1, h2, h3, h4⟩ := h.2 k N hk
    exact ⟨u, v, by rw [List.getElem?_append_left (by rw [h.1]; omega)]; exact h1, by rw [List.getElem?_append_left (by rw [h.1]; omega)]; exact h2, h3, h4⟩
  · rw [List.getElem?_append_right hh] at hk
    have hk0 : k - Ls.length = 0 := by
      have := lt_at hk; simp at this; omega
    rw [hk0] at hk
    simp at hk; subst hk
    obtain rfl : k = Ls.length := by omega
    refine ⟨x, y, ?_, ?_, hx, hy⟩
    · rw [List.getElem?_append_right (by rw [h.1]; exact Nat.le_refl _), h.1, Nat.sub_self]; rfl
    · rw [List.getElem?_append_right (by rw [h.1]; omega), h.1, show Ls.length * 2 + 1 - Ls.length * 2 = 1 by omega]; rfl
def WOwn (w : World) (B : Nat) (v : Value) (Ls : List Eg) : Prop := ∃ xs, w.ownsRow B 103 2 v Ls.length xs ∧ EachW w B xs Ls
theorem WOwn.none_ (w : World) (B : Nat) : WOwn w B (.slice none 0 0) [] := ⟨[], World.ownsRow_nil _ _ _ _, EachW.nil _ _⟩
theorem WOwn.below {w w' : World} {B : Nat} {v : Value} {Ls : List Eg} (h : WOwn w B v Ls) (hb : Below w.heap.size w w') : WOwn w' B v Ls := by
  obtain ⟨xs, h1, h2⟩ := h
  exact ⟨xs, own_below h1 hb, h2.below hb⟩
theorem WOwn.form {w : World} {B : Nat} {v : Value} {Ls : List Eg} (h : WOwn w B v Ls) : ∃ (A : Option Addr) (c : Nat), v = .slice A Ls.length c ∧ WAt w A Ls := by
  obtain ⟨xs, ⟨h0, h1 | ⟨g, cap, cur, h1, h2, h3, h4, h5, h6, h7⟩⟩, he⟩ := h
  · have : Ls = [] := List.eq_nil_of_length_eq_zero h1.2
    subst this
    exact ⟨none, 0, h1.1, fun k L hk => by simp at hk⟩
  · refine ⟨some ⟨g, 0, none⟩, cap, h1, fun k L hx => ?_⟩
    have hk := lt_at hx
    obtain ⟨x, y, hx1, hx2, hx3, hx4⟩ := he.2 k L hx
    obtain ⟨A1, c1, rfl, g1, _⟩ := hx3.form
    obtain ⟨A2, c2, rfl, g2, _⟩ := hx4.form
    have key : ∀ j, j < Ls.length * 2 → w.cell? ⟨g, 0 + j, none⟩ = xs[j]? := fun j hj => by
      rw [Nat.zero_add, cell_of_row w g j _ 103 (0, 0) h3]
      have e1 : cur[j]? = (cur.toList.take (Ls.length * 2))[j]? := by
        rw [List.getElem?_take, if_pos hj, Array.getElem?_toList]
      rw [e1, h7]
    refine ⟨g, 0, A1, c1, A2, c2, rfl, ?_, ?_, g1, g2⟩
    · rw [key _ (by omega)]; exact hx1
    · rw [Nat.add_assoc, key _ (by omega)]; exact hx2
theorem infoW : (Tryz.prog.info? 103).map (fun i => (i.zero, i.size, i.bytes)) = some (some (.agg #[.slice none 0 0, .slice none 0 0]), 2, 48) := by kernel_rfl
theorem app_w {w : World} {ops : Array Oper} {rest : List Oper} {o : Oper} {a : Act} {Q : Exit → Act → World → Prop} (hgd : o.guard = none) (s x : Operand)
    (ho : o.op = .call { callee := .builtin .append, args := #[s, x], argTypes := #[69, 69] }) (B : Nat) (v : Value) (Ls : List Eg) (y z : Value) (L M : List Ed) (hs : a.eval s = v) (hown : WOwn w B v Ls)
    (g : Nat) (hx : a.eval x = .slice (some ⟨g, 0, none⟩) 1 1) (hg : w.heap[g]? = some (.cells #[y, z] 103 (0, 0))) (hy : EOwn w B y L) (hz : EOwn w B z M) (hn : Ls.length < 1000000000) (hB : B ≤ w.heap.size)
    (h : ∀ v' w', WOwn w' B v' (Ls ++ [(L, M)]) → w.grownBy w' v.ownBlock → wpList Tryz.prog ops Q rest (a.put o.dst v') w') : wpList Tryz.prog ops Q (o :: rest) a w := by
  obtain ⟨i0, hi, hz0, hz1, hz2⟩ := info_parts infoW
  obtain ⟨xs, hown, hea⟩ := hown
  refine wpList_append_own w hgd s x 69 ho B 103 i0 _ 2 48 Tryz.underlying69 hi hz0 hz1 hz2 rfl (by decide) v Ls.length xs hs hown ⟨g, 0, none⟩ 1 1 [y, z] hx rfl ?_ ?_ ?_ ?_ hB ?_
  · intro j u hu
    rw [add_plain, Lib.cell_of_heap hg]
    rcases j with _ | _ | j
    · simpa using hu
    · simpa using hu
    · simp at hu
  · intro u hu
    simp only [List.mem_cons, List.not_mem_nil, or_false] at hu
    rcases hu with rfl | rfl
    · obtain ⟨A, c, rfl, _⟩ := hy.form; rfl
    · obtain ⟨A, c, rfl, _⟩ := hz.form; rfl
  · unfold maxLen; omega
  · omega
  · intro v' w' h1 h2 _
    have hk : ∀ (u : Value) (N : List Ed), EOwn w B u N → EOwn w' B u N := fun u N hu => own_other hu hown (by decide) h2
    refine h v' w' ⟨xs ++ [y, z], by rw [List.length_append]; exact h1, EachW.snoc ⟨hea.1, fun k N hN => ?_⟩ (hk _ _ hy) (hk _ _ hz)⟩ h2
    obtain ⟨u, t, h3, h4, h5, h6⟩ := hea.2 k N hN
    exact ⟨u, t, h3, h4, hk _ _ h5, hk _ _ h6⟩
end Go.Proofs.YtkbmmlombigkmaaGreat.Sq
