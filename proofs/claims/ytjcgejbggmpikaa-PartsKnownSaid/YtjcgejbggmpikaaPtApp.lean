/-
  What is proved here: edges put behind one another in one go, rows that are written while they are gone over, and plain. No condition.
-/
import Derived.Test.YtjcgejbggmpikaaPtW8
namespace Go.Proofs.Ytjcgejbggmpikaa.Gr
open Go.RowKit Wd Ws

theorem eat_cells {w : World} {A : Option Addr} {L : List Ed} (h : EAt w A L) (a : Addr) (hA : A = some a) : ∀ j u, (ecs L)[j]? = some u → w.cell? (a.add j) = some u := by
  intro j u hu
  have hj : j < L.length * 3 := by have := lt_at hu; rwa [ecs_len] at this
  obtain ⟨e, he⟩ := at_lt L (j / 3) (by omega)
  obtain ⟨bk, o, hb, c0, c1, c2⟩ := h (j / 3) e he
  obtain ⟨a0, a1, a2⟩ := ecs_at L (j / 3) e he
  rw [hA] at hb
  obtain rfl := Option.some.inj hb
  rw [Ws.add_plain]
  have h3 : j % 3 = 0 ∨ j % 3 = 1 ∨ j % 3 = 2 := by omega
  rcases h3 with h3 | h3 | h3
  · rw [show j / 3 * 3 = j by omega] at a0 c0; rw [a0] at hu; rw [← hu]; exact c0
  · rw [show j / 3 * 3 + 1 = j by omega] at a1; rw [show o + j / 3 * 3 + 1 = o + j by omega] at c1; rw [a1] at hu; rw [← hu]; exact c1
  · rw [show j / 3 * 3 + 2 = j by omega] at a2; rw [show o + j / 3 * 3 + 2 = o + j by omega] at c2; rw [a2] at hu; rw [← hu]; exact c2
theorem app_all {w : World} {ops : Array Oper} {rest : List Oper} {o : Oper} {a : Act} {Q : Exit → Act → World → Prop} (hgd : o.guard = none) (s x : Operand)
    (ho : o.op = .call { callee := .builtin .append, args := #[s, x], argTypes := #[28, 28] }) (B : Nat) (v : Value) (K L : List Ed) (hs : a.eval s = v) (hown : EOwn w B v K)
    (ad : Addr) (c : Nat) (hx : a.eval x = .slice (some ad) L.length c) (hL : EAt w (some ad) L) (hn : K.length + L.length < 1000000000) (hB : B ≤ w.heap.size)
    (h : ∀ v' w', EOwn w' B v' (K ++ L) → w.grownBy w' v.ownBlock → wpList Try.prog ops Q rest (a.put o.dst v') w') : wpList Try.prog ops Q (o :: rest) a w := by
  obtain ⟨i0, hi, hz0, hz1, hz2⟩ := info_parts infoE
  refine wpList_append_own w hgd s x 28 ho B 44 i0 _ 3 24 Try.underlying28 hi hz0 hz1 hz2 rfl (by decide) v K.length (ecs K) hs hown ad L.length c (ecs L) hx (ecs_len L) (eat_cells hL ad rfl) (ecs_one L) ?_ ?_ hB ?_
  · unfold maxLen; omega
  · omega
  · intro v' w' h1 h2 _
    refine h v' w' ?_ h2
    unfold EOwn
    rw [ecs_append, List.length_append]
    exact h1

theorem eat_none {w : World} {L : List Ed} (h : EAt w none L) : L = [] := by
  cases L with
  | nil => rfl
  | cons e L => obtain ⟨_, _, h0, _⟩ := h 0 e rfl; cases h0
theorem app_copy {w : World} {ops : Array Oper} {rest : List Oper} {o : Oper} {a : Act} {Q : Exit → Act → World → Prop} (hgd : o.guard = none) (s x : Operand)
    (ho : o.op = .call { callee := .builtin .append, args := #[s, x], argTypes := #[28, 28] }) (B : Nat) (L : List Ed) (hs : a.eval s = .slice none 0 0)
    (A : Option Addr) (c : Nat) (hx : a.eval x = .slice A L.length c) (hL : EAt w A L) (hn : L.length < 1000000000) (hB : B ≤ w.heap.size)
    (h : ∀ v' w', EOwn w' B v' L → w.grownBy w' none → wpList Try.prog ops Q rest (a.put o.dst v') w') : wpList Try.prog ops Q (o :: rest) a w := by
  cases A with
  | some ad => exact app_all hgd s x ho B _ [] L hs (EOwn.none_ _ _) ad c hx hL (by simp; omega) hB h
  | none =>
    obtain rfl := eat_none hL
    obtain ⟨i0, hi, _⟩ := info_parts infoE
    have u22 := run_underlying Try.underlying28
    have hr : (Builtin.append_ #[28, 28] o.type #[.slice none 0 0, .slice none 0 c]).run Try.prog w = .ok (.slice none 0 0) w := by
      simp [Builtin.append_, Builtin.lenOf, Builtin.firstCells, u22, sizeOf, typeInfo, hi]
    refine wpList_plain hgd fun _ hK => ?_
    unfold Oper.wp execOp
    simp only [ho, resolve, invoke, builtin, Sem.run_bind, Sem.run_pure, Result.andThen_ok, List.map_toArray, List.map_cons, List.map_nil, hs, hx, hr, List.length_nil]
    exact hK _ _ (h _ _ (EOwn.none_ _ _) ⟨rfl, rfl, rfl, Nat.le_refl _, fun _ _ _ => rfl⟩)

/- While a loop writes to the edges that a call has made. -/
def Mess (w : World) (B : Nat) (v : Value) (n : Nat) : Prop := ∃ xs, w.ownsRow B 44 3 v n xs
theorem Mess.cell {w : World} {B n c : Nat} {X : Option Addr} (h : Mess w B (.slice X n c) n) {i : Nat} (hi : i < n) (j : Nat) (hj : j < 3) : ∃ g u, X = some ⟨g, 0, none⟩ ∧ w.cell? ⟨g, i * 3 + j, none⟩ = some u ∧ w.frozen? ⟨g, i * 3 + j, none⟩ = false := by
  obtain ⟨xs, h0, h1 | ⟨g, cap, cur, h1, h2, h3, h4, h5, h6, h7⟩⟩ := h
  · omega
  · cases h1
    have hc : i * 3 + j < cur.size := by omega
    exact ⟨g, cur[i * 3 + j], rfl, by rw [cell_of_row w g _ _ 44 (0, 0) h3, Array.getElem?_eq_getElem hc], Lib.frozen_of_heap h3 _⟩
theorem Mess.store {w : World} {B n c g : Nat} (h : Mess w B (.slice (some ⟨g, 0, none⟩) n c) n) (j : Nat) (u : Value) : Mess (w.setCell ⟨g, j, none⟩ u) B (.slice (some ⟨g, 0, none⟩) n c) n ∧ w.grownBy (w.setCell ⟨g, j, none⟩ u) (some g) := by
  obtain ⟨xs, h⟩ := h
  have := World.ownsRow.stored h j u
  exact ⟨⟨_, this.1⟩, this.2⟩
theorem Mess.other {w w' : World} {B n : Nat} {v : Value} {r : Option Nat} (h : Mess w B v n) (hg : w.grownBy w' r) (hr : ∀ j, r = some j → v.ownBlock ≠ some j) : Mess w' B v n := by
  obtain ⟨xs, h0, h1 | ⟨g, cap, cur, h1, h2, h3, h4⟩⟩ := h
  · exact ⟨xs, h0, Or.inl h1⟩
  · exact ⟨xs, h0, Or.inr ⟨g, cap, cur, h1, h2, (hg.block g (lt_of_block h3) fun e => hr g e.symm (by rw [h1]; rfl)).trans h3, h4⟩⟩
theorem Mess.over {w3 w w' : World} {n : Nat} {v : Value} (h : Mess w' w3.heap.size v n) (hb : Below w3.heap.size w3 w) (hg : w.grownBy w' v.ownBlock) : Below w3.heap.size w3 w' :=
  Below.grown hb hg hb.size fun k e => by obtain ⟨xs, h⟩ := h; exact (own_lt h k e).1

end Go.Proofs.Ytjcgejbggmpikaa.Gr
namespace Go.Proofs.Ytjcgejbggmpikaa.Pt
open Go.RowKit Gr Wd Ws

set_option maxRecDepth 100000 in
theorem plain_any (a0 a1 a2 : Int) (A3 A4 A5 : Option Addr) (n3 n4 n5 c3 c4 c5 : Nat) (w : World) :
    Calls Try.prog 18 #[.agg #[.int .i64 a0, .int .i64 a1, .int .i64 a2, .slice A3 n3 c3, .slice A4 n4 c4, .slice A5 n5 c5]] w fun e w' => e = .returned (.agg #[.int .i64 a0, .int .i64 a1, .int .i64 a2, .slice A3 n3 c3, .slice A4 n4 c4, .slice A5 n5 c5]) ∧ Below w.heap.size w w' := by
  go_enter Try.func18, Try.ntmps18
  go_wp2_with fail
  exact bodyPost_ret (v := .agg #[.int .i64 a0, .int .i64 a1, .int .i64 a2, .slice A3 n3 c3, .slice A4 n4 c4, .slice A5 n5 c5]) (res_q _ _ _ _ _ _ _ _ _ _ _ Try.results18 rfl (heap_alloc2_new w _ _)) rfl ⟨rfl, ((Below.refl _ w).alloc (Nat.le_refl _) _).alloc (by simp) _⟩

end Go.Proofs.Ytjcgejbggmpikaa.Pt
