/-
  What is proved here: facts for the law on edges: how the edges that leave (reach) the vertices add up; all edges behind an empty slice by one append. No condition.
-/
import Derived.Test.YtmcmpjcijbeilaaGreatDoorGrMem
import Derived.Deep.Upon
namespace Go.Proofs.YtmcmpjcijbeilaaGreatDoor.Gr
open Go.RowKit Wd Ws

/- How many edges have a key below k. -/
theorem sum_step (f : Ed → Int) (k : Nat) : ∀ L : List Ed, (L.filter fun e => decide (f e < ((k + 1 : Nat) : Int)) && decide (0 ≤ f e)).length = (L.filter fun e => decide (f e < (k : Int)) && decide (0 ≤ f e)).length + (L.filter fun e => decide (f e = (k : Int))).length
  | [] => rfl
  | e :: L => by
    have ih := sum_step f k L
    simp only [List.filter_cons]
    by_cases h1 : f e = (k : Int)
    · have a1 : (decide (f e < ((k + 1 : Nat) : Int)) && decide (0 ≤ f e)) = true := by simp; omega
      have a2 : (decide (f e < (k : Int)) && decide (0 ≤ f e)) = false := by simp; omega
      rw [a1, a2, if_pos rfl, if_neg (by simp), if_pos (by simp [h1]), List.length_cons, List.length_cons, ih]; omega
    · by_cases h2 : f e < (k : Int) ∧ 0 ≤ f e
      · have a1 : (decide (f e < ((k + 1 : Nat) : Int)) && decide (0 ≤ f e)) = true := by simp; omega
        have a2 : (decide (f e < (k : Int)) && decide (0 ≤ f e)) = true := by simp; omega
        rw [a1, a2, if_pos rfl, if_pos rfl, if_neg (by simp [h1]), List.length_cons, List.length_cons, ih]; omega
      · have a1 : (decide (f e < ((k + 1 : Nat) : Int)) && decide (0 ≤ f e)) = false := by simp; omega
        have a2 : (decide (f e < (k : Int)) && decide (0 ≤ f e)) = false := by simp; omega
        rw [a1, a2, if_neg (by simp), if_neg (by simp), if_neg (by simp [h1]), ih]
def below (f : Ed → Int) (k : Nat) (L : List Ed) : Nat := (L.filter fun e => decide (f e < (k : Int)) && decide (0 ≤ f e)).length
theorem below_zero (f : Ed → Int) (L : List Ed) : below f 0 L = 0 := by
  unfold below
  rw [List.length_eq_zero_iff, List.filter_eq_nil_iff]
  intro e _; simp
theorem below_succ (f : Ed → Int) (k : Nat) (L : List Ed) : below f (k + 1) L = below f k L + (L.filter fun e => decide (f e = (k : Int))).length := sum_step f k L
theorem below_le (f : Ed → Int) (k : Nat) (L : List Ed) : below f k L ≤ L.length := List.length_filter_le _ _
theorem below_all (f : Ed → Int) (k : Nat) (L : List Ed) (h : ∀ e ∈ L, 0 ≤ f e ∧ f e < (k : Int)) : below f k L = L.length := by
  unfold below
  rw [List.filter_eq_self.2]
  intro e he
  have := h e he
  simp; omega

/- All edges behind nothing. -/
theorem eat_cells {w : World} {A : Option Addr} {L : List Ed} (h : EAt w A L) (a : Addr) (hA : A = some a) : ∀ j u, (ecs L)[j]? = some u → w.cell? (a.add j) = some u := by
  intro j u hu
  have hj : j < L.length * 3 := by have := lt_at hu; rwa [ecs_len] at this
  obtain ⟨e, he⟩ := at_lt L (j / 3) (by omega)
  obtain ⟨bk, o, hb, c0, c1, c2⟩ := h (j / 3) e he
  obtain ⟨a0, a1, a2⟩ := ecs_at L (j / 3) e he
  rw [hA] at hb
  obtain rfl := Option.some.inj hb
  rw [Ws.add_plain]
  have h3 : j % 3 = 0 ∨ j % 3 = 1 ∨ j % 3 = 2 := by omega
  rcases h3 with h3 | h3 | h3
  · rw [show j / 3 * 3 = j by omega] at a0 c0; rw [a0] at hu; rw [← hu]; exact c0
  · rw [show j / 3 * 3 + 1 = j by omega] at a1; rw [show o + j / 3 * 3 + 1 = o + j by omega] at c1; rw [a1] at hu; rw [← hu]; exact c1
  · rw [show j / 3 * 3 + 2 = j by omega] at a2; rw [show o + j / 3 * 3 + 2 = o + j by omega] at c2; rw [a2] at hu; rw [← hu]; exact c2
theorem app_all {w : World} {ops : Array Oper} {rest : List Oper} {o : Oper} {a : Act} {Q : Exit → Act → World → Prop} (hgd : o.guard = none) (s x : Operand)
    (ho : o.op = .call { callee := .builtin .append, args := #[s, x], argTypes := #[22, 22] }) (B : Nat) (v : Value) (K L : List Ed) (hs : a.eval s = v) (hown : EOwn w B v K)
    (ad : Addr) (c : Nat) (hx : a.eval x = .slice (some ad) L.length c) (hL : EAt w (some ad) L) (hn : K.length + L.length < 1000000000) (hB : B ≤ w.heap.size)
    (h : ∀ v' w', EOwn w' B v' (K ++ L) → w.grownBy w' v.ownBlock → wpList Tryz.prog ops Q rest (a.put o.dst v') w') : wpList Tryz.prog ops Q (o :: rest) a w := by
  obtain ⟨i0, hi, hz0, hz1, hz2⟩ := info_parts infoE
  refine wpList_append_own w hgd s x 22 ho B 42 i0 _ 3 24 Tryz.underlying22 hi hz0 hz1 hz2 rfl (by decide) v K.length (ecs K) hs hown ad L.length c (ecs L) hx (ecs_len L) (eat_cells hL ad rfl) (ecs_one L) ?_ ?_ hB ?_
  · unfold maxLen; omega
  · omega
  · intro v' w' h1 h2 _
    refine h v' w' ?_ h2
    unfold EOwn
    rw [ecs_append, List.length_append]
    exact h1

theorem eat_none {w : World} {L : List Ed} (h : EAt w none L) : L = [] := by
  cases L with
  | nil => rfl
  | cons e L => obtain ⟨_, _, h0, _⟩ := h 0 e rfl; cases h0
theorem app_copy {w : World} {ops : Array Oper} {rest : List Oper} {o : Oper} {a : Act} {Q : Exit → Act → World → Prop} (hgd : o.guard = none) (s x : Operand)
    (ho : o.op = .call { callee := .builtin .append, args := #[s, x], argTypes := #[22, 22] }) (B : Nat) (L : List Ed) (hs : a.eval s = .slice none 0 0)
    (A : Option Addr) (c : Nat) (hx : a.eval x = .slice A L.length c) (hL : EAt w A L) (hn : L.length < 1000000000) (hB : B ≤ w.heap.size)
    (h : ∀ v' w', EOwn w' B v' L → w.grownBy w' none → wpList Tryz.prog ops Q rest (a.put o.dst v') w') : wpList Tryz.prog ops Q (o :: rest) a w := by
  cases A with
  | some ad => exact app_all hgd s x ho B _ [] L hs (EOwn.none_ _ _) ad c hx hL (by simp; omega) hB h
  | none =>
    obtain rfl := eat_none hL
    obtain ⟨i0, hi, _⟩ := info_parts infoE
    have u22 := run_underlying Tryz.underlying22
    have hr : (Builtin.append_ #[22, 22] o.type #[.slice none 0 0, .slice none 0 c]).run Tryz.prog w = .ok (.slice none 0 0) w := by
      simp [Builtin.append_, Builtin.lenOf, Builtin.firstCells, u22, sizeOf, typeInfo, hi]
    refine wpList_plain hgd fun _ hK => ?_
    unfold Oper.wp execOp
    simp only [ho, resolve, invoke, builtin, Sem.run_bind, Sem.run_pure, Result.andThen_ok, List.map_toArray, List.map_cons, List.map_nil, hs, hx, hr, List.length_nil]
    exact hK _ _ (h _ _ (EOwn.none_ _ _) ⟨rfl, rfl, rfl, Nat.le_refl _, fun _ _ _ => rfl⟩)

end Go.Proofs.YtmcmpjcijbeilaaGreatDoor.Gr
