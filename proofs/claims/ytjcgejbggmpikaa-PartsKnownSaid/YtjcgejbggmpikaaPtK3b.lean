/-
  What is proved here: rows of rows as values; values put behind one another at a step of a region that draws its order. No condition.
-/
import Derived.Test.YtjcgejbggmpikaaPtK3a
namespace Go.Proofs.Ytjcgejbggmpikaa.Pt
open Go.RowKit Gr Wd Ws

theorem at_all {α β : Type} : ∀ (l : List α) (p : Nat → α → β → Prop), (∀ (k : Nat) (a : α), l[k]? = some a → ∃ b, p k a b) → ∃ m : List β, m.length = l.length ∧ ∀ (k : Nat) (a : α), l[k]? = some a → ∃ b, m[k]? = some b ∧ p k a b := by
  intro l
  induction l with
  | nil => exact fun p _ => ⟨[], rfl, fun k a h => by simp at h⟩
  | cons x l ih =>
    intro p hp
    obtain ⟨b, hb⟩ := hp 0 x rfl
    obtain ⟨m, hm, hq⟩ := ih (fun k => p (k + 1)) (fun k a h => hp (k + 1) a (by simpa using h))
    refine ⟨b :: m, by simp [hm], fun k a h => ?_⟩
    rcases k with _ | k
    · simp at h; subst h; exact ⟨b, rfl, hb⟩
    · obtain ⟨b', h1, h2⟩ := hq k a (by simpa using h)
      exact ⟨b', by simpa using h1, h2⟩
/- The values of a row of rows: each reads as edges. -/
def RCon (w : World) (ys : List Value) (Ls : List (List Ed)) : Prop := ys.length = Ls.length ∧ ∀ (k : Nat) (L : List Ed), Ls[k]? = some L → ∃ A' c', ys[k]? = some (.slice A' L.length c') ∧ EAt w A' L
theorem RCon.ck {w w' : World} {ys : List Value} {Ls : List (List Ed)} (h : RCon w ys Ls) (k : Ck w w') : RCon w' ys Ls :=
  ⟨h.1, fun i L hi => by obtain ⟨A', c', h1, h2⟩ := h.2 i L hi; exact ⟨A', c', h1, EAt.ck h2 k⟩⟩
theorem RCon.snoc {w : World} {ys : List Value} {Ls : List (List Ed)} (h : RCon w ys Ls) {A : Option Addr} {c : Nat} {L : List Ed} (hL : EAt w A L) : RCon w (ys ++ [.slice A L.length c]) (Ls ++ [L]) := by
  refine ⟨by simp [h.1], fun k M hk => ?_⟩
  rcases Nat.lt_or_ge k Ls.length with hh | hh
  · rw [List.getElem?_append_left hh] at hk
    obtain ⟨A', c', h1, h2⟩ := h.2 k M hk
    exact ⟨A', c', by rw [List.getElem?_append_left (by rw [h.1]; exact hh)]; exact h1, h2⟩
  · rw [List.getElem?_append_right hh] at hk
    have hk0 : k - Ls.length = 0 := by
      have := lt_at hk; simp at this; omega
    rw [hk0] at hk
    simp at hk; subst hk
    exact ⟨A, c, by rw [List.getElem?_append_right (by rw [h.1]; exact hh), h.1, hk0]; rfl, hL⟩
theorem RAt.vals {w : World} {A : Option Addr} {Ls : List (List Ed)} (h : RAt w A Ls) : ∃ ys, Vals w A ys ∧ (∀ u ∈ ys, u.oneCell' = true) ∧ RCon w ys Ls := by
  obtain ⟨ys, hy, hq⟩ := at_all Ls (fun k (L : List Ed) (y : Value) => (∃ bk o, A = some ⟨bk, o, none⟩ ∧ w.cell? ⟨bk, o + k, none⟩ = some y) ∧ ∃ A' c', y = .slice A' L.length c' ∧ EAt w A' L) fun k L hk => by
    obtain ⟨bk, o, A', c', hA, hc, he⟩ := h k L hk
    exact ⟨_, ⟨bk, o, hA, hc⟩, A', c', rfl, he⟩
  have key : ∀ (k : Nat) (u : Value), ys[k]? = some u → ∃ L, Ls[k]? = some L ∧ (∃ bk o, A = some ⟨bk, o, none⟩ ∧ w.cell? ⟨bk, o + k, none⟩ = some u) ∧ ∃ A' c', u = .slice A' L.length c' ∧ EAt w A' L := fun k u hu => by
    obtain ⟨L, hL⟩ := at_lt Ls k (by rw [← hy]; exact lt_at hu)
    obtain ⟨b, h1, h2⟩ := hq k L hL
    rw [hu] at h1; cases h1
    exact ⟨L, hL, h2⟩
  refine ⟨ys, fun k u hu => ?_, fun u hu => ?_, hy, fun k L hL => ?_⟩
  · obtain ⟨_, _, h1, _⟩ := key k u hu; exact h1
  · obtain ⟨k, hk⟩ := List.mem_iff_getElem?.1 hu
    obtain ⟨_, _, _, A', c', rfl, _⟩ := key k u hk
    rfl
  · obtain ⟨b, h1, _, A', c', rfl, he⟩ := hq k L hL
    exact ⟨A', c', h1, he⟩
theorem rat_of {w : World} {A : Option Addr} {ys : List Value} {Ls : List (List Ed)} (hv : Vals w A ys) (hc : RCon w ys Ls) : RAt w A Ls := fun k L hk => by
  obtain ⟨A', c', h1, h2⟩ := hc.2 k L hk
  obtain ⟨bk, o, hA, hcell⟩ := hv k _ h1
  exact ⟨bk, o, A', c', hA, hcell, h2⟩
theorem Vals.below {w w' : World} {A : Option Addr} {ys : List Value} (h : Vals w A ys) (hb : Below w.heap.size w w') : Vals w' A ys := fun k u hu => by
  obtain ⟨bk, o, hA, c⟩ := h k u hu
  exact ⟨bk, o, hA, (hb.cell (block_lt_of_cell c)).trans c⟩
theorem vals_cell {w : World} {b : Nat} {T : TypeId} {u : Value} (h : w.heap[b]? = some (.cells #[u] T (0, 0))) : Vals w (some ⟨b, 0, none⟩) [u] := fun k v hv => by
  rcases k with _ | k
  · simp at hv; subst hv
    exact ⟨_, _, rfl, by rw [Lib.cell_of_heap h]; rfl⟩
  · simp at hv
/- Values behind the call's own, at a step of a region that draws its order. -/
theorem step_vals {ops : Array Oper} {o : Oper} {a : Act} {w : World} {K : Act → World → Prop} {Q : Exit → Act → World → Prop} {E : Prop} {S T : TypeId} {z0 : Value} {bytes : Nat} (hund : Try.prog.underlying S = some (.slice T))
    (hinf : (Try.prog.info? T).map (fun i => (i.zero, i.size, i.bytes)) = some (some z0, 1, bytes)) (hzc : z0.cells.size = 1) (hby : bytes ≤ 24) (hgd : o.guard = none) (s x : Operand)
    (ho : o.op = .call { callee := .builtin .append, args := #[s, x], argTypes := #[S, S] }) (B : Nat) (v : Value) (xs ys : List Value) (m z c : Nat) (hz : ys.length = z) (hs : a.eval s = v) (hown : w.ownsRow B T 1 v m xs)
    (A : Option Addr) (hx : a.eval x = .slice A z c) (hL : Vals w A ys) (h1 : ∀ u ∈ ys, u.oneCell' = true) (hn : m + z < 1000000000) (hB : B ≤ w.heap.size)
    (h : ∀ A' c' w', w'.ownsRow B T 1 (.slice A' (m + z) c') (m + z) (xs ++ ys) → w.grownBy w' v.ownBlock → K (a.put o.dst (.slice A' (m + z) c')) w') :
    if Region.wanted o (yielded ops a.tmps) = true then Oper.wp Try.prog o a w K Q else E := by
  have hw : Region.wanted o (yielded ops a.tmps) = true := by simp [Region.wanted, hgd]
  rw [if_pos hw]
  obtain ⟨i0, hi, hz0, hz1, hz2⟩ := info_parts hinf
  obtain ⟨v', w', hr, h2, h3⟩ : ∃ v' w', (Builtin.append_ #[S, S] o.type #[v, .slice A z c]).run Try.prog w = .ok v' w' ∧ w'.ownsRow B T 1 v' (m + z) (xs ++ ys) ∧ w.grownBy w' v.ownBlock := by
    cases A with
    | some ad =>
      obtain ⟨v', w', hr, h2, h3, _⟩ := run_append_own (P := Try.prog) w B S o.type T i0 _ 1 bytes hund hi hz0 hz1 hz2 hzc (by decide) v m xs hown ad z c ys (by rw [hz]; omega) (by
        intro j u hu
        obtain ⟨bk, o', e, hc⟩ := hL j u hu
        cases e
        rw [add_plain]; exact hc) h1 (by unfold maxLen; omega) (by
          have : (m + z) * bytes ≤ (m + z) * 24 := Nat.mul_le_mul_left _ hby
          omega) hB
      exact ⟨v', w', hr, h2, h3⟩
    | none =>
      have hy : ys = [] := by
        cases ys with
        | nil => rfl
        | cons u ys => obtain ⟨_, _, e, _⟩ := hL 0 u rfl; cases e
      subst hy
      have hz' : z = 0 := by rw [← hz]; rfl
      subst hz'
      refine ⟨v, w, ?_, by rw [List.append_nil]; exact hown, ⟨rfl, rfl, rfl, Nat.le_refl _, fun _ _ _ => rfl⟩⟩
      rcases hown.2 with ⟨rfl, _⟩ | ⟨g, cap, cur, rfl, _, _, hnc, _⟩
      · simp [Builtin.append_, run_underlying hund, sizeOf, typeInfo, hi, Builtin.lenOf, Builtin.firstCells]
      · simp [Builtin.append_, run_underlying hund, sizeOf, typeInfo, hi, Builtin.lenOf, Builtin.firstCells, hnc, storeCells]
  obtain ⟨A', c', rfl, _⟩ := own_vals h2
  unfold Oper.wp execOp
  simp only [ho, resolve, invoke, builtin, Sem.run_bind, Sem.run_pure, Result.andThen_ok, List.map_toArray, List.map_cons, List.map_nil, hs, hx, hr]
  exact h _ _ _ h2 h3

end Go.Proofs.Ytjcgejbggmpikaa.Pt
