/-
  What is proved here: rows of one-cell values, put behind one another. No condition.
-/
import Derived.Test.YtjcgejbggmpikaaPtK3
namespace Go.Proofs.Ytjcgejbggmpikaa.Pt
open Go.RowKit Gr Wd Ws

/- What a slice of one-cell values reads as. -/
def Vals (w : World) (A : Option Addr) (xs : List Value) : Prop := ∀ (k : Nat) (u : Value), xs[k]? = some u → ∃ bk o, A = some ⟨bk, o, none⟩ ∧ w.cell? ⟨bk, o + k, none⟩ = some u
theorem IAt.vals {w : World} {A : Option Addr} {l : List Int} (h : IAt w A l) : Vals w A (ints l) := fun k u hu => by
  rw [ints_at] at hu
  cases hl : l[k]? with
  | none => rw [hl] at hu; cases hu
  | some x =>
    rw [hl] at hu; cases hu
    exact h k x hl
theorem vals_int {w : World} {A : Option Addr} {l : List Int} (h : Vals w A (ints l)) : IAt w A l := fun k x hx => h k _ (by rw [ints_at, hx]; rfl)
theorem ints_one (l : List Int) : ∀ u ∈ ints l, u.oneCell' = true := by
  intro u hu
  obtain ⟨x, _, rfl⟩ := List.mem_map.1 hu
  rfl
/- The cells of an own row, in every world that is off a block below it. -/
theorem own_vals {w : World} {B : Nat} {T : TypeId} {v : Value} {n : Nat} {xs : List Value} (h : w.ownsRow B T 1 v n xs) : ∃ A c, v = .slice A n c ∧ ∀ b, b < B → ∀ w', Off b w w' → Vals w' A xs := by
  obtain ⟨h0, h1 | ⟨g, cap, cur, h1, h2, h3, h4, h5, h6, h7⟩⟩ := h
  · have : xs = [] := List.eq_nil_of_length_eq_zero (by rw [h0, h1.2])
    subst this
    exact ⟨none, 0, by rw [h1.2]; exact h1.1, fun b hb w' ho k u hu => by simp at hu⟩
  · refine ⟨some ⟨g, 0, none⟩, cap, h1, fun b hb w' ho k u hu => ⟨g, 0, rfl, ?_⟩⟩
    refine ho ⟨g, 0 + k, none⟩ u (fun e => by have : g = b := e; omega) ?_
    rw [Nat.zero_add, cell_of_row w g _ _ T (0, 0) h3]
    have hk := lt_at hu
    have e1 : cur[k]? = (cur.toList.take (n * 1))[k]? := by
      rw [List.getElem?_take, if_pos (by omega), Array.getElem?_toList]
    rw [e1, h7]; exact hu
/- All of a row of one-cell values, behind the call's own. -/
theorem app_vals {w : World} {ops : Array Oper} {rest : List Oper} {o : Oper} {a : Act} {Q : Exit → Act → World → Prop} {S T : TypeId} {z0 : Value} {bytes : Nat} (hund : Try.prog.underlying S = some (.slice T))
    (hinf : (Try.prog.info? T).map (fun i => (i.zero, i.size, i.bytes)) = some (some z0, 1, bytes)) (hzc : z0.cells.size = 1) (hby : bytes ≤ 24) (hgd : o.guard = none) (s x : Operand)
    (ho : o.op = .call { callee := .builtin .append, args := #[s, x], argTypes := #[S, S] }) (B : Nat) (v : Value) (xs ys : List Value) (m z c : Nat) (hz : ys.length = z) (hs : a.eval s = v) (hown : w.ownsRow B T 1 v m xs)
    (A : Option Addr) (hx : a.eval x = .slice A z c) (hL : Vals w A ys) (h1 : ∀ u ∈ ys, u.oneCell' = true) (hn : m + z < 1000000000) (hB : B ≤ w.heap.size)
    (h : ∀ A' c' w', w'.ownsRow B T 1 (.slice A' (m + z) c') (m + z) (xs ++ ys) → w.grownBy w' v.ownBlock → wpList Try.prog ops Q rest (a.put o.dst (.slice A' (m + z) c')) w') : wpList Try.prog ops Q (o :: rest) a w := by
  obtain ⟨i0, hi, hz0, hz1, hz2⟩ := info_parts hinf
  cases A with
  | some ad =>
    refine wpList_append_own w hgd s x S ho B T i0 _ 1 bytes hund hi hz0 hz1 hz2 hzc (by decide) v m xs hs hown ad z c ys hx (by rw [hz]; omega) ?_ h1 ?_ ?_ hB ?_
    · intro j u hu
      obtain ⟨bk, o', e, hc⟩ := hL j u hu
      cases e
      rw [add_plain]; exact hc
    · unfold maxLen; omega
    · have : (m + z) * bytes ≤ (m + z) * 24 := Nat.mul_le_mul_left _ hby
      omega
    · intro v' w' q2 q3 _
      obtain ⟨A', c', e, _⟩ := own_vals q2
      subst e
      exact h _ _ w' q2 q3
  | none =>
    have hy : ys = [] := by
      cases ys with
      | nil => rfl
      | cons u ys => obtain ⟨_, _, e, _⟩ := hL 0 u rfl; cases e
    subst hy
    have hz' : z = 0 := by rw [← hz]; rfl
    subst hz'
    have hr : (Builtin.append_ #[S, S] o.type #[v, .slice none 0 c]).run Try.prog w = .ok v w := by
      rcases hown.2 with ⟨rfl, _⟩ | ⟨g, cap, cur, rfl, _, _, hnc, _⟩
      · simp [Builtin.append_, run_underlying hund, sizeOf, typeInfo, hi, Builtin.lenOf, Builtin.firstCells]
      · simp [Builtin.append_, run_underlying hund, sizeOf, typeInfo, hi, Builtin.lenOf, Builtin.firstCells, hnc, storeCells]
    refine wpList_plain hgd fun _ hK => ?_
    unfold Oper.wp execOp
    simp only [ho, resolve, invoke, builtin, Sem.run_bind, Sem.run_pure, Result.andThen_ok, List.map_toArray, List.map_cons, List.map_nil, hs, hx, hr]
    obtain ⟨A', c', e, _⟩ := own_vals hown
    subst e
    exact hK _ _ (h A' c' _ (by rw [List.append_nil]; exact hown) ⟨rfl, rfl, rfl, Nat.le_refl _, fun _ _ _ => rfl⟩)

end Go.Proofs.Ytjcgejbggmpikaa.Pt
