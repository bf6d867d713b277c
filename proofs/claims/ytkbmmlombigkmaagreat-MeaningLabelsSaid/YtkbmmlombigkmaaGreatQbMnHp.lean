/-
  What is proved here: words for a heap of ways in memory; contracts of its five methods: how many, which of two is less, two change places, one more, the last one away. Conditions: places are places of it; it is not longer than memory bears.
-/
import Derived.Test.YtkbmmlombigkmaaGreatQbMnMem
import Derived.Deep.DeepAppendRoom
namespace Go.Proofs.YtkbmmlombigkmaaGreat.Mn
open Go.RowKit Gr Wd Ws Fx Rk Lb
open Pa (vl bt vl_of vl_at bt_of bt_at)
theorem wrap_val (t : TypeId) (a : Addr) (s : String) : Builtin.ssaWrapNilChk_ #[t] t #[.pointer (some a), strVal "", strVal s] = pure (.pointer (some a)) := rfl
theorem method_val {P : Program} {w : World} {fuel : Nat} {t elem : TypeId} {name : String} {f : FuncId} {b : Nat} {v : Value}
    (hi : (P.info? t).bind (fun i => (i.methods.find? (·.name == name)).map fun m => (m.path, m.func)) = some (#[], some (f, false)))
    (hu : P.underlying t = some (.pointer elem)) (hl : (loadVar elem ⟨b, 0, none⟩).run P w = .ok v w) :
    (method (fuel + 1) t (.pointer (some ⟨b, 0, none⟩)) name).run P w = .ok (f, v) w := by
  cases h1 : P.info? t with
  | none => rw [h1] at hi; cases hi
  | some i =>
    rw [h1] at hi
    cases h2 : i.methods.find? (·.name == name) with
    | none => rw [Option.bind_some, h2] at hi; cases hi
    | some m =>
      rw [Option.bind_some, h2] at hi
      simp only [Option.map_some, Option.some.injEq, Prod.mk.injEq] at hi
      obtain ⟨h3, h4⟩ := hi
      have u := run_underlying hu
      unfold method
      simp [typeInfo, h1, h2, h3, h4, follow, receiverAt, u, Place.get, wrap_val, asAddr, hl]
theorem load_near (w : World) (b : Nat) (v : Value) (h : w.cell? ⟨b, 0, none⟩ = some v) : (loadVar 88 ⟨b, 0, none⟩).run Tryz.prog w = .ok v w := by
  have a := Tryz.isAgg88
  unfold loadVar; simp [a, go_sem, h]
abbrev hpV (b : Nat) : Value := .iface 84 (.pointer (some ⟨b, 0, none⟩))
theorem look_len (w : World) (b : Nat) (v : Value) (h : w.cell? ⟨b, 0, none⟩ = some v) : (method 329 84 (.pointer (some ⟨b, 0, none⟩)) "Len").run Tryz.prog w = .ok (50, v) w :=
  method_val (by kernel_rfl) Tryz.underlying84 (load_near w b v h)
theorem look_less (w : World) (b : Nat) (v : Value) (h : w.cell? ⟨b, 0, none⟩ = some v) : (method 329 84 (.pointer (some ⟨b, 0, none⟩)) "Less").run Tryz.prog w = .ok (142, v) w :=
  method_val (by kernel_rfl) Tryz.underlying84 (load_near w b v h)
theorem look_swap (w : World) (b : Nat) (v : Value) (h : w.cell? ⟨b, 0, none⟩ = some v) : (method 329 84 (.pointer (some ⟨b, 0, none⟩)) "Swap").run Tryz.prog w = .ok (145, v) w :=
  method_val (by kernel_rfl) Tryz.underlying84 (load_near w b v h)
theorem look_push (w : World) (b : Nat) : (method 329 84 (.pointer (some ⟨b, 0, none⟩)) "Push").run Tryz.prog w = .ok (144, .pointer (some ⟨b, 0, none⟩)) w := by kernel_rfl
theorem look_pop (w : World) (b : Nat) : (method 329 84 (.pointer (some ⟨b, 0, none⟩)) "Pop").run Tryz.prog w = .ok (143, .pointer (some ⟨b, 0, none⟩)) w := by kernel_rfl
def wcs (H : List Wy) : List Value := H.flatMap fun p => [.int .i64 (p.1 : Int), .int .i64 p.2]
theorem wcs_append (a b : List Wy) : wcs (a ++ b) = wcs a ++ wcs b := by simp [wcs]
theorem wcs_len : ∀ H : List Wy, (wcs H).length = H.length * 2
  | [] => rfl
  | p :: H => by
    have := wcs_len H
    unfold wcs at this ⊢
    rw [List.flatMap_cons, List.length_append, this, List.length_cons]; simp; omega
theorem wcs_at : ∀ (H : List Wy) (k : Nat) (p : Wy), H[k]? = some p → (wcs H)[k * 2]? = some (.int .i64 (p.1 : Int)) ∧ (wcs H)[k * 2 + 1]? = some (.int .i64 p.2)
  | [], k, p, h => by simp at h
  | q :: H, 0, p, h => by
    obtain rfl : q = p := by simpa using h
    simp [wcs]
  | q :: H, k + 1, p, h => by
    have := wcs_at H k p (by simpa using h)
    unfold wcs at this ⊢
    rw [List.flatMap_cons, show (k + 1) * 2 = k * 2 + 2 by omega, show k * 2 + 2 + 1 = (k * 2 + 1) + 2 by omega]
    simpa using this
theorem wcs_set : ∀ (H : List Wy) (k : Nat) (p : Wy), wcs (H.set k p) = ((wcs H).set (k * 2) (.int .i64 (p.1 : Int))).set (k * 2 + 1) (.int .i64 p.2)
  | [], k, p => by simp [wcs]
  | q :: H, 0, p => by simp [wcs]
  | q :: H, k + 1, p => by
    have := wcs_set H k p
    unfold wcs at this ⊢
    rw [List.set_cons_succ, List.flatMap_cons, List.flatMap_cons, this, show (k + 1) * 2 = k * 2 + 2 by omega, show k * 2 + 2 + 1 = (k * 2 + 1) + 2 by omega]
    simp
def WOw (w : World) (B : Nat) (v : Value) (H : List Wy) : Prop := w.ownsRow B 86 2 v H.length (wcs H)
theorem WOw.below {w w' : World} {B : Nat} {v : Value} {H : List Wy} (h : WOw w B v H) (hb : Below w.heap.size w w') : WOw w' B v H := own_below h hb
theorem WOw.alloc {w : World} {B : Nat} {v : Value} {H : List Wy} (h : WOw w B v H) (o : Obj) : WOw (w.alloc o) B v H := World.ownsRow.alloc h o
theorem WOw.form {w : World} {B : Nat} {v : Value} {H : List Wy} (h : WOw w B v H) : ∃ A c, v = .slice A H.length c := by
  obtain ⟨_, h1 | ⟨g, cap, cur, h1, h2, _⟩⟩ := h
  · exact ⟨none, 0, by rw [h1.1, h1.2]⟩
  · exact ⟨_, _, h1⟩
theorem WOw.some_ {w : World} {B : Nat} {v : Value} {H : List Wy} (h : WOw w B v H) (hl : 0 < H.length) : ∃ g cp, v = .slice (some ⟨g, 0, none⟩) H.length cp ∧ B ≤ g := by
  obtain ⟨_, h1 | ⟨g, cap, cur, h1, h2, _⟩⟩ := h
  · omega
  · exact ⟨g, cap, h1, h2⟩
theorem WOw.at_ {w : World} {B g n cp : Nat} {H : List Wy} (hn : H.length = n) (h : WOw w B (.slice (some ⟨g, 0, none⟩) n cp) H) {k : Nat} {p : Wy} (hk : H[k]? = some p) :
    w.cell? ⟨g, k * 2, none⟩ = some (.int .i64 (p.1 : Int)) ∧ w.cell? ⟨g, k * 2 + 1, none⟩ = some (.int .i64 p.2) ∧ ∀ j, w.frozen? ⟨g, j, none⟩ = false := by
  subst hn
  have hl := (List.getElem?_eq_some_iff.1 hk).1
  obtain ⟨a, b⟩ := wcs_at H k p hk
  exact ⟨by rw [World.ownsRow.cellAt h (k * 2) (by omega), a], by rw [World.ownsRow.cellAt h (k * 2 + 1) (by omega), b], fun j => World.ownsRow.frozenAt h j⟩
def put2 (w : World) (g k : Nat) (p : Wy) : World := (w.setCell ⟨g, k * 2, none⟩ (.int .i64 (p.1 : Int))).setCell ⟨g, k * 2 + 1, none⟩ (.int .i64 p.2)
theorem WOw.set {w : World} {B g n cp : Nat} {H : List Wy} (hn : H.length = n) (h : WOw w B (.slice (some ⟨g, 0, none⟩) n cp) H) (k : Nat) (p : Wy) : WOw (put2 w g k p) B (.slice (some ⟨g, 0, none⟩) n cp) (H.set k p) := by
  subst hn
  have h1 := (World.ownsRow.stored h (k * 2) (.int .i64 (p.1 : Int))).1
  have h2 := (World.ownsRow.stored h1 (k * 2 + 1) (.int .i64 p.2)).1
  unfold WOw put2
  rw [List.length_set, wcs_set]; exact h2
theorem WOw.blk {w : World} {B g n cp : Nat} {H : List Wy} (h : WOw w B (.slice (some ⟨g, 0, none⟩) n cp) H) : B ≤ g ∧ ∃ c, w.heap[g]? = some (.cells c 86 (0, 0)) := own_lt h g rfl
theorem info86 : (Tryz.prog.info? 86).map (fun i => (i.zero, i.size, i.bytes)) = some (some (.agg #[.int .i64 0, .int .i64 0]), 2, 16) := by kernel_rfl
theorem app_w {w : World} {o : Oper} {a : Act} {K : Act → World → Prop} {Q : Exit → Act → World → Prop} (s x : Operand)
    (ho : o.op = .call { callee := .builtin .append, args := #[s, x], argTypes := #[88, 88] })
    (B g0 n cp : Nat) (H : List Wy) (p : Wy) (hl : H.length = n) (hs : a.eval s = .slice (some ⟨g0, 0, none⟩) n cp) (hown : WOw w B (.slice (some ⟨g0, 0, none⟩) n cp) H) (hcp : 1 ≤ cp)
    (g : Nat) (hx : a.eval x = .slice (some ⟨g, 0, none⟩) 1 1) (hg : w.heap[g]? = some (.cells #[.int .i64 (p.1 : Int), .int .i64 p.2] 86 (0, 0))) (hn : n < 4000000000000) (hB : B ≤ w.heap.size)
    (h : ∀ g' cp' w', WOw w' B (.slice (some ⟨g', 0, none⟩) (n + 1) cp') (H ++ [p]) → 1 ≤ cp' → (g' = g0 ∨ 2 ≤ cp') → w.grownBy w' (some g0) → K (a.put o.dst (.slice (some ⟨g', 0, none⟩) (n + 1) cp')) w') : o.wp Tryz.prog a w K Q := by
  obtain ⟨i0, hi, hz0, hz1, hz2⟩ := info_parts info86
  subst hl
  have hcells : ∀ j u, ([.int .i64 (p.1 : Int), .int .i64 p.2] : List Value)[j]? = some u → w.cell? ((⟨g, 0, none⟩ : Addr).add j) = some u := by
    intro j u hu
    rw [add_plain, Lib.cell_of_heap hg]
    rcases j with _ | _ | j
    · simpa using hu
    · simpa using hu
    · simp at hu
  have hone : ∀ u ∈ ([.int .i64 (p.1 : Int), .int .i64 p.2] : List Value), u.oneCell' = true := by
    intro u hu
    simp only [List.mem_cons, List.not_mem_nil, or_false] at hu
    rcases hu with rfl | rfl <;> rfl
  have hwcs : wcs (H ++ [p]) = wcs H ++ [.int .i64 (p.1 : Int), .int .i64 p.2] := by rw [wcs_append]; rfl
  by_cases hroom : H.length + 1 ≤ cp
  · refine wp_append_own_spare w s x 88 ho B 86 i0 2 Tryz.underlying88 hi hz1 g0 H.length cp (wcs H) hs hown ⟨g, 0, none⟩ 1 1 [.int .i64 (p.1 : Int), .int .i64 p.2] hx rfl hcells hone hroom ?_
    intro w' h1 h2
    refine h g0 cp w' ?_ hcp (Or.inl rfl) h2
    unfold WOw
    rw [hwcs, List.length_append]; exact h1
  · refine wp_append_own w s x 88 ho B 86 i0 _ 2 16 Tryz.underlying88 hi hz0 hz1 hz2 rfl (by decide) _ H.length (wcs H) hs hown ⟨g, 0, none⟩ 1 1 [.int .i64 (p.1 : Int), .int .i64 p.2] hx rfl hcells hone ?_ ?_ hB ?_
    · unfold maxLen; omega
    · omega
    · intro v' w' h1 h2 h3
      have hw : WOw w' B v' (H ++ [p]) := by
        unfold WOw
        rw [hwcs, List.length_append]; exact h1
      obtain ⟨_, h4 | ⟨g', cap, cur, e, _, _, h5, _⟩⟩ := h1
      · exact absurd (h3.1 h4.1).2 (by omega)
      · subst e
        exact h g' cap w' hw (by omega) (Or.inr (by omega)) h2
theorem len_any (A : Option Addr) (n c : Nat) (w : World) : Calls Tryz.prog 50 #[.slice A n c] w fun e w' => e = .returned (.int .i64 (n : Int)) ∧ w = w' := by
  go_enter Tryz.func50, Tryz.ntmps50
  go_wp2
  go_ret
  exact ⟨rfl, rfl⟩
set_option maxRecDepth 100000 in
theorem less_any (B g n cp i k : Nat) (H : List Wy) (p q : Wy) (w : World) (hn : H.length = n) (h : WOw w B (.slice (some ⟨g, 0, none⟩) n cp) H) (hi : H[i]? = some p) (hk : H[k]? = some q) (_hm : n < 4000000000000) :
    Calls Tryz.prog 142 #[.slice (some ⟨g, 0, none⟩) n cp, .int .i64 (i : Int), .int .i64 (k : Int)] w fun e w' => e = .returned (.bool (decide (p.2 < q.2))) ∧ Below w.heap.size w w' := by
  have mixed := mixedP
  have hin : i < n := by rw [← hn]; exact (List.getElem?_eq_some_iff.1 hi).1
  have hkn : k < n := by rw [← hn]; exact (List.getElem?_eq_some_iff.1 hk).1
  obtain ⟨_, c1, _⟩ := h.at_ hn hi
  obtain ⟨_, d1, _⟩ := h.at_ hn hk
  obtain ⟨x, hx⟩ : ∃ x, p.2 = x := ⟨_, rfl⟩
  obtain ⟨y, hy⟩ : ∃ y, q.2 = y := ⟨_, rfl⟩
  rw [hx] at c1; rw [hy] at d1
  rw [hx, hy]
  obtain ⟨r, hr⟩ : ∃ r, decide (x < y) = r := ⟨_, rfl⟩
  rw [hr]
  have HR := Lib.hid hr
  clear h hi hk hx hy hr hn
  go_enter Tryz.func142, Tryz.ntmps142
  go_wp2
  go_quiet (fail)
  go_wp2
  go_ret
  exact ⟨by rw [HR.out]; rfl, below_drewN (Below.refl _ _) _⟩
theorem WOw.cut {w : World} {B g n cp : Nat} {H : List Wy} {p : Wy} (hn : H.length = n) (h : WOw w B (.slice (some ⟨g, 0, none⟩) (n + 1) cp) (H ++ [p])) : WOw w B (.slice (some ⟨g, 0, none⟩) n cp) H := by
  subst hn
  obtain ⟨h0, h1 | ⟨g', cap, cur, h1, h2, h3, h4, h5, h6, h7⟩⟩ := h
  · cases h1.1
  · injection h1 with e1 e2 e3
    injection e1 with e1
    injection e1 with e1
    subst e1 e3
    refine ⟨wcs_len H, Or.inr ⟨g, cp, cur, rfl, h2, h3, by rw [List.length_append] at h4; omega, h5, h6, ?_⟩⟩
    have := congrArg (List.take (H.length * 2)) h7
    rw [List.take_take, wcs_append, List.take_left' (wcs_len H), List.length_append] at this
    rw [show min (H.length * 2) ((H.length + [p].length) * 2) = H.length * 2 by omega] at this
    exact this
theorem put2_grown (w : World) (g k : Nat) (p : Wy) : w.grownBy (put2 w g k p) (some g) := grown_trans (grown_set w g _ _) (grown_set _ g _ _)
theorem swp_perm {H : List Wy} {i k : Nat} {p q : Wy} (hi : H[i]? = some p) (hk : H[k]? = some q) : ((H.set i q).set k p).Perm H := by
  obtain ⟨hi1, hi2⟩ := List.getElem?_eq_some_iff.1 hi
  obtain ⟨hk1, hk2⟩ := List.getElem?_eq_some_iff.1 hk
  rw [← hi2, ← hk2]
  exact List.set_set_perm hi1 hk1
set_option maxRecDepth 100000 in
set_option maxHeartbeats 2000000 in
theorem swap_any (B g n cp i k : Nat) (H : List Wy) (p q : Wy) (w : World) (hn : H.length = n) (h : WOw w B (.slice (some ⟨g, 0, none⟩) n cp) H) (hi : H[i]? = some p) (hk : H[k]? = some q) (_hm : n < 4000000000000) :
    Calls Tryz.prog 145 #[.slice (some ⟨g, 0, none⟩) n cp, .int .i64 (i : Int), .int .i64 (k : Int)] w fun e w' => e = .returned (.tuple #[]) ∧ Hid (WOw w' B (.slice (some ⟨g, 0, none⟩) n cp) ((H.set i q).set k p) ∧ w.grownBy w' (some g)) := by
  have mixed := mixedP
  have hin : i < n := by rw [← hn]; exact (List.getElem?_eq_some_iff.1 hi).1
  have hkn : k < n := by rw [← hn]; exact (List.getElem?_eq_some_iff.1 hk).1
  obtain ⟨y0, y1, rf⟩ := h.at_ hn hi
  obtain ⟨z0, z1, _⟩ := h.at_ hn hk
  have HX := Lib.hid (((h.below (Below.refl _ w).drew).set hn i q).set (by rw [List.length_set]; exact hn) k p)
  have HG := Lib.hid (grown_trans (grown_drew w (some g)) (grown_trans (put2_grown w.drew g i q) (put2_grown _ g k p)))
  obtain ⟨ya, yb⟩ := p
  obtain ⟨za, zb⟩ := q
  by_cases hik : i = k
  · subst hik
    obtain ⟨rfl, rfl⟩ : ya = za ∧ yb = zb := by rw [hi] at hk; injection hk with hk; injection hk with h1 h2; exact ⟨h1, h2⟩
    clear h hi hk hn z0 z1
    go_enter Tryz.func145, Tryz.ntmps145
    go_wp2_with fail
    go_big_region
    go_wp2
    go_end0
    exact ⟨rfl, Lib.hid ⟨HX.out, HG.out⟩⟩
  · clear h hi hk hn
    go_enter Tryz.func145, Tryz.ntmps145
    go_wp2_with fail
    go_big_region
    go_wp2
    go_end0
    exact ⟨rfl, Lib.hid ⟨HX.out, HG.out⟩⟩
end Go.Proofs.YtkbmmlombigkmaaGreat.Mn
