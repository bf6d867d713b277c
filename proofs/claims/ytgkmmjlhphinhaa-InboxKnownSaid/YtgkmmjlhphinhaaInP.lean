/-
  What is proved here: contracts of algos.Combine, of the document's own Combine and Add. Conditions: the row that Add is handed is one that the call has made, of fewer than 1000000 messages.
-/
import Derived.Test.YtgkmmjlhphinhaaAlM
import Derived.Test.YtgkmmjlhphinhaaAlPa
import Derived.Deep.CutRange
import Derived.Deep.Fields
import Derived.Deep.RegionLaw
import Derived.Deep.AppendLies
import Derived.Laws.OwnMore
import Derived.Laws.StructEq
namespace Go.Proofs.Ytgkmmjlhphinhaa.Al
open Go.RowKit Go.Sort Gr Wd Ws Fx Rk Lb

theorem prog_no (k st so dm ep : Int) (h1 : ¬ k = 1) (h2 : ¬ k = 2) (h3 : ¬ k = 3) (w : World) : Calls Try.prog 39 #[.agg #[.int .u8 k, .int .i64 st, .int .i64 so, .int .i64 dm, .int .i64 ep]] w fun e w' => e = .returned (.tuple #[.nilIface, .bool false]) ∧ Below w.heap.size w w' := by
  have HB := Lib.hid ((Below.refl _ w).alloc (Nat.le_refl _) (.cells #[.int .u8 k, .int .i64 st, .int .i64 so, .int .i64 dm, .int .i64 ep] 23))
  have b1 : (k == 1) = false := by simp [h1]
  have b2 : (k == 2) = false := by simp [h2]
  have b3 : (k == 3) = false := by simp [h3]
  go_enter Try.func39, Try.ntmps39
  go_wp2
  go_ret2
  exact ⟨rfl, HB.out⟩
theorem prog_1 (st so dm ep : Int) (w : World) : Calls Try.prog 39 #[.agg #[.int .u8 1, .int .i64 st, .int .i64 so, .int .i64 dm, .int .i64 ep]] w fun e w' => e = .returned (.tuple #[.iface 82 (.agg #[.int .u8 1, .int .i64 st, .int .i64 so, .int .i64 dm, .int .i64 ep]), .bool true]) ∧ Below w.heap.size w w' := by
  have HB := Lib.hid ((Below.refl _ w).alloc (Nat.le_refl _) (.cells #[.int .u8 1, .int .i64 st, .int .i64 so, .int .i64 dm, .int .i64 ep] 23))
  go_enter Try.func39, Try.ntmps39
  go_wp2
  go_ret2
  exact ⟨rfl, HB.out⟩
theorem prog_2 (st so dm ep : Int) (w : World) : Calls Try.prog 39 #[.agg #[.int .u8 2, .int .i64 st, .int .i64 so, .int .i64 dm, .int .i64 ep]] w fun e w' => e = .returned (.tuple #[.iface 86 (.agg #[.int .u8 2, .int .i64 st, .int .i64 so, .int .i64 dm, .int .i64 ep]), .bool true]) ∧ Below w.heap.size w w' := by
  have HB := Lib.hid ((Below.refl _ w).alloc (Nat.le_refl _) (.cells #[.int .u8 2, .int .i64 st, .int .i64 so, .int .i64 dm, .int .i64 ep] 23))
  go_enter Try.func39, Try.ntmps39
  go_wp2
  go_ret2
  exact ⟨rfl, HB.out⟩
theorem prog_3 (st so dm ep : Int) (w : World) : Calls Try.prog 39 #[.agg #[.int .u8 3, .int .i64 st, .int .i64 so, .int .i64 dm, .int .i64 ep]] w fun e w' => e = .returned (.tuple #[.iface 87 (.agg #[.int .u8 3, .int .i64 st, .int .i64 so, .int .i64 dm, .int .i64 ep]), .bool true]) ∧ Below w.heap.size w w' := by
  have HB := Lib.hid ((Below.refl _ w).alloc (Nat.le_refl _) (.cells #[.int .u8 3, .int .i64 st, .int .i64 so, .int .i64 dm, .int .i64 ep] 23))
  go_enter Try.func39, Try.ntmps39
  go_wp2
  go_ret2
  exact ⟨rfl, HB.out⟩
theorem look_combine_1 (st so dm ep : Int) (w : World) : (method 221 82 (.agg #[.int .u8 1, .int .i64 st, .int .i64 so, .int .i64 dm, .int .i64 ep]) "treadwheel/algos.combine").run Try.prog w = .ok (75, .agg #[.int .u8 1, .int .i64 st, .int .i64 so, .int .i64 dm, .int .i64 ep]) w := by kernel_rfl
theorem look_combine_2 (st so dm ep : Int) (w : World) : (method 221 86 (.agg #[.int .u8 2, .int .i64 st, .int .i64 so, .int .i64 dm, .int .i64 ep]) "treadwheel/algos.combine").run Try.prog w = .ok (85, .agg #[]) w := by kernel_rfl
theorem look_combine_3 (st so dm ep : Int) (w : World) : (method 221 87 (.agg #[.int .u8 3, .int .i64 st, .int .i64 so, .int .i64 dm, .int .i64 ep]) "treadwheel/algos.combine").run Try.prog w = .ok (85, .agg #[]) w := by kernel_rfl
theorem comb_ranks (k st so dm ep a b : Int) (w : World) : Calls Try.prog 75 #[.agg #[.int .u8 k, .int .i64 st, .int .i64 so, .int .i64 dm, .int .i64 ep], .int .i64 a, .int .i64 b] w fun e w' => e = .returned (.int .i64 (addI a b)) ∧ Below w.heap.size w w' := by
  have HB := Lib.hid ((Below.refl _ w).alloc (Nat.le_refl _) (.cells #[.int .u8 k, .int .i64 st, .int .i64 so, .int .i64 dm, .int .i64 ep] 82))
  go_enter Try.func75, Try.ntmps75
  go_wp2_with fail
  refine (Pa.add_of a b _).mono ?_
  rintro e w' ⟨rfl, rfl⟩
  go_wp2
  go_ret
  exact ⟨rfl, HB.out⟩
theorem comb_least (a b : Int) (w : World) : Calls Try.prog 85 #[.agg #[], .int .i64 a, .int .i64 b] w fun e w' => e = .returned (.int .i64 (min a b)) ∧ Below w.heap.size w w' := by
  have HB := Lib.hid ((Below.refl _ w).alloc (Nat.le_refl _) (.cells #[] 84))
  by_cases h : a < b
  · go_enter Try.func85, Try.ntmps85
    go_wp2
    all_goals (try (exfalso; omega))
    all_goals (go_ret; exact ⟨Fx.ret_int (by omega), HB.out⟩)
  · go_enter Try.func85, Try.ntmps85
    go_wp2
    all_goals (try (exfalso; omega))
    all_goals (go_ret; exact ⟨Fx.ret_int (by omega), HB.out⟩)
theorem grown_own {w w1 w2 : World} {B : Nat} {v : Value} {L : List Ms} (h : Below B w w1) (hB : B ≤ w1.heap.size) (ho : MOwn w1 B v L) (hg : w1.grownBy w2 v.ownBlock) : Below B w w2 :=
  Below.grown h hg hB fun j e => ho.lt j e
theorem msg_new (w : World) (x y : Int) : (w.alloc (.cells #[.int .i64 x, .int .i64 y] 29)).heap[w.heap.size]? = some (.cells #[.int .i64 x, .int .i64 y] 29 (0, 0)) := heap_alloc_new w _
theorem mat_new (W : World) (x y : Int) : MAt (W.alloc (.cells #[.int .i64 x, .int .i64 y] 29)) (some ⟨W.heap.size, 0, none⟩) [(x, y)] := by
  intro k e hk
  rcases k with _ | k
  · simp at hk; subst hk
    have h := msg_new W x y
    exact ⟨_, 0, rfl, by rw [Lib.cell_of_heap h]; rfl, by rw [Lib.cell_of_heap h]; rfl⟩
  · simp at hk
theorem step_m {ops : Array Oper} {o : Oper} {a : Act} {w : World} {K : Act → World → Prop} {Q : Exit → Act → World → Prop} {E : Prop} (hgd : o.guard = none) (s x : Operand)
    (ho : o.op = .call { callee := .builtin .append, args := #[s, x], argTypes := #[24, 24] }) (B : Nat) (v : Value) (M L : List Ms) (z : Nat) (hz : L.length = z) (hs : a.eval s = v) (hown : MOwn w B v M)
    (A : Option Addr) (c : Nat) (hx : a.eval x = .slice A z c) (hL : MAt w A L) (hn : M.length < 1000000000) (hB : B ≤ w.heap.size)
    (h : ∀ A' n' c' w', MOwn w' B (.slice A' n' c') (M ++ L) → w.grownBy w' v.ownBlock → K (a.put o.dst (.slice A' n' c')) w') (hzz : z ≤ 1000000000 := by decide) :
    if Region.wanted o (yielded ops a.tmps) = true then Oper.wp Try.prog o a w K Q else E := by
  subst hz
  have hw : Region.wanted o (yielded ops a.tmps) = true := by simp [Region.wanted, hgd]
  rw [if_pos hw]
  obtain ⟨i0, hi, hz0, hz1, hz2⟩ := info_parts infoM
  have ht : Try.prog.underlying 24 = some (.slice 29) := Try.underlying24
  obtain ⟨v', w', hr, h2, h3⟩ : ∃ v' w', (Builtin.append_ #[24, 24] o.type #[v, .slice A L.length c]).run Try.prog w = .ok v' w' ∧ MOwn w' B v' (M ++ L) ∧ w.grownBy w' v.ownBlock := by
    cases A with
    | some ad =>
      obtain ⟨v', w', hr, h2, h3, _⟩ := run_append_own (P := Try.prog) w B 24 o.type 29 i0 _ 2 16 ht hi hz0 hz1 hz2 rfl (by decide) v M.length (mcs M) hown ad L.length c (mcs L) (mcs_len L) (mat_cells hL ad rfl) (mcs_one L) (by unfold maxLen; omega) (by omega) hB
      refine ⟨v', w', hr, ?_, h3⟩
      unfold MOwn
      rw [mcs_append, List.length_append]
      exact h2
    | none =>
      obtain rfl := mat_none hL
      refine ⟨v, w, ?_, by rw [List.append_nil]; exact hown, ⟨rfl, rfl, rfl, Nat.le_refl _, fun _ _ _ => rfl⟩⟩
      rcases hown.2 with ⟨rfl, _⟩ | ⟨g, cap, cur, rfl, _, _, hnc, _⟩
      · simp [Builtin.append_, run_underlying ht, sizeOf, typeInfo, hi, Builtin.lenOf, Builtin.firstCells]
      · simp [Builtin.append_, run_underlying ht, sizeOf, typeInfo, hi, Builtin.lenOf, Builtin.firstCells, hnc, storeCells]
  obtain ⟨A', c', rfl, _⟩ := h2.room
  unfold Oper.wp execOp
  simp only [ho, resolve, invoke, builtin, Sem.run_bind, Sem.run_pure, Result.andThen_ok, List.map_toArray, List.map_cons, List.map_nil, hs, hx, hr]
  exact h _ _ _ _ h2 h3
theorem msg_cells {W : World} {b : Nat} {x y : Int} (h : W.heap[b]? = some (.cells #[.int .i64 x, .int .i64 y] 29 (0, 0))) : W.cell? ⟨b, 0, none⟩ = some (.int .i64 x) ∧ W.cell? ⟨b, 1, none⟩ = some (.int .i64 y) ∧ b < W.heap.size :=
  ⟨by rw [Lib.cell_of_heap h]; rfl, by rw [Lib.cell_of_heap h]; rfl, lt_of_block h⟩
theorem insM_mid (k t y : Int) (x : Ms) (hx : x.1 = t) (C : List Ms) : ∀ A : List Ms, (∀ z ∈ A, z.1 < t) → insM k (A ++ x :: C) (t, y) = A ++ (t, comb k x.2 y) :: C
  | [], _ => by show insM k (x :: C) (t, y) = _; unfold insM; rw [if_neg (by show ¬ x.1 < t; omega), if_pos hx]; rfl
  | a :: A, h => by
    show insM k (a :: (A ++ x :: C)) (t, y) = _
    rw [insM, if_pos (h a List.mem_cons_self), insM_mid k t y x hx C A (fun z hz => h z (List.mem_cons_of_mem _ hz))]; rfl
theorem insM_gap (k t y : Int) (C : List Ms) (hC : ∀ x, C[0]? = some x → t < x.1) : ∀ A : List Ms, (∀ z ∈ A, z.1 < t) → insM k (A ++ C) (t, y) = A ++ (t, y) :: C
  | [], _ => by
    cases C with
    | nil => rfl
    | cons x C =>
      have := hC x rfl
      show insM k (x :: C) (t, y) = _; unfold insM; rw [if_neg (by show ¬ x.1 < t; omega), if_neg (by show ¬ x.1 = t; omega)]; rfl
  | a :: A, h => by
    show insM k (a :: (A ++ C)) (t, y) = _
    rw [insM, if_pos (h a List.mem_cons_self), insM_gap k t y C hC A (fun z hz => h z (List.mem_cons_of_mem _ hz))]; rfl
def Low (l : List Ms) (t : Int) (q : Nat) : Prop := ∀ (j : Nat) (x : Ms), j < q → l[j]? = some x → x.1 < t
theorem Low.mem {l : List Ms} {t : Int} {q : Nat} (h : Low l t q) : ∀ z ∈ l.take q, z.1 < t := by
  intro z hz
  obtain ⟨j, hj⟩ := List.getElem?_of_mem hz
  rw [List.getElem?_take] at hj
  split at hj
  · rename_i hlt; exact h j z hlt hj
  · cases hj
theorem low_eq {k t y : Int} {l : List Ms} {q : Nat} {x : Ms} (h : Low l t q) (hx : l[q]? = some x) (e : x.1 = t) : insM k l (t, y) = l.take q ++ (t, comb k x.2 y) :: l.drop (q + 1) := by
  have := insM_mid k t y x e (l.drop (q + 1)) (l.take q) h.mem
  rw [← drop_at hx, List.take_append_drop] at this
  exact this
theorem low_gap {k t y : Int} {l : List Ms} {q : Nat} (h : Low l t q) (hx : ∀ x, l[q]? = some x → t < x.1) : insM k l (t, y) = l.take q ++ (t, y) :: l.drop q := by
  have := insM_gap k t y (l.drop q) (fun x h => by rw [List.getElem?_drop, Nat.add_zero] at h; exact hx x h) (l.take q) h.mem
  rw [List.take_append_drop] at this
  exact this
theorem Low.step {l : List Ms} {t : Int} {q : Nat} {x : Ms} (h : Low l t q) (hx : l[q]? = some x) (e : x.1 < t) : Low l t (q + 1) := by
  intro j z hj hz
  by_cases he : j = q
  · subst he; rw [hx] at hz; cases hz; exact e
  · exact h j z (by omega) hz
set_option maxRecDepth 100000 in
theorem rcomb_x (k st so dm ep a b : Int) (w : World) : Calls Try.prog 32 #[.agg #[.int .u8 k, .int .i64 st, .int .i64 so, .int .i64 dm, .int .i64 ep], .int .i64 a, .int .i64 b] w fun e w' => e = .returned (.int .i64 (comb k a b)) ∧ w' = w.alloc (.cells #[.int .u8 k, .int .i64 st, .int .i64 so, .int .i64 dm, .int .i64 ep] 23) := by
  obtain ⟨r, hr⟩ : ∃ r, comb k a b = r := ⟨_, rfl⟩
  rw [hr]
  by_cases h1 : k = 1
  · subst h1
    have HR : Hid (addI a b = r) := Lib.hid hr
    clear hr
    go_enter Try.func32, Try.ntmps32
    go_wp2_with fail
    refine (Pa.radd_of a b _).mono ?_
    rintro e w' ⟨rfl, rfl⟩
    go_wp2
    go_ret
    exact ⟨Fx.ret_int HR.out, rfl⟩
  have b1 : (k == 1) = false := by simp [h1]
  by_cases h2 : k = 2
  · subst h2
    have HR : Hid (min a b = r) := Lib.hid hr
    clear hr
    by_cases hab : a < b
    · go_enter Try.func32, Try.ntmps32
      go_wp2
      all_goals (try (exfalso; omega))
      all_goals (go_ret; exact ⟨Fx.ret_int (by have := HR.out; omega), rfl⟩)
    · go_enter Try.func32, Try.ntmps32
      go_wp2
      all_goals (try (exfalso; omega))
      all_goals (go_ret; exact ⟨Fx.ret_int (by have := HR.out; omega), rfl⟩)
  have b2 : (k == 2) = false := by simp [h2]
  by_cases h3 : k = 3
  · subst h3
    have HR : Hid (min a b = r) := Lib.hid hr
    clear hr
    by_cases hab : a < b
    · go_enter Try.func32, Try.ntmps32
      go_wp2
      all_goals (try (exfalso; omega))
      all_goals (go_ret; exact ⟨Fx.ret_int (by have := HR.out; omega), rfl⟩)
    · go_enter Try.func32, Try.ntmps32
      go_wp2
      all_goals (try (exfalso; omega))
      all_goals (go_ret; exact ⟨Fx.ret_int (by have := HR.out; omega), rfl⟩)
  have b3 : (k == 3) = false := by simp [h3]
  have e0 : r = 0 := by rw [← hr]; unfold comb; rw [if_neg h1, if_neg (by omega)]
  subst e0
  clear hr
  go_enter Try.func32, Try.ntmps32
  go_wp2
  go_ret
  exact ⟨rfl, rfl⟩
theorem job_cells {W : World} {b : Nat} {k st so dm ep : Int} (h : W.heap[b]? = some (.cells #[.int .u8 k, .int .i64 st, .int .i64 so, .int .i64 dm, .int .i64 ep] 23 (0, 0))) : W.cell? ⟨b, 0, none⟩ = some (.int .u8 k) ∧ W.cell? ⟨b, 1, none⟩ = some (.int .i64 st) ∧ W.cell? ⟨b, 2, none⟩ = some (.int .i64 so) ∧ W.cell? ⟨b, 3, none⟩ = some (.int .i64 dm) ∧ W.cell? ⟨b, 4, none⟩ = some (.int .i64 ep) ∧ b < W.heap.size :=
  ⟨by rw [Lib.cell_of_heap h]; rfl, by rw [Lib.cell_of_heap h]; rfl, by rw [Lib.cell_of_heap h]; rfl, by rw [Lib.cell_of_heap h]; rfl, by rw [Lib.cell_of_heap h]; rfl, lt_of_block h⟩
theorem rcomb_y (k st so dm ep a b y : Int) (hy : Hid (comb k a b = y)) (w : World) : Calls Try.prog 32 #[.agg #[.int .u8 k, .int .i64 st, .int .i64 so, .int .i64 dm, .int .i64 ep], .int .i64 a, .int .i64 b] w fun e w' => e = .returned (.int .i64 y) ∧ w' = w.alloc (.cells #[.int .u8 k, .int .i64 st, .int .i64 so, .int .i64 dm, .int .i64 ep] 23) := by
  rw [← hy.out]; exact rcomb_x k st so dm ep a b w
def AdRel (w : World) (l : List Ms) (t : Int) (n : Nat) (gk : Nat) (i : Value) (wr : World) : Prop :=
  ∃ q : Nat, q + gk = n ∧ i = .int .i64 (q : Int) ∧ Hid (Low l t q) ∧ Hid (Below w.heap.size w wr)
set_option maxRecDepth 100000 in
set_option maxHeartbeats 4000000 in
theorem radd_any (k st so dm ep : Int) (v : Value) (l : List Ms) (B : Nat) (t y : Int) (w : World) (h : MOwn w B v l) (hB : B ≤ w.heap.size) (hlen : l.length < 1000000) :
    Calls Try.prog 22 #[.agg #[.int .u8 k, .int .i64 st, .int .i64 so, .int .i64 dm, .int .i64 ep], v, .agg #[.int .i64 t, .int .i64 y]] w fun e w' => ∃ r, e = .returned r ∧ Hid (MOwn w' B r (insM k l (t, y))) ∧ Hid (Below w.heap.size w w') := by
  have mixed := mixedO
  obtain ⟨A, c, rfl, hat, hc, hcm, hA⟩ := h.room
  have hcm2 : c ≤ 9223372036854775807 := by unfold maxLen at hcm; omega
  obtain ⟨W1, hW1⟩ : ∃ W1, W1 = (w.alloc (.cells #[.int .u8 k, .int .i64 st, .int .i64 so, .int .i64 dm, .int .i64 ep] 23)).alloc (.cells #[.int .i64 t, .int .i64 y] 29) := ⟨_, rfl⟩
  have hb0 : Below w.heap.size w (w.alloc (.cells #[.int .u8 k, .int .i64 st, .int .i64 so, .int .i64 dm, .int .i64 ep] 23)) := (Below.refl _ w).alloc (Nat.le_refl _) _
  have hb1 : Below w.heap.size w W1 := by rw [hW1]; exact hb0.alloc hb0.size _
  have hX1 : W1.heap[w.heap.size]? = some (.cells #[.int .u8 k, .int .i64 st, .int .i64 so, .int .i64 dm, .int .i64 ep] 23 (0, 0)) := by
    rw [hW1]
    have e1 : (w.alloc (.cells #[.int .u8 k, .int .i64 st, .int .i64 so, .int .i64 dm, .int .i64 ep] 23)).heap[w.heap.size]? = some (.cells #[.int .u8 k, .int .i64 st, .int .i64 so, .int .i64 dm, .int .i64 ep] 23 (0, 0)) := heap_alloc_new w _
    exact ((((Below.refl _ (w.alloc (.cells #[.int .u8 k, .int .i64 st, .int .i64 so, .int .i64 dm, .int .i64 ep] 23))).alloc (Nat.le_refl _) (.cells #[.int .i64 t, .int .i64 y] 29))).block _ (lt_of_block e1)).trans e1
  have hY1 : W1.heap[w.heap.size + 1]? = some (.cells #[.int .i64 t, .int .i64 y] 29 (0, 0)) := by
    rw [hW1]
    have := msg_new (w.alloc (.cells #[.int .u8 k, .int .i64 st, .int .i64 so, .int .i64 dm, .int .i64 ep] 23)) t y
    rw [show (w.alloc (.cells #[.int .u8 k, .int .i64 st, .int .i64 so, .int .i64 dm, .int .i64 ep] 23)).heap.size = w.heap.size + 1 by simp] at this
    exact this
  obtain ⟨bj, hbj⟩ : ∃ bj, bj = w.heap.size := ⟨_, rfl⟩
  obtain ⟨bm, hbm⟩ : ∃ bm, bm = w.heap.size + 1 := ⟨_, rfl⟩
  rw [← hbj] at hX1
  rw [← hbm] at hY1
  have HB1 := Lib.hid hb1; have HX1 := Lib.hid hX1; have HY1 := Lib.hid hY1
  have HAt := Lib.hid (hat.below hb1); have HA := Lib.hid hA; have HAw := Lib.hid hat
  obtain ⟨n, hn⟩ : ∃ n, n = l.length := ⟨_, rfl⟩
  rw [← hn] at hc hlen ⊢
  have HN := Lib.hid hn
  have HO := Lib.hid (h.mono (Nat.le_refl B))
  clear hb0 hb1 hX1 hY1 hat hA hcm h hn
  go_enter Try.func22, Try.ntmps22
  go_upto_region 1 with fail
  rw [← hW1]
  rw [show w.heap.size + 1 = bm from hbm.symm]
  rw [show w.heap.size = bj from hbj.symm]
  have HBJ := Lib.hid hbj; have HBM := Lib.hid hbm
  clear hW1 hbj hbm
  go_wp2_with fail
  go_loopg [7] n (fun gk i wr => AdRel W1 l t n gk i wr)
  case atStart => exact ⟨0, by omega, rfl, Lib.hid (fun j x hj => absurd hj (Nat.not_lt_zero j)), Lib.hid (Below.refl _ _)⟩
  case round =>
    obtain ⟨q, hq, rfl, HLo, HBq⟩ := hrel
    have HXr : Hid (wr.heap[bj]? = some (.cells #[.int .u8 k, .int .i64 st, .int .i64 so, .int .i64 dm, .int .i64 ep] 23 (0, 0))) := Lib.hid ((HBq.out.block _ (lt_of_block HX1.out)).trans HX1.out)
    have HYr : Hid (wr.heap[bm]? = some (.cells #[.int .i64 t, .int .i64 y] 29 (0, 0))) := Lib.hid ((HBq.out.block _ (lt_of_block HY1.out)).trans HY1.out)
    have HBr : Hid (Below w.heap.size w wr) := Lib.hid (step_below HB1.out HB1.out.size HBq.out)
    have HAr : Hid (MAt wr A l) := Lib.hid (HAt.out.below HBq.out)
    obtain ⟨p0, p1, p2⟩ := msg_cells HYr.out
    have hlk : (l.take q).length = q := by rw [List.length_take, ← HN.out]; omega
    have HLK := Lib.hid hlk
    clear hlk
    have HS1 : Hid (([] : List Ms).length + q < 1000000000) := Lib.hid (by show 0 + q < _; omega)
    by_cases hlt : q < n
    · obtain ⟨⟨z1, z2⟩, hz⟩ := at_lt l q (by rw [← HN.out]; exact hlt)
      obtain ⟨bk, o, hA0, c0, c1⟩ := HAr.out q _ hz
      obtain ⟨g, hg⟩ : ∃ g, A = some ⟨g, 0, none⟩ := by
        rcases HA.out with ⟨h, _⟩ | ⟨g', h, _⟩
        · rw [h] at hA0; cases hA0
        · exact ⟨g', h⟩
      subst hg
      cases hA0
      rw [Nat.zero_add] at c0 c1
      have HZ := Lib.hid hz
      clear hz
      by_cases hzt : z1 < t
      · have HL2 := Lib.hid (HLo.out.step HZ.out hzt)
        clear c1 p1
        go_wp2_with fail
        go_big_region
        go_wp2
        go_roundg (gk - 1)
        case measure => omega
        case rel => exact ⟨q + 1, by omega, by go_num, HL2, Lib.hid HBq.out.drew⟩
      · have hat1 := HAr.out.take q
        have hqc : q < c := by omega
        by_cases hze : z1 = t
        · have HI := Lib.hid (low_eq (k := k) (y := y) HLo.out HZ.out hze)
          subst hze
          obtain ⟨yy, hyy⟩ : ∃ yy, comb k z2 y = yy := ⟨_, rfl⟩
          have HYY := Lib.hid hyy
          rw [show comb k (z1, z2).2 y = yy from hyy] at HI
          clear hyy
          have HBd : Hid (Below w.heap.size w wr.drew) := Lib.hid HBr.out.drew
          have hatd : MAt wr.drew (some ⟨bk, 0, none⟩) (l.take q) := hat1
          go_wp2_with fail
          go_big_region
          go_wp2_with (at_builtin; refine app_mrest rfl (.tmp 25) (.tmp 28) rfl w.heap.size _ [] (l.take q) rfl (MOwn.none_ _ _) _ _ _ rfl hatd HLK.out HS1.out HBd.out.size ?_)
          intro v3 w3 ho3 hg3
          have hb3 : Below w.heap.size w w3 := grown_own HBd.out HBd.out.size (MOwn.none_ _ w.heap.size) hg3
          have hb3' : Below wr.heap.size wr w3 := Below.grown (Below.refl _ wr).drew hg3 (Nat.le_refl _) (fun j e => by cases e)
          obtain ⟨A3, c3, hv3, _⟩ := ho3.room
          have hv4 := hv3.trans (congrArg (fun z => Value.slice A3 z c3) (show (l.take q).length = q from HLK.out))
          subst hv4
          clear hv3
          have HO3 : Hid (MOwn w3 w.heap.size (.slice A3 q c3) (l.take q)) := Lib.hid ho3
          have hx3 := (hb3'.block _ (lt_of_block HXr.out)).trans HXr.out
          have HY3 : Hid (w3.heap[bm]? = some (.cells #[.int .i64 z1, .int .i64 y] 29 (0, 0))) := Lib.hid ((hb3'.block _ (lt_of_block HYr.out)).trans HYr.out)
          have HA3 : Hid (MAt w3 (some ⟨bk, 0, none⟩) l) := Lib.hid (HAr.out.below hb3')
          have HB3 := Lib.hid hb3
          have HX3 := Lib.hid hx3
          clear ho3 hg3 hb3 hb3' hx3 p0 p1 p2
          obtain ⟨p0, p1, p2⟩ := msg_cells HY3.out
          obtain ⟨_, _, e0, c0, c1⟩ := HA3.out q _ HZ.out
          cases e0
          rw [Nat.zero_add] at c0 c1
          go_wp2_with fail
          go_big_region
          obtain ⟨W4, hW4⟩ : ∃ W4, W4 = w3.drew := ⟨_, rfl⟩
          rw [show W4 = w3.drew from hW4] at *
          clear hW4 W4
          have q0 : (w3.drew.drew.alloc (.cells #[.int .u8 k, .int .i64 st, .int .i64 so, .int .i64 dm, .int .i64 ep] 23)).cell? ⟨bm, 0, none⟩ = some (.int .i64 z1) := by
            have hb := (((Below.refl _ w3).drew).drew).alloc (Nat.le_refl _) (.cells #[.int .u8 k, .int .i64 st, .int .i64 so, .int .i64 dm, .int .i64 ep] 23)
            exact (hb.cell (p := ⟨bm, 0, none⟩) p2).trans p0
          obtain ⟨j0, j1, j2, j3, j4, _⟩ := job_cells HX3.out
          have hb4 : Below w.heap.size w (w3.drew.drew.alloc (.cells #[.int .u8 k, .int .i64 st, .int .i64 so, .int .i64 dm, .int .i64 ep] 23)) := (((HB3.out.drew).drew).alloc HB3.out.size _)
          have HO4 : Hid (MOwn ((w3.drew.drew.alloc (.cells #[.int .u8 k, .int .i64 st, .int .i64 so, .int .i64 dm, .int .i64 ep] 23)).alloc (.cells #[.int .i64 z1, .int .i64 yy] 29)) w.heap.size (.slice A3 q c3) (l.take q)) := Lib.hid ((HO3.out.alloc _).alloc _)
          have HN4 := Lib.hid (mat_new (w3.drew.drew.alloc (.cells #[.int .u8 k, .int .i64 st, .int .i64 so, .int .i64 dm, .int .i64 ep] 23)) z1 yy)
          have HB4 := Lib.hid (hb4.alloc hb4.size (.cells #[.int .i64 z1, .int .i64 yy] 29))
          have HLN : Hid ((l.take q).length < 1000000000) := Lib.hid (by rw [HLK.out]; omega)
          clear hb4
          go_wp2_with fail
          go_region_law (first | (refine step_m rfl (.tmp 44) (.tmp 57) rfl w.heap.size _ (l.take q) [(z1, yy)] 1 rfl (by simp [Act.eval]) HO4.out _ 1 (by simp [Act.eval]) HN4.out HLN.out HB4.out.size ?_; intro A6 n6 c6 w6 ho6 hg6; have HB6 := Lib.hid (grown_own HB4.out HB4.out.size HO4.out hg6); have HO6 := Lib.hid ho6; clear ho6 hg6) | (go_simp; go_at_call 32; refine (rcomb_y k st so dm ep z2 y yy HYY _).mono ?_; rintro _ _ ⟨rfl, rfl⟩))
          all_goals
            clear q0 p0 p1 p2 j0 j1 j2 j3 j4 c0 c1
            have hld : (l.drop (q + 1)).length = n - (q + 1) := by rw [List.length_drop, ← HN.out]
            have hs3 : (l.take q ++ [(z1, yy)]).length + (n - (q + 1)) < 1000000000 := by rw [List.length_append, HLK.out]; simp; omega
            have HLD := Lib.hid hld; have HS3 := Lib.hid hs3
            clear hld hs3
            by_cases hqc1 : q + 1 < c
            · have hat6 := (HAw.out.below HB6.out).drop (q + 1)
              rw [Nat.zero_add] at hat6
              go_wp2_with (at_builtin; refine app_mrest rfl (.tmp 59) (.tmp 63) rfl w.heap.size _ (l.take q ++ [(z1, yy)]) (l.drop (q + 1)) rfl HO6.out _ _ _ rfl hat6 HLD.out HS3.out HB6.out.size ?_)
              intro v7 w7 ho7 hg7
              have HB7 := Lib.hid (grown_own HB6.out HB6.out.size HO6.out hg7)
              have HO7 : Hid (MOwn w7 B v7 (l.take q ++ (z1, yy) :: l.drop (q + 1))) := Lib.hid (by have h := MOwn.mono ho7 hB; simpa using h)
              clear ho7 hg7 hat6
              go_wp2
              go_ret
              exact ⟨_, rfl, by rw [HI.out]; exact HO7, HB7⟩
            · have HE : Hid (l.drop (q + 1) = []) := Lib.hid (List.drop_eq_nil_of_le (by rw [← HN.out]; omega))
              have hc1 : q + 1 = c := by omega
              have hn1 : n = q + 1 := by omega
              subst hc1
              have hat6 := MAt.nil w6 (some ⟨bk, 0, none⟩)
              have hs4 : (l.take q ++ [(z1, yy)]).length + 0 < 1000000000 := by have := HS3.out; omega
              have HS4 := Lib.hid hs4
              clear hs4
              subst hn1
              go_wp2_with (at_builtin; refine app_mrest rfl (.tmp 59) (.tmp 63) rfl w.heap.size _ (l.take q ++ [(z1, yy)]) [] rfl HO6.out _ _ _ rfl hat6 rfl HS4.out HB6.out.size ?_)
              intro v7 w7 ho7 hg7
              have HB7 := Lib.hid (grown_own HB6.out HB6.out.size HO6.out hg7)
              have HO7 : Hid (MOwn w7 B v7 (l.take q ++ (z1, yy) :: l.drop (q + 1))) := Lib.hid (by have h := MOwn.mono ho7 hB; rw [HE.out]; simpa using h)
              clear ho7 hg7 hat6
              go_wp2
              go_ret
              exact ⟨_, rfl, by rw [HI.out]; exact HO7, HB7⟩
        · have HI := Lib.hid (low_gap (k := k) (y := y) HLo.out (fun x hx => by rw [HZ.out] at hx; cases hx; show t < z1; omega))
          have HBd : Hid (Below w.heap.size w wr.drew) := Lib.hid HBr.out.drew
          have hatd : MAt wr.drew (some ⟨bk, 0, none⟩) (l.take q) := hat1
          clear c1
          go_wp2_with fail
          go_big_region
          go_wp2_with (at_builtin; refine app_mrest rfl (.tmp 25) (.tmp 28) rfl w.heap.size _ [] (l.take q) rfl (MOwn.none_ _ _) _ _ _ rfl hatd HLK.out HS1.out HBd.out.size ?_)
          intro v3 w3 ho3 hg3
          have hb3 : Below w.heap.size w w3 := grown_own HBd.out HBd.out.size (MOwn.none_ _ w.heap.size) hg3
          have hb3' : Below wr.heap.size wr w3 := Below.grown (Below.refl _ wr).drew hg3 (Nat.le_refl _) (fun j e => by cases e)
          obtain ⟨A3, c3, hv3, _⟩ := ho3.room
          have hv4 := hv3.trans (congrArg (fun z => Value.slice A3 z c3) (show (l.take q).length = q from HLK.out))
          subst hv4
          clear hv3
          have HO3 : Hid (MOwn w3 w.heap.size (.slice A3 q c3) (l.take q)) := Lib.hid ho3
          have hx3 := (hb3'.block _ (lt_of_block HXr.out)).trans HXr.out
          have HY3 : Hid (w3.heap[bm]? = some (.cells #[.int .i64 t, .int .i64 y] 29 (0, 0))) := Lib.hid ((hb3'.block _ (lt_of_block HYr.out)).trans HYr.out)
          have HA3 : Hid (MAt w3 (some ⟨bk, 0, none⟩) l) := Lib.hid (HAr.out.below hb3')
          have HB3 := Lib.hid hb3
          have HX3 := Lib.hid hx3
          clear ho3 hg3 hb3 hb3' hx3 p0 p1 p2
          obtain ⟨p0, p1, p2⟩ := msg_cells HY3.out
          obtain ⟨_, _, e0, c0, c1⟩ := HA3.out q _ HZ.out
          cases e0
          rw [Nat.zero_add] at c0 c1
          clear c1
          have HO4 : Hid (MOwn (w3.alloc (.cells #[.int .i64 t, .int .i64 y] 29)).drew w.heap.size (.slice A3 q c3) (l.take q)) := Lib.hid (HO3.out.alloc _)
          have HN4 : Hid ((w3.alloc (.cells #[.int .i64 t, .int .i64 y] 29)).drew.heap[w3.heap.size]? = some (.cells #[.int .i64 t, .int .i64 y] 29 (0, 0))) := Lib.hid (msg_new w3 t y)
          have HB4 : Hid (Below w.heap.size w (w3.alloc (.cells #[.int .i64 t, .int .i64 y] 29)).drew) := Lib.hid (HB3.out.alloc HB3.out.size _).drew
          have HLN : Hid ((l.take q).length < 1000000000) := Lib.hid (by rw [HLK.out]; omega)
          go_wp2_with fail
          go_big_region
          go_wp2_with (at_builtin; refine app_m rfl (.tmp 65) (.tmp 67) rfl w.heap.size _ (l.take q) t y rfl HO4.out _ rfl HN4.out HLN.out HB4.out.size ?_)
          intro v5 w5 ho5 hg5
          have HB5 := Lib.hid (grown_own HB4.out HB4.out.size HO4.out hg5)
          have HO5 : Hid (MOwn w5 w.heap.size v5 (l.take q ++ [(t, y)])) := Lib.hid ho5
          clear ho5 hg5
          have hld : (l.drop q).length = n - q := by rw [List.length_drop, ← HN.out]
          have hs3 : (l.take q ++ [(t, y)]).length + (n - q) < 1000000000 := by rw [List.length_append, HLK.out]; simp; omega
          have HLD := Lib.hid hld; have HS3 := Lib.hid hs3
          clear hld hs3 c0
          have hat6 := (by have h := (HAw.out.below HB5.out).drop q; rw [Nat.zero_add] at h; exact h : MAt w5 (some ⟨bk, q * 2, none⟩) (l.drop q))
          go_wp2_with (at_builtin; refine app_mrest rfl (.tmp 69) (.tmp 72) rfl w.heap.size _ (l.take q ++ [(t, y)]) (l.drop q) rfl HO5.out _ _ _ rfl hat6 HLD.out HS3.out HB5.out.size ?_)
          intro v7 w7 ho7 hg7
          have HB7 := Lib.hid (grown_own HB5.out HB5.out.size HO5.out hg7)
          have HO7 : Hid (MOwn w7 B v7 (insM k l (t, y))) := Lib.hid (by have h := MOwn.mono ho7 hB; rw [HI.out]; simpa using h)
          clear ho7 hg7 hat6
          go_wp2
          go_ret
          exact ⟨_, rfl, HO7, HB7⟩
    · have hqn : q = n := by omega
      have HI0 := low_gap (k := k) (y := y) HLo.out (fun x hx => by have := lt_at hx; rw [← HN.out] at this; omega)
      rw [hqn, HN.out, List.take_length, List.drop_length] at HI0
      have HI : Hid (insM k l (t, y) = l ++ [(t, y)]) := Lib.hid HI0
      have HLL : Hid (l.length = q) := Lib.hid (by rw [← HN.out, hqn])
      have HBd : Hid (Below w.heap.size w wr.drew) := Lib.hid HBr.out.drew
      clear HI0 hq hlt
      subst hqn
      rcases HA.out with ⟨rfl, rfl⟩ | ⟨g, rfl, _⟩
      · have hq0 : q = 0 := by omega
        subst hq0
        have hl0 : l = [] := List.eq_nil_of_length_eq_zero HLL.out
        subst hl0
        go_wp2_with fail
        go_big_region
        go_wp2_with (at_builtin; refine app_mrest rfl (.tmp 25) (.tmp 28) rfl w.heap.size _ [] (([] : List Ms)) rfl (MOwn.none_ _ _) _ _ _ rfl (MAt.nil wr.drew none) (show ([] : List Ms).length = 0 from rfl) HS1.out HBd.out.size ?_)
        intro v3 w3 ho3 hg3
        have hb3 : Below w.heap.size w w3 := grown_own HBd.out HBd.out.size (MOwn.none_ _ w.heap.size) hg3
        have hb3' : Below wr.heap.size wr w3 := Below.grown (Below.refl _ wr).drew hg3 (Nat.le_refl _) (fun j e => by cases e)
        obtain ⟨A3, c3, hv3, _⟩ := ho3.room
        have hv4 := hv3.trans (congrArg (fun z => Value.slice A3 z c3) (show (([] : List Ms)).length = 0 from (show ([] : List Ms).length = 0 from rfl)))
        subst hv4
        clear hv3
        have HO3 : Hid (MOwn w3 w.heap.size (.slice A3 0 c3) (([] : List Ms))) := Lib.hid ho3
        have hx3 := (hb3'.block _ (lt_of_block HXr.out)).trans HXr.out
        have HY3 : Hid (w3.heap[bm]? = some (.cells #[.int .i64 t, .int .i64 y] 29 (0, 0))) := Lib.hid ((hb3'.block _ (lt_of_block HYr.out)).trans HYr.out)
        have HA3 : Hid (MAt w3 none ([] : List Ms)) := Lib.hid (HAr.out.below hb3')
        have HB3 := Lib.hid hb3
        have HX3 := Lib.hid hx3
        clear ho3 hg3 hb3 hb3' hx3 p0 p1 p2
        obtain ⟨p0, p1, p2⟩ := msg_cells HY3.out
        have HO4 : Hid (MOwn (w3.alloc (.cells #[.int .i64 t, .int .i64 y] 29)).drew w.heap.size (.slice A3 0 c3) (([] : List Ms))) := Lib.hid (HO3.out.alloc _)
        have HN4 : Hid ((w3.alloc (.cells #[.int .i64 t, .int .i64 y] 29)).drew.heap[w3.heap.size]? = some (.cells #[.int .i64 t, .int .i64 y] 29 (0, 0))) := Lib.hid (msg_new w3 t y)
        have HB4 : Hid (Below w.heap.size w (w3.alloc (.cells #[.int .i64 t, .int .i64 y] 29)).drew) := Lib.hid (HB3.out.alloc HB3.out.size _).drew
        have HLN : Hid ((([] : List Ms)).length < 1000000000) := Lib.hid (by rw [(show ([] : List Ms).length = 0 from rfl)]; omega)
        go_wp2_with fail
        go_big_region
        go_wp2_with (at_builtin; refine app_m rfl (.tmp 65) (.tmp 67) rfl w.heap.size _ (([] : List Ms)) t y rfl HO4.out _ rfl HN4.out HLN.out HB4.out.size ?_)
        intro v5 w5 ho5 hg5
        have HB5 := Lib.hid (grown_own HB4.out HB4.out.size HO4.out hg5)
        have HO5 : Hid (MOwn w5 w.heap.size v5 (([] : List Ms) ++ [(t, y)])) := Lib.hid ho5
        clear ho5 hg5
        have HS3 : Hid ((([] : List Ms) ++ [(t, y)]).length + 0 < 1000000000) := Lib.hid (by simp)
        have hat6 := MAt.nil w5 none
        go_wp2_with (at_builtin; refine app_mrest rfl (.tmp 69) (.tmp 72) rfl w.heap.size _ (([] : List Ms) ++ [(t, y)]) [] rfl HO5.out _ _ _ rfl hat6 rfl HS3.out HB5.out.size ?_)
        intro v7 w7 ho7 hg7
        have HB7 := Lib.hid (grown_own HB5.out HB5.out.size HO5.out hg7)
        have HO7 : Hid (MOwn w7 B v7 (insM k ([] : List Ms) (t, y))) := Lib.hid (by have h := MOwn.mono ho7 hB; rw [HI.out]; simpa using h)
        clear ho7 hg7 hat6
        go_wp2
        go_ret
        exact ⟨_, rfl, HO7, HB7⟩
      · have hatd : MAt wr.drew (some ⟨g, 0, none⟩) l := HAr.out
        by_cases hqc : q < c
        · go_wp2_with fail
          go_big_region
          go_wp2_with (at_builtin; refine app_mrest rfl (.tmp 25) (.tmp 28) rfl w.heap.size _ [] (l) rfl (MOwn.none_ _ _) _ _ _ rfl hatd HLL.out HS1.out HBd.out.size ?_)
          intro v3 w3 ho3 hg3
          have hb3 : Below w.heap.size w w3 := grown_own HBd.out HBd.out.size (MOwn.none_ _ w.heap.size) hg3
          have hb3' : Below wr.heap.size wr w3 := Below.grown (Below.refl _ wr).drew hg3 (Nat.le_refl _) (fun j e => by cases e)
          obtain ⟨A3, c3, hv3, _⟩ := ho3.room
          have hv4 := hv3.trans (congrArg (fun z => Value.slice A3 z c3) (show (l).length = q from HLL.out))
          subst hv4
          clear hv3
          have HO3 : Hid (MOwn w3 w.heap.size (.slice A3 q c3) (l)) := Lib.hid ho3
          have hx3 := (hb3'.block _ (lt_of_block HXr.out)).trans HXr.out
          have HY3 : Hid (w3.heap[bm]? = some (.cells #[.int .i64 t, .int .i64 y] 29 (0, 0))) := Lib.hid ((hb3'.block _ (lt_of_block HYr.out)).trans HYr.out)
          have HA3 : Hid (MAt w3 (some ⟨g, 0, none⟩) l) := Lib.hid (HAr.out.below hb3')
          have HB3 := Lib.hid hb3
          have HX3 := Lib.hid hx3
          clear ho3 hg3 hb3 hb3' hx3 p0 p1 p2
          obtain ⟨p0, p1, p2⟩ := msg_cells HY3.out
          have HO4 : Hid (MOwn (w3.alloc (.cells #[.int .i64 t, .int .i64 y] 29)).drew w.heap.size (.slice A3 q c3) (l)) := Lib.hid (HO3.out.alloc _)
          have HN4 : Hid ((w3.alloc (.cells #[.int .i64 t, .int .i64 y] 29)).drew.heap[w3.heap.size]? = some (.cells #[.int .i64 t, .int .i64 y] 29 (0, 0))) := Lib.hid (msg_new w3 t y)
          have HB4 : Hid (Below w.heap.size w (w3.alloc (.cells #[.int .i64 t, .int .i64 y] 29)).drew) := Lib.hid (HB3.out.alloc HB3.out.size _).drew
          have HLN : Hid ((l).length < 1000000000) := Lib.hid (by rw [HLL.out]; omega)
          go_wp2_with fail
          go_big_region
          go_wp2_with (at_builtin; refine app_m rfl (.tmp 65) (.tmp 67) rfl w.heap.size _ (l) t y rfl HO4.out _ rfl HN4.out HLN.out HB4.out.size ?_)
          intro v5 w5 ho5 hg5
          have HB5 := Lib.hid (grown_own HB4.out HB4.out.size HO4.out hg5)
          have HO5 : Hid (MOwn w5 w.heap.size v5 (l ++ [(t, y)])) := Lib.hid ho5
          clear ho5 hg5
          have HS3 : Hid ((l ++ [(t, y)]).length + 0 < 1000000000) := Lib.hid (by rw [List.length_append, HLL.out]; simp; omega)
          have hat6 := MAt.nil w5 (some ⟨g, q * 2, none⟩)
          go_wp2_with (at_builtin; refine app_mrest rfl (.tmp 69) (.tmp 72) rfl w.heap.size _ (l ++ [(t, y)]) [] rfl HO5.out _ _ _ rfl hat6 rfl HS3.out HB5.out.size ?_)
          intro v7 w7 ho7 hg7
          have HB7 := Lib.hid (grown_own HB5.out HB5.out.size HO5.out hg7)
          have HO7 : Hid (MOwn w7 B v7 (insM k l (t, y))) := Lib.hid (by have h := MOwn.mono ho7 hB; rw [HI.out]; simpa using h)
          clear ho7 hg7 hat6
          go_wp2
          go_ret
          exact ⟨_, rfl, HO7, HB7⟩
        · have hqc2 : q = c := by omega
          subst hqc2
          go_wp2_with fail
          go_big_region
          go_wp2_with (at_builtin; refine app_mrest rfl (.tmp 25) (.tmp 28) rfl w.heap.size _ [] (l) rfl (MOwn.none_ _ _) _ _ _ rfl hatd HLL.out HS1.out HBd.out.size ?_)
          intro v3 w3 ho3 hg3
          have hb3 : Below w.heap.size w w3 := grown_own HBd.out HBd.out.size (MOwn.none_ _ w.heap.size) hg3
          have hb3' : Below wr.heap.size wr w3 := Below.grown (Below.refl _ wr).drew hg3 (Nat.le_refl _) (fun j e => by cases e)
          obtain ⟨A3, c3, hv3, _⟩ := ho3.room
          have hv4 := hv3.trans (congrArg (fun z => Value.slice A3 z c3) (show (l).length = q from HLL.out))
          subst hv4
          clear hv3
          have HO3 : Hid (MOwn w3 w.heap.size (.slice A3 q c3) (l)) := Lib.hid ho3
          have hx3 := (hb3'.block _ (lt_of_block HXr.out)).trans HXr.out
          have HY3 : Hid (w3.heap[bm]? = some (.cells #[.int .i64 t, .int .i64 y] 29 (0, 0))) := Lib.hid ((hb3'.block _ (lt_of_block HYr.out)).trans HYr.out)
          have HA3 : Hid (MAt w3 (some ⟨g, 0, none⟩) l) := Lib.hid (HAr.out.below hb3')
          have HB3 := Lib.hid hb3
          have HX3 := Lib.hid hx3
          clear ho3 hg3 hb3 hb3' hx3 p0 p1 p2
          obtain ⟨p0, p1, p2⟩ := msg_cells HY3.out
          have HO4 : Hid (MOwn (w3.alloc (.cells #[.int .i64 t, .int .i64 y] 29)).drew w.heap.size (.slice A3 q c3) (l)) := Lib.hid (HO3.out.alloc _)
          have HN4 : Hid ((w3.alloc (.cells #[.int .i64 t, .int .i64 y] 29)).drew.heap[w3.heap.size]? = some (.cells #[.int .i64 t, .int .i64 y] 29 (0, 0))) := Lib.hid (msg_new w3 t y)
          have HB4 : Hid (Below w.heap.size w (w3.alloc (.cells #[.int .i64 t, .int .i64 y] 29)).drew) := Lib.hid (HB3.out.alloc HB3.out.size _).drew
          have HLN : Hid ((l).length < 1000000000) := Lib.hid (by rw [HLL.out]; omega)
          go_wp2_with fail
          go_big_region
          go_wp2_with (at_builtin; refine app_m rfl (.tmp 65) (.tmp 67) rfl w.heap.size _ (l) t y rfl HO4.out _ rfl HN4.out HLN.out HB4.out.size ?_)
          intro v5 w5 ho5 hg5
          have HB5 := Lib.hid (grown_own HB4.out HB4.out.size HO4.out hg5)
          have HO5 : Hid (MOwn w5 w.heap.size v5 (l ++ [(t, y)])) := Lib.hid ho5
          clear ho5 hg5
          have HS3 : Hid ((l ++ [(t, y)]).length + 0 < 1000000000) := Lib.hid (by rw [List.length_append, HLL.out]; simp; omega)
          have hat6 := MAt.nil w5 (some ⟨g, 0, none⟩)
          go_wp2_with (at_builtin; refine app_mrest rfl (.tmp 69) (.tmp 72) rfl w.heap.size _ (l ++ [(t, y)]) [] rfl HO5.out _ _ _ rfl hat6 rfl HS3.out HB5.out.size ?_)
          intro v7 w7 ho7 hg7
          have HB7 := Lib.hid (grown_own HB5.out HB5.out.size HO5.out hg7)
          have HO7 : Hid (MOwn w7 B v7 (insM k l (t, y))) := Lib.hid (by have h := MOwn.mono ho7 hB; rw [HI.out]; simpa using h)
          clear ho7 hg7 hat6
          go_wp2
          go_ret
          exact ⟨_, rfl, HO7, HB7⟩
theorem at_alloc {w : World} {i : Nat} {x : Obj} (h : w.heap[i]? = some x) (o : Obj) : (w.alloc o).heap[i]? = some x := (((Below.refl _ w).alloc (Nat.le_refl _) o).block i (lt_of_block h)).trans h
theorem al2 (w : World) (a b : Obj) : ((w.alloc a).alloc b).heap[w.heap.size]? = some a ∧ ((w.alloc a).alloc b).heap[w.heap.size + 1]? = some b ∧ Below w.heap.size w ((w.alloc a).alloc b) := by
  refine ⟨at_alloc (heap_alloc_new w a) b, ?_, ((Below.refl _ w).alloc (Nat.le_refl _) a).alloc (by simp) b⟩
  have := heap_alloc_new (w.alloc a) b
  rw [show (w.alloc a).heap.size = w.heap.size + 1 by simp] at this; exact this
theorem al3 (w : World) (a b c : Obj) : (((w.alloc a).alloc b).alloc c).heap[w.heap.size]? = some a ∧ (((w.alloc a).alloc b).alloc c).heap[w.heap.size + 1]? = some b ∧ (((w.alloc a).alloc b).alloc c).heap[w.heap.size + 2]? = some c ∧ Below w.heap.size w (((w.alloc a).alloc b).alloc c) := by
  obtain ⟨h1, h2, h3⟩ := al2 w a b
  refine ⟨at_alloc h1 c, at_alloc h2 c, ?_, h3.alloc h3.size c⟩
  have := heap_alloc_new ((w.alloc a).alloc b) c
  rw [show ((w.alloc a).alloc b).heap.size = w.heap.size + 2 by simp] at this; exact this
theorem al4 (w : World) (a b c d : Obj) : ((((w.alloc a).alloc b).alloc c).alloc d).heap[w.heap.size]? = some a ∧ ((((w.alloc a).alloc b).alloc c).alloc d).heap[w.heap.size + 1]? = some b ∧ ((((w.alloc a).alloc b).alloc c).alloc d).heap[w.heap.size + 2]? = some c ∧ ((((w.alloc a).alloc b).alloc c).alloc d).heap[w.heap.size + 3]? = some d ∧ Below w.heap.size w ((((w.alloc a).alloc b).alloc c).alloc d) := by
  obtain ⟨h1, h2, h3, h4⟩ := al3 w a b c
  refine ⟨at_alloc h1 d, at_alloc h2 d, at_alloc h3 d, ?_, h4.alloc h4.size d⟩
  have := heap_alloc_new (((w.alloc a).alloc b).alloc c) d
  rw [show (((w.alloc a).alloc b).alloc c).heap.size = w.heap.size + 3 by simp] at this; exact this
theorem keep {w w' : World} {i : Nat} {o : Obj} (h : w.heap[i]? = some o) (hb : Below w.heap.size w w') : w'.heap[i]? = some o := (hb.block i (lt_of_block h)).trans h
theorem jb_cells {W : World} {b : Nat} {k st so dm ep : Int} (h : W.heap[b]? = some (.cells #[.int .u8 k, .int .i64 st, .int .i64 so, .int .i64 dm, .int .i64 ep] 23 (0, 0))) : W.cell? ⟨b, 0, none⟩ = some (.int .u8 k) ∧ W.cell? ⟨b, 1, none⟩ = some (.int .i64 st) ∧ W.cell? ⟨b, 2, none⟩ = some (.int .i64 so) ∧ W.cell? ⟨b, 3, none⟩ = some (.int .i64 dm) ∧ W.cell? ⟨b, 4, none⟩ = some (.int .i64 ep) ∧ b < W.heap.size :=
  ⟨by rw [Lib.cell_of_heap h]; rfl, by rw [Lib.cell_of_heap h]; rfl, by rw [Lib.cell_of_heap h]; rfl, by rw [Lib.cell_of_heap h]; rfl, by rw [Lib.cell_of_heap h]; rfl, lt_of_block h⟩
set_option maxRecDepth 100000 in
theorem comb_any (k st so dm ep a b : Int) (w : World) : Calls Try.prog 34 #[.agg #[.int .u8 k, .int .i64 st, .int .i64 so, .int .i64 dm, .int .i64 ep], .int .i64 a, .int .i64 b] w fun e w' => e = .returned (.int .i64 (comb k a b)) ∧ Below w.heap.size w w' := by
  have HB1 := fun (k : Int) => Lib.hid ((Below.refl _ w).alloc (Nat.le_refl _) (.cells #[.int .u8 k, .int .i64 st, .int .i64 so, .int .i64 dm, .int .i64 ep] 23))
  by_cases h1 : k = 1
  · subst h1
    have hl_combine := look_combine_1 st so dm ep
    go_enter Try.func34, Try.ntmps34
    go_wp2_with fail
    refine (prog_1 st so dm ep _).mono ?_
    rintro e w2 ⟨rfl, hb2⟩
    have HB2 : Hid (Below w.heap.size w w2) := Lib.hid (step_below (HB1 1).out (HB1 1).out.size hb2)
    clear hb2
    go_wp2_with fail
    refine (comb_ranks 1 st so dm ep a b _).mono ?_
    rintro e w3 ⟨rfl, hb3⟩
    have HB3 : Hid (Below w.heap.size w w3) := Lib.hid (step_below HB2.out HB2.out.size hb3)
    clear hb3
    go_wp2
    go_ret
    exact ⟨rfl, HB3.out⟩
  by_cases h2 : k = 2
  · subst h2
    have hl_combine := look_combine_2 st so dm ep
    go_enter Try.func34, Try.ntmps34
    go_wp2_with fail
    refine (prog_2 st so dm ep _).mono ?_
    rintro e w2 ⟨rfl, hb2⟩
    have HB2 : Hid (Below w.heap.size w w2) := Lib.hid (step_below (HB1 2).out (HB1 2).out.size hb2)
    clear hb2
    go_wp2_with fail
    refine (comb_least a b _).mono ?_
    rintro e w3 ⟨rfl, hb3⟩
    have HB3 : Hid (Below w.heap.size w w3) := Lib.hid (step_below HB2.out HB2.out.size hb3)
    clear hb3
    go_wp2
    go_ret
    exact ⟨rfl, HB3.out⟩
  by_cases h3 : k = 3
  · subst h3
    have hl_combine := look_combine_3 st so dm ep
    go_enter Try.func34, Try.ntmps34
    go_wp2_with fail
    refine (prog_3 st so dm ep _).mono ?_
    rintro e w2 ⟨rfl, hb2⟩
    have HB2 : Hid (Below w.heap.size w w2) := Lib.hid (step_below (HB1 3).out (HB1 3).out.size hb2)
    clear hb2
    go_wp2_with fail
    refine (comb_least a b _).mono ?_
    rintro e w3 ⟨rfl, hb3⟩
    have HB3 : Hid (Below w.heap.size w w3) := Lib.hid (step_below HB2.out HB2.out.size hb3)
    clear hb3
    go_wp2
    go_ret
    exact ⟨rfl, HB3.out⟩
  go_enter Try.func34, Try.ntmps34
  go_wp2_with fail
  refine (prog_no k st so dm ep h1 h2 h3 _).mono ?_
  rintro e w2 ⟨rfl, hb2⟩
  have HB2 : Hid (Below w.heap.size w w2) := Lib.hid (step_below (HB1 k).out (HB1 k).out.size hb2)
  clear hb2
  go_wp2
  go_ret
  exact ⟨Fx.ret_int (by unfold comb; rw [if_neg h1, if_neg (by omega)]), HB2.out⟩

end Go.Proofs.Ytgkmmjlhphinhaa.Al
