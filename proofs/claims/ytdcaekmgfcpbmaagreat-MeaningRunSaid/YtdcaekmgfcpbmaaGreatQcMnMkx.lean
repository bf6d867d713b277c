/-
  What is proved here: words for numbers in memory; edges put behind one another in one go; contracts of what holds rows against one another, of the kit's mill. Conditions: counts fit an int. What is proved here: contracts of paths.Start, Give, Take, of the document's own, of fixed.Add and of the document's own Add, of the kit's Pick and Light. No condition, but that Pick picks out of 1 to 1000000. What is proved here: contracts of label.Take, label.Marks, and of the document's own. Conditions: numbers fit an int64, counts an int. What is proved here: a contract of label.Marks. Conditions: counts fit an int.
-/
import Derived.Test.YtdcaekmgfcpbmaaGreatQcPtG6x
import Derived.Test.YtdcaekmgfcpbmaaGreatQcInMathx
import Derived.IntWalk
import Derived.Outline
import Derived.Lib.QuietBelow
import Derived.Test.YtdcaekmgfcpbmaaGreatQcRkW1x
namespace Go.Proofs.YtdcaekmgfcpbmaaGreat.Gr
open Go.RowKit Wd Ws
end Go.Proofs.YtdcaekmgfcpbmaaGreat.Gr
namespace Go.Proofs.YtdcaekmgfcpbmaaGreat.Lb
open Go.RowKit Gr Wd Ws
theorem mixedP : Tryz.prog.follows .mixedOrders = true := by kernel_rfl
theorem regr {P : Program} {f : FuncId} {args : Array Value} {w : World} {v : Value} (h : ∀ W, Below w.heap.size w W → Calls P f args W fun e w' => e = .returned v ∧ Below W.heap.size W w') (d : Nat) (os : Array Obj) :
    Calls P f args (Sort.grow (redrawn w d) os) fun e w'' => e = .returned v ∧ ∃ p : Regrown, w'' = Sort.grow (redrawn w p.d) p.os := Calls.regrown_of (h _ (below_regrown w d os))
def ints (l : List Int) : List Value := l.map fun x => Value.int .i64 x
theorem ints_at (l : List Int) (k : Nat) : (ints l)[k]? = (l[k]?).map fun x => Value.int .i64 x := by simp [ints]
def IAt (w : World) (A : Option Addr) (l : List Int) : Prop := ∀ (k : Nat) (x : Int), l[k]? = some x → ∃ bk o, A = some ⟨bk, o, none⟩ ∧ w.cell? ⟨bk, o + k, none⟩ = some (.int .i64 x)
theorem IAt.below {w w' : World} {A : Option Addr} {l : List Int} (h : IAt w A l) (hb : Below w.heap.size w w') : IAt w' A l := by
  intro k x hx
  obtain ⟨bk, o, hA, c⟩ := h k x hx
  exact ⟨bk, o, hA, (hb.cell (block_lt_of_cell c)).trans c⟩
theorem IAt.nil (w : World) (A : Option Addr) : IAt w A [] := fun k x h => by simp at h
def IOwn (w : World) (B : Nat) (v : Value) (l : List Int) : Prop := w.ownsRow B 3 1 v l.length (ints l)
theorem IOwn.none_ (w : World) (B : Nat) : IOwn w B (.slice none 0 0) [] := World.ownsRow_nil _ _ _ _
theorem IOwn.below {w w' : World} {B : Nat} {v : Value} {l : List Int} (h : IOwn w B v l) (hb : Below w.heap.size w w') : IOwn w' B v l := own_below h hb
theorem IOwn.alloc {w : World} {B : Nat} {v : Value} {l : List Int} (h : IOwn w B v l) (o : Obj) : IOwn (w.alloc o) B v l := World.ownsRow.alloc h o
theorem IOwn.form {w : World} {B : Nat} {v : Value} {l : List Int} (h : IOwn w B v l) : ∃ (A : Option Addr) (c : Nat), v = .slice A l.length c ∧ IAt w A l := by
  obtain ⟨h0, h1 | ⟨g, cap, cur, h1, h2, h3, h4, h5, h6, h7⟩⟩ := h
  · have : l = [] := List.eq_nil_of_length_eq_zero h1.2
    subst this
    exact ⟨none, 0, h1.1, IAt.nil _ _⟩
  · refine ⟨some ⟨g, 0, none⟩, cap, h1, fun k x hx => ⟨g, 0, rfl, ?_⟩⟩
    have hk := lt_at hx
    rw [Nat.zero_add, cell_of_row w g k _ 3 (0, 0) h3]
    have e1 : cur[k]? = (cur.toList.take (l.length * 1))[k]? := by
      rw [List.getElem?_take, if_pos (by omega), Array.getElem?_toList]
    rw [e1, h7, ints_at, hx]; rfl
theorem infoI : (Tryz.prog.info? 3).map (fun i => (i.zero, i.size, i.bytes)) = some (some (.int .i64 0), 1, 8) := by kernel_rfl
theorem app_i {w : World} {ops : Array Oper} {rest : List Oper} {o : Oper} {a : Act} {Q : Exit → Act → World → Prop} (hgd : o.guard = none) (s x : Operand)
    (ho : o.op = .call { callee := .builtin .append, args := #[s, x], argTypes := #[57, 57] }) (B : Nat) (v : Value) (l : List Int) (y : Int) (hs : a.eval s = v) (hown : IOwn w B v l)
    (g : Nat) (hx : a.eval x = .slice (some ⟨g, 0, none⟩) 1 1) (hg : w.heap[g]? = some (.cells #[.int .i64 y] 3 (0, 0))) (hn : l.length < 1000000000) (hB : B ≤ w.heap.size)
    (h : ∀ v' w', IOwn w' B v' (l ++ [y]) → w.grownBy w' v.ownBlock → wpList Tryz.prog ops Q rest (a.put o.dst v') w') : wpList Tryz.prog ops Q (o :: rest) a w := by
  obtain ⟨i0, hi, hz0, hz1, hz2⟩ := info_parts infoI
  refine wpList_append_own w hgd s x 57 ho B 3 i0 _ 1 8 Tryz.underlying57 hi hz0 hz1 hz2 rfl (by decide) v l.length (ints l) hs hown ⟨g, 0, none⟩ 1 1 [.int .i64 y] hx rfl ?_ ?_ ?_ ?_ hB ?_
  · intro j u hu
    rw [add_plain, Lib.cell_of_heap hg]
    rcases j with _ | j
    · simpa using hu
    · simp at hu
  · intro u hu
    simp only [List.mem_cons, List.not_mem_nil, or_false] at hu
    rw [hu]; rfl
  · unfold maxLen; omega
  · omega
  · intro v' w' h1 h2 _
    refine h v' w' ?_ h2
    unfold IOwn
    rw [show ints (l ++ [y]) = ints l ++ [.int .i64 y] by simp [ints], List.length_append]; exact h1
end Go.Proofs.YtdcaekmgfcpbmaaGreat.Lb
namespace Go.Proofs.YtdcaekmgfcpbmaaGreat.Pa
open Go.RowKit Gr Wd Ws Fx Lb
theorem ret_j {a b : Int} (h : a = b) : Ending.returned (.int .i64 a) = .returned (.int .i64 b) := by rw [h]
def stt (v s : Int) : Int := if v = s then 0 else 4611686018427387904
theorem start_any (v s : Int) (w : World) : Calls Tryz.prog 49 #[.int .i64 v, .int .i64 s] w fun e w' => e = .returned (.int .i64 (stt v s)) ∧ w = w' := by
  by_cases h : v = s
  · have HE := Lib.hid (show stt v s = 0 by unfold stt; rw [if_pos h])
    subst h
    go_enter Tryz.func49, Tryz.ntmps49
    go_wp2
    go_ret
    exact ⟨ret_j HE.out.symm, rfl⟩
  · have HE := Lib.hid (show stt v s = 4611686018427387904 by unfold stt; rw [if_neg h])
    go_enter Tryz.func49, Tryz.ntmps49
    go_wp2
    go_ret
    exact ⟨ret_j HE.out.symm, rfl⟩
theorem dist_of (a : Int) (w : World) : Calls Tryz.prog 89 #[.int .i64 a] w fun e w' => e = .returned (.int .i64 (dst a)) ∧ w = w' := by
  by_cases h : a < 0
  · have HE := Lib.hid (show dst a = 0 by unfold dst; rw [if_pos h])
    go_enter Tryz.func89, Tryz.ntmps89
    go_wp2
    go_ret
    exact ⟨ret_j HE.out.symm, rfl⟩
  · by_cases hi : 4611686018427387904 < a
    · have HE := Lib.hid (show dst a = 4611686018427387904 by unfold dst; rw [if_neg h, if_pos hi])
      go_enter Tryz.func89, Tryz.ntmps89
      go_wp2
      go_ret
      exact ⟨ret_j HE.out.symm, rfl⟩
    · have HE := Lib.hid (show dst a = a by unfold dst; rw [if_neg h, if_neg hi])
      go_enter Tryz.func89, Tryz.ntmps89
      go_wp2
      go_ret
      exact ⟨ret_j HE.out.symm, rfl⟩
theorem add_of (a b : Int) (w : World) : Calls Tryz.prog 75 #[.int .i64 a, .int .i64 b] w fun e w' => e = .returned (.int .i64 (addI a b)) ∧ w = w' := by
  obtain ⟨A, hA⟩ : ∃ A, dst a = A := ⟨_, rfl⟩
  obtain ⟨B, hB⟩ : ∃ B, dst b = B := ⟨_, rfl⟩
  have ga := dst_in a; have gb := dst_in b
  rw [hA] at ga; rw [hB] at gb
  obtain ⟨ga0, ga1⟩ := ga; obtain ⟨gb0, gb1⟩ := gb
  have HA := Lib.hid hA; have HB := Lib.hid hB; clear hA hB
  have ca := fun v : World => dist_of a v
  have cb := fun v : World => dist_of b v
  rw [HA.out] at ca; rw [HB.out] at cb
  have CA := Lib.hid ca; have CB := Lib.hid cb; clear ca cb
  by_cases hs : 4611686018427387904 < A + B
  · have HE := Lib.hid (show addI a b = 4611686018427387904 by unfold addI; rw [HA.out, HB.out, if_pos hs])
    go_enter Tryz.func75, Tryz.ntmps75
    go_wp2_with fail
    refine (CA.out _).mono ?_
    rintro e w' ⟨rfl, rfl⟩
    go_wp2_with fail
    refine (CB.out _).mono ?_
    rintro e w' ⟨rfl, rfl⟩
    go_wp2
    all_goals (try (exfalso; omega))
    all_goals (go_ret; exact ⟨ret_j (by rw [HE.out]; try omega), rfl⟩)
  · have HE := Lib.hid (show addI a b = A + B by unfold addI; rw [HA.out, HB.out, if_neg hs])
    go_enter Tryz.func75, Tryz.ntmps75
    go_wp2_with fail
    refine (CA.out _).mono ?_
    rintro e w' ⟨rfl, rfl⟩
    go_wp2_with fail
    refine (CB.out _).mono ?_
    rintro e w' ⟨rfl, rfl⟩
    go_wp2
    all_goals (try (exfalso; omega))
    all_goals (go_ret; exact ⟨ret_j (by rw [HE.out]; try omega), rfl⟩)
theorem give_any (v x y z : Int) (w : World) : Calls Tryz.prog 53 #[.int .i64 v, .agg #[.int .i64 x, .int .i64 y, .int .i64 z]] w fun e w' => e = .returned (.int .i64 (addI v z)) ∧ Below w.heap.size w w' := by
  have HB := Lib.hid ((Below.refl _ w).alloc (Nat.le_refl _) (.cells #[.int .i64 x, .int .i64 y, .int .i64 z] 33))
  go_enter Tryz.func53, Tryz.ntmps53
  go_wp2_with fail
  refine (add_of v z _).mono ?_
  rintro e w' ⟨rfl, rfl⟩
  go_wp2
  go_ret
  exact ⟨rfl, HB.out⟩
def tkm (v : Int) (has : Bool) (x : Int) : Int := if has then min v (max x 0) else v
def tkb (v : Int) (has : Bool) (x : Int) : Bool := has && decide (max x 0 < v)
theorem ret_tm {a a' : Int} {b b' : Bool} (h : a = a') (k : b = b') : Ending.returned (.tuple #[.int .i64 a, .bool b]) = .returned (.tuple #[.int .i64 a', .bool b']) := by rw [h, k]
set_option maxRecDepth 100000 in
theorem take_any (v x : Int) (has : Bool) (w : World) :
    Calls Tryz.prog 203 #[.int .i64 v, .agg #[.bool has, .int .i64 x]] w fun e w' => e = .returned (.tuple #[.int .i64 (tkm v has x), .bool (tkb v has x)]) ∧ Below w.heap.size w w' := by
  have HB := Lib.hid ((Below.refl _ w).alloc (Nat.le_refl _) (.cells #[.bool has, .int .i64 x] 114))
  obtain ⟨r, hr⟩ : ∃ r, tkm v has x = r := ⟨_, rfl⟩
  obtain ⟨q, hq⟩ : ∃ q, tkb v has x = q := ⟨_, rfl⟩
  rw [hr, hq]
  have HR := Lib.hid hr; have HQ := Lib.hid hq; clear hr hq
  cases has with
  | false =>
    go_enter Tryz.func203, Tryz.ntmps203
    go_wp2
    all_goals (go_ret2; exact ⟨ret_tm (by rw [← HR.out]; rfl) (by rw [← HQ.out]; rfl), HB.out⟩)
  | true =>
    have h1 : min v (max x 0) = r := HR.out
    have h2 : decide (max x 0 < v) = q := by rw [← HQ.out]; simp [tkb]
    have H1 := Lib.hid h1; have H2 := Lib.hid h2; clear h1 h2
    rcases (show (x < 0 ∧ 0 < v) ∨ (x < 0 ∧ v ≤ 0) ∨ (0 ≤ x ∧ x < v) ∨ (0 ≤ x ∧ v ≤ x) by omega) with ⟨g1, g2⟩ | ⟨g1, g2⟩ | ⟨g1, g2⟩ | ⟨g1, g2⟩
    · have e1 : r = 0 := by rw [← H1.out]; omega
      have e2 : q = true := by rw [← H2.out]; simp; omega
      subst e1 e2
      clear HR HQ H1 H2
      go_enter Tryz.func203, Tryz.ntmps203
      go_wp2
      all_goals (try (exfalso; omega))
      all_goals (go_ret2; exact ⟨ret_tm (by first | rfl | omega) (by first | rfl | (simp; omega)), HB.out⟩)
    · have e1 : r = v := by rw [← H1.out]; omega
      have e2 : q = false := by rw [← H2.out]; simp; omega
      subst e1 e2
      clear HR HQ H1 H2
      go_enter Tryz.func203, Tryz.ntmps203
      go_wp2
      all_goals (try (exfalso; omega))
      all_goals (go_ret2; exact ⟨ret_tm (by first | rfl | omega) (by first | rfl | (simp; omega)), HB.out⟩)
    · have e1 : r = x := by rw [← H1.out]; omega
      have e2 : q = true := by rw [← H2.out]; simp; omega
      subst e1 e2
      clear HR HQ H1 H2
      go_enter Tryz.func203, Tryz.ntmps203
      go_wp2
      all_goals (try (exfalso; omega))
      all_goals (go_ret2; exact ⟨ret_tm (by first | rfl | omega) (by first | rfl | (simp; omega)), HB.out⟩)
    · have e1 : r = v := by rw [← H1.out]; omega
      have e2 : q = false := by rw [← H2.out]; simp; omega
      subst e1 e2
      clear HR HQ H1 H2
      go_enter Tryz.func203, Tryz.ntmps203
      go_wp2
      all_goals (try (exfalso; omega))
      all_goals (go_ret2; exact ⟨ret_tm (by first | rfl | omega) (by first | rfl | (simp; omega)), HB.out⟩)
end Go.Proofs.YtdcaekmgfcpbmaaGreat.Pa
namespace Go.Proofs.YtdcaekmgfcpbmaaGreat.Lb
open Go.RowKit Gr Wd Ws
theorem tak_yes {v x : Int} (h : x < v) : x = takM v true x ∧ true = takB v true x := by unfold takM takB; rw [if_pos ⟨rfl, h⟩, decide_eq_true h]; exact ⟨rfl, rfl⟩
theorem tak_no {v x : Int} (h : ¬ x < v) : v = takM v true x ∧ false = takB v true x := by unfold takM takB; rw [if_neg (fun g => h g.2), decide_eq_false h]; exact ⟨rfl, rfl⟩
theorem ret_tm {a a' : Int} {b b' : Bool} (h : a = a') (k : b = b') : Ending.returned (.tuple #[.int .i64 a, .bool b]) = .returned (.tuple #[.int .i64 a', .bool b']) := by rw [h, k]
set_option maxRecDepth 100000 in
theorem take_any (v x : Int) (has : Bool) (w : World) :
    Calls Tryz.prog 176 #[.int .i64 v, .agg #[.bool has, .int .i64 x]] w fun e w' => e = .returned (.tuple #[.int .i64 (takM v has x), .bool (takB v has x)]) ∧ Below w.heap.size w w' := by
  have hb : Below w.heap.size w (w.alloc (.cells #[.bool has, .int .i64 x] 114)) := (Below.refl _ w).alloc (Nat.le_refl _) _
  have HB := Lib.hid hb; clear hb
  cases has with
  | false =>
    go_enter Tryz.func176, Tryz.ntmps176
    go_wp2
    go_ret2
    exact ⟨ret_tm (by simp [takM]) (by simp [takB]), HB.out⟩
  | true =>
    by_cases hx : x < v
    · go_enter Tryz.func176, Tryz.ntmps176
      go_wp2
      go_ret2
      exact ⟨ret_tm (tak_yes (by omega)).1 (tak_yes (by omega)).2, HB.out⟩
    · go_enter Tryz.func176, Tryz.ntmps176
      go_wp2
      go_ret2
      exact ⟨ret_tm (tak_no (by omega)).1 (tak_no (by omega)).2, HB.out⟩
end Go.Proofs.YtdcaekmgfcpbmaaGreat.Lb
namespace Go.Proofs.YtdcaekmgfcpbmaaGreat.Mk
open Go.RowKit Gr Wd Ws Lb
theorem own_at {l : List Int} {k : Nat} {x : Int} (h : l[k]? = some x) : mne l k = decide (x = (k : Int)) := by
  unfold mne; rw [h]; simp
end Go.Proofs.YtdcaekmgfcpbmaaGreat.Mk
