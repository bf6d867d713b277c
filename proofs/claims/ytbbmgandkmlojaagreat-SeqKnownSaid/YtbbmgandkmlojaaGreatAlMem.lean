/-
  What is proved here: words for numbers in memory; edges put behind one another in one go; contracts of what holds rows against one another, of the kit's mill. Conditions: counts fit an int.
-/
import Derived.Test.YtbbmgandkmlojaaGreatPtG2
import Derived.Test.YtbbmgandkmlojaaGreatLbMath
import Derived.IntWalk
import Derived.Outline
import Derived.Lib.QuietBelow
namespace Go.Proofs.YtbbmgandkmlojaaGreat.Gr
open Go.RowKit Wd Ws

theorem eat_cells {w : World} {A : Option Addr} {L : List Ed} (h : EAt w A L) (a : Addr) (hA : A = some a) : ∀ j u, (ecs L)[j]? = some u → w.cell? (a.add j) = some u := by
  intro j u hu
  have hj : j < L.length * 3 := by have := lt_at hu; rwa [ecs_len] at this
  obtain ⟨e, he⟩ := at_lt L (j / 3) (by omega)
  obtain ⟨bk, o, hb, c0, c1, c2⟩ := h (j / 3) e he
  obtain ⟨a0, a1, a2⟩ := ecs_at L (j / 3) e he
  rw [hA] at hb
  obtain rfl := Option.some.inj hb
  rw [Ws.add_plain]
  have h3 : j % 3 = 0 ∨ j % 3 = 1 ∨ j % 3 = 2 := by omega
  rcases h3 with h3 | h3 | h3
  · rw [show j / 3 * 3 = j by omega] at a0 c0; rw [a0] at hu; rw [← hu]; exact c0
  · rw [show j / 3 * 3 + 1 = j by omega] at a1; rw [show o + j / 3 * 3 + 1 = o + j by omega] at c1; rw [a1] at hu; rw [← hu]; exact c1
  · rw [show j / 3 * 3 + 2 = j by omega] at a2; rw [show o + j / 3 * 3 + 2 = o + j by omega] at c2; rw [a2] at hu; rw [← hu]; exact c2
theorem app_all {w : World} {ops : Array Oper} {rest : List Oper} {o : Oper} {a : Act} {Q : Exit → Act → World → Prop} (hgd : o.guard = none) (s x : Operand)
    (ho : o.op = .call { callee := .builtin .append, args := #[s, x], argTypes := #[22, 22] }) (B : Nat) (v : Value) (K L : List Ed) (hs : a.eval s = v) (hown : EOwn w B v K)
    (ad : Addr) (c : Nat) (hx : a.eval x = .slice (some ad) L.length c) (hL : EAt w (some ad) L) (hn : K.length + L.length < 1000000000) (hB : B ≤ w.heap.size)
    (h : ∀ v' w', EOwn w' B v' (K ++ L) → w.grownBy w' v.ownBlock → wpList Tryz.prog ops Q rest (a.put o.dst v') w') : wpList Tryz.prog ops Q (o :: rest) a w := by
  obtain ⟨i0, hi, hz0, hz1, hz2⟩ := info_parts infoE
  refine wpList_append_own w hgd s x 22 ho B 58 i0 _ 3 24 Tryz.underlying22 hi hz0 hz1 hz2 rfl (by decide) v K.length (ecs K) hs hown ad L.length c (ecs L) hx (ecs_len L) (eat_cells hL ad rfl) (ecs_one L) ?_ ?_ hB ?_
  · unfold maxLen; omega
  · omega
  · intro v' w' h1 h2 _
    refine h v' w' ?_ h2
    unfold EOwn
    rw [ecs_append, List.length_append]
    exact h1

theorem eat_none {w : World} {L : List Ed} (h : EAt w none L) : L = [] := by
  cases L with
  | nil => rfl
  | cons e L => obtain ⟨_, _, h0, _⟩ := h 0 e rfl; cases h0
theorem app_copy {w : World} {ops : Array Oper} {rest : List Oper} {o : Oper} {a : Act} {Q : Exit → Act → World → Prop} (hgd : o.guard = none) (s x : Operand)
    (ho : o.op = .call { callee := .builtin .append, args := #[s, x], argTypes := #[22, 22] }) (B : Nat) (L : List Ed) (hs : a.eval s = .slice none 0 0)
    (A : Option Addr) (c : Nat) (hx : a.eval x = .slice A L.length c) (hL : EAt w A L) (hn : L.length < 1000000000) (hB : B ≤ w.heap.size)
    (h : ∀ v' w', EOwn w' B v' L → w.grownBy w' none → wpList Tryz.prog ops Q rest (a.put o.dst v') w') : wpList Tryz.prog ops Q (o :: rest) a w := by
  cases A with
  | some ad => exact app_all hgd s x ho B _ [] L hs (EOwn.none_ _ _) ad c hx hL (by simp; omega) hB h
  | none =>
    obtain rfl := eat_none hL
    obtain ⟨i0, hi, _⟩ := info_parts infoE
    have u22 := run_underlying Tryz.underlying22
    have hr : (Builtin.append_ #[22, 22] o.type #[.slice none 0 0, .slice none 0 c]).run Tryz.prog w = .ok (.slice none 0 0) w := by
      simp [Builtin.append_, Builtin.lenOf, Builtin.firstCells, u22, sizeOf, typeInfo, hi]
    refine wpList_plain hgd fun _ hK => ?_
    unfold Oper.wp execOp
    simp only [ho, resolve, invoke, builtin, Sem.run_bind, Sem.run_pure, Result.andThen_ok, List.map_toArray, List.map_cons, List.map_nil, hs, hx, hr, List.length_nil]
    exact hK _ _ (h _ _ (EOwn.none_ _ _) ⟨rfl, rfl, rfl, Nat.le_refl _, fun _ _ _ => rfl⟩)

theorem eq_e (a0 a1 a2 b0 b1 b2 : Int) (r : Bool) (hr : Hid (decide (((a0, a1, a2) : Ed) = (b0, b1, b2)) = r)) (w : World) :
    Sem.run Tryz.prog (binOp .neq 58 (.agg #[.int .i64 a0, .int .i64 a1, .int .i64 a2]) (.agg #[.int .i64 b0, .int .i64 b1, .int .i64 b2])) w = .ok (.bool (!r)) w := by
  have u2 := Tryz.underlying2
  have a2' := Tryz.isAgg2
  have z2 := Tryz.sizeOf2
  have u3 := Tryz.underlying3
  have a3 := Tryz.isAgg3
  have z3 := Tryz.sizeOf3
  have hS : Tryz.prog.underlying 58 = some (.struct (Tryz.prog.fieldsOf 58)) := by kernel_rfl
  have hp : Tryz.prog.stoodInHeld 58 = false := by kernel_rfl
  rw [run_neq_struct, show (10000 : Nat) = 9999 + 1 from rfl, run_equalIn_agg w 9999 58 _ _ hS hp]
  simp only [Program.fieldsOf, Tryz.underlying58]
  go_simp
  have hr' := hr.out
  by_cases h1 : a0 = b0 <;> by_cases h2 : a1 = b1 <;> by_cases h3 : a2 = b2 <;> subst hr' <;> simp [h1, h2, h3]

def SmRel (w : World) (L M : List Ed) (g : Nat) (i : Value) (wr : World) : Prop :=
  ∃ k : Nat, k + g = L.length ∧ i = .int .i64 (k : Int) ∧ Below w.heap.size w wr ∧ decide (L = M) = decide (L.drop k = M.drop k)

set_option maxRecDepth 100000 in
set_option maxHeartbeats 600000 in
theorem rsame_edges (A B : Option Addr) (c d : Nat) (L M : List Ed) (w : World) (hL : EAt w A L) (hM : EAt w B M) (hl : L.length ≤ 9223372036854775807) (_hm : M.length ≤ 9223372036854775807) :
    Calls Tryz.prog 15 #[.slice A L.length c, .slice B M.length d] w fun e w' => e = .returned (.bool (decide (L = M))) ∧ Below w.heap.size w w' := by
  have HL := Lib.hid hL; have HM := Lib.hid hM; clear hL hM
  obtain ⟨R, hR⟩ : ∃ R, decide (L = M) = R := ⟨_, rfl⟩
  rw [hR]
  have HR := Lib.hid hR; clear hR
  by_cases hlm : L.length = M.length
  · obtain ⟨n, hn⟩ : ∃ n, n = M.length := ⟨_, rfl⟩
    rw [← hn, hlm, ← hn]
    have HLn : Hid (L.length = n) := Lib.hid (by rw [hlm, hn])
    have HMn : Hid (M.length = n) := Lib.hid hn.symm
    have hnn : n ≤ 9223372036854775807 := by omega
    clear hlm hn hl _hm
    go_enter Tryz.func15, Tryz.ntmps15
    go_wp2
    go_loopg [5] n (fun g i wr => SmRel w L M g i wr)
    case atStart => exact ⟨0, by have := HLn.out; omega, rfl, Below.refl _ w, rfl⟩
    case round =>
      obtain ⟨k, hk, rfl, hb, hd⟩ := hrel
      rw [HLn.out] at hk
      by_cases hlt : k < n
      · obtain ⟨e, he⟩ := at_lt L k (by rw [HLn.out]; exact hlt)
        obtain ⟨f, hf⟩ := at_lt M k (by rw [HMn.out]; exact hlt)
        obtain ⟨bk, o, rfl, c0, c1, c2⟩ := (HL.out.below hb) k e he
        obtain ⟨bk', o', rfl, d0, d1, d2⟩ := (HM.out.below hb) k f hf
        rw [drop_at he, drop_at hf] at hd
        have HB := Lib.hid hb; have HD := Lib.hid hd
        clear hb hd he hf
        obtain ⟨e0, e1, e2⟩ := e
        obtain ⟨f0, f1, f2⟩ := f
        obtain ⟨r, hr⟩ : ∃ r, decide (((e0, e1, e2) : Ed) = (f0, f1, f2)) = r := ⟨_, rfl⟩
        have hne := fun W => eq_e e0 e1 e2 f0 f1 f2 r (Lib.hid hr) W
        have HQ := Lib.hid hr; clear hr
        cases r with
        | true =>
          simp only [Bool.not_true] at hne
          go_wp2
          go_quiet (fail)
          go_wp2
          go_roundg (gk - 1)
          case measure => omega
          case rel =>
            refine ⟨k + 1, by have := HLn.out; omega, by go_num, below_drewN HB.out _, ?_⟩
            rw [HD.out]
            have := of_decide_eq_true HQ.out
            rw [this]; simp
        | false =>
          simp only [Bool.not_false] at hne
          go_wp2
          go_quiet (fail)
          go_wp2
          go_ret
          refine ⟨ret_b ?_, below_drewN HB.out _⟩
          rw [← HR.out, HD.out]
          have := of_decide_eq_false HQ.out
          simp only [List.cons.injEq, this, false_and, decide_false]
      · have HB := Lib.hid hb; have HD := Lib.hid hd
        have HK : Hid (k = n) := Lib.hid (by omega)
        clear hb hd
        go_wp2
        go_ret
        refine ⟨ret_b ?_, HB.out⟩
        rw [← HR.out, HD.out, HK.out]
        rw [List.drop_eq_nil_of_le (by rw [HLn.out]; exact Nat.le_refl _), List.drop_eq_nil_of_le (by rw [HMn.out]; exact Nat.le_refl _)]; simp
  · have hne : R = false := by
      rw [← HR.out]
      exact decide_eq_false fun h => hlm (by rw [h])
    subst hne
    go_enter Tryz.func15, Tryz.ntmps15
    go_wp2
    go_ret
    exact ⟨rfl, Below.refl _ w⟩




end Go.Proofs.YtbbmgandkmlojaaGreat.Gr
namespace Go.Proofs.YtbbmgandkmlojaaGreat.Lb
open Go.RowKit Gr Wd Ws

theorem mixedP : Tryz.prog.follows .mixedOrders = true := by kernel_rfl
theorem regr {P : Program} {f : FuncId} {args : Array Value} {w : World} {v : Value} (h : ∀ W, Below w.heap.size w W → Calls P f args W fun e w' => e = .returned v ∧ Below W.heap.size W w') (d : Nat) (os : Array Obj) :
    Calls P f args (Sort.grow (redrawn w d) os) fun e w'' => e = .returned v ∧ ∃ p : Regrown, w'' = Sort.grow (redrawn w p.d) p.os := Calls.regrown_of (h _ (below_regrown w d os))
/- A slice of numbers reads as a list. -/
def ints (l : List Int) : List Value := l.map fun x => Value.int .i64 x
theorem ints_len (l : List Int) : (ints l).length = l.length := by simp [ints]
theorem ints_at (l : List Int) (k : Nat) : (ints l)[k]? = (l[k]?).map fun x => Value.int .i64 x := by simp [ints]
def IAt (w : World) (A : Option Addr) (l : List Int) : Prop := ∀ (k : Nat) (x : Int), l[k]? = some x → ∃ bk o, A = some ⟨bk, o, none⟩ ∧ w.cell? ⟨bk, o + k, none⟩ = some (.int .i64 x)
theorem IAt.below {w w' : World} {A : Option Addr} {l : List Int} (h : IAt w A l) (hb : Below w.heap.size w w') : IAt w' A l := by
  intro k x hx
  obtain ⟨bk, o, hA, c⟩ := h k x hx
  exact ⟨bk, o, hA, (hb.cell (block_lt_of_cell c)).trans c⟩
theorem IAt.nil (w : World) (A : Option Addr) : IAt w A [] := fun k x h => by simp at h
def IOwn (w : World) (B : Nat) (v : Value) (l : List Int) : Prop := w.ownsRow B 3 1 v l.length (ints l)
theorem IOwn.none_ (w : World) (B : Nat) : IOwn w B (.slice none 0 0) [] := World.ownsRow_nil _ _ _ _
theorem IOwn.below {w w' : World} {B : Nat} {v : Value} {l : List Int} (h : IOwn w B v l) (hb : Below w.heap.size w w') : IOwn w' B v l := own_below h hb
theorem IOwn.alloc {w : World} {B : Nat} {v : Value} {l : List Int} (h : IOwn w B v l) (o : Obj) : IOwn (w.alloc o) B v l := World.ownsRow.alloc h o
theorem IOwn.form {w : World} {B : Nat} {v : Value} {l : List Int} (h : IOwn w B v l) : ∃ (A : Option Addr) (c : Nat), v = .slice A l.length c ∧ IAt w A l := by
  obtain ⟨h0, h1 | ⟨g, cap, cur, h1, h2, h3, h4, h5, h6, h7⟩⟩ := h
  · have : l = [] := List.eq_nil_of_length_eq_zero h1.2
    subst this
    exact ⟨none, 0, h1.1, IAt.nil _ _⟩
  · refine ⟨some ⟨g, 0, none⟩, cap, h1, fun k x hx => ⟨g, 0, rfl, ?_⟩⟩
    have hk := lt_at hx
    rw [Nat.zero_add, cell_of_row w g k _ 3 (0, 0) h3]
    have e1 : cur[k]? = (cur.toList.take (l.length * 1))[k]? := by
      rw [List.getElem?_take, if_pos (by omega), Array.getElem?_toList]
    rw [e1, h7, ints_at, hx]; rfl
theorem infoI : (Tryz.prog.info? 3).map (fun i => (i.zero, i.size, i.bytes)) = some (some (.int .i64 0), 1, 8) := by kernel_rfl
/- One number more. -/
theorem app_i {w : World} {ops : Array Oper} {rest : List Oper} {o : Oper} {a : Act} {Q : Exit → Act → World → Prop} (hgd : o.guard = none) (s x : Operand)
    (ho : o.op = .call { callee := .builtin .append, args := #[s, x], argTypes := #[93, 93] }) (B : Nat) (v : Value) (l : List Int) (y : Int) (hs : a.eval s = v) (hown : IOwn w B v l)
    (g : Nat) (hx : a.eval x = .slice (some ⟨g, 0, none⟩) 1 1) (hg : w.heap[g]? = some (.cells #[.int .i64 y] 3 (0, 0))) (hn : l.length < 1000000000) (hB : B ≤ w.heap.size)
    (h : ∀ v' w', IOwn w' B v' (l ++ [y]) → w.grownBy w' v.ownBlock → wpList Tryz.prog ops Q rest (a.put o.dst v') w') : wpList Tryz.prog ops Q (o :: rest) a w := by
  obtain ⟨i0, hi, hz0, hz1, hz2⟩ := info_parts infoI
  refine wpList_append_own w hgd s x 93 ho B 3 i0 _ 1 8 Tryz.underlying93 hi hz0 hz1 hz2 rfl (by decide) v l.length (ints l) hs hown ⟨g, 0, none⟩ 1 1 [.int .i64 y] hx rfl ?_ ?_ ?_ ?_ hB ?_
  · intro j u hu
    rw [add_plain, Lib.cell_of_heap hg]
    rcases j with _ | j
    · simpa using hu
    · simp at hu
  · intro u hu
    simp only [List.mem_cons, List.not_mem_nil, or_false] at hu
    rw [hu]; rfl
  · unfold maxLen; omega
  · omega
  · intro v' w' h1 h2 _
    refine h v' w' ?_ h2
    unfold IOwn
    rw [show ints (l ++ [y]) = ints l ++ [.int .i64 y] by simp [ints], List.length_append]; exact h1

def millL : List Ed := [(0, 1, 4), (0, 2, 1), (1, 3, 5), (2, 1, 2), (4, 4, 7)]

set_option maxRecDepth 100000 in
set_option maxHeartbeats 1000000 in
theorem mill_any (w : World) : Calls Tryz.prog 29 #[] w fun e w' => (∃ A c, e = .returned (.agg #[.int .i64 6, .slice A millL.length c]) ∧ Hid (EAt w' A millL)) ∧ Hid (Below w.heap.size w w') := by
  have mixed := mixedP
  go_enter Tryz.func29, Tryz.ntmps29
  go_wp2
  obtain ⟨W1, hW1⟩ : ∃ W1, W1 = w.alloc (.cells #[.int .i64 6, .slice (some ⟨w.heap.size + 1, 0, none⟩) 5 5] 24) := ⟨_, rfl⟩
  have s1 : W1.heap.size = w.heap.size + 1 := by rw [hW1]; simp
  have y0 : W1.heap[w.heap.size]? = some (.cells #[.int .i64 6, .slice (some ⟨w.heap.size + 1, 0, none⟩) 5 5] 24 (0, 0)) := by rw [hW1]; exact heap_alloc_new w _
  have b1 : Below w.heap.size w W1 := by rw [hW1]; exact (Below.refl _ w).alloc (Nat.le_refl _) _
  rw [← hW1]
  clear hW1
  obtain ⟨C, hC⟩ : ∃ C : Array Value, C = #[.int .i64 0, .int .i64 1, .int .i64 4, .int .i64 0, .int .i64 2, .int .i64 1, .int .i64 1, .int .i64 3, .int .i64 5, .int .i64 2, .int .i64 1, .int .i64 2, .int .i64 4, .int .i64 4, .int .i64 7] := ⟨_, rfl⟩
  rw [← hC]
  obtain ⟨W2, hW2⟩ : ∃ W2, W2 = W1.alloc (.cells C 58) := ⟨_, rfl⟩
  have b2 : Below W1.heap.size W1 W2 := by rw [hW2]; exact (Below.refl _ W1).alloc (Nat.le_refl _) _
  have y1 := (b2.block _ (lt_of_block y0)).trans y0
  have y2 : W2.heap[w.heap.size + 1]? = some (.cells C 58 (0, 0)) := by rw [hW2, ← s1]; exact heap_alloc_new W1 _
  rw [← hW2]
  have k0 : W2.cell? ⟨w.heap.size, 0, none⟩ = some (.int .i64 6) := by rw [Lib.cell_of_heap y1]; rfl
  have k1 : W2.cell? ⟨w.heap.size, 1, none⟩ = some (.slice (some ⟨w.heap.size + 1, 0, none⟩) 5 5) := by rw [Lib.cell_of_heap y1]; rfl
  refine bodyPost_ret (v := .agg #[.int .i64 6, .slice (some ⟨w.heap.size + 1, 0, none⟩) 5 5]) (by simp [results, Tryz.results29, go_sem, k0, k1]) rfl ⟨⟨_, _, rfl, Lib.hid ?_⟩, Lib.hid (b1.trans (b2.mono (by omega)))⟩
  intro k e hk
  rcases k with _ | _ | _ | _ | _ | k
  all_goals (first | (simp [millL] at hk; done) | (simp only [millL, List.getElem?_cons_zero, List.getElem?_cons_succ, Option.some.injEq] at hk; subst hk; exact ⟨_, _, rfl, by rw [Lib.cell_of_heap y2, hC]; rfl, by rw [Lib.cell_of_heap y2, hC]; rfl, by rw [Lib.cell_of_heap y2, hC]; rfl⟩))



end Go.Proofs.YtbbmgandkmlojaaGreat.Lb
