/-
  What is proved here: words for numbers in memory; edges put behind one another in one go; contracts of what holds rows against one another, of the kit's mill. Conditions: counts fit an int. What is proved here: a contract of label.Marks. Conditions: counts fit an int.
-/
import Derived.Test.YtkbmmlombigkmaaGreatQbPtG2
import Derived.Test.YtkbmmlombigkmaaGreatQbInMathx
import Derived.IntWalk
import Derived.Outline
import Derived.Lib.QuietBelow
namespace Go.Proofs.YtkbmmlombigkmaaGreat.Gr
open Go.RowKit Wd Ws
end Go.Proofs.YtkbmmlombigkmaaGreat.Gr
namespace Go.Proofs.YtkbmmlombigkmaaGreat.Lb
open Go.RowKit Gr Wd Ws
theorem mixedP : Tryz.prog.follows .mixedOrders = true := by kernel_rfl
theorem regr {P : Program} {f : FuncId} {args : Array Value} {w : World} {v : Value} (h : ∀ W, Below w.heap.size w W → Calls P f args W fun e w' => e = .returned v ∧ Below W.heap.size W w') (d : Nat) (os : Array Obj) :
    Calls P f args (Sort.grow (redrawn w d) os) fun e w'' => e = .returned v ∧ ∃ p : Regrown, w'' = Sort.grow (redrawn w p.d) p.os := Calls.regrown_of (h _ (below_regrown w d os))
def ints (l : List Int) : List Value := l.map fun x => Value.int .i64 x
theorem ints_at (l : List Int) (k : Nat) : (ints l)[k]? = (l[k]?).map fun x => Value.int .i64 x := by simp [ints]
def IAt (w : World) (A : Option Addr) (l : List Int) : Prop := ∀ (k : Nat) (x : Int), l[k]? = some x → ∃ bk o, A = some ⟨bk, o, none⟩ ∧ w.cell? ⟨bk, o + k, none⟩ = some (.int .i64 x)
theorem IAt.below {w w' : World} {A : Option Addr} {l : List Int} (h : IAt w A l) (hb : Below w.heap.size w w') : IAt w' A l := by
  intro k x hx
  obtain ⟨bk, o, hA, c⟩ := h k x hx
  exact ⟨bk, o, hA, (hb.cell (block_lt_of_cell c)).trans c⟩
theorem IAt.nil (w : World) (A : Option Addr) : IAt w A [] := fun k x h => by simp at h
def IOwn (w : World) (B : Nat) (v : Value) (l : List Int) : Prop := w.ownsRow B 3 1 v l.length (ints l)
theorem IOwn.none_ (w : World) (B : Nat) : IOwn w B (.slice none 0 0) [] := World.ownsRow_nil _ _ _ _
theorem IOwn.below {w w' : World} {B : Nat} {v : Value} {l : List Int} (h : IOwn w B v l) (hb : Below w.heap.size w w') : IOwn w' B v l := own_below h hb
theorem IOwn.alloc {w : World} {B : Nat} {v : Value} {l : List Int} (h : IOwn w B v l) (o : Obj) : IOwn (w.alloc o) B v l := World.ownsRow.alloc h o
theorem IOwn.form {w : World} {B : Nat} {v : Value} {l : List Int} (h : IOwn w B v l) : ∃ (A : Option Addr) (c : Nat), v = .slice A l.length c ∧ IAt w A l := by
  obtain ⟨h0, h1 | ⟨g, cap, cur, h1, h2, h3, h4, h5, h6, h7⟩⟩ := h
  · have : l = [] := List.eq_nil_of_length_eq_zero h1.2
    subst this
    exact ⟨none, 0, h1.1, IAt.nil _ _⟩
  · refine ⟨some ⟨g, 0, none⟩, cap, h1, fun k x hx => ⟨g, 0, rfl, ?_⟩⟩
    have hk := lt_at hx
    rw [Nat.zero_add, cell_of_row w g k _ 3 (0, 0) h3]
    have e1 : cur[k]? = (cur.toList.take (l.length * 1))[k]? := by
      rw [List.getElem?_take, if_pos (by omega), Array.getElem?_toList]
    rw [e1, h7, ints_at, hx]; rfl
theorem infoI : (Tryz.prog.info? 3).map (fun i => (i.zero, i.size, i.bytes)) = some (some (.int .i64 0), 1, 8) := by kernel_rfl
theorem app_i {w : World} {ops : Array Oper} {rest : List Oper} {o : Oper} {a : Act} {Q : Exit → Act → World → Prop} (hgd : o.guard = none) (s x : Operand)
    (ho : o.op = .call { callee := .builtin .append, args := #[s, x], argTypes := #[57, 57] }) (B : Nat) (v : Value) (l : List Int) (y : Int) (hs : a.eval s = v) (hown : IOwn w B v l)
    (g : Nat) (hx : a.eval x = .slice (some ⟨g, 0, none⟩) 1 1) (hg : w.heap[g]? = some (.cells #[.int .i64 y] 3 (0, 0))) (hn : l.length < 1000000000) (hB : B ≤ w.heap.size)
    (h : ∀ v' w', IOwn w' B v' (l ++ [y]) → w.grownBy w' v.ownBlock → wpList Tryz.prog ops Q rest (a.put o.dst v') w') : wpList Tryz.prog ops Q (o :: rest) a w := by
  obtain ⟨i0, hi, hz0, hz1, hz2⟩ := info_parts infoI
  refine wpList_append_own w hgd s x 57 ho B 3 i0 _ 1 8 Tryz.underlying57 hi hz0 hz1 hz2 rfl (by decide) v l.length (ints l) hs hown ⟨g, 0, none⟩ 1 1 [.int .i64 y] hx rfl ?_ ?_ ?_ ?_ hB ?_
  · intro j u hu
    rw [add_plain, Lib.cell_of_heap hg]
    rcases j with _ | j
    · simpa using hu
    · simp at hu
  · intro u hu
    simp only [List.mem_cons, List.not_mem_nil, or_false] at hu
    rw [hu]; rfl
  · unfold maxLen; omega
  · omega
  · intro v' w' h1 h2 _
    refine h v' w' ?_ h2
    unfold IOwn
    rw [show ints (l ++ [y]) = ints l ++ [.int .i64 y] by simp [ints], List.length_append]; exact h1
end Go.Proofs.YtkbmmlombigkmaaGreat.Lb
namespace Go.Proofs.YtkbmmlombigkmaaGreat.Mk
open Go.RowKit Gr Wd Ws Lb
theorem iat_at {w : World} {A : Option Addr} {l : List Int} (h : IAt w A l) {k : Nat} (hk : k < l.length) : ∃ x bk o, A = some ⟨bk, o, none⟩ ∧ Hid (l[k]? = some x) ∧ w.cell? ⟨bk, o + k, none⟩ = some (.int .i64 x) := by
  obtain ⟨x, hx⟩ := at_lt l k hk
  obtain ⟨bk, o, hA, c⟩ := h k x hx
  exact ⟨x, bk, o, hA, Lib.hid hx, c⟩
theorem lab_no {l : List Int} {k : Nat} {x : Int} (h : l[k]? = some x) (hn : ¬ (0 ≤ x ∧ x ≤ (k : Int))) : labOk l k = false := by
  unfold labOk; rw [h]
  by_cases h0 : 0 ≤ x
  · have : ¬ x ≤ (k : Int) := fun g => hn ⟨h0, g⟩
    simp [this]
  · simp [h0]
theorem lab_at {l : List Int} {k j : Nat} {z : Int} (h : l[k]? = some (j : Int)) (hj : j ≤ k) (hz : l[j]? = some z) : labOk l k = decide (z = (j : Int)) := by
  unfold labOk; rw [h]
  simp [hj, hz]
theorem own_at {l : List Int} {k : Nat} {x : Int} (h : l[k]? = some x) : mne l k = decide (x = (k : Int)) := by
  unfold mne; rw [h]; simp
set_option maxRecDepth 100000 in
theorem maybe_any (A : Option Addr) (c : Nat) (l : List Int) (k : Nat) (w : World) (hL : IAt w A l) (_hl : l.length ≤ 9223372036854775807) (hk : k < l.length) :
    Calls Tryz.prog 27 #[.slice A l.length c, .int .i64 (k : Int)] w fun e w' => e = .returned (.bool (labOk l k)) ∧ w = w' := by
  obtain ⟨x, bk, o, rfl, HX, c0⟩ := iat_at hL hk
  obtain ⟨R, hR⟩ : ∃ R, labOk l k = R := ⟨_, rfl⟩
  rw [hR]
  have HR := Lib.hid hR; clear hR
  obtain ⟨n, hn⟩ : ∃ n, n = l.length := ⟨_, rfl⟩
  rw [← hn] at hk ⊢
  have HN := Lib.hid hn; clear hn
  by_cases h0 : 0 ≤ x
  · by_cases h1 : x ≤ (k : Int)
    · obtain ⟨j, rfl⟩ : ∃ j : Nat, x = (j : Int) := ⟨x.toNat, by omega⟩
      obtain ⟨z, bk', o', e0, HZ, c1⟩ := iat_at hL (show j < l.length by rw [← HN.out]; omega)
      cases e0
      have HL := Lib.hid (lab_at HX.out (by omega) HZ.out)
      clear hL
      by_cases hz : z = (j : Int)
      · subst hz
        go_enter Tryz.func27, Tryz.ntmps27
        go_wp2
        go_ret
        refine ⟨ret_b ?_, rfl⟩
        rw [← HR.out, HL.out]; simp
      · go_enter Tryz.func27, Tryz.ntmps27
        go_wp2
        go_ret
        refine ⟨ret_b ?_, rfl⟩
        rw [← HR.out, HL.out]; simp [hz]
    · have HL := Lib.hid (lab_no HX.out (fun h => h1 h.2))
      clear hL
      go_enter Tryz.func27, Tryz.ntmps27
      go_wp2
      go_ret
      refine ⟨ret_b ?_, rfl⟩
      rw [← HR.out, HL.out]
  · have HL := Lib.hid (lab_no HX.out (fun h => h0 h.1))
    clear hL
    go_enter Tryz.func27, Tryz.ntmps27
    go_wp2
    go_ret
    refine ⟨ret_b ?_, rfl⟩
    rw [← HR.out, HL.out]
def MkRel (w : World) (l : List Int) (g : Nat) (m i : Value) (wr : World) : Prop :=
  ∃ k m' : Nat, k + g = l.length ∧ i = .int .i64 (k : Int) ∧ m = .int .i64 (m' : Int) ∧ w = wr ∧ m' ≤ k ∧ mrk l = mrkF l g k m'
theorem mrk_step {l : List Int} {g k m : Nat} (h : labOk l k = true) : mrkF l (g + 1) k m = mrkF l g (k + 1) (if mne l k then m + 1 else m) := by rw [mrkF, if_pos h]
theorem mrk_stop {l : List Int} {g k m : Nat} (h : labOk l k = false) : mrkF l (g + 1) k m = (0, false) := by rw [mrkF, if_neg (by rw [h]; exact Bool.false_ne_true)]
set_option maxRecDepth 100000 in
set_option maxHeartbeats 1000000 in
theorem marks_any (A : Option Addr) (c : Nat) (l : List Int) (w : World) (hL : IAt w A l) (hl : l.length ≤ 100000) :
    Calls Tryz.prog 12 #[.slice A l.length c] w fun e w' => e = .returned (.tuple #[.int .i64 (mrk l).1, .bool (mrk l).2]) ∧ w = w' := by
  have HL := Lib.hid hL; clear hL
  obtain ⟨R, hR⟩ : ∃ R, mrk l = R := ⟨_, rfl⟩
  rw [hR]
  have HR := Lib.hid hR; clear hR
  obtain ⟨n, hn⟩ : ∃ n, n = l.length := ⟨_, rfl⟩
  rw [← hn] at hl ⊢
  have HN := Lib.hid hn; clear hn
  go_enter Tryz.func12, Tryz.ntmps12
  go_wp2
  go_loopg [4, 8] n (fun g m i wr => MkRel w l g m i wr)
  case atStart => exact ⟨0, 0, by have := HN.out; omega, rfl, rfl, rfl, Nat.le_refl _, by unfold mrk; rw [← HN.out]⟩
  case round =>
    obtain ⟨k, m, hk, rfl, rfl, rfl, hmk, hmr⟩ := hrel
    rw [← HN.out] at hk
    have HM := Lib.hid hmr; clear hmr
    by_cases hlt : k < n
    · obtain ⟨x, bk, o, rfl, HX, c0⟩ := iat_at HL.out (show k < l.length by rw [← HN.out]; exact hlt)
      have HC := maybe_any _ c l k w HL.out (by rw [← HN.out]; omega) (by rw [← HN.out]; exact hlt)
      rw [← HN.out] at HC
      obtain ⟨r, hr⟩ : ∃ r, labOk l k = r := ⟨_, rfl⟩
      rw [hr] at HC
      have HRR := Lib.hid hr; clear hr
      have HC' := Lib.hid HC; clear HC
      obtain ⟨G, hG⟩ : ∃ G, gk = G + 1 := ⟨gk - 1, by omega⟩
      cases r with
      | false =>
        have HF := Lib.hid ((HM.out.trans (by rw [hG])).trans (mrk_stop (g := G) HRR.out))
        go_wp2_with fail
        refine HC'.out.mono ?_
        rintro er w1 ⟨rfl, rfl⟩
        go_wp2
        go_ret2
        have e := HR.out.symm.trans HF.out
        exact ⟨by subst e; rfl, rfl⟩
      | true =>
        have HF := Lib.hid ((HM.out.trans (by rw [hG])).trans (mrk_step (g := G) HRR.out))
        have HO := Lib.hid (own_at HX.out)
        by_cases hxk : x = (k : Int)
        · subst hxk
          go_wp2_with fail
          refine HC'.out.mono ?_
          rintro er w1 ⟨rfl, rfl⟩
          go_wp2
          go_roundg (gk - 1)
          case measure => omega
          case rel =>
            refine ⟨k + 1, m + 1, by have := HN.out; omega, by go_num, by go_num, rfl, by omega, ?_⟩
            rw [HF.out, HO.out]; simp [hG]
        · go_wp2_with fail
          refine HC'.out.mono ?_
          rintro er w1 ⟨rfl, rfl⟩
          go_wp2
          go_roundg (gk - 1)
          case measure => omega
          case rel =>
            refine ⟨k + 1, m, by have := HN.out; omega, by go_num, rfl, rfl, by omega, ?_⟩
            rw [HF.out, HO.out]; simp [hG, hxk]
    · have HG : Hid (gk = 0) := Lib.hid (by omega)
      have HF := Lib.hid (HM.out.trans (show mrkF l gk k m = ((m : Int), true) by rw [HG.out]; rfl))
      go_wp2
      go_ret2
      have e := HR.out.symm.trans HF.out
      exact ⟨by subst e; rfl, rfl⟩
end Go.Proofs.YtkbmmlombigkmaaGreat.Mk
