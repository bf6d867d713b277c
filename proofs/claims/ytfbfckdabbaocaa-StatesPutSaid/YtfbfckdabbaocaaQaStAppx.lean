/-
  What is proved here: contracts of states.marksOf and states.told; words for a part in its box, and what keeps it. No condition. What is proved here: append of one number, one mark, one mail, in a region that draws its order. Condition: fewer than 10^9 of them.
-/
import Derived.Test.YtfbfckdabbaocaaQaStW1
import Derived.Test.YtfbfckdabbaocaaQaStMem
namespace Go.Proofs.Ytfbfckdabbaocaa.St
open Go.RowKit Gr Wd Ws Fx Rk Lb Al In
open Sq (BAt BOwn QOwn bls)
theorem marks_any (c h : Bool) (w : World) : Calls Try.prog 30 #[.bool c, .bool h] w fun e w' => e = .returned (.int .u8 ((flg c h : Nat) : Int)) ∧ w = w' := by
  cases c <;> cases h <;>
  · go_enter Try.func30, Try.ntmps30
    go_wp2
    go_ret
    exact ⟨rfl, rfl⟩
set_option maxRecDepth 100000 in
theorem res_m (fn : Func) (c : Nat) (tmps : Array Value) (w : World) (b : Nat) (a0 a1 : Value) (hr : fn.results = #[.cell c 61]) (ht : tmps.getD c undef = .pointer (some ⟨b, 0, none⟩))
    (f : w.heap[b]? = some (.cells #[a0, a1] 61 (0, 0))) : (results fn tmps).run Try.prog w = .ok (.agg #[a0, a1]) w := by
  have ht' : tmps[c]?.getD undef = .pointer (some ⟨b, 0, none⟩) := by simpa using ht
  have f0 : w.cell? ⟨b, 0, none⟩ = some a0 := by rw [Lib.cell_of_heap f]; rfl
  have f1 : w.cell? ⟨b, 1, none⟩ = some a1 := by rw [Lib.cell_of_heap f]; rfl
  simp [results, hr, ht', go_sem, f0, f1]
theorem told_any (h : Bool) (x : Int) (w : World) : Calls Try.prog 69 #[.agg #[.bool h, .int .i64 x]] w fun e w' => e = .returned (.agg #[.bool (nrmL (h, x)).1, .int .i64 (nrmL (h, x)).2]) ∧ Hid (Below w.heap.size w w') := by
  have hal := al2 w (.cells #[.bool h, .int .i64 x] 61) (.cells #[.bool false, .int .i64 0] 61)
  obtain ⟨W1, hW1⟩ : ∃ W1, W1 = (w.alloc (.cells #[.bool h, .int .i64 x] 61)).alloc (.cells #[.bool false, .int .i64 0] 61) := ⟨_, rfl⟩
  rw [← hW1] at hal
  obtain ⟨b0, e0⟩ : ∃ b0, b0 = w.heap.size := ⟨_, rfl⟩
  obtain ⟨b1, e1⟩ : ∃ b1, b1 = w.heap.size + 1 := ⟨_, rfl⟩
  obtain ⟨y0, y1, hb⟩ := hal
  rw [← e0] at y0; rw [← e1] at y1
  obtain ⟨m0, m1, _⟩ := ml_cells y0
  have HB := Lib.hid hb
  have HY := Lib.hid y1
  have hf : W1.frozen? ⟨b1, 0, none⟩ = false ∧ W1.frozen? ⟨b1, 1, none⟩ = false := ⟨Lib.frozen_of_heap y1 _, Lib.frozen_of_heap y1 _⟩
  obtain ⟨hf0, hf1⟩ := hf
  obtain ⟨n0, n1, _⟩ := ml_cells y1
  have HS : ∀ u0 u1, Hid (((W1.setCell ⟨b1, 0, none⟩ u0).setCell ⟨b1, 1, none⟩ u1).heap[b1]? = some (.cells #[u0, u1] 61 (0, 0)) ∧ Below w.heap.size w ((W1.setCell ⟨b1, 0, none⟩ u0).setCell ⟨b1, 1, none⟩ u1)) := fun u0 u1 => Lib.hid ⟨by
    have h1 := heap_setCell_same W1 b1 0 _ _ u0 y1
    exact heap_setCell_same _ b1 1 _ _ u1 h1, (HB.out.setCell (p := ⟨b1, 0, none⟩) (by show w.heap.size ≤ b1; omega) u0).setCell (p := ⟨b1, 1, none⟩) (by show w.heap.size ≤ b1; omega) u1⟩
  clear hb y0 y1
  cases h with
  | true =>
    go_enter Try.func69, Try.ntmps69
    go_upto_region 1 with fail
    rw [← hW1, show w.heap.size + 1 = b1 from e1.symm, show w.heap.size = b0 from e0.symm]
    clear hW1 e0 e1
    go_wp2
    refine bodyPost_ret (v := .agg #[.bool true, .int .i64 x]) (res_m _ 2 _ _ b1 _ _ rfl rfl (HS _ _).out.1) rfl ⟨rfl, Lib.hid (HS _ _).out.2⟩
  | false =>
    go_enter Try.func69, Try.ntmps69
    go_upto_region 1 with fail
    rw [← hW1, show w.heap.size + 1 = b1 from e1.symm, show w.heap.size = b0 from e0.symm]
    clear hW1 e0 e1
    go_wp2
    refine bodyPost_ret (v := .agg #[.bool false, .int .i64 0]) (res_m _ 2 _ _ b1 _ _ rfl rfl (HS _ _).out.1) rfl ⟨rfl, Lib.hid (HS _ _).out.2⟩
def PBx (T : TypeId) (w : World) (b B : Nat) (p : Pr) : Prop := ∃ vo vv vc vi, w.heap[b]? = some (.cells #[.int .i64 p.st, vo, vv, vc, vi] T (0, 0)) ∧ IOwn w B vo p.own ∧ QOwn w B vv p.vals ∧ BOwn w B vc p.chg ∧ KOwn w B vi p.inb
theorem PBx.below {T : TypeId} {w w' : World} {b B : Nat} {p : Pr} (h : PBx T w b B p) (hb : Below w.heap.size w w') : PBx T w' b B p := by
  obtain ⟨vo, vv, vc, vi, h0, h1, h2, h3, h4⟩ := h
  exact ⟨vo, vv, vc, vi, keep h0 hb, h1.below hb, h2.below hb, h3.below hb, h4.below hb⟩
theorem own_past {w w' : World} {B r : Nat} {e : TypeId} {s : Nat} {v : Value} {n : Nat} {xs : List Value} (h : w.ownsRow B e s v n xs) (hg : w.grownBy w' (some r)) (hr : r < B) : w'.ownsRow B e s v n xs :=
  own_kept h fun g _ _ he hc => hg.block g (lt_of_block hc) fun e2 => by
    injection e2 with e2
    have := (own_lt h g he).1
    omega
theorem PBx.past {T : TypeId} {w w' : World} {b B r : Nat} {p : Pr} (h : PBx T w b B p) (hg : w.grownBy w' (some r)) (hb : r ≠ b) (hr : r < B) : PBx T w' b B p := by
  obtain ⟨vo, vv, vc, vi, h0, h1, h2, h3, h4⟩ := h
  exact ⟨vo, vv, vc, vi, (hg.block b (lt_of_block h0) fun e => by injection e with e; exact hb e.symm).trans h0, own_past h1 hg hr, own_past h2 hg hr, own_past h3 hg hr, own_past h4 hg hr⟩
def addE (p : Pr) (e : En) : Pr := ⟨p.st, p.own ++ [e.v], p.vals ++ [e.x], p.chg ++ [e.c], p.inb ++ [nrmL e.m]⟩
theorem addE_of (st : Int) (l : List En) (e : En) : addE (ofE st l) e = ofE st (l ++ [nrmE e]) := by
  unfold addE ofE nrmE; simp
end Go.Proofs.Ytfbfckdabbaocaa.St
namespace Go.Proofs.Ytfbfckdabbaocaa.St
open Go.RowKit Gr Wd Ws Fx Rk Lb Al In
open Sq (BAt BOwn QOwn bls infoQ infoB)
theorem xapp_k {w : World} {o : Oper} {a : Act} {K : Act → World → Prop} {Q : Exit → Act → World → Prop} (s x : Operand)
    (ho : o.op = .call { callee := .builtin .append, args := #[s, x], argTypes := #[25, 25] }) (B : Nat) (v : Value) (L : List Ml) (e0 : Bool) (e1 : Int) (hs : a.eval s = v) (hown : KOwn w B v L)
    (g : Nat) (hx : a.eval x = .slice (some ⟨g, 0, none⟩) 1 1) (hg : w.heap[g]? = some (.cells #[.bool e0, .int .i64 e1] 61 (0, 0))) (hn : L.length < 1000000000) (hB : B ≤ w.heap.size)
    (h : ∀ v' w', KOwn w' B v' (L ++ [(e0, e1)]) → w.grownBy w' v.ownBlock → K (a.put o.dst v') w') : o.wp Try.prog a w K Q := by
  obtain ⟨i0, hi, hz0, hz1, hz2⟩ := info_parts infoK
  refine wp_append_own w s x 25 ho B 61 i0 _ 2 16 Try.underlying25 hi hz0 hz1 hz2 rfl (by decide) v L.length (kcs L) hs hown ⟨g, 0, none⟩ 1 1 (kc (e0, e1)) hx rfl ?_ ?_ ?_ ?_ hB ?_
  · intro j u hu
    rw [add_plain, Lib.cell_of_heap hg]
    rcases j with _ | _ | j
    · simpa [kc] using hu
    · simpa [kc] using hu
    · simp [kc] at hu
  · intro u hu
    simp only [kc, List.mem_cons, List.not_mem_nil, or_false] at hu
    rcases hu with rfl | rfl <;> rfl
  · unfold maxLen; omega
  · omega
  · intro v' w' h1 h2 _
    refine h v' w' ?_ h2
    unfold KOwn
    rw [kcs_append, List.length_append]
    have : kcs [(e0, e1)] = kc (e0, e1) := by simp [kcs]
    rw [this]; exact h1
end Go.Proofs.Ytfbfckdabbaocaa.St
