/-
  What is proved here: inside a round of a loop over a function a region runs as outside of it; and regions that draw their order, whose first operations leave what is held, in whatever order, and whose last ones go in one forced order. No condition on a program.
-/
import Derived.Test.YtfbfckdabbaocaaRows
import Derived.StillTail
import Derived.Deep.QuietTactic
import Derived.BigQuiet
import Derived.Lib.QuietBelow
import Derived.OrdersHeld
import Derived.OrdersIn
import Derived.TacticsIn
import Derived.RangeFuncKeeps
namespace Go.Proofs.Ytfbfckdabbaocaa.Tl
open Go.RowKit Go.Sort
section
variable {P : Program} {ops : Array Oper} {md : Region.Mode} {Q : Exit → Act → World → Prop} {l n : Nat}
end
structure InvX (md : Region.Mode) (ops : Array Oper) (n p : Nat) (listed : Array Bool) : Prop where
  size : listed.size = ops.size
  closed : ∀ j oj, ops[j]? = some oj → listed.getD j false = true → ∀ e ∈ oj.after, Region.binds md e = true → listed.getD e.on false = true
  tail : ∀ t, n ≤ t → t < ops.size → t ≠ p → listed.getD t true = false
  pre : listed.getD p true = true
def chainX (md : Region.Mode) (ops : Array Oper) (n p : Nat) : Bool :=
  decide (n ≠ p) && (List.range ops.size).all fun t => decide (t ≤ n) || decide (t = p) || Region.waitsFor md ops t n
section
variable {P : Program} {ops : Array Oper} {md : Region.Mode} {S : World → Prop} {Q : Exit → Act → World → Prop} {n p g : Nat}
theorem InvX.set {i : Nat} {listed : Array Bool} (inv : InvX md ops n p listed) (hi : i ∈ Region.ready md ops listed) (hin : i < n) : InvX md ops n p (listed.setIfInBounds i true) := by
  obtain ⟨hun, oi, hoi, hall⟩ := mem_ready.1 hi
  refine ⟨by simp [inv.size], fun j oj hj hl e he hb => ?_, fun t ht ht' htp => by rw [getD_set_ne true (by omega)]; exact inv.tail t ht ht' htp, ?_⟩
  · by_cases hij : i = j
    · subst hij
      have : oj = oi := Option.some.inj (hj.symm.trans hoi)
      subst this
      exact getD_set_true (hall e he hb)
    · rw [getD_set_ne false hij] at hl
      exact getD_set_true (inv.closed j oj hj hl e he hb)
  · by_cases hip : i = p
    · subst hip; rw [inv.pre] at hun; cases hun
    · rw [getD_set_ne true hip]; exact inv.pre
theorem waitsX {listed : Array Bool} (hs : Region.sinkB md ops n = true) (hc : chainX md ops n p = true) (hn : n < ops.size) (inv : InvX md ops n p listed) :
    ∀ (d i : Nat), n - i = d → i < n → listed.getD i true = false → ∀ t, n ≤ t → t ∉ Region.ready md ops listed := by
  unfold chainX at hc
  simp only [Bool.and_eq_true, decide_eq_true_eq] at hc
  obtain ⟨hnp, hc⟩ := hc
  intro d
  induction d using Nat.strongRecOn with
  | _ d ih =>
    intro i hd hi hun t ht hr
    obtain ⟨htun, ot, hot, hall⟩ := mem_ready.1 hr
    have htlt : t < ops.size := (Array.getElem?_eq_some_iff.1 hot).1
    by_cases htn : t = n
    · subst htn
      have h1 := List.all_eq_true.1 hs i (List.mem_range.2 hi)
      obtain ⟨j, hj, hj2⟩ := List.any_eq_true.1 h1
      simp only [Bool.and_eq_true, decide_eq_true_eq] at hj2
      obtain ⟨oj, hoj, e, he, hb, hon⟩ := Region.waitsFor_spec hj2.2
      have hjle : j ≤ t := by have := List.mem_range.1 hj; omega
      by_cases hjt : j = t
      · subst hjt
        have : oj = ot := Option.some.inj (hoj.symm.trans hot)
        subst this
        have h2 := hall e he hb
        rw [hon, getD_both hun] at h2
        cases h2
      · cases hl : listed.getD j false with
        | true =>
          have h2 := inv.closed j oj hoj hl e he hb
          rw [hon, getD_both hun] at h2
          cases h2
        | false =>
          have hjs : j < listed.size := by rw [inv.size]; omega
          exact ih (t - j) (by omega) j rfl (by omega) (getD_in hjs hl) t (Nat.le_refl _) hr
    · by_cases htp : t = p
      · subst htp; rw [inv.pre] at htun; cases htun
      · have h1 := List.all_eq_true.1 hc t (List.mem_range.2 htlt)
        simp only [Bool.or_eq_true, decide_eq_true_eq] at h1
        rcases h1 with (h1 | h1) | h1
        · omega
        · exact htp h1
        · obtain ⟨o', ho', e, he, hb, hon⟩ := Region.waitsFor_spec h1
          have : o' = ot := Option.some.inj (ho'.symm.trans hot)
          subst this
          have h2 := hall e he hb
          rw [hon, getD_both (inv.tail n (Nat.le_refl _) hn hnp)] at h2
          cases h2
def headX (P : Program) (md : Region.Mode) (ops : Array Oper) (Q : Exit → Act → World → Prop) (S : World → Prop) (n p g : Nat) : Nat → Array Bool → Act → World → Prop
  | 0, listed, a, w => InvX md ops n p listed → (∀ j ∈ Region.ready md ops listed, n ≤ j) ∧ wpAny P md ops Q g listed a w
  | f + 1, listed, a, w => InvX md ops n p listed → Region.ready md ops listed ≠ [] ∧ ∀ i ∈ Region.ready md ops listed, i < n ∧ wpOp P ops Q i (fun a' w' => S w' ∧ headX P md ops Q S n p g f (listed.setIfInBounds i true) a' w') a w
theorem any_of_headX : ∀ (f : Nat) (listed : Array Bool) (a : Act) (w : World), InvX md ops n p listed → headX P md ops Q S n p g f listed a w → wpAny P md ops Q (f + g) listed a w
  | 0, _, _, _, inv, h => by rw [Nat.zero_add]; exact (h inv).2
  | f + 1, listed, a, w, inv, h => by
    rw [show f + 1 + g = (f + g) + 1 by omega]
    exact ⟨fun h0 => absurd h0 (h inv).1, fun i hi => wpOp_mono (fun a' w' h' => any_of_headX f _ a' w' (inv.set hi ((h inv).2 i hi).1) h'.2) ((h inv).2 i hi).2⟩
theorem headX_first (hs : Region.sinkB md ops n = true) (hc : chainX md ops n p = true) (hn : n < ops.size) {i : Nat} {oi : Oper} {v : Value} (hi : ops[i]? = some oi) (hin : i < n) (hsel : ∀ (j : Nat) (o : Oper) cs b, ops[j]? = some o → o.op ≠ .select cs b)
    (hQ : ∀ c a w, Q (.panic c) (a.put oi.dst v) w → Q (.panic c) a w) :
    ∀ (f : Nat) (listed : Array Bool) (a : Act) (w : World),
      (∀ j oj, ops[j]? = some oj → j ≠ i → listed.getD j true = false → (∀ e ∈ oj.after, Region.binds md e = true → e.on ≠ i) → oi.apart ops oj = true) →
      i ∈ Region.ready md ops listed → YieldsIf P ops S oi v a → S w →
      headX P md ops Q S n p g f (listed.setIfInBounds i true) (a.put oi.dst v) w → headX P md ops Q S n p g (f + 1) listed a w := by
  intro f
  induction f with
  | zero =>
    intro listed a w _ hr hy hS H inv
    have hun := (mem_ready.1 hr).1
    refine ⟨fun h => (by rw [h] at hr; cases hr), fun j hj => ?_⟩
    have hjn : j < n := by
      rcases Nat.lt_or_ge j n with h | h
      · exact h
      · exact absurd hj (waitsX hs hc hn inv _ i rfl hin hun j h)
    refine ⟨hjn, ?_⟩
    by_cases hji : j = i
    · subst hji; exact hy.wpOp hi hS ⟨hS, H⟩
    · have := (H (inv.set hr hin)).1 j (ready_mono hj hji)
      omega
  | succ f ih =>
    intro listed a w hfree hr hy hS H inv
    have hun := (mem_ready.1 hr).1
    refine ⟨fun h => (by rw [h] at hr; cases hr), fun j hj => ?_⟩
    have hjn : j < n := by
      rcases Nat.lt_or_ge j n with h | h
      · exact h
      · exact absurd hj (waitsX hs hc hn inv _ i rfl hin hun j h)
    refine ⟨hjn, ?_⟩
    by_cases hji : j = i
    · subst hji; exact hy.wpOp hi hS ⟨hS, H⟩
    · have h1 := ((H (inv.set hr hin)).2 j (ready_mono hj hji)).2
      obtain ⟨hjun, oj, hoj, hall⟩ := mem_ready.1 hj
      have hnot : ∀ e ∈ oj.after, Region.binds md e = true → e.on ≠ i := fun e he hb heq => by
        have h1 := hall e he hb
        rw [heq, getD_both hun] at h1
        cases h1
      have h2 := wpOp_putIf hoj (hfree j oj hoj hji hjun hnot) (fun cs b => hsel i oi cs b hi) (fun cs b => hsel j oj cs b hoj) hQ hy h1
      have hfree' : ∀ k ok, ops[k]? = some ok → k ≠ i → (listed.setIfInBounds j true).getD k true = false →
          (∀ e ∈ ok.after, Region.binds md e = true → e.on ≠ i) → oi.apart ops ok = true := fun k ok hk hki hun hno => by
        refine hfree k ok hk hki ?_ hno
        by_cases hjk : j = k
        · subst hjk; exact hjun
        · rw [getD_set_ne true hjk] at hun; exact hun
      refine wpOp_mono (fun a' w' h3 => ⟨h3.2.1, ih (listed.setIfInBounds j true) a' w' hfree' (ready_mono hr (Ne.symm hji)) h3.1 h3.2.1 ?_⟩) h2
      rw [Array.setIfInBounds_comm _ _ hji]
      exact h3.2.2
theorem headX_take (hg : (Region.sinkB md ops n && chainX md ops n p && decide (n < ops.size)) = true) {i : Nat} {oi : Oper} {v : Value} {f : Nat} {listed : Array Bool} {a : Act} {w : World} (hi : ops[i]? = some oi) (hin : i < n)
    (hsel : Region.noSelect ops = true) (hf : Region.free md ops listed i = true) (hr : (Region.ready md ops listed).contains i = true)
    (hQ : ∀ c a w, Q (.panic c) (a.put oi.dst v) w → Q (.panic c) a w) (hy : YieldsIf P ops S oi v a) (hS : S w)
    (h : headX P md ops Q S n p g f (listed.setIfInBounds i true) (a.put oi.dst v) w) : headX P md ops Q S n p g (f + 1) listed a w := by
  simp only [Bool.and_eq_true, decide_eq_true_eq] at hg
  exact headX_first hg.1.1 hg.1.2 hg.2 hi hin (Region.noSelect_spec hsel) hQ f listed a w (Region.free_spec hi hf) (by simpa using hr) hy hS h
theorem headX_tk {r : List Oper} {oi : Oper} {f : Nat} {listed : Array Bool} {a : Act} {w : World} (i : Nat) (v : Value) (hi : r[i]? = some oi) (hg : (Region.sinkB md r.toArray n && chainX md r.toArray n p && decide (n < r.toArray.size)) = true) (hin : i < n)
    (hsel : Region.noSelect r.toArray = true) (hf : Region.free md r.toArray listed i = true) (hr : (Region.ready md r.toArray listed).contains i = true)
    (hQ : ∀ c a w, Q (.panic c) (a.put oi.dst v) w → Q (.panic c) a w) (hw : Region.wanted oi (yielded r.toArray a.tmps) = true) (he : ∀ w, S w → (execOp a.eval oi).run P w = .ok (.value v) w) (hS : S w)
    (h : headX P md r.toArray Q S n p g f (listed.setIfInBounds i true) (a.put oi.dst v) w) : headX P md r.toArray Q S n p g (f + 1) listed a w :=
  headX_take hg (by simpa using hi) hin hsel hf hr hQ (Or.inl ⟨hw, he⟩) hS h
theorem headX_one {i : Nat} {o : Oper} {f : Nat} {listed : Array Bool} {a : Act} {w : World} (hi : ops[i]? = some o) (hin : i < n) (hr : Region.ready md ops listed = [i]) (hw : Region.wanted o (yielded ops a.tmps) = true)
    (h : ∀ K : Act → World → Prop, (∀ a' w', S w' → headX P md ops Q S n p g f (listed.setIfInBounds i true) a' w' → K a' w') → o.wp P a w K Q) : headX P md ops Q S n p g (f + 1) listed a w := by
  intro _
  refine ⟨by rw [hr]; simp, fun j hj => ?_⟩
  rw [hr] at hj
  obtain rfl : j = i := by simpa using hj
  refine ⟨hin, ?_⟩
  unfold wpOp
  simp only [hi, hw, if_true]
  exact .inl (h _ fun a' w' h1 h2 => ⟨h1, h2⟩)
theorem headX_vl {r : List Oper} {o : Oper} {f : Nat} {listed : Array Bool} {a : Act} {w : World} (i : Nat) (v : Value) (w' : World) (hi : r[i]? = some o) (hin : i < n) (hr : Region.ready md r.toArray listed = [i]) (hw : Region.wanted o (yielded r.toArray a.tmps) = true)
    (he : (execOp a.eval o).run P w = .ok (.value v) w') (hS : S w') (h : headX P md r.toArray Q S n p g f (listed.setIfInBounds i true) (a.put o.dst v) w') : headX P md r.toArray Q S n p g (f + 1) listed a w :=
  headX_one (by simpa using hi) hin hr hw fun K hK => by
    show o.upon P a K Q _
    rw [he]
    exact hK _ _ hS h
theorem headX_cl {r : List Oper} {o : Oper} {f : Nat} {listed : Array Bool} {a : Act} {w : World} {R : Value → World → Prop} (i : Nat) (fn : FuncId) (args : Array Value) (hi : r[i]? = some o) (hin : i < n) (hr : Region.ready md r.toArray listed = [i]) (hw : Region.wanted o (yielded r.toArray a.tmps) = true)
    (he : (execOp a.eval o).run P w = .ok (.enter fn args) w) (hc : Calls P fn args w fun e w' => ∃ v, e = .returned v ∧ R v w') (h : ∀ v w', R v w' → S w' ∧ headX P md r.toArray Q S n p g f (listed.setIfInBounds i true) (a.put o.dst v) w') : headX P md r.toArray Q S n p g (f + 1) listed a w :=
  headX_one (by simpa using hi) hin hr hw fun K hK => by
    show o.upon P a K Q _
    rw [he, Oper.upon_enter]
    refine hc.mono ?_
    rintro e w2 ⟨v, rfl, h2⟩
    exact hK _ _ (h v w2 h2).1 (h v w2 h2).2
theorem headX_rest {r : List Oper} {listed : Array Bool} {a : Act} {w : World} (hB : Region.seqB md r.toArray (r.length - n) n listed = true) (h : wpList P r.toArray Q (r.drop n) a w) : headX P md r.toArray Q S n p (r.length - n) 0 listed a w := by
  intro _
  refine ⟨seqB_ready hB, ?_⟩
  have hdl : (r.drop n).length = r.length - n := by simp
  have := wpAny_of_seq (md := md) (Q' := Q) (r.drop n) n listed a w (fun j => by simp [List.getElem?_drop]) (by rw [hdl]; exact hB) h
  rwa [hdl] at this
theorem inv_none {n p : Nat} (hp : ops.size ≤ p) : InvX md ops n p (Array.replicate ops.size false) :=
  ⟨by simp, fun j oj _ hl => (by rw [getD_replicate_false] at hl; cases hl), fun t _ ht _ => getD_in (by simpa using ht) (getD_replicate_false _ _), by simp [hp]⟩
theorem headX_region {id : Nat} {a : Act} {w : World} {r : List Oper} (n : Nat) (hm : P.follows .mixedOrders = true) (hn : n ≤ r.length) (h : headX P .any r.toArray Q S n r.length (r.length - n) n (Array.replicate r.length false) a w.drew) :
    (Code.region id r.toArray true).wp P Q a w := by
  refine wp_region_any hm ?_
  have := any_of_headX n _ _ _ (by have := inv_none (md := .any) (ops := r.toArray) (n := n) (p := r.length) (by simp); simpa using this) h
  rw [show n + (r.length - n) = r.toArray.size by simp; omega] at this
  simpa using this
end
end Go.Proofs.Ytfbfckdabbaocaa.Tl
