/-
  What is proved here: what the contract of the document's own Cut wants: rows that are put behind one another, beside a part's box. No condition.
-/
import Derived.Test.YtjcgejbggmpikaaPtW8
import Derived.Deep.AppendLies
import Derived.Deep.RegionLaw
import Derived.Deep.CutRange
namespace Go.Proofs.Ytjcgejbggmpikaa.Pt
open Go.RowKit Gr Wd Ws

/- One row more, at a step of a region that draws its order. -/
theorem step_r {ops : Array Oper} {o : Oper} {a : Act} {w : World} {K : Act → World → Prop} {Q : Exit → Act → World → Prop} {E : Prop} (hgd : o.guard = none) (s x : Operand)
    (ho : o.op = .call { callee := .builtin .append, args := #[s, x], argTypes := #[32, 32] }) (B : Nat) (v : Value) (Ls : List (List Ed)) (y : Value) (L : List Ed) (hs : a.eval s = v) (hown : ROwn w B v Ls)
    (g : Nat) (hx : a.eval x = .slice (some ⟨g, 0, none⟩) 1 1) (hg : w.heap[g]? = some (.cells #[y] 28 (0, 0))) (hy : EOwn w B y L) (hn : Ls.length < 1000000000) (hB : B ≤ w.heap.size)
    (h : ∀ g' cap w', ROwn w' B (.slice (some ⟨g', 0, none⟩) (Ls.length + 1) cap) (Ls ++ [L]) → w.grownBy w' v.ownBlock → (v.ownBlock = some g' ∨ g' = w.heap.size) → K (a.put o.dst (.slice (some ⟨g', 0, none⟩) (Ls.length + 1) cap)) w') :
    if Region.wanted o (yielded ops a.tmps) = true then Oper.wp Try.prog o a w K Q else E := by
  obtain ⟨i0, hi, hz0, hz1, hz2⟩ := info_parts infoR
  obtain ⟨xs, hown, hea⟩ := hown
  refine step_append_lies w hgd s x 32 ho B 28 i0 _ 1 24 Try.underlying32 hi hz0 hz1 hz2 rfl (by decide) v Ls.length xs hs hown ⟨g, 0, none⟩ 1 1 [y] hx rfl ?_ ?_ (by omega) ?_ ?_ hB w.heap.size rfl ?_
  · intro j u hu
    rw [add_plain, Lib.cell_of_heap hg]
    rcases j with _ | j
    · simpa using hu
    · simp at hu
  · intro u hu
    simp only [List.mem_cons, List.not_mem_nil, or_false] at hu
    rw [hu]
    obtain ⟨A, c, rfl, _⟩ := hy.form; rfl
  · unfold maxLen; omega
  · omega
  · intro g' cap w' h1 h2 h3 _
    have hk : ∀ (z : Value) (M : List Ed), EOwn w B z M → EOwn w' B z M := fun z M hz => own_kept hz fun b c fz hb hc => h2.block b (lt_of_block hc) (fun e => by
      obtain ⟨_, c1, hc1⟩ := own_lt hown b e.symm
      rw [hc1] at hc; injection hc with hc; injection hc with _ hc _
      exact absurd hc (by decide))
    refine h g' cap w' ⟨xs ++ [y], by rw [List.length_append]; exact h1, Each.snoc ⟨hea.1, fun k M hM => ?_⟩ (hk _ _ hy)⟩ h2 h3
    obtain ⟨z, h4, h5⟩ := hea.2 k M hM
    exact ⟨z, h4, hk _ _ h5⟩

/- What a change of another block leaves. -/
theorem own_other {w w' : World} {B : Nat} {e : TypeId} {s : Nat} {v : Value} {n : Nat} {xs : List Value} {r : Option Nat} (h : w.ownsRow B e s v n xs) (hg : w.grownBy w' r) (hr : ∀ j, v.ownBlock = some j → r ≠ some j) : w'.ownsRow B e s v n xs :=
  own_kept h fun g _ _ hv hc => hg.block g (lt_of_block hc) (fun e => hr g hv e.symm)
theorem each_other {w w' : World} {B : Nat} {xs : List Value} {Ls : List (List Ed)} {r : Option Nat} (h : Each w B xs Ls) (hg : w.grownBy w' r) (hr : ∀ j c fz, r = some j → w.heap[j]? ≠ some (.cells c 44 fz)) : Each w' B xs Ls :=
  ⟨h.1, fun k L hk => by
    obtain ⟨x, h1, h2⟩ := h.2 k L hk
    exact ⟨x, h1, own_other h2 hg fun j hj e => by
      obtain ⟨_, c, hc⟩ := own_lt h2 j hj
      exact hr j c _ e hc⟩⟩
theorem rown_other {w w' : World} {B : Nat} {v : Value} {Ls : List (List Ed)} {r : Option Nat} (h : ROwn w B v Ls) (hg : w.grownBy w' r) (hr : ∀ j, v.ownBlock = some j → r ≠ some j) (hr2 : ∀ j c fz, r = some j → w.heap[j]? ≠ some (.cells c 44 fz)) : ROwn w' B v Ls := by
  obtain ⟨xs, h1, h2⟩ := h
  exact ⟨xs, own_other h1 hg hr, each_other h2 hg hr2⟩
theorem set_grown (w : World) (b j : Nat) (u : Value) : w.grownBy (w.setCell ⟨b, j, none⟩ u) (some b) :=
  ⟨rfl, rfl, rfl, by simp [World.setCell], fun k _ hk => Below.heap_setCell w ⟨b, j, none⟩ u k (fun e => hk (by rw [e]))⟩

/- The part's box holds t2 and t3 as its rows of rows; s2 and s3 are the rows that the rounds of Cut have made. Ap: they lie apart. -/
def Ap (s t : Value) : Prop := ∀ j, s.ownBlock = some j → t.ownBlock ≠ some j
structure CtB (w wr : World) (bp : Nat) (V : Int) (A : Option Addr) (c : Nat) (L : List Ed) (x k : Int) (l : List Int) (s1 t2 t3 s2 s3 : Value) (F G : List (List Ed)) : Prop where
  bel : Below w.heap.size w wr
  lo : w.heap.size + 2 ≤ bp
  box : wr.heap[bp]? = some (.cells #[.int .i64 x, .int .i64 k, .int .i64 V, s1, t2, t3] 38 (0, 0))
  gb : wr.heap[w.heap.size]? = some (.cells #[.int .i64 V, .slice A L.length c] 30 (0, 0))
  eL : EAt w A L
  res : wr.heap[w.heap.size + 1]? = some (.cells #[.int .i64 0, .int .i64 0, .int .i64 0, .slice none 0 0, .slice none 0 0, .slice none 0 0] 38 (0, 0))
  own : IOwn wr (w.heap.size + 2) s1 l
  out : ROwn wr (w.heap.size + 2) s2 F
  back : ROwn wr (w.heap.size + 2) s3 G
  ap : Ap s2 s3
theorem rown_bt {w : World} {B : Nat} {v : Value} {Ls : List (List Ed)} (h : ROwn w B v Ls) : ∀ j, v.ownBlock = some j → B ≤ j ∧ ∃ c, w.heap[j]? = some (.cells c 28 (0, 0)) := by
  obtain ⟨xs, h, _⟩ := h
  exact own_lt h
section
variable {w wr w' : World} {bp : Nat} {V : Int} {A : Option Addr} {c : Nat} {L : List Ed} {x k : Int} {l : List Int} {s1 t2 t3 s2 s3 : Value} {F G : List (List Ed)}
theorem CtB.below (h : CtB w wr bp V A c L x k l s1 t2 t3 s2 s3 F G) (hb : Below wr.heap.size wr w') : CtB w w' bp V A c L x k l s1 t2 t3 s2 s3 F G :=
  ⟨h.bel.trans (hb.mono h.bel.size), h.lo, (hb.block _ (lt_of_block h.box)).trans h.box, (hb.block _ (lt_of_block h.gb)).trans h.gb, h.eL, (hb.block _ (lt_of_block h.res)).trans h.res, h.own.below hb, h.out.below hb, h.back.below hb, h.ap⟩
theorem CtB.eat (h : CtB w wr bp V A c L x k l s1 t2 t3 s2 s3 F G) : EAt wr A L := h.eL.below h.bel
theorem type_ne {w : World} {j : Nat} {c d : Array Value} {T U : TypeId} {p q : Nat × Nat} (h : w.heap[j]? = some (.cells c T p)) (g : w.heap[j]? = some (.cells d U q)) : T = U := by
  rw [h] at g; injection g with g; injection g
theorem CtB.app2 (h : CtB w wr bp V A c L x k l s1 t2 t3 s2 s3 F G) {g n cap : Nat} {F' : List (List Ed)} (ho : ROwn w' (w.heap.size + 2) (.slice (some ⟨g, 0, none⟩) n cap) F') (hg : wr.grownBy w' s2.ownBlock) (hat : s2.ownBlock = some g ∨ g = wr.heap.size) :
    CtB w w' bp V A c L x k l s1 t2 t3 (.slice (some ⟨g, 0, none⟩) n cap) s3 F' G := by
  have hb := rown_bt h.out
  have keep : ∀ (b : Nat) (cs : Array Value) (T : TypeId) (fz : Nat × Nat), wr.heap[b]? = some (.cells cs T fz) → T ≠ 28 → w'.heap[b]? = some (.cells cs T fz) := fun b cs T fz hh hT =>
    (hg.block b (lt_of_block hh) (fun e => by obtain ⟨_, d, hd⟩ := hb b e.symm; exact hT (type_ne hh hd))).trans hh
  refine ⟨Below.grown h.bel hg h.bel.size (fun j e => by have := (hb j e).1; omega), h.lo, keep _ _ _ _ h.box (by decide), keep _ _ _ _ h.gb (by decide), h.eL, keep _ _ _ _ h.res (by decide), ?_, ho, ?_, ?_⟩
  · refine own_other h.own hg fun j hj e => ?_
    obtain ⟨_, d, hd⟩ := own_lt h.own j hj
    obtain ⟨_, d2, hd2⟩ := hb j e
    exact absurd (type_ne hd hd2) (by decide)
  · refine rown_other h.back hg (fun j hj e => h.ap j e hj) (fun j d fz e hh => ?_)
    obtain ⟨_, d2, hd2⟩ := hb j e
    exact absurd (type_ne hh hd2) (by decide)
  · intro j hj e
    have hjg : j = g := by simpa [Value.ownBlock] using hj.symm
    subst hjg
    rcases hat with hat | hat
    · exact h.ap j hat e
    · obtain ⟨_, d, hd⟩ := rown_bt h.back j e
      have := lt_of_block hd
      omega
theorem CtB.app3 (h : CtB w wr bp V A c L x k l s1 t2 t3 s2 s3 F G) {g n cap : Nat} {G' : List (List Ed)} (ho : ROwn w' (w.heap.size + 2) (.slice (some ⟨g, 0, none⟩) n cap) G') (hg : wr.grownBy w' s3.ownBlock) (hat : s3.ownBlock = some g ∨ g = wr.heap.size) :
    CtB w w' bp V A c L x k l s1 t2 t3 s2 (.slice (some ⟨g, 0, none⟩) n cap) F G' := by
  have hb := rown_bt h.back
  have keep : ∀ (b : Nat) (cs : Array Value) (T : TypeId) (fz : Nat × Nat), wr.heap[b]? = some (.cells cs T fz) → T ≠ 28 → w'.heap[b]? = some (.cells cs T fz) := fun b cs T fz hh hT =>
    (hg.block b (lt_of_block hh) (fun e => by obtain ⟨_, d, hd⟩ := hb b e.symm; exact hT (type_ne hh hd))).trans hh
  refine ⟨Below.grown h.bel hg h.bel.size (fun j e => by have := (hb j e).1; omega), h.lo, keep _ _ _ _ h.box (by decide), keep _ _ _ _ h.gb (by decide), h.eL, keep _ _ _ _ h.res (by decide), ?_, ?_, ho, ?_⟩
  · refine own_other h.own hg fun j hj e => ?_
    obtain ⟨_, d, hd⟩ := own_lt h.own j hj
    obtain ⟨_, d2, hd2⟩ := hb j e
    exact absurd (type_ne hd hd2) (by decide)
  · refine rown_other h.out hg (fun j hj e => h.ap j hj e) (fun j d fz e hh => ?_)
    obtain ⟨_, d2, hd2⟩ := hb j e
    exact absurd (type_ne hh hd2) (by decide)
  · intro j hj e
    have hjg : j = g := by simpa [Value.ownBlock] using e.symm
    subst hjg
    rcases hat with hat | hat
    · exact h.ap j hj hat
    · obtain ⟨_, d, hd⟩ := rown_bt h.out j hj
      have := lt_of_block hd
      omega
/- The box is written. -/
theorem CtB.set (h : CtB w wr bp V A c L x k l s1 t2 t3 s2 s3 F G) (j : Nat) (u : Value) {t2' t3' : Value} (hx : (wr.setCell ⟨bp, j, none⟩ u).heap[bp]? = some (.cells #[.int .i64 x, .int .i64 k, .int .i64 V, s1, t2', t3'] 38 (0, 0))) :
    CtB w (wr.setCell ⟨bp, j, none⟩ u) bp V A c L x k l s1 t2' t3' s2 s3 F G := by
  have hg := set_grown wr bp j u
  have hp := h.lo
  have keep : ∀ (b : Nat) (o : Obj), wr.heap[b]? = some o → b ≠ bp → (wr.setCell ⟨bp, j, none⟩ u).heap[b]? = some o := fun b o hh hT =>
    (Below.heap_setCell wr ⟨bp, j, none⟩ u b hT).trans hh
  refine ⟨h.bel.setCell (p := ⟨bp, j, none⟩) (by show w.heap.size ≤ bp; omega) _, h.lo, hx, keep _ _ h.gb (by omega), h.eL, keep _ _ h.res (by omega), ?_, ?_, ?_, h.ap⟩
  · refine own_other h.own hg fun j hj e => ?_
    obtain ⟨_, d, hd⟩ := own_lt h.own j hj
    cases e
    exact absurd (type_ne hd h.box) (by decide)
  · refine rown_other h.out hg (fun j hj e => ?_) (fun j d fz e hh => ?_)
    · obtain ⟨_, d, hd⟩ := rown_bt h.out j hj
      cases e
      exact absurd (type_ne hd h.box) (by decide)
    · cases e
      exact absurd (type_ne hh h.box) (by decide)
  · refine rown_other h.back hg (fun j hj e => ?_) (fun j d fz e hh => ?_)
    · obtain ⟨_, d, hd⟩ := rown_bt h.back j hj
      cases e
      exact absurd (type_ne hd h.box) (by decide)
    · cases e
      exact absurd (type_ne hh h.box) (by decide)
theorem CtB.set2 (h : CtB w wr bp V A c L x k l s1 t2 t3 s2 s3 F G) : CtB w (wr.setCell ⟨bp, 4, none⟩ s2) bp V A c L x k l s1 s2 t3 s2 s3 F G :=
  h.set 4 s2 (by have := heap_setCell_same wr bp 4 _ _ s2 h.box; exact this)
theorem CtB.set3 (h : CtB w wr bp V A c L x k l s1 t2 t3 s2 s3 F G) : CtB w (wr.setCell ⟨bp, 5, none⟩ s3) bp V A c L x k l s1 t2 s3 s2 s3 F G :=
  h.set 5 s3 (by have := heap_setCell_same wr bp 5 _ _ s3 h.box; exact this)
end

end Go.Proofs.Ytjcgejbggmpikaa.Pt
