/-
  What is proved here: pairs as keys of a map: which keys there are, what a map's lookup and store do. Conditions: both numbers of a pair fit an int.
-/
import Derived.Test.YtmcmpjcijbeilaaGreatDoorGrMem
import Derived.DeepKeys4
import Derived.MapViews
import Derived.Maps.OwnSet
import Derived.Maps.Views
namespace Go.Proofs.YtmcmpjcijbeilaaGreatDoor.Gr
open Go.RowKit Wd Ws Go.Maps

theorem laidOut : laidOutB Tryz.prog = true := by kernel_rfl
theorem rowP : (131 : TypeId) < Tryz.prog.types.size := of_decide_eq_true (by kernel_rfl)
theorem keyT : Tryz.prog.keyTypeAt 2 131 = true := by kernel_rfl
theorem deepP : Tryz.prog.keyTypeAt (Tryz.prog.types.size + 1) 131 = true := by kernel_rfl
theorem wide_of {P : Program} {k : TypeId} {fs : Array Field} (h : P.underlying k = some (.struct fs)) : (match P.underlying k with | some (.array _ _) | some (.struct _) => true | _ => false) = true := by rw [h]
theorem law_of {P : Program} (hl : laidOutB P = true) {k : TypeId} {fs : Array Field} (hrow : k < P.types.size) (hk : P.keyTypeAt 2 k = true) (h : P.underlying k = some (.struct fs)) : Keyed P k :=
  Keyed.of_law (deep_law_laid hl (m := 2) (by omega) hrow hk (wide_of h))
theorem key_some {H : Type} {P : Program} {k : TypeId} {fs : Array Field} {enc : TypeId × Value → H} {w : World} {base : Nat} {sp : Nat → Bool} {held : Bool} (hk : P.keyTypeAt (P.types.size + 1) k = true) (h : P.underlying k = some (.struct fs)) {v : Value} (hf : v.formed P k = true)
    {d : DataW H} {ps : List MemPlace} (hd : DataW.Trod enc P w base sp held k v d ps) : ∃ l, keyOf P k v = some l := ⟨_, (keyOf_asKey hk (wide_of h) hf hd).1⟩
theorem lawP : Keyed Tryz.prog 131 := law_of laidOut rowP keyT Tryz.underlying131
theorem cellsP : Tryz.prog.cellsOf 131 = 2 := by kernel_rfl
theorem cells3 : Tryz.prog.cellsOf 3 = 1 := by kernel_rfl
theorem zeroU (w : World) : (zeroValue 132).run Tryz.prog w = .ok (.agg #[]) w := by kernel_rfl
def pk (a b : Int) : Value := .agg #[.int .i64 a, .int .i64 b]
theorem wf64 {a : Int} (h : -9223372036854775808 ≤ a ∧ a ≤ 9223372036854775807) : (Lit.int .i64 a).wf = true := by
  have h3 : IntKind.i64.min = -9223372036854775808 := by decide
  have h4 : IntKind.i64.max = 9223372036854775807 := by decide
  simp only [Lit.wf, Bool.and_eq_true, decide_eq_true_eq]; omega
theorem key_ex (a b : Int) (ha : -9223372036854775808 ≤ a ∧ a ≤ 9223372036854775807) (hb : -9223372036854775808 ≤ b ∧ b ≤ 9223372036854775807) : ∃ l, keyOf Tryz.prog 131 (pk a b) = some l := by
  have hf : (pk a b).formed Tryz.prog 131 = true := by simp [pk, Value.formed, Tryz.underlying131, cellsP]
  have t0 : DataW.trod (fun _ => ()) Tryz.prog (default : World) 0 (fun _ => true) true 1 3 [.int .i64 a] = some (.lit (.int .i64 a), []) := by
    simp [DataW.trod, Tryz.underlying3, wf64 ha]
  have t1 : DataW.trod (fun _ => ()) Tryz.prog (default : World) 0 (fun _ => true) true 1 3 [.int .i64 b] = some (.lit (.int .i64 b), []) := by
    simp [DataW.trod, Tryz.underlying3, wf64 hb]
  have hd := Go.ChangeShapes.trod_struct2_mk (enc := fun _ => ()) (P := Tryz.prog) (w := default) (base := 0) (spare := fun _ => true) (held := true) (n := 1) (cs := [.int .i64 a, .int .i64 b]) (y0 := (.lit (.int .i64 a), [])) (y1 := (.lit (.int .i64 b), [])) Tryz.underlying131 (by rw [cellsP]; rfl) (by rw [cells3]; exact t0) (by rw [cells3]; exact t1)
  exact key_some deepP Tryz.underlying131 hf ⟨2, hd⟩

/- A map that holds the pairs of these edges. -/
def PM (w : World) (M : Nat) (L : List Ed) : Prop := ∃ (D : DataW Unit), w.ownsMap Tryz.prog 131 unitElem M L.length D ∧ ∀ (a b : Int) (l : Lit), keyOf Tryz.prog 131 (pk a b) = some l → Maps.has D l = L.any (same (a, b, 0))
theorem PM.made (w : World) : PM (w.alloc (.map #[] 0)) w.heap.size [] := ⟨.map [], World.ownsMap_made _ _ _ _, fun _ _ _ _ => rfl⟩
theorem PM.kept {w w' : World} {M : Nat} {L : List Ed} (h : PM w M L) (hk : w'.heap[M]? = w.heap[M]?) : PM w' M L := by
  obtain ⟨D, ⟨es, clock, h1, h2⟩, h3⟩ := h
  exact ⟨D, ⟨es, clock, hk.trans h1, h2⟩, h3⟩
theorem PM.lt {w : World} {M : Nat} {L : List Ed} (h : PM w M L) : M < w.heap.size := by
  obtain ⟨D, h1, _⟩ := h; exact h1.lt
theorem PM.below {w w' : World} {M : Nat} {L : List Ed} (h : PM w M L) (hb : Below w.heap.size w w') : PM w' M L := h.kept (hb.block M h.lt)
theorem PM.isMap {w : World} {M : Nat} {L : List Ed} (h : PM w M L) : ∃ es clock, w.heap[M]? = some (.map es clock) := by
  obtain ⟨D, ⟨es, clock, h1, _⟩, _⟩ := h; exact ⟨es, clock, h1⟩
/- 'is it there?' -/
theorem PM.look {w : World} {M : Nat} {L : List Ed} (h : PM w M L) (a b : Int) (ha : -9223372036854775808 ≤ a ∧ a ≤ 9223372036854775807) (hb : -9223372036854775808 ≤ b ∧ b ≤ 9223372036854775807) :
    (Instr.lookup 57 (.map (some M)) (pk a b) true).run Tryz.prog w = .ok (.tuple #[.agg #[], .bool (L.any (same (a, b, 0)))]) w := by
  obtain ⟨D, h1, h2⟩ := h
  obtain ⟨l, hl⟩ := key_ex a b ha hb
  obtain ⟨v, ps, hrun, hv⟩ := h1.look_ok lawP Tryz.underlying57 (zeroU w) unitElem_mk hl
  obtain ⟨rfl, _⟩ := unitElem_inv hv
  rw [hrun, h2 a b l hl]
/- .. and it is put in. -/
theorem PM.store {w : World} {M : Nat} {L : List Ed} (h : PM w M L) (a b c : Int) (ha : -9223372036854775808 ≤ a ∧ a ≤ 9223372036854775807) (hb : -9223372036854775808 ≤ b ∧ b ≤ 9223372036854775807) (hn : L.length < 1000000) :
    ∃ w', (Instr.mapUpdate 57 (.map (some M)) (pk a b) (.agg #[])).run Tryz.prog w = .ok () w' ∧ PM w' M (L ++ [(a, b, c)]) ∧ w.grownBy w' (some M) := by
  obtain ⟨D, h1, h2⟩ := h
  obtain ⟨l, hl⟩ := key_ex a b ha hb
  obtain ⟨w', hrun, h3, h4⟩ := h1.store lawP Tryz.underlying57 (by unfold maxLen; omega) hl unitElem_mk
  refine ⟨w', hrun, ⟨_, by rw [List.length_append]; exact h3, fun x y k hk => ?_⟩, h4.grown⟩
  by_cases e : k = l
  · subst e
    have := lawP.inj hk hl
    have e2 : x = a ∧ y = b := by simpa [pk] using this
    rw [has_put_same h1.isMap (lawP.key hl), List.any_append]
    simp [same, e2]
  · rw [has_put_other e, h2 x y k hk, List.any_append]
    have : same (x, y, 0) (a, b, c) = false := by
      rw [same_not]
      rintro ⟨e1, e2⟩
      simp only at e1 e2
      subst e1 e2
      exact e (Option.some.inj (hk.symm.trans hl))
    simp [this]

end Go.Proofs.YtmcmpjcijbeilaaGreatDoor.Gr
