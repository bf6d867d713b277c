/-
  What is proved here: the map of what came to whom, in memory: what a lookup tells, what a store leaves. Conditions: vertices fit an int, fewer than 10^9 messages came.
-/
import Derived.Test.YtgkmmjlhphinhaaInP
import Derived.Test.YtgkmmjlhphinhaaInMath
import Derived.Maps.OwnSet
import Derived.Maps.Views
namespace Go.Proofs.Ytgkmmjlhphinhaa.In
open Go.RowKit Go.Maps Gr Wd Ws Fx Rk Lb Al

/- How mail reads. -/
def mlV (m : Ml) : Value := .agg #[.bool m.1, .int .i64 m.2]
def mlD (m : Ml) : DataW Unit := .agg [.lit (.bool m.1), .lit (.int .i64 m.2)]
def mlElem : Value → Option (DataW Unit × List MemPlace)
  | .agg a => match a.toList with
    | [.bool h, .int .i64 x] => some (mlD (h, x), [])
    | _ => none
  | _ => none
theorem mlElem_mk (m : Ml) : mlElem (mlV m) = some (mlD m, []) := rfl
theorem mlElem_inv {v : Value} {z : DataW Unit × List MemPlace} (h : mlElem v = some z) : ∃ m : Ml, v = mlV m ∧ z = (mlD m, []) := by
  unfold mlElem at h
  split at h
  · rename_i a
    split at h
    · rename_i b x he
      refine ⟨(b, x), ?_, (Option.some.inj h).symm⟩
      obtain ⟨l⟩ := a
      simp only at he
      subst he
      rfl
    · cases h
  · cases h
theorem mlD_inj {m n : Ml} (h : mlD m = mlD n) : m = n := by
  unfold mlD at h
  simp at h
  exact Prod.ext h.1 h.2

theorem keyedI : Keyed Try.prog 3 := int_keyed Try.underlying3
theorem wf_i {a : Int} (h : -9223372036854775808 ≤ a ∧ a ≤ 9223372036854775807) : (Lit.int .i64 a).wf = true := by
  have h3 : IntKind.i64.min = -9223372036854775808 := by decide
  have h4 : IntKind.i64.max = 9223372036854775807 := by decide
  simp only [Lit.wf, Bool.and_eq_true, decide_eq_true_eq]; omega
theorem key_i {a : Int} (h : -9223372036854775808 ≤ a ∧ a ≤ 9223372036854775807) : keyOf Try.prog 3 (.int .i64 a) = some (.int .i64 a) := keyOf_int_mk Try.underlying3 (wf_i h)
theorem zeroMl (w : World) : (zeroValue 43).run Try.prog w = .ok (mlV (false, 0)) w := by kernel_rfl

/- What a map of mail holds: of each vertex to which some message goes, what all of them come to. -/
structure CMd (D : DataW Unit) (k : Int) (L : List Ms) : Prop where
  has_ : ∀ v : Int, has D (.int .i64 v) = (mailM k v L).isSome
  at_ : ∀ (v y : Int), mailM k v L = some y → ∀ z, D.atKey (.int .i64 v) z = mlD (true, y)
def CM (w : World) (M : Nat) (k : Int) (L : List Ms) : Prop := ∃ D : DataW Unit, w.ownsMap Try.prog 3 mlElem M L.length D ∧ CMd D k L
theorem CM.made (w : World) (k : Int) : CM (w.alloc (.map #[] 0)) w.heap.size k [] := ⟨.map [], World.ownsMap_made _ _ _ _, ⟨fun _ => rfl, fun v y h => by cases h⟩⟩
theorem CM.lt {w : World} {M : Nat} {k : Int} {L : List Ms} (h : CM w M k L) : M < w.heap.size := by
  obtain ⟨D, h1, _⟩ := h; exact h1.lt
theorem CM.kept {w w' : World} {M : Nat} {k : Int} {L : List Ms} (h : CM w M k L) (hk : w'.heap[M]? = w.heap[M]?) : CM w' M k L := by
  obtain ⟨D, ⟨es, clock, h1, h2⟩, h3⟩ := h
  exact ⟨D, ⟨es, clock, hk.trans h1, h2⟩, h3⟩
theorem CM.below {w w' : World} {M : Nat} {k : Int} {L : List Ms} (h : CM w M k L) (hb : Below w.heap.size w w') : CM w' M k L := h.kept (hb.block M h.lt)
/- 'what came to it?' -/
theorem CM.look {w : World} {M : Nat} {k : Int} {L : List Ms} (h : CM w M k L) {v : Int} (hv : -9223372036854775808 ≤ v ∧ v ≤ 9223372036854775807) :
    (Instr.lookup 44 (.map (some M)) (.int .i64 v) false).run Try.prog w = .ok (mlV (mlOf (mailM k v L))) w := by
  obtain ⟨D, h1, h2⟩ := h
  obtain ⟨u, ps, hrun, hu⟩ := h1.lookup keyedI Try.underlying44 (zeroMl w) (mlElem_mk (false, 0)) (key_i hv)
  obtain ⟨m, rfl, hm⟩ := mlElem_inv hu
  rw [hrun]
  have hm' := congrArg Prod.fst hm
  simp only at hm'
  have e : m = mlOf (mailM k v L) := by
    cases hc : mailM k v L with
    | none =>
      rw [atKey_of_not_has (by rw [h2.has_ v, hc]; rfl)] at hm'
      exact (mlD_inj hm').symm
    | some y =>
      rw [h2.at_ v y hc] at hm'
      exact (mlD_inj hm').symm
  rw [e]
/- .. and one more has come. -/
theorem CM.store {w : World} {M : Nat} {k : Int} {L : List Ms} (h : CM w M k L) {v : Int} (x y : Int) (hv : -9223372036854775808 ≤ v ∧ v ≤ 9223372036854775807) (hn : L.length < 1000000000) (hy : mailM k v (L ++ [(v, x)]) = some y) :
    ∃ w', (Instr.mapUpdate 44 (.map (some M)) (.int .i64 v) (mlV (true, y))).run Try.prog w = .ok () w' ∧ CM w' M k (L ++ [(v, x)]) ∧ w.grownBy w' (some M) := by
  obtain ⟨D, h1, h2⟩ := h
  obtain ⟨w', hrun, h3, h4⟩ := h1.update keyedI Try.underlying44 (by unfold maxLen; omega) (key_i hv) (mlElem_mk (true, y))
  have hM : IsMap D := h1.isMap
  have hk : WideAt.IsKeyLit (.int .i64 v) := keyedI.key (key_i hv)
  refine ⟨w', hrun, ⟨_, by rw [List.length_append]; exact h3, ⟨fun u => ?_, fun u z hz q => ?_⟩⟩, h4⟩
  · by_cases e : u = v
    · subst e; rw [has_put_same hM hk, hy]; rfl
    · rw [has_put_other (by simpa using e), h2.has_ u, mailM_snoc]
      unfold mst; rw [if_neg (fun e2 => e e2.symm)]
  · by_cases e : u = v
    · subst e
      rw [hy] at hz
      rw [atKey_put_same hM hk, Option.some.inj hz]
    · rw [atKey_put_other (by simpa using e)]
      rw [mailM_snoc] at hz
      unfold mst at hz; rw [if_neg (fun e2 => e e2.symm)] at hz
      exact h2.at_ u z hz q
/- One message more. -/
def nxt (k : Int) (m : Ml) (x : Int) : Int := if m.1 = true then comb k m.2 x else x
theorem nxt_mail (k v x : Int) (L : List Ms) : mailM k v (L ++ [(v, x)]) = some (nxt k (mlOf (mailM k v L)) x) := by
  rw [mailM_snoc]
  unfold mst; rw [if_pos rfl]
  cases mailM k v L <;> rfl
end Go.Proofs.Ytgkmmjlhphinhaa.In
