/-
  What is proved here: the texts InMap InG InK InEq InT InR1 InR2 InF InMg TlPre InR3 PtG5 PtG6 SqMem SqW1 SqBox TlIn SqC SqRf SqVt SqTm SqRow of this seat, laid together (each says itself what it proves; no condition beyond theirs).
-/
import Derived.Test.YtbbmgandkmlojaaGreatInP
import Derived.Test.YtbbmgandkmlojaaGreatInMath
import Derived.Test.YtbbmgandkmlojaaGreatPaTail
import Derived.Test.YtbbmgandkmlojaaGreatPtG2
import Derived.Test.YtbbmgandkmlojaaGreatSqMath
import Derived.Maps.OwnSet
import Derived.Maps.Views
import Derived.Carry
import Derived.Maps.AppendAt
import Derived.OrdersHeld
import Derived.OrdersIn
import Derived.TacticsIn
import Derived.RangeFuncKeeps
import Derived.Deep.RegionHeld3
import Derived.RangeFuncNested
import Derived.RangeFuncBound
import Derived.RangeFuncCalls
import Derived.RangeFuncLeaves
import Derived.RangeFuncFrom
import Derived.Shelf.Abstract
import Derived.Shelf.AbstractIn
import Derived.Shelf.RegionOpen
import Derived.WalkKit
import Derived.OwnWalkIn
import Derived.TacticsInMore
import Derived.LoopNIn
import Derived.LoopIn
import Derived.RegionIn
/-
  What is proved here: the map of what came to whom, in memory: what a lookup tells, what a store leaves. Conditions: vertices fit an int, fewer than 10^9 messages came.
-/
namespace Go.Proofs.YtbbmgandkmlojaaGreat.In
open Go.RowKit Go.Maps Gr Wd Ws Fx Rk Lb Al

/- How mail reads. -/
def mlV (m : Ml) : Value := .agg #[.bool m.1, .int .i64 m.2]
def mlD (m : Ml) : DataW Unit := .agg [.lit (.bool m.1), .lit (.int .i64 m.2)]
def mlElem : Value → Option (DataW Unit × List MemPlace)
  | .agg a => match a.toList with
    | [.bool h, .int .i64 x] => some (mlD (h, x), [])
    | _ => none
  | _ => none
theorem mlElem_mk (m : Ml) : mlElem (mlV m) = some (mlD m, []) := rfl
theorem mlElem_inv {v : Value} {z : DataW Unit × List MemPlace} (h : mlElem v = some z) : ∃ m : Ml, v = mlV m ∧ z = (mlD m, []) := by
  unfold mlElem at h
  split at h
  · rename_i a
    split at h
    · rename_i b x he
      refine ⟨(b, x), ?_, (Option.some.inj h).symm⟩
      obtain ⟨l⟩ := a
      simp only at he
      subst he
      rfl
    · cases h
  · cases h
theorem mlD_inj {m n : Ml} (h : mlD m = mlD n) : m = n := by
  unfold mlD at h
  simp at h
  exact Prod.ext h.1 h.2

theorem keyedI : Keyed Tryz.prog 3 := int_keyed Tryz.underlying3
theorem wf_i {a : Int} (h : -9223372036854775808 ≤ a ∧ a ≤ 9223372036854775807) : (Lit.int .i64 a).wf = true := by
  have h3 : IntKind.i64.min = -9223372036854775808 := by decide
  have h4 : IntKind.i64.max = 9223372036854775807 := by decide
  simp only [Lit.wf, Bool.and_eq_true, decide_eq_true_eq]; omega
theorem key_i {a : Int} (h : -9223372036854775808 ≤ a ∧ a ≤ 9223372036854775807) : keyOf Tryz.prog 3 (.int .i64 a) = some (.int .i64 a) := keyOf_int_mk Tryz.underlying3 (wf_i h)
theorem zeroMl (w : World) : (zeroValue 78).run Tryz.prog w = .ok (mlV (false, 0)) w := by kernel_rfl

/- What a map of mail holds: of each vertex to which some message goes, what all of them come to. -/
structure CMd (D : DataW Unit) (k : Int) (L : List Ms) : Prop where
  has_ : ∀ v : Int, has D (.int .i64 v) = (mailM k v L).isSome
  at_ : ∀ (v y : Int), mailM k v L = some y → ∀ z, D.atKey (.int .i64 v) z = mlD (true, y)
def CM (w : World) (M : Nat) (k : Int) (L : List Ms) : Prop := ∃ D : DataW Unit, w.ownsMap Tryz.prog 3 mlElem M L.length D ∧ CMd D k L
theorem CM.made (w : World) (k : Int) : CM (w.alloc (.map #[] 0)) w.heap.size k [] := ⟨.map [], World.ownsMap_made _ _ _ _, ⟨fun _ => rfl, fun v y h => by cases h⟩⟩
theorem CM.lt {w : World} {M : Nat} {k : Int} {L : List Ms} (h : CM w M k L) : M < w.heap.size := by
  obtain ⟨D, h1, _⟩ := h; exact h1.lt
theorem CM.kept {w w' : World} {M : Nat} {k : Int} {L : List Ms} (h : CM w M k L) (hk : w'.heap[M]? = w.heap[M]?) : CM w' M k L := by
  obtain ⟨D, ⟨es, clock, h1, h2⟩, h3⟩ := h
  exact ⟨D, ⟨es, clock, hk.trans h1, h2⟩, h3⟩
theorem CM.below {w w' : World} {M : Nat} {k : Int} {L : List Ms} (h : CM w M k L) (hb : Below w.heap.size w w') : CM w' M k L := h.kept (hb.block M h.lt)
/- 'what came to it?' -/
theorem CM.look {w : World} {M : Nat} {k : Int} {L : List Ms} (h : CM w M k L) {v : Int} (hv : -9223372036854775808 ≤ v ∧ v ≤ 9223372036854775807) :
    (Instr.lookup 144 (.map (some M)) (.int .i64 v) false).run Tryz.prog w = .ok (mlV (mlOf (mailM k v L))) w := by
  obtain ⟨D, h1, h2⟩ := h
  obtain ⟨u, ps, hrun, hu⟩ := h1.lookup keyedI Tryz.underlying144 (zeroMl w) (mlElem_mk (false, 0)) (key_i hv)
  obtain ⟨m, rfl, hm⟩ := mlElem_inv hu
  rw [hrun]
  have hm' := congrArg Prod.fst hm
  simp only at hm'
  have e : m = mlOf (mailM k v L) := by
    cases hc : mailM k v L with
    | none =>
      rw [atKey_of_not_has (by rw [h2.has_ v, hc]; rfl)] at hm'
      exact (mlD_inj hm').symm
    | some y =>
      rw [h2.at_ v y hc] at hm'
      exact (mlD_inj hm').symm
  rw [e]
/- .. and one more has come. -/
theorem CM.store {w : World} {M : Nat} {k : Int} {L : List Ms} (h : CM w M k L) {v : Int} (x y : Int) (hv : -9223372036854775808 ≤ v ∧ v ≤ 9223372036854775807) (hn : L.length < 1000000000) (hy : mailM k v (L ++ [(v, x)]) = some y) :
    ∃ w', (Instr.mapUpdate 144 (.map (some M)) (.int .i64 v) (mlV (true, y))).run Tryz.prog w = .ok () w' ∧ CM w' M k (L ++ [(v, x)]) ∧ w.grownBy w' (some M) := by
  obtain ⟨D, h1, h2⟩ := h
  obtain ⟨w', hrun, h3, h4⟩ := h1.update keyedI Tryz.underlying144 (by unfold maxLen; omega) (key_i hv) (mlElem_mk (true, y))
  have hM : IsMap D := h1.isMap
  have hk : WideAt.IsKeyLit (.int .i64 v) := keyedI.key (key_i hv)
  refine ⟨w', hrun, ⟨_, by rw [List.length_append]; exact h3, ⟨fun u => ?_, fun u z hz q => ?_⟩⟩, h4⟩
  · by_cases e : u = v
    · subst e; rw [has_put_same hM hk, hy]; rfl
    · rw [has_put_other (by simpa using e), h2.has_ u, mailM_snoc]
      unfold mst; rw [if_neg (fun e2 => e e2.symm)]
  · by_cases e : u = v
    · subst e
      rw [hy] at hz
      rw [atKey_put_same hM hk, Option.some.inj hz]
    · rw [atKey_put_other (by simpa using e)]
      rw [mailM_snoc] at hz
      unfold mst at hz; rw [if_neg (fun e2 => e e2.symm)] at hz
      exact h2.at_ u z hz q
/- One message more. -/
def nxt (k : Int) (m : Ml) (x : Int) : Int := if m.1 = true then comb k m.2 x else x
theorem nxt_mail (k v x : Int) (L : List Ms) : mailM k v (L ++ [(v, x)]) = some (nxt k (mlOf (mailM k v L)) x) := by
  rw [mailM_snoc]
  unfold mst; rw [if_pos rfl]
  cases mailM k v L <;> rfl
end Go.Proofs.YtbbmgandkmlojaaGreat.In

/-
  What is proved here: contracts of inbox.with and of inbox.together: what came to whom. Conditions: vertices fit an int, fewer than 10^9 messages.
-/
namespace Go.Proofs.YtbbmgandkmlojaaGreat.In
open Go.RowKit Go.Maps Gr Wd Ws Fx Rk Lb Al

theorem mixedI : Tryz.prog.follows .mixedOrders = true := by kernel_rfl
theorem ml_cells {W : World} {b : Nat} {p : Bool} {x : Int} (h : W.heap[b]? = some (.cells #[.bool p, .int .i64 x] 78 (0, 0))) : W.cell? ⟨b, 0, none⟩ = some (.bool p) ∧ W.cell? ⟨b, 1, none⟩ = some (.int .i64 x) ∧ (∀ j, W.frozen? ⟨b, j, none⟩ = false) ∧ b < W.heap.size :=
  ⟨by rw [Lib.cell_of_heap h]; rfl, by rw [Lib.cell_of_heap h]; rfl, fun j => Lib.frozen_of_heap h j, lt_of_block h⟩
theorem put_ml {W : World} {b : Nat} {p : Bool} {x : Int} (h : W.heap[b]? = some (.cells #[.bool p, .int .i64 x] 78 (0, 0))) (q : Bool) (y : Int) :
    ((W.setCell ⟨b, 0, none⟩ (.bool q)).setCell ⟨b, 1, none⟩ (.int .i64 y)).heap[b]? = some (.cells #[.bool q, .int .i64 y] 78 (0, 0)) := by
  have h1 := heap_setCell_same W b 0 _ 78 (.bool q) h
  have h2 := heap_setCell_same _ b 1 _ 78 (.int .i64 y) h1
  exact h2

set_option maxRecDepth 100000 in
theorem with_any (k st so dm ep : Int) (h : Bool) (x v : Int) (w : World) : Calls Tryz.prog 108 #[.agg #[.int .u8 k, .int .i64 st, .int .i64 so, .int .i64 dm, .int .i64 ep], .agg #[.bool h, .int .i64 x], .int .i64 v] w fun e w' => e = .returned (.agg #[.bool true, .int .i64 (nxt k (h, x) v)]) ∧ Below w.heap.size w w' := by
  obtain ⟨r, hr⟩ : ∃ r, nxt k (h, x) v = r := ⟨_, rfl⟩
  rw [hr]
  have HR := Lib.hid hr; clear hr
  obtain ⟨W1, hW1⟩ : ∃ W1, W1 = ((w.alloc (.cells #[.int .u8 k, .int .i64 st, .int .i64 so, .int .i64 dm, .int .i64 ep] 26)).alloc (.cells #[.bool h, .int .i64 x] 78)).alloc (.cells #[.bool false, .int .i64 0] 78) := ⟨_, rfl⟩
  have hal := al3 w (.cells #[.int .u8 k, .int .i64 st, .int .i64 so, .int .i64 dm, .int .i64 ep] 26) (.cells #[.bool h, .int .i64 x] 78) (.cells #[.bool false, .int .i64 0] 78)
  rw [← hW1] at hal
  obtain ⟨b0, e0⟩ : ∃ b0, b0 = w.heap.size := ⟨_, rfl⟩
  obtain ⟨b1, e1⟩ : ∃ b1, b1 = w.heap.size + 1 := ⟨_, rfl⟩
  obtain ⟨b2, e2⟩ : ∃ b2, b2 = w.heap.size + 2 := ⟨_, rfl⟩
  obtain ⟨x0, x1, x2, hb⟩ := hal
  rw [← e0] at x0; rw [← e1] at x1; rw [← e2] at x2
  have X0 := Lib.hid x0; have X1 := Lib.hid x1; have X2 := Lib.hid x2; have HB := Lib.hid hb
  have HGE : Hid (w.heap.size ≤ b2) := Lib.hid (by omega)
  clear x0 x1 x2 hb
  cases h
  · have e3 : v = r := HR.out
    subst e3
    clear HR
    go_enter Tryz.func108, Tryz.ntmps108
    go_upto_region 1 with fail
    rw [← hW1]
    rw [show w.heap.size + 2 = b2 from e2.symm, show w.heap.size + 1 = b1 from e1.symm, show w.heap.size = b0 from e0.symm]
    clear hW1 e0 e1 e2
    obtain ⟨m0, m1, _⟩ := ml_cells X1.out
    obtain ⟨u0, u1, uf, _⟩ := ml_cells X2.out
    go_wp2_with fail
    have hp := put_ml X2.out true v
    obtain ⟨k0, k1, _⟩ := ml_cells hp
    have hB5 : Below w.heap.size w ((W1.setCell ⟨b2, 0, none⟩ (.bool true)).setCell ⟨b2, 1, none⟩ (.int .i64 v)) := (HB.out.setCell (p := ⟨b2, 0, none⟩) HGE.out _).setCell (p := ⟨b2, 1, none⟩) HGE.out _
    exact bodyPost_ret (v := .agg #[.bool true, .int .i64 v]) (by simp [results, Tryz.results108, go_sem, k0, k1]) rfl ⟨rfl, hB5⟩
  · have e3 : comb k x v = r := HR.out
    have HC := Lib.hid (fun W => comb_any k st so dm ep x v W)
    rw [e3] at HC
    clear HR e3
    go_enter Tryz.func108, Tryz.ntmps108
    go_upto_region 1 with fail
    rw [← hW1]
    rw [show w.heap.size + 2 = b2 from e2.symm, show w.heap.size + 1 = b1 from e1.symm, show w.heap.size = b0 from e0.symm]
    clear hW1 e0 e1 e2
    obtain ⟨m0, m1, _⟩ := ml_cells X1.out
    obtain ⟨j0, j1, j2, j3, j4, _⟩ := jb_cells X0.out
    go_wp2_with fail
    refine (HC.out _).mono ?_
    rintro e w2 ⟨rfl, hb2⟩
    clear m0 m1 j0 j1 j2 j3 j4
    have Y2 := Lib.hid (keep X2.out hb2)
    have HB2 := Lib.hid (step_below HB.out HB.out.size hb2)
    clear hb2
    obtain ⟨u0, u1, uf, _⟩ := ml_cells Y2.out
    go_wp2_with fail
    have hp := put_ml Y2.out true r
    obtain ⟨k0, k1, _⟩ := ml_cells hp
    have hB5 : Below w.heap.size w ((w2.setCell ⟨b2, 0, none⟩ (.bool true)).setCell ⟨b2, 1, none⟩ (.int .i64 r)) := (HB2.out.setCell (p := ⟨b2, 0, none⟩) HGE.out _).setCell (p := ⟨b2, 1, none⟩) HGE.out _
    exact bodyPost_ret (v := .agg #[.bool true, .int .i64 r]) (by simp [results, Tryz.results108, go_sem, k0, k1]) rfl ⟨rfl, hB5⟩

end Go.Proofs.YtbbmgandkmlojaaGreat.In

/-
  What is proved here: words for mail in memory: a slice of mail that can be read, and one that the call made; append of one. No condition.
-/
namespace Go.Proofs.YtbbmgandkmlojaaGreat.In
open Go.RowKit Go.Sort Gr Wd Ws Lb Al

/- A mail's two cells. -/
def kc (m : Ml) : List Value := [.bool m.1, .int .i64 m.2]
theorem kc_len (m : Ml) : (kc m).length = 2 := rfl
def kcs (L : List Ml) : List Value := L.flatMap kc
theorem kcs_append (a b : List Ml) : kcs (a ++ b) = kcs a ++ kcs b := by simp [kcs]
theorem kcs_len : ∀ L : List Ml, (kcs L).length = L.length * 2
  | [] => rfl
  | e :: L => by
    show (kc e ++ kcs L).length = _
    rw [List.length_append, kc_len, kcs_len L, List.length_cons]; omega
theorem kcs_one (L : List Ml) : ∀ u ∈ kcs L, u.oneCell' = true := by
  intro u hu
  simp only [kcs, List.mem_flatMap, kc] at hu
  obtain ⟨e, _, hu⟩ := hu
  simp only [List.mem_cons, List.not_mem_nil, or_false] at hu
  rcases hu with rfl | rfl <;> rfl
theorem kcs_at : ∀ (L : List Ml) (k : Nat) (e : Ml), L[k]? = some e → (kcs L)[k * 2]? = some (.bool e.1) ∧ (kcs L)[k * 2 + 1]? = some (.int .i64 e.2)
  | [], k, e, h => by simp at h
  | x :: L, 0, e, h => by
    simp at h; subst h
    exact ⟨rfl, rfl⟩
  | x :: L, k + 1, e, h => by
    have h' : L[k]? = some e := by simpa using h
    obtain ⟨h0, h1⟩ := kcs_at L k e h'
    have key : ∀ j, (kcs (x :: L))[j + 2]? = (kcs L)[j]? := fun j => by
      show (kc x ++ kcs L)[j + 2]? = _
      rw [List.getElem?_append_right (by rw [kc_len]; omega), kc_len]; congr 1
    refine ⟨?_, ?_⟩
    · rw [show (k + 1) * 2 = k * 2 + 2 by omega, key]; exact h0
    · rw [show (k + 1) * 2 + 1 = k * 2 + 1 + 2 by omega, key]; exact h1

/- A slice of messages reads as a list. -/
def KAt (w : World) (A : Option Addr) (L : List Ml) : Prop := ∀ (k : Nat) (e : Ml), L[k]? = some e → ∃ bk o, A = some ⟨bk, o, none⟩ ∧
  w.cell? ⟨bk, o + k * 2, none⟩ = some (.bool e.1) ∧ w.cell? ⟨bk, o + k * 2 + 1, none⟩ = some (.int .i64 e.2)
theorem KAt.below {w w' : World} {A : Option Addr} {L : List Ml} (h : KAt w A L) (hb : Below w.heap.size w w') : KAt w' A L := by
  intro k e hx
  obtain ⟨bk, o, hA, c0, c1⟩ := h k e hx
  exact ⟨bk, o, hA, (hb.cell (block_lt_of_cell c0)).trans c0, (hb.cell (block_lt_of_cell c1)).trans c1⟩
theorem KAt.nil (w : World) (A : Option Addr) : KAt w A [] := fun k e h => by simp at h
theorem KAt.take {w : World} {A : Option Addr} {L : List Ml} (h : KAt w A L) (k : Nat) : KAt w A (L.take k) := fun i e hi => h i e (by
  rw [List.getElem?_take] at hi; split at hi
  · exact hi
  · cases hi)
theorem KAt.drop {w : World} {g o : Nat} {L : List Ml} (h : KAt w (some ⟨g, o, none⟩) L) (k : Nat) : KAt w (some ⟨g, o + k * 2, none⟩) (L.drop k) := fun i e hi => by
  rw [List.getElem?_drop] at hi
  obtain ⟨bk, o', e1, c0, c1⟩ := h (k + i) e hi
  cases e1
  rw [Nat.add_mul, ← Nat.add_assoc] at c0 c1
  exact ⟨g, o + k * 2, rfl, c0, c1⟩
/- Messages that a call has made, from block B on. -/
def KOwn (w : World) (B : Nat) (v : Value) (L : List Ml) : Prop := w.ownsRow B 78 2 v L.length (kcs L)
theorem KOwn.none_ (w : World) (B : Nat) : KOwn w B (.slice none 0 0) [] := World.ownsRow_nil _ _ _ _
theorem KOwn.below {w w' : World} {B : Nat} {v : Value} {L : List Ml} (h : KOwn w B v L) (hb : Below w.heap.size w w') : KOwn w' B v L := own_below h hb
theorem KOwn.alloc {w : World} {B : Nat} {v : Value} {L : List Ml} (h : KOwn w B v L) (o : Obj) : KOwn (w.alloc o) B v L := World.ownsRow.alloc h o
theorem KOwn.mono {w : World} {B B' : Nat} {v : Value} {L : List Ml} (h : KOwn w B v L) (hb : B' ≤ B) : KOwn w B' v L := own_mono h hb
theorem KOwn.room {w : World} {B : Nat} {v : Value} {L : List Ml} (h : KOwn w B v L) : ∃ A c, v = .slice A L.length c ∧ KAt w A L ∧ L.length ≤ c ∧ c ≤ maxLen ∧ ((A = none ∧ c = 0) ∨ ∃ g, A = some ⟨g, 0, none⟩ ∧ B ≤ g ∧ g < w.heap.size ∧ ∀ j, w.frozen? ⟨g, j, none⟩ = false) := by
  obtain ⟨h0, h1 | ⟨g, cap, cur, h1, h2, h3, h4, h5, h6, h7⟩⟩ := h
  · have : L = [] := List.eq_nil_of_length_eq_zero h1.2
    subst this
    exact ⟨none, 0, h1.1, KAt.nil _ _, Nat.le_refl _, Nat.zero_le _, Or.inl ⟨rfl, rfl⟩⟩
  · refine ⟨some ⟨g, 0, none⟩, cap, h1, fun k e hx => ?_, h4, h5, Or.inr ⟨g, rfl, h2, lt_of_block h3, fun j => Lib.frozen_of_heap h3 j⟩⟩
    have hk := lt_at hx
    have key : ∀ j, j < L.length * 2 → w.cell? ⟨g, 0 + j, none⟩ = (kcs L)[j]? := fun j hj => by
      rw [Nat.zero_add, cell_of_row w g j _ 78 (0, 0) h3]
      have e1 : cur[j]? = (cur.toList.take (L.length * 2))[j]? := by
        rw [List.getElem?_take, if_pos hj, Array.getElem?_toList]
      rw [e1, h7]
    obtain ⟨a0, a1⟩ := kcs_at L k e hx
    refine ⟨g, 0, rfl, ?_, ?_⟩
    · rw [key _ (by omega)]; exact a0
    · rw [Nat.add_assoc, key _ (by omega)]; exact a1
theorem KOwn.lt {w : World} {B : Nat} {v : Value} {L : List Ml} (h : KOwn w B v L) (j : Nat) (e : v.ownBlock = some j) : B ≤ j := (own_lt h j e).1
theorem infoK : (Tryz.prog.info? 78).map (fun i => (i.zero, i.size, i.bytes)) = some (some (.agg #[.bool false, .int .i64 0]), 2, 16) := by kernel_rfl
/- One message more. -/
theorem app_k {w : World} {ops : Array Oper} {rest : List Oper} {o : Oper} {a : Act} {Q : Exit → Act → World → Prop} (hgd : o.guard = none) (s x : Operand)
    (ho : o.op = .call { callee := .builtin .append, args := #[s, x], argTypes := #[31, 31] }) (B : Nat) (v : Value) (L : List Ml) (e0 : Bool) (e1 : Int) (hs : a.eval s = v) (hown : KOwn w B v L)
    (g : Nat) (hx : a.eval x = .slice (some ⟨g, 0, none⟩) 1 1) (hg : w.heap[g]? = some (.cells #[.bool e0, .int .i64 e1] 78 (0, 0))) (hn : L.length < 1000000000) (hB : B ≤ w.heap.size)
    (h : ∀ v' w', KOwn w' B v' (L ++ [(e0, e1)]) → w.grownBy w' v.ownBlock → wpList Tryz.prog ops Q rest (a.put o.dst v') w') : wpList Tryz.prog ops Q (o :: rest) a w := by
  obtain ⟨i0, hi, hz0, hz1, hz2⟩ := info_parts infoK
  refine wpList_append_own w hgd s x 31 ho B 78 i0 _ 2 16 Tryz.underlying31 hi hz0 hz1 hz2 rfl (by decide) v L.length (kcs L) hs hown ⟨g, 0, none⟩ 1 1 (kc (e0, e1)) hx rfl ?_ ?_ ?_ ?_ hB ?_
  · intro j u hu
    rw [add_plain, Lib.cell_of_heap hg]
    rcases j with _ | _ | j
    · simpa [kc] using hu
    · simpa [kc] using hu
    · simp [kc] at hu
  · intro u hu
    simp only [kc, List.mem_cons, List.not_mem_nil, or_false] at hu
    rcases hu with rfl | rfl <;> rfl
  · unfold maxLen; omega
  · omega
  · intro v' w' h1 h2 _
    refine h v' w' ?_ h2
    unfold KOwn
    rw [kcs_append, List.length_append]
    have : kcs [(e0, e1)] = kc (e0, e1) := by simp [kcs]
    rw [this]; exact h1

end Go.Proofs.YtbbmgandkmlojaaGreat.In

/-
  What is proved here: contracts of inbox.sameMail, of slices.EqualFunc over it, of inbox.Same, and of the document's own Same: which mail is the same. Condition: lengths fit an int.
-/
namespace Go.Proofs.YtbbmgandkmlojaaGreat.In
open Go.RowKit Go.Maps Gr Wd Ws Fx Rk Lb Al

def eqM (a b : Ml) : Bool := a.1 == b.1 && (!a.1 || a.2 == b.2)
theorem sameB_cons (x y : Ml) (a b : List Ml) : sameB (x :: a) (y :: b) = (eqM x y && sameB a b) := by
  unfold sameB eqM
  simp only [List.length_cons, List.zip_cons_cons, List.all_cons]
  cases h : (a.length == b.length) <;> simp at h <;> simp [h]
theorem sameB_nil : sameB [] [] = true := rfl
theorem sameB_len {a b : List Ml} (h : a.length ≠ b.length) : sameB a b = false := by
  unfold sameB
  rw [show (a.length == b.length) = false by simpa using h]; rfl

set_option maxRecDepth 100000 in
theorem sameMail_any (p : Bool) (x : Int) (q : Bool) (y : Int) (w : World) : Calls Tryz.prog 73 #[.agg #[.bool p, .int .i64 x], .agg #[.bool q, .int .i64 y]] w fun e w' => e = .returned (.bool (eqM (p, x) (q, y))) ∧ Below w.heap.size w w' := by
  obtain ⟨r, hr⟩ : ∃ r, eqM (p, x) (q, y) = r := ⟨_, rfl⟩
  rw [hr]
  have HR := Lib.hid hr; clear hr
  have hal := al2 w (.cells #[.bool p, .int .i64 x] 78) (.cells #[.bool q, .int .i64 y] 78)
  obtain ⟨W1, hW1⟩ : ∃ W1, W1 = (w.alloc (.cells #[.bool p, .int .i64 x] 78)).alloc (.cells #[.bool q, .int .i64 y] 78) := ⟨_, rfl⟩
  rw [← hW1] at hal
  obtain ⟨b0, e0⟩ : ∃ b0, b0 = w.heap.size := ⟨_, rfl⟩
  obtain ⟨b1, e1⟩ : ∃ b1, b1 = w.heap.size + 1 := ⟨_, rfl⟩
  obtain ⟨x0, x1, hb⟩ := hal
  rw [← e0] at x0; rw [← e1] at x1
  have HB := Lib.hid hb
  obtain ⟨m0, m1, _⟩ := ml_cells x0
  obtain ⟨n0, n1, _⟩ := ml_cells x1
  clear hb x0 x1
  cases p <;> cases q
  · have e3 : r = true := HR.out.symm
    subst e3
    go_enter Tryz.func73, Tryz.ntmps73
    go_upto_region 1 with fail
    rw [← hW1, show w.heap.size + 1 = b1 from e1.symm, show w.heap.size = b0 from e0.symm]
    clear hW1 e0 e1
    go_wp2
    go_ret
    exact ⟨rfl, HB.out⟩
  · have e3 : r = false := HR.out.symm
    subst e3
    go_enter Tryz.func73, Tryz.ntmps73
    go_upto_region 1 with fail
    rw [← hW1, show w.heap.size + 1 = b1 from e1.symm, show w.heap.size = b0 from e0.symm]
    clear hW1 e0 e1
    go_wp2
    go_ret
    exact ⟨rfl, HB.out⟩
  · have e3 : r = false := HR.out.symm
    subst e3
    go_enter Tryz.func73, Tryz.ntmps73
    go_upto_region 1 with fail
    rw [← hW1, show w.heap.size + 1 = b1 from e1.symm, show w.heap.size = b0 from e0.symm]
    clear hW1 e0 e1
    go_wp2
    go_ret
    exact ⟨rfl, HB.out⟩
  · by_cases hxy : x = y
    · have e3 : r = true := by rw [← HR.out]; unfold eqM; simp [hxy]
      subst e3
      subst hxy
      go_enter Tryz.func73, Tryz.ntmps73
      go_upto_region 1 with fail
      rw [← hW1, show w.heap.size + 1 = b1 from e1.symm, show w.heap.size = b0 from e0.symm]
      clear hW1 e0 e1
      go_wp2
      go_ret
      exact ⟨rfl, HB.out⟩
    · have e3 : r = false := by rw [← HR.out]; unfold eqM; simp [hxy]
      subst e3
      have hq : (x == y) = false := by simpa using hxy
      go_enter Tryz.func73, Tryz.ntmps73
      go_upto_region 1 with fail
      rw [← hW1, show w.heap.size + 1 = b1 from e1.symm, show w.heap.size = b0 from e0.symm]
      clear hW1 e0 e1
      go_wp2
      go_ret
      exact ⟨rfl, HB.out⟩

def EqRel (w : World) (a b : List Ml) (gk : Nat) (i : Value) (wr : World) : Prop :=
  ∃ q : Nat, q + gk = a.length ∧ i = .int .i64 (q : Int) ∧ Hid (Below w.heap.size w wr) ∧ Hid (sameB a b = sameB (a.drop q) (b.drop q))
set_option maxRecDepth 100000 in
set_option maxHeartbeats 4000000 in
theorem equalFunc_any (A B : Option Addr) (n m c d : Nat) (a b : List Ml) (w : World) (hA : KAt w A a) (hB : KAt w B b) (hn : a.length = n) (hm : b.length = m) (hn2 : n ≤ 9223372036854775807) (hm2 : m ≤ 9223372036854775807) :
    Calls Tryz.prog 72 #[.slice A n c, .slice B m d, .func (.func 73) #[] #[]] w fun e w' => e = .returned (.bool (sameB a b)) ∧ Hid (Below w.heap.size w w') := by
  have HA := Lib.hid hA; have HBb := Lib.hid hB; have HN := Lib.hid hn; have HM := Lib.hid hm
  clear hA hB hn hm
  obtain ⟨r, hr⟩ : ∃ r, sameB a b = r := ⟨_, rfl⟩
  rw [hr]
  have HR := Lib.hid hr; clear hr
  by_cases hnm : n = m
  · subst hnm
    go_enter Tryz.func72, Tryz.ntmps72
    go_wp2
    go_loopg [17] n (fun gk i wr => EqRel w a b gk i wr)
    case atStart => exact ⟨0, by have := HN.out; omega, rfl, Lib.hid (Below.refl _ w), Lib.hid rfl⟩
    case round =>
      obtain ⟨q, hq, rfl, HB, HD⟩ := hrel
      rw [HN.out] at hq
      by_cases hlt : q < n
      · obtain ⟨⟨p, x⟩, hp⟩ := at_lt a q (by rw [HN.out]; exact hlt)
        obtain ⟨⟨s, y⟩, hs⟩ := at_lt b q (by rw [HM.out]; exact hlt)
        obtain ⟨bk, o, rfl, c0, c1⟩ := (HA.out.below HB.out) q _ hp
        obtain ⟨bk', o', rfl, d0, d1⟩ := (HBb.out.below HB.out) q _ hs
        simp only at c0 c1 d0 d1
        have HD2 : Hid (sameB a b = (eqM (p, x) (s, y) && sameB (a.drop (q + 1)) (b.drop (q + 1)))) := Lib.hid (by rw [HD.out, drop_at hp, drop_at hs, sameB_cons])
        obtain ⟨t, ht⟩ : ∃ t, eqM (p, x) (s, y) = t := ⟨_, rfl⟩
        have HC := Lib.hid (fun W => sameMail_any p x s y W)
        rw [ht] at HC HD2
        clear hp hs ht HD
        go_upto_region 6 with fail
        obtain ⟨W1, hW1⟩ : ∃ W1, W1 = wr.alloc (.cells #[.bool p, .int .i64 x] 78) := ⟨_, rfl⟩
        have x0 : W1.heap[wr.heap.size]? = some (.cells #[.bool p, .int .i64 x] 78 (0, 0)) := by rw [hW1]; exact heap_alloc_new wr _
        have hb1 : Below wr.heap.size wr W1 := by rw [hW1]; exact (Below.refl _ wr).alloc (Nat.le_refl _) _
        rw [← hW1]
        have d0' := (hb1.cell (block_lt_of_cell d0)).trans d0
        have d1' := (hb1.cell (block_lt_of_cell d1)).trans d1
        obtain ⟨b0, e0⟩ : ∃ b0, b0 = wr.heap.size := ⟨_, rfl⟩
        rw [← e0] at x0 ⊢
        have HB1 := Lib.hid (step_below HB.out HB.out.size hb1)
        clear c0 c1 d0 d1 hW1 e0 hb1
        go_upto_region 7 with fail
        obtain ⟨W2, hW2⟩ : ∃ W2, W2 = W1.alloc (.cells #[.bool s, .int .i64 y] 78) := ⟨_, rfl⟩
        have x1 : W2.heap[W1.heap.size]? = some (.cells #[.bool s, .int .i64 y] 78 (0, 0)) := by rw [hW2]; exact heap_alloc_new W1 _
        have hb2 : Below W1.heap.size W1 W2 := by rw [hW2]; exact (Below.refl _ W1).alloc (Nat.le_refl _) _
        rw [← hW2]
        have x0' := keep x0 hb2
        obtain ⟨b1, e1⟩ : ∃ b1, b1 = W1.heap.size := ⟨_, rfl⟩
        rw [← e1] at x1 ⊢
        have HB2 := Lib.hid (step_below HB1.out HB1.out.size hb2)
        obtain ⟨m0, m1, _⟩ := ml_cells x0'
        obtain ⟨n0, n1, _⟩ := ml_cells x1
        clear x0 x0' x1 hW2 e1 hb2 d0' d1'
        go_wp2_with fail
        refine (HC.out _).mono ?_
        rintro e w3 ⟨rfl, hb3⟩
        have HB3 := Lib.hid (step_below HB2.out HB2.out.size hb3)
        clear hb3 m0 m1 n0 n1
        cases t with
        | true =>
          have HD3 : Hid (sameB a b = sameB (a.drop (q + 1)) (b.drop (q + 1))) := Lib.hid (by rw [HD2.out]; rfl)
          go_wp2
          go_roundg (gk - 1)
          case measure => omega
          case rel => exact ⟨q + 1, by have := HN.out; omega, by go_num, HB3, HD3⟩
        | false =>
          have e3 : r = false := by rw [← HR.out, HD2.out]; rfl
          subst e3
          go_wp2
          go_ret
          exact ⟨rfl, HB3⟩
      · have e3 : r = true := by
          rw [← HR.out, HD.out, List.drop_eq_nil_of_le (by rw [HN.out]; omega), List.drop_eq_nil_of_le (by rw [HM.out]; omega)]; rfl
        subst e3
        go_wp2
        go_ret
        exact ⟨rfl, HB⟩
  · have e3 : r = false := by rw [← HR.out]; exact sameB_len (by rw [HN.out, HM.out]; exact hnm)
    subst e3
    go_enter Tryz.func72, Tryz.ntmps72
    go_wp2
    go_ret
    exact ⟨rfl, Lib.hid (Below.refl _ w)⟩

set_option maxRecDepth 100000 in
theorem same_any (A B : Option Addr) (n m c d : Nat) (a b : List Ml) (w : World) (hA : KAt w A a) (hB : KAt w B b) (hn : a.length = n) (hm : b.length = m) (hn2 : n ≤ 9223372036854775807) (hm2 : m ≤ 9223372036854775807) :
    Calls Tryz.prog 46 #[.slice A n c, .slice B m d] w fun e w' => e = .returned (.bool (sameB a b)) ∧ Hid (Below w.heap.size w w') := by
  have HC := Lib.hid (fun W (h : Below w.heap.size w W) => equalFunc_any A B n m c d a b W (hA.below h) (hB.below h) hn hm hn2 hm2)
  obtain ⟨r, hr⟩ : ∃ r, sameB a b = r := ⟨_, rfl⟩
  rw [hr] at HC ⊢
  clear hA hB hn hm hr
  go_enter Tryz.func46, Tryz.ntmps46
  go_wp2_with fail
  refine (HC.out _ (Below.refl _ w)).mono ?_
  rintro e w' ⟨rfl, hb⟩
  go_wp2
  go_ret
  exact ⟨rfl, hb⟩

end Go.Proofs.YtbbmgandkmlojaaGreat.In

/-
  What is proved here: a contract of inbox.together: what came to whom of rows of messages. Conditions: vertices fit an int, fewer than 10^9 messages.
-/
namespace Go.Proofs.YtbbmgandkmlojaaGreat.In
open Go.RowKit Go.Maps Gr Wd Ws Fx Rk Lb Al

/- Rows of messages that can be read. -/
def RMs (w : World) (A : Option Addr) (Ls : List (List Ms)) : Prop := ∀ (k : Nat) (L : List Ms), Ls[k]? = some L → ∃ bk o A' c, A = some ⟨bk, o, none⟩ ∧ w.cell? ⟨bk, o + k, none⟩ = some (.slice A' L.length c) ∧ MAt w A' L
theorem RMs.below {w w' : World} {A : Option Addr} {Ls : List (List Ms)} (h : RMs w A Ls) (hb : Below w.heap.size w w') : RMs w' A Ls := fun k L hk => by
  obtain ⟨bk, o, A', c, e, c0, hm⟩ := h k L hk
  exact ⟨bk, o, A', c, e, (hb.cell (block_lt_of_cell c0)).trans c0, hm.below hb⟩
/- Vertices that fit an int. -/
def ToIn (L : List Ms) : Prop := ∀ e ∈ L, -9223372036854775808 ≤ e.1 ∧ e.1 ≤ 9223372036854775807
theorem flat_at {Ls : List (List Ms)} {q : Nat} {L : List Ms} (h : Ls[q]? = some L) : Ls.flatten = (Ls.take q).flatten ++ (L ++ (Ls.drop (q + 1)).flatten) := by
  rw [← List.flatten_cons, ← drop_at h, ← List.flatten_append, List.take_append_drop]
theorem flat_next {Ls : List (List Ms)} {q : Nat} {L : List Ms} (h : Ls[q]? = some L) : (Ls.take (q + 1)).flatten = (Ls.take q).flatten ++ L := by
  rw [take_at h, List.flatten_append]; simp
structure TgH (w wr : World) (b M : Nat) (k st so dm ep : Int) (L : List Ms) : Prop where
  below : Below w.heap.size w wr
  box : wr.heap[b]? = some (.cells #[.int .u8 k, .int .i64 st, .int .i64 so, .int .i64 dm, .int .i64 ep] 26 (0, 0))
  map : CM wr M k L
theorem TgH.step {w w1 w2 : World} {b M : Nat} {k st so dm ep : Int} {L : List Ms} (h : TgH w w1 b M k st so dm ep L) (hb : Below w1.heap.size w1 w2) : TgH w w2 b M k st so dm ep L :=
  ⟨step_below h.below h.below.size hb, keep h.box hb, h.map.below hb⟩
theorem TgH.grown {w w1 w2 : World} {b M : Nat} {k st so dm ep : Int} {L L' : List Ms} (h : TgH w w1 b M k st so dm ep L) (hg : w1.grownBy w2 (some M)) (hm : CM w2 M k L') (hM : w.heap.size ≤ M) (hn : b ≠ M) : TgH w w2 b M k st so dm ep L' :=
  ⟨Below.grown h.below hg h.below.size (fun j e => by cases e; exact hM), (hg.block b (lt_of_block h.box) (fun e => hn (by cases e; rfl))).trans h.box, hm⟩
def T1Rel (w : World) (b M : Nat) (k st so dm ep : Int) (Ls : List (List Ms)) (gk : Nat) (i : Value) (wr : World) : Prop :=
  ∃ q : Nat, q + gk = Ls.length ∧ i = .int .i64 (q : Int) ∧ Hid (TgH w wr b M k st so dm ep (Ls.take q).flatten)
def T2Rel (w : World) (b M : Nat) (k st so dm ep : Int) (P L : List Ms) (gk : Nat) (i : Value) (wr : World) : Prop :=
  ∃ q : Nat, q + gk = L.length ∧ i = .int .i64 (q : Int) ∧ Hid (TgH w wr b M k st so dm ep (P ++ L.take q))
theorem mb_alloc (w : World) (t y : Int) : (w.alloc (.cells #[.int .i64 t, .int .i64 y] 126)).heap[w.heap.size]? = some (.cells #[.int .i64 t, .int .i64 y] 126 (0, 0)) := heap_alloc_new w _

set_option maxRecDepth 100000 in
set_option maxHeartbeats 4000000 in
theorem together_any (k st so dm ep : Int) (A : Option Addr) (c : Nat) (Ls : List (List Ms)) (w : World) (hR : RMs w A Ls) (hT : ToIn Ls.flatten) (hn : Ls.length ≤ 9223372036854775807) (hF : Ls.flatten.length < 1000000000) :
    Calls Tryz.prog 99 #[.agg #[.int .u8 k, .int .i64 st, .int .i64 so, .int .i64 dm, .int .i64 ep], .slice A Ls.length c] w fun e w' => (∃ M, e = .returned (.map (some M)) ∧ Hid (w.heap.size ≤ M) ∧ Hid (CM w' M k Ls.flatten)) ∧ Hid (Below w.heap.size w w') := by
  have mixed := mixedI
  have HR := Lib.hid hR; have HT := Lib.hid hT; have HF := Lib.hid hF; clear hR hT hF
  obtain ⟨n, hn'⟩ : ∃ n, n = Ls.length := ⟨_, rfl⟩
  rw [← hn'] at hn ⊢
  have HN := Lib.hid hn'; clear hn'
  obtain ⟨W1, hW1⟩ : ∃ W1, W1 = (w.alloc (.cells #[.int .u8 k, .int .i64 st, .int .i64 so, .int .i64 dm, .int .i64 ep] 26)).alloc (.map #[] 0) := ⟨_, rfl⟩
  have hal := al2 w (.cells #[.int .u8 k, .int .i64 st, .int .i64 so, .int .i64 dm, .int .i64 ep] 26) (.map #[] 0)
  have hcm : CM W1 (w.heap.size + 1) k [] := by
    have := CM.made (w.alloc (.cells #[.int .u8 k, .int .i64 st, .int .i64 so, .int .i64 dm, .int .i64 ep] 26)) k
    rw [show (w.alloc (.cells #[.int .u8 k, .int .i64 st, .int .i64 so, .int .i64 dm, .int .i64 ep] 26)).heap.size = w.heap.size + 1 by simp] at this
    rw [hW1]; exact this
  rw [← hW1] at hal
  obtain ⟨b, eb⟩ : ∃ b, b = w.heap.size := ⟨_, rfl⟩
  obtain ⟨M, eM⟩ : ∃ M, M = w.heap.size + 1 := ⟨_, rfl⟩
  rw [← eM] at hcm
  have HH1 : Hid (TgH w W1 b M k st so dm ep []) := Lib.hid ⟨hal.2.2, by rw [eb]; exact hal.1, hcm⟩
  have HGM : Hid (w.heap.size ≤ M) := Lib.hid (by omega)
  have HBM : Hid (b ≠ M) := Lib.hid (by omega)
  clear hal hcm
  have hmm := @run_makeMap Tryz.prog
  go_enter Tryz.func99, Tryz.ntmps99
  go_upto_region 2 with fail
  rw [← hW1]
  rw [show w.heap.size + 1 = M from eM.symm, show w.heap.size = b from eb.symm]
  clear hW1 eM eb
  go_wp2_with fail
  go_loopg [13] n (fun gk i wr => T1Rel w b M k st so dm ep Ls gk i wr)
  case atStart => exact ⟨0, by have := HN.out; omega, rfl, Lib.hid (by simpa using HH1.out)⟩
  case round =>
    clear HH1
    obtain ⟨q, hq, rfl, HH⟩ := hrel
    rw [← HN.out] at hq
    by_cases hlt : q < n
    · obtain ⟨L, hL⟩ := at_lt Ls q (by rw [← HN.out]; exact hlt)
      obtain ⟨bk, o, A', c', rfl, c00, hm⟩ := HR.out q L hL
      have c0 := (HH.out.below.cell (block_lt_of_cell c00)).trans c00
      clear c00
      have HL := Lib.hid hL; have HM := Lib.hid hm
      obtain ⟨m, hm'⟩ : ∃ m, m = L.length := ⟨_, rfl⟩
      rw [← hm'] at c0
      have HMN := Lib.hid hm'
      have hmb : m ≤ 1000000000 := by
        have := congrArg List.length (flat_at hL)
        simp only [List.length_append] at this
        have := HF.out; omega
      clear hL hm hm'
      go_wp2_with fail
      clear c0
      obtain ⟨G0, rfl⟩ : ∃ G0 : Nat, G0 = gk := ⟨_, rfl⟩
      go_loopg [19] m (fun gk i wr => T2Rel w b M k st so dm ep (Ls.take q).flatten L gk i wr)
      case atStart => exact ⟨0, by have := HMN.out; omega, rfl, Lib.hid (by simpa using HH.out)⟩
      case round =>
        obtain ⟨j, hj, rfl, HH2⟩ := hrel
        rw [← HMN.out] at hj
        by_cases hlt2 : j < m
        · obtain ⟨⟨t, y⟩, he⟩ := at_lt L j (by rw [← HMN.out]; exact hlt2)
          obtain ⟨bk2, o2, rfl, c0, c1⟩ := (HM.out.below HH2.out.below) j _ he
          simp only at c0 c1
          have ht : -9223372036854775808 ≤ t ∧ t ≤ 9223372036854775807 := HT.out (t, y) (by
            rw [flat_at HL.out]
            exact List.mem_append_right _ (List.mem_append_left _ (List.mem_of_getElem? he)))
          obtain ⟨K, hK⟩ : ∃ K, K = (Ls.take q).flatten ++ L.take j := ⟨_, rfl⟩
          have hKn : K.length < 1000000000 := by
            have := congrArg List.length (flat_at HL.out)
            simp only [List.length_append] at this
            rw [hK, List.length_append, List.length_take]
            have := HF.out; omega
          have HNX : Hid (K ++ [(t, y)] = (Ls.take q).flatten ++ L.take (j + 1)) := Lib.hid (by rw [take_at he, hK, List.append_assoc])
          rw [← hK] at HH2
          obtain ⟨⟨h, x⟩, hx⟩ : ∃ hx : Ml, mlOf (mailM k t K) = hx := ⟨_, rfl⟩
          obtain ⟨r, hr⟩ : ∃ r, nxt k (h, x) y = r := ⟨_, rfl⟩
          have HY : Hid (mailM k t (K ++ [(t, y)]) = some r) := Lib.hid (by rw [nxt_mail, hx, hr])
          have HW : Hid (Below wr.heap.size wr (wr.alloc (.cells #[.int .i64 t, .int .i64 y] 126))) := Lib.hid ((Below.refl _ wr).alloc (Nat.le_refl _) _)
          have HE := Lib.hid (mb_alloc wr t y)
          have HKN := Lib.hid hKn; have HTT := Lib.hid ht; have HX := Lib.hid hx; have HRr := Lib.hid hr
          clear he hK hKn ht hx hr
          go_upto_region 8 with fail
          obtain ⟨W1, hW1⟩ : ∃ W1, W1 = wr.alloc (.cells #[.int .i64 t, .int .i64 y] 126) := ⟨_, rfl⟩
          rw [← hW1] at HW HE ⊢
          obtain ⟨eb, heb⟩ : ∃ eb, eb = wr.heap.size := ⟨_, rfl⟩
          rw [← heb] at HE ⊢
          have HH5 := Lib.hid (HH2.out.step HW.out)
          obtain ⟨p0, p1, _⟩ := msg_cells HE.out
          obtain ⟨j0, j1, j2, j3, j4, _⟩ := jb_cells HH5.out.box
          have z0 := cell_regrown p0; have z1 := cell_regrown p1
          have y0 := cell_regrown j0; have y1 := cell_regrown j1; have y2 := cell_regrown j2; have y3 := cell_regrown j3; have y4 := cell_regrown j4
          have hlk : ∀ (d : Nat) (os : Array Obj), (Instr.lookup 144 (.map (some M)) (.int .i64 t) false).run Tryz.prog (Sort.grow (redrawn W1 d) os) = .ok (.agg #[.bool h, .int .i64 x]) (Sort.grow (redrawn W1 d) os) := fun d os => by
            have := (HH5.out.map.below (below_regrown W1 d os)).look HTT.out
            rw [HX.out] at this; exact this
          have hC := regr fun W (_ : Below W1.heap.size W1 W) => with_any k st so dm ep h x y W
          rw [HRr.out] at hC
          have C1 := Lib.hid hC
          clear hC p0 p1 c0 c1 hW1 heb j0 j1 j2 j3 j4
          refine Tl.region_tail_below 11 mixed (by kernel_rfl) ?_
          simp only [List.take_succ_cons, List.take_zero, List.drop_succ_cons, List.drop_zero]
          repeat (go_big_quiet_step ((with_reducible first | exact C1.out _ _)))
          refine wpQuiet_nil ?_
          intro _ hw'
          obtain ⟨⟨dq, osq⟩, hw''⟩ := hw'
          subst hw''
          obtain ⟨W4, hW4⟩ : ∃ W4, W4 = Sort.grow (redrawn W1 dq) osq := ⟨_, rfl⟩
          have hb4 : Below W1.heap.size W1 W4 := by rw [hW4]; exact below_regrown W1 dq osq
          rw [← hW4]
          have HH6 := Lib.hid (HH5.out.step hb4)
          obtain ⟨W5, hup, hcm, hg5⟩ := HH6.out.map.store y r HTT.out HKN.out HY.out
          unfold mlV at hup
          simp only at hup
          rw [HNX.out] at hcm
          have HH7 := Lib.hid (HH6.out.grown hg5 hcm HGM.out HBM.out)
          clear hb4 hW4 z0 z1 y0 y1 y2 y3 y4 hlk C1 hcm hg5
          go_wp2
          go_roundg (gk - 1)
          case measure => omega
          case rel => exact ⟨j + 1, by have := HMN.out; omega, by go_num, HH7⟩
        · have HH3 : Hid (TgH w wr b M k st so dm ep (Ls.take (q + 1)).flatten) := Lib.hid (by
            have := HH2.out
            rwa [show j = L.length by have := HMN.out; omega, List.take_length, ← flat_next HL.out] at this)
          go_wp2
          go_roundg (G0 - 1)
          case measure => omega
          case rel => exact ⟨q + 1, by have := HN.out; omega, by go_num, HH3⟩
    · have HH3 : Hid (TgH w wr b M k st so dm ep Ls.flatten) := Lib.hid (by
        have := HH.out
        rwa [show q = Ls.length by have := HN.out; omega, List.take_length] at this)
      go_wp2
      go_ret
      exact ⟨⟨M, rfl, HGM, Lib.hid HH3.out.map⟩, Lib.hid HH3.out.below⟩

end Go.Proofs.YtbbmgandkmlojaaGreat.In

/-
  What is proved here: contracts of the document's own Fold, mail and Same. Conditions: lengths fit an int; fewer than 1000000 messages.
-/
namespace Go.Proofs.YtbbmgandkmlojaaGreat.In
open Go.RowKit Go.Maps Gr Wd Ws Fx Rk Lb Al

structure RfH (w wr : World) (b : Nat) (k st so dm ep : Int) (v : Value) (L : List Ms) : Prop where
  below : Below w.heap.size w wr
  box : wr.heap[b]? = some (.cells #[.int .u8 k, .int .i64 st, .int .i64 so, .int .i64 dm, .int .i64 ep] 26 (0, 0))
  row : MOwn wr w.heap.size v (putM k [] L)
def RfRel (w : World) (b : Nat) (k st so dm ep : Int) (L : List Ms) (gk : Nat) (v i : Value) (wr : World) : Prop :=
  ∃ q : Nat, q + gk = L.length ∧ i = .int .i64 (q : Int) ∧ Hid (RfH w wr b k st so dm ep v (L.take q))
theorem putM_next {k : Int} {L : List Ms} {q : Nat} {t y : Int} (h : L[q]? = some (t, y)) : insM k (putM k [] (L.take q)) (t, y) = putM k [] (L.take (q + 1)) := by
  rw [take_at h, putM_snoc]

set_option maxRecDepth 100000 in
set_option maxHeartbeats 4000000 in
theorem rsame_any (A B : Option Addr) (n m c d : Nat) (a b : List Ml) (w : World) (hA : KAt w A a) (hB : KAt w B b) (hn : a.length = n) (hm : b.length = m) (hn2 : n ≤ 9223372036854775807) (hm2 : m ≤ 9223372036854775807) :
    Calls Tryz.prog 39 #[.slice A n c, .slice B m d] w fun e w' => e = .returned (.bool (sameB a b)) ∧ Hid (Below w.heap.size w w') := by
  have mixed := mixedI
  have HA := Lib.hid hA; have HBb := Lib.hid hB; have HN := Lib.hid hn; have HM := Lib.hid hm
  clear hA hB hn hm
  obtain ⟨r, hr⟩ : ∃ r, sameB a b = r := ⟨_, rfl⟩
  rw [hr]
  have HR := Lib.hid hr; clear hr
  by_cases hnm : n = m
  · subst hnm
    go_enter Tryz.func39, Tryz.ntmps39
    go_wp2
    go_loopg [5] n (fun gk i wr => EqRel w a b gk i wr)
    case atStart => exact ⟨0, by have := HN.out; omega, rfl, Lib.hid (Below.refl _ w), Lib.hid rfl⟩
    case round =>
      obtain ⟨q, hq, rfl, HB, HD⟩ := hrel
      rw [HN.out] at hq
      by_cases hlt : q < n
      · obtain ⟨⟨p, x⟩, hp⟩ := at_lt a q (by rw [HN.out]; exact hlt)
        obtain ⟨⟨s, y⟩, hs⟩ := at_lt b q (by rw [HM.out]; exact hlt)
        obtain ⟨bk, o, rfl, c0, c1⟩ := (HA.out.below HB.out) q _ hp
        obtain ⟨bk', o', rfl, d0, d1⟩ := (HBb.out.below HB.out) q _ hs
        simp only at c0 c1 d0 d1
        have HD2 : Hid (sameB a b = (eqM (p, x) (s, y) && sameB (a.drop (q + 1)) (b.drop (q + 1)))) := Lib.hid (by rw [HD.out, drop_at hp, drop_at hs, sameB_cons])
        clear hp hs HD
        by_cases heq : eqM (p, x) (s, y) = true
        · have HD3 : Hid (sameB a b = sameB (a.drop (q + 1)) (b.drop (q + 1))) := Lib.hid (by rw [HD2.out, heq]; rfl)
          cases p <;> cases s
          · clear heq
            go_wp2_with fail
            go_quiet (fail)
            go_wp2
            go_roundg (gk - 1)
            case measure => omega
            case rel => exact ⟨q + 1, by have := HN.out; omega, by go_num, Lib.hid (Ws.below_drewN HB.out _), HD3⟩
          · cases heq
          · cases heq
          · have hxy : x = y := by simpa [eqM] using heq
            subst hxy
            clear heq
            go_wp2_with fail
            go_quiet (fail)
            go_wp2
            go_roundg (gk - 1)
            case measure => omega
            case rel => exact ⟨q + 1, by have := HN.out; omega, by go_num, Lib.hid (Ws.below_drewN HB.out _), HD3⟩
        · have heq2 : eqM (p, x) (s, y) = false := by simpa using heq
          have e3 : r = false := by rw [← HR.out, HD2.out, heq2]; rfl
          subst e3
          clear HD2 HR heq
          cases p <;> cases s
          · cases heq2
          · clear heq2
            go_wp2_with fail
            go_quiet (fail)
            go_wp2
            go_ret
            exact ⟨rfl, Lib.hid (Ws.below_drewN HB.out _)⟩
          · clear heq2
            go_wp2_with fail
            go_quiet (fail)
            go_wp2
            go_ret
            exact ⟨rfl, Lib.hid (Ws.below_drewN HB.out _)⟩
          · have hxy : (x == y) = false := by simpa [eqM] using heq2
            have hne : ¬ x = y := by simpa using hxy
            clear heq2
            go_wp2_with fail
            go_quiet (fail)
            go_wp2
            go_ret
            exact ⟨rfl, Lib.hid (Ws.below_drewN HB.out _)⟩
      · have e3 : r = true := by
          rw [← HR.out, HD.out, List.drop_eq_nil_of_le (by rw [HN.out]; omega), List.drop_eq_nil_of_le (by rw [HM.out]; omega)]; rfl
        subst e3
        go_wp2
        go_ret
        exact ⟨rfl, HB⟩
  · have e3 : r = false := by rw [← HR.out]; exact sameB_len (by rw [HN.out, HM.out]; exact hnm)
    subst e3
    go_enter Tryz.func39, Tryz.ntmps39
    go_wp2
    go_ret
    exact ⟨rfl, Lib.hid (Below.refl _ w)⟩

end Go.Proofs.YtbbmgandkmlojaaGreat.In

/-
  What is proved here: a contract of the document's own mail: what comes to a vertex out of rows. Conditions: lengths fit an int.
-/
namespace Go.Proofs.YtbbmgandkmlojaaGreat.In
open Go.RowKit Go.Maps Gr Wd Ws Fx Rk Lb Al

structure RmH (w wr : World) (b0 b1 b2 : Nat) (k st so dm ep : Int) (m : Ml) : Prop where
  below : Below w.heap.size w wr
  box : wr.heap[b0]? = some (.cells #[.int .u8 k, .int .i64 st, .int .i64 so, .int .i64 dm, .int .i64 ep] 26 (0, 0))
  res : wr.heap[b1]? = some (.cells #[.bool false, .int .i64 0] 78 (0, 0))
  ml : wr.heap[b2]? = some (.cells #[.bool m.1, .int .i64 m.2] 78 (0, 0))
theorem RmH.step {w w1 w2 : World} {b0 b1 b2 : Nat} {k st so dm ep : Int} {m : Ml} (h : RmH w w1 b0 b1 b2 k st so dm ep m) (hb : Below w1.heap.size w1 w2) : RmH w w2 b0 b1 b2 k st so dm ep m :=
  ⟨step_below h.below h.below.size hb, keep h.box hb, keep h.res hb, keep h.ml hb⟩
theorem set_off {W : World} {b c : Nat} {o : Obj} (h : W.heap[b]? = some o) (hn : b ≠ c) (i : Nat) (u : Value) : (W.setCell ⟨c, i, none⟩ u).heap[b]? = some o := by
  rw [heap_setCell_other W ⟨c, i, none⟩ b u hn]; exact h
theorem RmH.put {w w1 : World} {b0 b1 b2 : Nat} {k st so dm ep : Int} {m : Ml} (h : RmH w w1 b0 b1 b2 k st so dm ep m) (hw : w.heap.size ≤ b2) (h0 : b0 ≠ b2) (h1 : b1 ≠ b2) (p : Bool) (y : Int) :
    RmH w ((w1.setCell ⟨b2, 0, none⟩ (.bool p)).setCell ⟨b2, 1, none⟩ (.int .i64 y)) b0 b1 b2 k st so dm ep (p, y) :=
  ⟨(h.below.setCell (p := ⟨b2, 0, none⟩) hw _).setCell (p := ⟨b2, 1, none⟩) hw _, set_off (set_off h.box h0 _ _) h0 _ _, set_off (set_off h.res h1 _ _) h1 _ _, put_ml h.ml p y⟩
theorem RmH.put1 {w w1 : World} {b0 b1 b2 : Nat} {k st so dm ep : Int} {p : Bool} {x : Int} (h : RmH w w1 b0 b1 b2 k st so dm ep (p, x)) (hw : w.heap.size ≤ b2) (h0 : b0 ≠ b2) (h1 : b1 ≠ b2) (y : Int) :
    RmH w (w1.setCell ⟨b2, 1, none⟩ (.int .i64 y)) b0 b1 b2 k st so dm ep (p, y) :=
  ⟨h.below.setCell (p := ⟨b2, 1, none⟩) hw _, set_off h.box h0 _ _, set_off h.res h1 _ _, by
    have := heap_setCell_same w1 b2 1 _ 78 (.int .i64 y) h.ml
    exact this⟩
def R1Rel (w : World) (b0 b1 b2 : Nat) (k st so dm ep v : Int) (Ls : List (List Ms)) (gk : Nat) (i : Value) (wr : World) : Prop :=
  ∃ q : Nat, q + gk = Ls.length ∧ i = .int .i64 (q : Int) ∧ Hid (RmH w wr b0 b1 b2 k st so dm ep (mlOf (mailM k v (Ls.take q).flatten)))
def R2Rel (w : World) (b0 b1 b2 : Nat) (k st so dm ep v : Int) (P L : List Ms) (gk : Nat) (i : Value) (wr : World) : Prop :=
  ∃ q : Nat, q + gk = L.length ∧ i = .int .i64 (q : Int) ∧ Hid (RmH w wr b0 b1 b2 k st so dm ep (mlOf (mailM k v (P ++ L.take q))))

set_option maxRecDepth 100000 in
set_option maxHeartbeats 4000000 in
theorem rmail_any (k st so dm ep v : Int) (A : Option Addr) (n c : Nat) (Ls : List (List Ms)) (w : World) (hR : RMs w A Ls) (hn : Ls.length = n) (hn2 : n ≤ 1000000) (hF : Ls.flatten.length < 1000000000) :
    Calls Tryz.prog 90 #[.agg #[.int .u8 k, .int .i64 st, .int .i64 so, .int .i64 dm, .int .i64 ep], .int .i64 v, .slice A n c] w fun e w' => (∃ p y, e = .returned (.agg #[.bool p, .int .i64 y]) ∧ Hid (mlOf (mailM k v Ls.flatten) = (p, y))) ∧ Hid (Below w.heap.size w w') := by
  have mixed := mixedI
  have HR := Lib.hid hR; have HN := Lib.hid hn; have HF := Lib.hid hF
  clear hR hn hF
  obtain ⟨W1, hW1⟩ : ∃ W1, W1 = ((w.alloc (.cells #[.int .u8 k, .int .i64 st, .int .i64 so, .int .i64 dm, .int .i64 ep] 26)).alloc (.cells #[.bool false, .int .i64 0] 78)).alloc (.cells #[.bool false, .int .i64 0] 78) := ⟨_, rfl⟩
  have hal := al3 w (.cells #[.int .u8 k, .int .i64 st, .int .i64 so, .int .i64 dm, .int .i64 ep] 26) (.cells #[.bool false, .int .i64 0] 78) (.cells #[.bool false, .int .i64 0] 78)
  rw [← hW1] at hal
  obtain ⟨x0, x1, x2, hb⟩ := hal
  obtain ⟨b0, e0⟩ : ∃ b0, b0 = w.heap.size := ⟨_, rfl⟩
  obtain ⟨b1, e1⟩ : ∃ b1, b1 = w.heap.size + 1 := ⟨_, rfl⟩
  obtain ⟨b2, e2⟩ : ∃ b2, b2 = w.heap.size + 2 := ⟨_, rfl⟩
  rw [← e0] at x0; rw [← e1] at x1; rw [← e2] at x2
  have HH : Hid (RmH w W1 b0 b1 b2 k st so dm ep (false, 0)) := Lib.hid ⟨hb, x0, x1, x2⟩
  have HW2 : Hid (w.heap.size ≤ b2) := Lib.hid (by omega)
  have HW1 : Hid (w.heap.size ≤ b1) := Lib.hid (by omega)
  have H02 : Hid (b0 ≠ b2) := Lib.hid (by omega)
  have H12 : Hid (b1 ≠ b2) := Lib.hid (by omega)
  clear x0 x1 x2 hb
  go_enter Tryz.func90, Tryz.ntmps90
  go_upto_region 2 with fail
  rw [← hW1]
  rw [show w.heap.size + 1 + 1 = b2 from e2.symm, show w.heap.size + 1 = b1 from e1.symm, show w.heap.size = b0 from e0.symm]
  clear hW1 e0 e1 e2
  go_wp2_with fail
  go_loopg [8] n (fun gk i wr => R1Rel w b0 b1 b2 k st so dm ep v Ls gk i wr)
  case atStart => exact ⟨0, by have := HN.out; omega, rfl, HH⟩
  case round =>
    clear HH
    obtain ⟨q, hq, rfl, HH⟩ := hrel
    rw [HN.out] at hq
    by_cases hlt : q < n
    · obtain ⟨L, hL⟩ := at_lt Ls q (by rw [HN.out]; exact hlt)
      obtain ⟨bk, o, A', c', rfl, c00, hm⟩ := HR.out q L hL
      have HL := Lib.hid hL; have HM := Lib.hid hm
      obtain ⟨m, hm'⟩ : ∃ m, m = L.length := ⟨_, rfl⟩
      rw [← hm'] at c00
      have HC0 := Lib.hid c00
      have HMN := Lib.hid hm'
      have hmb : m ≤ 1000000000 := by
        have := congrArg List.length (flat_at hL)
        simp only [List.length_append] at this
        have := HF.out; omega
      clear hL hm hm' c00
      go_wp2_with fail
      obtain ⟨G0, rfl⟩ : ∃ G0 : Nat, G0 = gk := ⟨_, rfl⟩
      go_loopg [9] m (fun gk i wr => R2Rel w b0 b1 b2 k st so dm ep v (Ls.take q).flatten L gk i wr)
      case atStart => exact ⟨0, by have := HMN.out; omega, rfl, Lib.hid (by simpa using HH.out)⟩
      case round =>
        clear HH
        obtain ⟨j, hj, rfl, HH⟩ := hrel
        rw [← HMN.out] at hj
        have c0 := (HH.out.below.cell (block_lt_of_cell HC0.out)).trans HC0.out
        by_cases hlt2 : j < m
        · obtain ⟨⟨t, y⟩, he⟩ := at_lt L j (by rw [← HMN.out]; exact hlt2)
          obtain ⟨bk2, o2, rfl, d0, d1⟩ := (HM.out.below HH.out.below) j _ he
          simp only at d0 d1
          obtain ⟨K, hK⟩ : ∃ K, K = (Ls.take q).flatten ++ L.take j := ⟨_, rfl⟩
          have HNX : Hid ((Ls.take q).flatten ++ L.take (j + 1) = K ++ [(t, y)]) := Lib.hid (by rw [take_at he, hK, List.append_assoc])
          rw [← hK] at HH
          obtain ⟨⟨p, x⟩, hx⟩ : ∃ hx : Ml, mlOf (mailM k v K) = hx := ⟨_, rfl⟩
          rw [hx] at HH
          have HX := Lib.hid hx
          clear he hK hx
          go_upto_region 9 with fail
          obtain ⟨W1, hW1⟩ : ∃ W1, W1 = wr.alloc (.cells #[.int .i64 t, .int .i64 y] 126) := ⟨_, rfl⟩
          have z0 : W1.heap[wr.heap.size]? = some (.cells #[.int .i64 t, .int .i64 y] 126 (0, 0)) := by rw [hW1]; exact mb_alloc wr t y
          have hb1 : Below wr.heap.size wr W1 := by rw [hW1]; exact (Below.refl _ wr).alloc (Nat.le_refl _) _
          rw [← hW1]
          obtain ⟨eb, heb⟩ : ∃ eb, eb = wr.heap.size := ⟨_, rfl⟩
          rw [← heb] at z0 ⊢
          have HH1 := Lib.hid (HH.out.step hb1)
          have HZ := Lib.hid z0
          clear hW1 heb hb1 z0 c0 d0 d1 HH
          obtain ⟨m0, m1, _⟩ := msg_cells HZ.out
          by_cases htv : t = v
          · subst htv
            obtain ⟨n0, n1, nf, _⟩ := ml_cells HH1.out.ml
            simp only at n0 n1
            cases p with
            | true =>
              obtain ⟨r, hr⟩ : ∃ r, comb k x y = r := ⟨_, rfl⟩
              have HY : Hid (mlOf (mailM k t ((Ls.take q).flatten ++ L.take (j + 1))) = (true, r)) := Lib.hid (by
                rw [HNX.out, nxt_mail, HX.out]; show (true, comb k x y) = _; rw [hr])
              have HC := Lib.hid (fun W => rcomb_y k st so dm ep x y r (Lib.hid hr) W)
              obtain ⟨j0, j1, j2, j3, j4, _⟩ := jb_cells HH1.out.box
              clear hr
              go_wp2_with fail
              refine (HC.out _).mono ?_
              rintro e w3 ⟨rfl, hw3⟩
              have hb3 : Below W1.heap.size W1 w3 := by rw [hw3]; exact (Below.refl _ W1).alloc (Nat.le_refl _) _
              have HH3 := Lib.hid (HH1.out.step hb3)
              clear hw3 hb3 m0 m1 n0 n1 nf j0 j1 j2 j3 j4
              obtain ⟨n0, n1, nf, _⟩ := ml_cells HH3.out.ml
              have HH4 := Lib.hid (HH3.out.put1 HW2.out H02.out H12.out r)
              go_wp2
              go_roundg (gk - 1)
              case measure => omega
              case rel => exact ⟨j + 1, by have := HMN.out; omega, by go_num, by rw [HY.out]; exact HH4⟩
            | false =>
              have HY : Hid (mlOf (mailM k t ((Ls.take q).flatten ++ L.take (j + 1))) = (true, y)) := Lib.hid (by
                rw [HNX.out, nxt_mail, HX.out]; rfl)
              have HH4 := Lib.hid (HH1.out.put HW2.out H02.out H12.out true y)
              go_wp2
              go_roundg (gk - 1)
              case measure => omega
              case rel => exact ⟨j + 1, by have := HMN.out; omega, by go_num, by rw [HY.out]; exact HH4⟩
          · have hb : (t == v) = false := by simpa using htv
            have HY : Hid (mlOf (mailM k v ((Ls.take q).flatten ++ L.take (j + 1))) = (p, x)) := Lib.hid (by
              rw [HNX.out, mailM_snoc]; unfold mst; rw [if_neg htv, HX.out])
            go_wp2
            go_roundg (gk - 1)
            case measure => omega
            case rel => exact ⟨j + 1, by have := HMN.out; omega, by go_num, by rw [HY.out]; exact HH1⟩
        · have HH3 : Hid (RmH w wr b0 b1 b2 k st so dm ep (mlOf (mailM k v (Ls.take (q + 1)).flatten))) := Lib.hid (by
            have := HH.out
            rwa [show j = L.length by have := HMN.out; omega, List.take_length, ← flat_next HL.out] at this)
          go_wp2
          go_roundg (G0 - 1)
          case measure => omega
          case rel => exact ⟨q + 1, by have := HN.out; omega, by go_num, HH3⟩
    · obtain ⟨⟨p, y⟩, hpy⟩ : ∃ m : Ml, mlOf (mailM k v Ls.flatten) = m := ⟨_, rfl⟩
      have HH3 : Hid (RmH w wr b0 b1 b2 k st so dm ep (p, y)) := Lib.hid (by
        have := HH.out
        rwa [show q = Ls.length by have := HN.out; omega, List.take_length, hpy] at this)
      have HPY := Lib.hid hpy
      clear HH hpy
      obtain ⟨n0, n1, _⟩ := ml_cells HH3.out.ml
      obtain ⟨u0, u1, uf, _⟩ := ml_cells HH3.out.res
      simp only at n0 n1
      go_wp2_with fail
      have hp := put_ml HH3.out.res p y
      obtain ⟨k0, k1, _⟩ := ml_cells hp
      have hB5 : Below w.heap.size w ((wr.setCell ⟨b1, 0, none⟩ (.bool p)).setCell ⟨b1, 1, none⟩ (.int .i64 y)) := (HH3.out.below.setCell (p := ⟨b1, 0, none⟩) HW1.out _).setCell (p := ⟨b1, 1, none⟩) HW1.out _
      exact bodyPost_ret (v := .agg #[.bool p, .int .i64 y]) (by simp [results, Tryz.results90, go_sem, k0, k1]) rfl ⟨⟨p, y, rfl, HPY⟩, Lib.hid hB5⟩

end Go.Proofs.YtbbmgandkmlojaaGreat.In

/-
  What is proved here: a contract of inbox.Fold: to each vertex what all messages to it come to. Conditions: vertices fit an int, fewer than 1000000 messages.
-/
namespace Go.Proofs.YtbbmgandkmlojaaGreat.In
open Go.RowKit Go.Maps Gr Wd Ws Fx Rk Lb Al

/- A place is not in a block. -/
def Off (A : Option Addr) (r : Option Nat) : Prop := ∀ a, A = some a → some a.block ≠ r
theorem IAt.grown {w w' : World} {A : Option Addr} {l : List Int} {r : Option Nat} (h : IAt w A l) (hg : w.grownBy w' r) (ho : Off A r) : IAt w' A l := by
  intro k x hx
  obtain ⟨bk, o, hA, c⟩ := h k x hx
  refine ⟨bk, o, hA, ?_⟩
  have := hg.block bk (block_lt_of_cell c) (ho _ hA)
  unfold World.cell? at c ⊢
  simp only at c ⊢
  rw [this]; exact c
theorem MAt.grown {w w' : World} {A : Option Addr} {l : List Ms} {r : Option Nat} (h : MAt w A l) (hg : w.grownBy w' r) (ho : Off A r) : MAt w' A l := by
  intro k x hx
  obtain ⟨bk, o, hA, c, d⟩ := h k x hx
  have := hg.block bk (block_lt_of_cell c) (ho _ hA)
  refine ⟨bk, o, hA, ?_, ?_⟩
  · unfold World.cell? at c ⊢; simp only at c ⊢; rw [this]; exact c
  · unfold World.cell? at d ⊢; simp only at d ⊢; rw [this]; exact d
/- One message more, and where the row lies then. -/
theorem app_m_at {w : World} {ops : Array Oper} {rest : List Oper} {o : Oper} {a : Act} {Q : Exit → Act → World → Prop} (hgd : o.guard = none) (s x : Operand)
    (ho : o.op = .call { callee := .builtin .append, args := #[s, x], argTypes := #[97, 97] }) (B : Nat) (v : Value) (L : List Ms) (e0 e1 : Int) (hs : a.eval s = v) (hown : MOwn w B v L)
    (g : Nat) (hx : a.eval x = .slice (some ⟨g, 0, none⟩) 1 1) (hg : w.heap[g]? = some (.cells #[.int .i64 e0, .int .i64 e1] 126 (0, 0))) (hn : L.length < 1000000000) (hB : B ≤ w.heap.size)
    (h : ∀ v' w', MOwn w' B v' (L ++ [(e0, e1)]) → w.grownBy w' v.ownBlock → (v'.ownBlock = v.ownBlock ∨ v'.ownBlock = some w.heap.size) → wpList Tryz.prog ops Q rest (a.put o.dst v') w') : wpList Tryz.prog ops Q (o :: rest) a w := by
  obtain ⟨i0, hi, hz0, hz1, hz2⟩ := info_parts infoM
  refine wpList_append_own_at w hgd s x 97 ho B 126 i0 _ 2 16 Tryz.underlying97 hi hz0 hz1 hz2 rfl (by decide) v L.length (mcs L) hs hown ⟨g, 0, none⟩ 1 1 (mc (e0, e1)) hx rfl ?_ ?_ ?_ ?_ hB ?_
  · intro j u hu
    rw [add_plain, Lib.cell_of_heap hg]
    rcases j with _ | _ | j
    · simpa [mc] using hu
    · simpa [mc] using hu
    · simp [mc] at hu
  · intro u hu
    simp only [mc, List.mem_cons, List.not_mem_nil, or_false] at hu
    rcases hu with rfl | rfl <;> rfl
  · unfold maxLen; omega
  · omega
  · intro v' w' h1 h2 _ h4
    refine h v' w' ?_ h2 h4
    unfold MOwn
    rw [mcs_append, List.length_append]
    have : mcs [(e0, e1)] = mc (e0, e1) := by simp [mcs]
    rw [this]; exact h1
theorem CM.len {w : World} {M : Nat} {k : Int} {L : List Ms} (h : CM w M k L) : ∃ n : Nat, n ≤ L.length ∧ ∀ ty, (Builtin.len_ #[144] ty #[.map (some M)]).run Tryz.prog w = .ok (.int .i64 (n : Int)) w := by
  obtain ⟨D, h1, h2⟩ := h
  exact ⟨Maps.size D, h1.size_le, fun ty => h1.len Tryz.underlying144 ty⟩
theorem CM.grown {w w' : World} {M : Nat} {k : Int} {L : List Ms} {r : Option Nat} (h : CM w M k L) (hg : w.grownBy w' r) (hr : some M ≠ r) : CM w' M k L := h.kept (hg.block M h.lt hr)
theorem some_in {k x : Int} {L : List Ms} (h : (mailM k x L).isSome = true) : ∃ e ∈ L, e.1 = x := Classical.byContradiction fun hn => by
  rw [mailM_off k x fun e he hx => hn ⟨e, he, hx⟩] at h; cases h
theorem one_row {w : World} {g : Nat} {A : Option Addr} {n c : Nat} {L : List Ms} (hg : w.heap[g]? = some (.cells #[.slice A n c] 97 (0, 0))) (hn : L.length = n) (hL : MAt w A L) : RMs w (some ⟨g, 0, none⟩) [L] := by
  intro k M hk
  rcases k with _ | k
  · simp at hk; subst hk
    exact ⟨g, 0, A, c, rfl, by rw [Lib.cell_of_heap hg, hn]; rfl, hL⟩
  · simp at hk
theorem off_next {A : Option Addr} {v v' : Value} {n : Nat} (h : Off A v.ownBlock) (hv : v'.ownBlock = v.ownBlock ∨ v'.ownBlock = some n) (hA : ∀ a, A = some a → a.block < n) : Off A v'.ownBlock := by
  intro a ha e
  rcases hv with g | g
  · rw [g] at e; exact h a ha e
  · rw [g] at e
    have := hA a ha
    have := Option.some.inj e
    omega
theorem key_lt {w : World} {A : Option Addr} {l : List Int} (h : IAt w A l) (hl : 0 < l.length) : ∀ a, A = some a → a.block < w.heap.size := by
  intro a ha
  obtain ⟨x, hx⟩ := at_lt l 0 hl
  obtain ⟨bk, o, e, c⟩ := h 0 x hx
  rw [ha] at e
  have := Option.some.inj e
  rw [this]; exact block_lt_of_cell c

end Go.Proofs.YtbbmgandkmlojaaGreat.In

/-
  What is proved here: a contract of inbox.Merge: the mail of vertices. Conditions: vertices fit an int, fewer than 10^9 messages, fewer than 1000000 vertices asked for.
-/
namespace Go.Proofs.YtbbmgandkmlojaaGreat.In
open Go.RowKit Go.Maps Gr Wd Ws Fx Rk Lb Al

def OwnIn (l : List Int) : Prop := ∀ x ∈ l, -9223372036854775808 ≤ x ∧ x ≤ 9223372036854775807
theorem mergeM_take {k : Int} {own : List Int} {rows : List (List Ms)} {q : Nat} {x : Int} (h : own[q]? = some x) : mergeM k (own.take q) rows ++ [mlOf (mailM k x rows.flatten)] = mergeM k (own.take (q + 1)) rows := by
  rw [take_at h]; unfold mergeM; rw [List.map_append]; rfl
structure MgH (w wr : World) (M B : Nat) (k : Int) (Ls : List (List Ms)) (own : List Int) (v : Value) (q : Nat) : Prop where
  below : Below w.heap.size w wr
  map : CM wr M k Ls.flatten
  row : KOwn wr B v (mergeM k (own.take q) Ls)
def MgRel (w : World) (M B : Nat) (k : Int) (Ls : List (List Ms)) (own : List Int) (gk : Nat) (v i : Value) (wr : World) : Prop :=
  ∃ q : Nat, q + gk = own.length ∧ i = .int .i64 (q : Int) ∧ Hid (MgH w wr M B k Ls own v q)
theorem kb_alloc (w : World) (p : Bool) (y : Int) : (w.alloc (.cells #[.bool p, .int .i64 y] 78)).heap[w.heap.size]? = some (.cells #[.bool p, .int .i64 y] 78 (0, 0)) := heap_alloc_new w _

set_option maxRecDepth 100000 in
set_option maxHeartbeats 4000000 in
theorem merge_any (k st so dm ep : Int) (Ao A : Option Addr) (no co n c : Nat) (own : List Int) (Ls : List (List Ms)) (w : World) (hO : IAt w Ao own) (hno : own.length = no) (hR : RMs w A Ls) (hn : Ls.length = n) (hT : ToIn Ls.flatten) (hOI : OwnIn own) (hno2 : no < 1000000) (hn2 : n ≤ 1000000) (hF : Ls.flatten.length < 1000000000) :
    Calls Tryz.prog 83 #[.agg #[.int .u8 k, .int .i64 st, .int .i64 so, .int .i64 dm, .int .i64 ep], .slice Ao no co, .slice A n c] w fun e w' => ∃ v, e = .returned v ∧ Hid (KOwn w' w.heap.size v (mergeM k own Ls)) ∧ Hid (Below w.heap.size w w') := by
  have mixed := mixedI
  have HO := Lib.hid hO; have HNO := Lib.hid hno; have HOI := Lib.hid hOI
  have HR := Lib.hid hR; have HN := Lib.hid hn; have HT := Lib.hid hT; have HF := Lib.hid hF
  clear hO hno hOI hR hn hT hF
  obtain ⟨W1, hW1⟩ : ∃ W1, W1 = w.alloc (.cells #[.int .u8 k, .int .i64 st, .int .i64 so, .int .i64 dm, .int .i64 ep] 26) := ⟨_, rfl⟩
  have x0 : W1.heap[w.heap.size]? = some (.cells #[.int .u8 k, .int .i64 st, .int .i64 so, .int .i64 dm, .int .i64 ep] 26 (0, 0)) := by rw [hW1]; exact heap_alloc_new w _
  have hb1 : Below w.heap.size w W1 := by rw [hW1]; exact (Below.refl _ w).alloc (Nat.le_refl _) _
  have HC : Hid (Calls Tryz.prog 99 #[.agg #[.int .u8 k, .int .i64 st, .int .i64 so, .int .i64 dm, .int .i64 ep], .slice A n c] W1 fun e w' => (∃ M, e = .returned (.map (some M)) ∧ Hid (W1.heap.size ≤ M) ∧ Hid (CM w' M k Ls.flatten)) ∧ Hid (Below W1.heap.size W1 w')) := Lib.hid (by
    have := together_any k st so dm ep A c Ls W1 (HR.out.below hb1) HT.out (by rw [HN.out]; omega) HF.out
    rwa [HN.out] at this)
  have HB1 := Lib.hid hb1
  obtain ⟨j0, j1, j2, j3, j4, _⟩ := jb_cells x0
  clear x0 hb1
  go_enter Tryz.func83, Tryz.ntmps83
  go_upto_region 1 with fail
  rw [← hW1]
  clear hW1
  go_wp2_with fail
  refine (HC.out).mono ?_
  rintro e w2 ⟨⟨M, rfl, hMge, HM⟩, hb2⟩
  have HB2 := Lib.hid (step_below HB1.out HB1.out.size hb2.out)
  clear HC j0 j1 j2 j3 j4 hMge hb2 HB1
  obtain ⟨i0, hi, hz0, hz1, hz2⟩ := info_parts infoK
  obtain ⟨w3, hmk, hown3, hg3⟩ := run_make_own (P := Tryz.prog) (w := w2) w2.heap.size 31 78 i0 _ 2 Tryz.underlying31 hi hz0 hz1 .i64 .i64 no (by rw [hz2]; omega) (by unfold maxLen; omega) (Nat.le_refl _)
  have hb3 : Below w2.heap.size w2 w3 := ⟨hg3.os, hg3.tape, hg3.output, hg3.size, fun i hi => hg3.block i hi nofun⟩
  obtain ⟨B, hB⟩ : ∃ B, B = w2.heap.size := ⟨_, rfl⟩
  have HH : Hid (MgH w w3 M B k Ls own (.slice (some ⟨w2.heap.size, 0, none⟩) 0 no) 0) := Lib.hid ⟨step_below HB2.out HB2.out.size hb3, HM.out.below hb3, by rw [hB]; exact hown3⟩
  have HMB : Hid (M < B) := Lib.hid (by rw [hB]; exact HM.out.lt)
  have HBS : Hid (B ≤ w3.heap.size) := Lib.hid (by rw [hB]; exact hb3.size)
  have HBW : Hid (w.heap.size ≤ B) := Lib.hid (by rw [hB]; exact HB2.out.size)
  clear hown3 hg3 hb3 hi hz0 hz1 hz2 HM HB2 hB
  go_wp2_with fail
  go_loopg [8, 19] no (fun gk v i wr => MgRel w M B k Ls own gk v i wr ∧ Hid (B ≤ wr.heap.size))
  case atStart => exact ⟨⟨0, by have := HNO.out; omega, rfl, HH⟩, HBS⟩
  case round =>
    clear HH HBS
    obtain ⟨⟨q, hq, rfl, HH⟩, HBS⟩ := hrel
    rw [HNO.out] at hq
    by_cases hlt : q < no
    · obtain ⟨x, hx⟩ := at_lt own q (by rw [HNO.out]; exact hlt)
      obtain ⟨bk, o, rfl, c0⟩ := (HO.out.below HH.out.below) q x hx
      obtain ⟨⟨p, y⟩, hpy⟩ : ∃ m : Ml, mlOf (mailM k x Ls.flatten) = m := ⟨_, rfl⟩
      have hlk : (Instr.lookup 144 (.map (some M)) (.int .i64 x) false).run Tryz.prog wr = .ok (.agg #[.bool p, .int .i64 y]) wr := by
        have := HH.out.map.look (HOI.out x (List.mem_of_getElem? hx))
        rw [hpy] at this; exact this
      have HNX : Hid (mergeM k (own.take q) Ls ++ [(p, y)] = mergeM k (own.take (q + 1)) Ls) := Lib.hid (by rw [← mergeM_take hx, hpy])
      have HO1 := Lib.hid (HH.out.row.alloc (.cells #[.bool p, .int .i64 y] 78))
      have HN1 := Lib.hid (kb_alloc wr p y)
      have hb1 : Below wr.heap.size wr (wr.alloc (.cells #[.bool p, .int .i64 y] 78)) := (Below.refl _ wr).alloc (Nat.le_refl _) _
      have HB1 := Lib.hid (step_below HH.out.below HH.out.below.size hb1)
      have HM1 := Lib.hid (HH.out.map.below hb1)
      have HS1 : Hid (B ≤ (wr.alloc (.cells #[.bool p, .int .i64 y] 78)).heap.size) := Lib.hid (Nat.le_trans HBS.out hb1.size)
      have HSX : Hid ((mergeM k (own.take q) Ls).length < 1000000000) := Lib.hid (by rw [mergeM_len, List.length_take]; omega)
      clear hx hpy hb1
      go_wp2_with (at_builtin; refine app_k rfl (.tmp 23) (.tmp 27) rfl B _ _ p y rfl HO1.out _ rfl HN1.out HSX.out HS1.out ?_)
      intro v2 w2' ho2 hg2
      have HH2 : Hid (MgH w w2' M B k Ls own v2 (q + 1)) := Lib.hid
        ⟨Below.grown HB1.out hg2 HB1.out.size (fun j e => by have := (own_lt HO1.out j e).1; have := HBW.out; omega), HM1.out.grown hg2 (fun e => by have := (own_lt HO1.out M e.symm).1; have := HMB.out; omega), by rw [← HNX.out]; exact ho2⟩
      have HS2 : Hid (B ≤ w2'.heap.size) := Lib.hid (Nat.le_trans HS1.out hg2.size)
      clear ho2 hg2 HO1 HN1 HB1 HM1 HSX HS1 hlk c0 HNX HH HBS
      go_wp2
      go_roundg (gk - 1)
      case measure => omega
      case rel => exact ⟨⟨q + 1, by have := HNO.out; omega, by go_num, HH2⟩, HS2⟩
    · have HO9 := HH.out.row
      rw [show q = own.length by have := HNO.out; omega, List.take_length] at HO9
      have HO8 := Lib.hid (HO9.mono HBW.out)
      clear HO9
      go_wp2
      go_ret
      exact ⟨_, rfl, HO8, Lib.hid HH.out.below⟩

end Go.Proofs.YtbbmgandkmlojaaGreat.In

/-
  What is proved here: a region that draws its order, whose first operation is a mere move, whose last ones, in one forced order, may write, and whose other ones only read or call what leaves the blocks that were there: one walk of the text's order serves. No condition on a program.
-/
namespace Go.Proofs.YtbbmgandkmlojaaGreat.Tl
open Go.RowKit Go.Sort

def sinkM (md : Region.Mode) (ops : Array Oper) (m n : Nat) : Bool :=
  (List.range n).all fun i => decide (i < m) || (List.range (n + 1)).any fun j => decide (i < j) && Region.waitsFor md ops j i
def moveTailB (md : Region.Mode) (ops : Array Oper) (n : Nat) : Bool :=
  Region.noSelect ops && decide (n < ops.size) && decide (1 ≤ n) && sinkM md ops 1 n && Region.chainB md ops n &&
  Region.free md ops (Array.replicate ops.size false) 0 && (Region.ready md ops (Array.replicate ops.size false)).contains 0 &&
  Region.lexHead md ops (ops.size - n) (n - 1) 1 ((Array.replicate ops.size false).setIfInBounds 0 true)

section
variable {P : Program} {ops : Array Oper} {md : Region.Mode} {C : World → Prop}

theorem tail_waitsM {m n : Nat} {listed : Array Bool} (hs : sinkM md ops m n = true) (hc : Region.chainB md ops n = true) (hn : n < ops.size) (inv : HeadInv md ops n listed) (hpre : ∀ i, i < m → listed.getD i true = true) :
    ∀ (d i : Nat), n - i = d → i < n → listed.getD i true = false → ∀ t, n ≤ t → t ∉ Region.ready md ops listed := by
  intro d
  induction d using Nat.strongRecOn with
  | _ d ih =>
    intro i hd hi hun t ht hr
    have hmi : ¬ i < m := fun h => by rw [hpre i h] at hun; cases hun
    obtain ⟨_, ot, hot, hall⟩ := mem_ready.1 hr
    have htlt : t < ops.size := (Array.getElem?_eq_some_iff.1 hot).1
    by_cases htn : t = n
    · subst htn
      have h1 := List.all_eq_true.1 hs i (List.mem_range.2 hi)
      simp only [Bool.or_eq_true, decide_eq_true_eq, hmi, false_or] at h1
      obtain ⟨j, hj, hj2⟩ := List.any_eq_true.1 h1
      simp only [Bool.and_eq_true, decide_eq_true_eq] at hj2
      obtain ⟨oj, hoj, e, he, hb, hon⟩ := Region.waitsFor_spec hj2.2
      have hjle : j ≤ t := by have := List.mem_range.1 hj; omega
      by_cases hjt : j = t
      · subst hjt
        have : oj = ot := Option.some.inj (hoj.symm.trans hot)
        subst this
        have h2 := hall e he hb
        rw [hon, getD_both hun] at h2
        cases h2
      · cases hl : listed.getD j false with
        | true =>
          have h2 := inv.closed j oj hoj hl e he hb
          rw [hon, getD_both hun] at h2
          cases h2
        | false =>
          have hjs : j < listed.size := by rw [inv.size]; omega
          exact ih (t - j) (by omega) j rfl (by omega) (getD_in hjs hl) t (Nat.le_refl _) hr
    · have h1 := List.all_eq_true.1 hc t (List.mem_range.2 htlt)
      simp only [Bool.or_eq_true, decide_eq_true_eq] at h1
      rcases h1 with h1 | h1
      · omega
      · obtain ⟨o', ho', e, he, hb, hon⟩ := Region.waitsFor_spec h1
        have : o' = ot := Option.some.inj (ho'.symm.trans hot)
        subst this
        have h2 := hall e he hb
        rw [hon, getD_both (inv.tail (t - 1) (by omega) (by omega))] at h2
        cases h2
theorem pre_set {m i : Nat} {listed : Array Bool} (h : ∀ j, j < m → listed.getD j true = true) : ∀ j, j < m → (listed.setIfInBounds i true).getD j true = true := by
  intro j hj
  have h1 := h j hj
  by_cases hij : i = j
  · subst hij
    rcases Nat.lt_or_ge i listed.size with g | g
    · simp [g]
    · simp [Nat.not_lt.2 g]
  · rw [getD_set_ne true hij]; exact h1
theorem headM_first {m n i : Nat} {oi : Oper} {v : Value} {L : Array Bool → Act → Prop} (hi : ops[i]? = some oi) (hsel : ∀ (j : Nat) (o : Oper) cs b, ops[j]? = some o → o.op ≠ .select cs b)
    (hs : sinkM md ops m n = true) (hc : Region.chainB md ops n = true) (hn : n < ops.size) (hin : i < n)
    (hdone : ∀ listed a, L listed a → ∀ j ∈ Region.ready md ops listed, n ≤ j) :
    ∀ (f : Nat) (listed : Array Bool) (a : Act), HeadInv md ops n listed → (∀ j, j < m → listed.getD j true = true) →
      (∀ j oj, ops[j]? = some oj → j ≠ i → listed.getD j true = false → (∀ e ∈ oj.after, Region.binds md e = true → e.on ≠ i) → oi.apart ops oj = true) →
      i ∈ Region.ready md ops listed → YieldsIn P ops C oi v a →
      headQ P md ops C n L f (listed.setIfInBounds i true) (a.put oi.dst v) → headQ P md ops C n L (f + 1) listed a := by
  intro f
  induction f with
  | zero =>
    intro listed a inv hpre _ hr hy H
    have hun := (mem_ready.1 hr).1
    refine ⟨fun h => (by rw [h] at hr; cases hr), fun j hj => ?_⟩
    have hjn : j < n := by
      rcases Nat.lt_or_ge j n with h | h
      · exact h
      · exact absurd hj (tail_waitsM hs hc hn inv hpre _ i rfl hin hun j h)
    refine ⟨hjn, ?_⟩
    by_cases hji : j = i
    · subst hji; exact hy.qOp hi H
    · have := hdone _ _ H j (ready_mono hj hji)
      omega
  | succ f ih =>
    intro listed a inv hpre hfree hr hy H
    have hun := (mem_ready.1 hr).1
    refine ⟨fun h => (by rw [h] at hr; cases hr), fun j hj => ?_⟩
    have hjn : j < n := by
      rcases Nat.lt_or_ge j n with h | h
      · exact h
      · exact absurd hj (tail_waitsM hs hc hn inv hpre _ i rfl hin hun j h)
    refine ⟨hjn, ?_⟩
    by_cases hji : j = i
    · subst hji; exact hy.qOp hi H
    · have h1 := (H.2 j (ready_mono hj hji)).2
      obtain ⟨hjun, oj, hoj, hall⟩ := mem_ready.1 hj
      have hnot : ∀ e ∈ oj.after, Region.binds md e = true → e.on ≠ i := fun e he hb heq => by
        have h1 := hall e he hb
        rw [heq, getD_both hun] at h1
        cases h1
      have h2 := qOp_put hoj (hfree j oj hoj hji hjun hnot) (fun cs b => hsel i oi cs b hi) (fun cs b => hsel j oj cs b hoj) hy h1
      have hfree' : ∀ k ok, ops[k]? = some ok → k ≠ i → (listed.setIfInBounds j true).getD k true = false →
          (∀ e ∈ ok.after, Region.binds md e = true → e.on ≠ i) → oi.apart ops ok = true := fun k ok hk hki hun hno => by
        refine hfree k ok hk hki ?_ hno
        by_cases hjk : j = k
        · subst hjk; exact hjun
        · rw [getD_set_ne true hjk] at hun; exact hun
      refine qOp_mono (fun a' h3 => ih (listed.setIfInBounds j true) a' (inv.set hj hjn) (pre_set hpre) hfree' (ready_mono hr (Ne.symm hji)) h3.1 ?_) h2
      rw [Array.setIfInBounds_comm _ _ hji]
      exact h3.2
theorem headM_lex {m n g : Nat} {Lq : Act → Prop} (hsel : Region.noSelect ops = true) (hs : sinkM md ops m n = true) (hc : Region.chainB md ops n = true) (hn : n < ops.size) :
    ∀ (l : List Oper) (k : Nat) (listed : Array Bool) (a : Act), (∀ j, j < l.length → l[j]? = ops[k + j]?) → k + l.length = n → HeadInv md ops n listed → (∀ j, j < m → listed.getD j true = true) →
    Region.lexHead md ops g l.length k listed = true → wpQuiet P ops C Lq l a →
    headQ P md ops C n (fun listed' a' => Region.seqB md ops g n listed' = true ∧ Lq a') l.length listed a
  | [], k, listed, a, _, hk, _, _, hB, h => by
    have : k = n := by simpa using hk
    subst this
    exact ⟨by simpa [Region.lexHead] using hB, h⟩
  | o :: l, k, listed, a, hl, hk, inv, hpre, hB, h => by
    have h0 : ops[k]? = some o := by simpa using (hl 0 (by simp)).symm
    simp only [List.length_cons, Region.lexHead, Bool.and_eq_true] at hB
    obtain ⟨⟨hr, hf⟩, hB'⟩ := hB
    have hkn : k < n := by simp only [List.length_cons] at hk; omega
    have hr' : k ∈ Region.ready md ops listed := by simpa using hr
    have hst : qOp P ops C k (wpQuiet P ops C Lq l) a := by unfold qOp; simp only [h0]; exact h
    obtain ⟨v, hy, hK⟩ := yieldsIn_of_qOp h0 hst
    exact headM_first h0 (Region.noSelect_spec hsel) hs hc hn hkn (fun listed' a' hL => seqB_ready hL.1) l.length listed a inv hpre (Region.free_spec h0 hf) hr' hy
      (headM_lex hsel hs hc hn l (k + 1) _ _ (fun j hj => by have := hl (j + 1) (by simp; omega); simpa [Nat.add_assoc, Nat.add_comm 1 j] using this) (by simp only [List.length_cons] at hk; omega) (inv.set hr' hkn) (pre_set hpre) hB' hK)

theorem yields_move {o : Oper} {x : Operand} {a : Act} (hg : o.guard = none) (hx : o.op = .move x) : Yields P ops o (a.eval x) a := by
  refine .inl ⟨by simp [Region.wanted, hg], fun w => ?_⟩
  unfold execOp
  simp only [hx]
  rfl
theorem region_move_tail {id : Nat} {Q : Exit → Act → World → Prop} {a : Act} {w : World} {o : Oper} {l : List Oper} {x : Operand} (n : Nat) (hm : P.follows .mixedOrders = true) (hg : o.guard = none) (hx : o.op = .move x)
    (hB : moveTailB .any (o :: l).toArray n = true) (hQ : ∀ d v c a w, Q (.panic c) (Act.put a d v) w → Q (.panic c) a w) (hC : C { w with drawn := w.drawn + 1 })
    (h : wpQuiet P (o :: l).toArray C (fun a' => ∀ w', C w' → wpList P (o :: l).toArray Q ((o :: l).drop n) a' w') (l.take (n - 1)) (a.put o.dst (a.eval x))) : (Code.region id (o :: l).toArray true).wp P Q a w := by
  simp only [moveTailB, Bool.and_eq_true, decide_eq_true_eq] at hB
  obtain ⟨⟨⟨⟨⟨⟨⟨hsel, hn⟩, h1n⟩, hs⟩, hc⟩, hfree⟩, hready⟩, hlex⟩ := hB
  obtain ⟨W, hW⟩ : ∃ W : Array Oper, W = (o :: l).toArray := ⟨_, rfl⟩
  have hsz : W.size = l.length + 1 := by rw [hW]; simp
  have h0 : W[0]? = some o := by rw [hW]; simp
  have htl : (l.take (n - 1)).length = n - 1 := by
    rw [List.length_take]
    rw [← hW, hsz] at hn
    omega
  have hdl : ((o :: l).drop n).length = W.size - n := by rw [hW]; simp
  rw [← hW] at hsel hn hs hc hfree hready hlex h ⊢
  have inv0 : HeadInv .any W n (Array.replicate W.size false) :=
    ⟨by simp, fun j oj _ hl => (by rw [getD_replicate_false] at hl; cases hl), fun t _ ht => getD_in (by simpa using ht) (getD_replicate_false _ _)⟩
  have hr0 : (0 : Nat) ∈ Region.ready .any W (Array.replicate W.size false) := by simpa using hready
  have inv1 := inv0.set hr0 (by omega)
  have hpre : ∀ j, j < 1 → ((Array.replicate W.size false).setIfInBounds 0 true).getD j true = true := by
    intro j hj
    have : j = 0 := by omega
    subst this
    simp [hsz]
  refine wp_region_any hm ?_
  rw [show W.size = (W.size - 1) + 1 by omega]
  refine wpAny_take (i := 0) (oi := o) (v := a.eval x) h0 hsel (by rw [show W.size - 1 + 1 = W.size by omega]; exact hfree) (by rw [show W.size - 1 + 1 = W.size by omega]; exact hready) (fun c a w => hQ _ _ c a w) (yields_move hg hx) ?_
  rw [show W.size - 1 + 1 = W.size by omega]
  have H := headM_lex (md := .any) (g := W.size - n) hsel hs hc hn (l.take (n - 1)) 1 _ (a.put o.dst (a.eval x)) (fun j hj => by
    rw [htl] at hj
    rw [hW, List.getElem?_take_of_lt hj]
    simp [Nat.add_comm 1 j]) (by rw [htl]; omega) inv1 hpre (by rw [htl]; exact hlex) h
  have := any_of_head (Q' := Q) (g := W.size - n) (fun listed a' w' hw' hL => by
    have := wpAny_of_seq (md := .any) (Q' := Q) ((o :: l).drop n) n listed a' w' (fun j => by rw [hW]; simp [List.getElem?_drop]) (by rw [hdl]; exact hL.1) (hL.2 w' hw')
    rwa [hdl] at this) _ _ _ _ hC H
  rw [htl, show n - 1 + (W.size - n) = W.size - 1 by omega] at this
  exact this
theorem region_move_tail_below {id : Nat} {Q : Exit → Act → World → Prop} {a : Act} {w : World} {o : Oper} {l : List Oper} {x : Operand} (n : Nat) (hm : P.follows .mixedOrders = true) (hg : o.guard = none) (hx : o.op = .move x)
    (hB : moveTailB .any (o :: l).toArray n = true) (hQ : ∀ d v c a w, Q (.panic c) (Act.put a d v) w → Q (.panic c) a w)
    (h : wpQuiet P (o :: l).toArray (fun w' => ∃ p : Regrown, w' = grow (redrawn w p.d) p.os) (fun a' => ∀ w', (∃ p : Regrown, w' = grow (redrawn w p.d) p.os) → wpList P (o :: l).toArray Q ((o :: l).drop n) a' w') (l.take (n - 1)) (a.put o.dst (a.eval x))) : (Code.region id (o :: l).toArray true).wp P Q a w :=
  region_move_tail (C := fun w' => ∃ p : Regrown, w' = grow (redrawn w p.d) p.os) n hm hg hx hB hQ ⟨⟨w.drawn + 1, #[]⟩, by rw [grow_empty]; rfl⟩ h
end

end Go.Proofs.YtbbmgandkmlojaaGreat.Tl

/-
  What is proved here: a contract of the document's own Merge. Conditions: fewer than 10^9 messages, fewer than 1000000 vertices asked for.
-/
namespace Go.Proofs.YtbbmgandkmlojaaGreat.In
open Go.RowKit Go.Maps Gr Wd Ws Fx Rk Lb Al

structure RgH (w wr : World) (b : Nat) (k st so dm ep : Int) (Ls : List (List Ms)) (own : List Int) (v : Value) (q : Nat) : Prop where
  below : Below w.heap.size w wr
  box : wr.heap[b]? = some (.cells #[.int .u8 k, .int .i64 st, .int .i64 so, .int .i64 dm, .int .i64 ep] 26 (0, 0))
  row : KOwn wr (b + 1) v (mergeM k (own.take q) Ls)
  size : b + 1 ≤ wr.heap.size
def RgRel (w : World) (b : Nat) (k st so dm ep : Int) (Ls : List (List Ms)) (own : List Int) (gk : Nat) (v i : Value) (wr : World) : Prop :=
  ∃ q : Nat, q + gk = own.length ∧ i = .int .i64 (q : Int) ∧ Hid (RgH w wr b k st so dm ep Ls own v q)

set_option maxRecDepth 100000 in
set_option maxHeartbeats 4000000 in
theorem rmerge_any (k st so dm ep : Int) (Ao A : Option Addr) (no co n c : Nat) (own : List Int) (Ls : List (List Ms)) (w : World) (hO : IAt w Ao own) (hno : own.length = no) (hR : RMs w A Ls) (hn : Ls.length = n) (hno2 : no < 1000000) (hn2 : n ≤ 1000000) (hF : Ls.flatten.length < 1000000000) :
    Calls Tryz.prog 65 #[.agg #[.int .u8 k, .int .i64 st, .int .i64 so, .int .i64 dm, .int .i64 ep], .slice Ao no co, .slice A n c] w fun e w' => ∃ v, e = .returned v ∧ Hid (KOwn w' w.heap.size v (mergeM k own Ls)) ∧ Hid (Below w.heap.size w w') := by
  have mixed := mixedI
  have HO := Lib.hid hO; have HNO := Lib.hid hno
  have HR := Lib.hid hR; have HN := Lib.hid hn; have HF := Lib.hid hF
  clear hO hno hR hn hF
  obtain ⟨W1, hW1⟩ : ∃ W1, W1 = w.alloc (.cells #[.int .u8 k, .int .i64 st, .int .i64 so, .int .i64 dm, .int .i64 ep] 26) := ⟨_, rfl⟩
  have x0 : W1.heap[w.heap.size]? = some (.cells #[.int .u8 k, .int .i64 st, .int .i64 so, .int .i64 dm, .int .i64 ep] 26 (0, 0)) := by rw [hW1]; exact heap_alloc_new w _
  have hb1 : Below w.heap.size w W1 := by rw [hW1]; exact (Below.refl _ w).alloc (Nat.le_refl _) _
  have hs1 : w.heap.size + 1 ≤ W1.heap.size := lt_of_block x0
  have HH : Hid (RgH w W1 w.heap.size k st so dm ep Ls own (.slice none 0 0) 0) := Lib.hid ⟨hb1, x0, KOwn.none_ _ _, hs1⟩
  obtain ⟨b, eb⟩ : ∃ b, b = w.heap.size := ⟨_, rfl⟩
  rw [← eb] at HH
  have HBW : Hid (w.heap.size ≤ b + 1) := Lib.hid (by omega)
  have HBB : Hid (b = w.heap.size) := Lib.hid eb
  clear x0 hb1 hs1
  go_enter Tryz.func65, Tryz.ntmps65
  go_upto_region 1 with fail
  rw [← hW1, ← eb]
  clear hW1 eb
  go_wp2_with fail
  go_loopg [7, 8] no (fun gk v i wr => RgRel w b k st so dm ep Ls own gk v i wr)
  case atStart => exact ⟨0, by have := HNO.out; omega, rfl, HH⟩
  case round =>
    clear HH
    obtain ⟨q, hq, rfl, HH⟩ := hrel
    rw [HNO.out] at hq
    by_cases hlt : q < no
    · obtain ⟨x, hx⟩ := at_lt own q (by rw [HNO.out]; exact hlt)
      obtain ⟨bk, o, rfl, c0⟩ := (HO.out.below HH.out.below) q x hx
      obtain ⟨j0, j1, j2, j3, j4, _⟩ := jb_cells HH.out.box
      obtain ⟨⟨p, y⟩, hpy⟩ : ∃ m : Ml, mlOf (mailM k x Ls.flatten) = m := ⟨_, rfl⟩
      have HNX : Hid (mergeM k (own.take q) Ls ++ [(p, y)] = mergeM k (own.take (q + 1)) Ls) := Lib.hid (by rw [← mergeM_take hx, hpy])
      have HSX : Hid ((mergeM k (own.take q) Ls).length < 1000000000) := Lib.hid (by rw [mergeM_len, List.length_take]; omega)
      have HC : Hid (∀ W, Below wr.heap.size wr W → Calls Tryz.prog 90 #[.agg #[.int .u8 k, .int .i64 st, .int .i64 so, .int .i64 dm, .int .i64 ep], .int .i64 x, .slice A n c] W fun e w' => e = .returned (.agg #[.bool p, .int .i64 y]) ∧ Below W.heap.size W w') := Lib.hid (fun W hW => by
        refine (rmail_any k st so dm ep x A n c Ls W (HR.out.below (step_below HH.out.below HH.out.below.size hW)) HN.out hn2 HF.out).mono ?_
        rintro e w' ⟨⟨p', y', he, hp'⟩, hb⟩
        have := hp'.out
        rw [hpy] at this
        cases this
        exact ⟨he, hb.out⟩)
      clear hx hpy
      go_wp2_with fail
      have z0 := cell_regrown c0
      have y0 := cell_regrown j0; have y1 := cell_regrown j1; have y2 := cell_regrown j2; have y3 := cell_regrown j3; have y4 := cell_regrown j4
      refine Tl.region_move_tail_below 7 mixed rfl rfl (by kernel_rfl) (fun d _ _ _ _ h => by cases d <;> exact h) ?_
      simp only [List.take_succ_cons, List.take_zero, List.drop_succ_cons, List.drop_zero, Nat.reduceSub]
      go_simp
      repeat (go_big_quiet_step (fail))
      refine wpQuiet_nil ?_
      intro pp
      obtain ⟨dq, osq⟩ := pp
      dsimp only
      obtain ⟨W4, hW4⟩ : ∃ W4, W4 = Sort.grow (redrawn wr dq) osq := ⟨_, rfl⟩
      have hb4 : Below wr.heap.size wr W4 := by rw [hW4]; exact below_regrown wr dq osq
      rw [← hW4]
      have HB4 := Lib.hid hb4
      clear hW4 hb4 z0 y0 y1 y2 y3 y4 c0 j0 j1 j2 j3 j4
      go_wp2_with fail
      refine (HC.out W4 HB4.out).mono ?_
      rintro e w5 ⟨rfl, hb5⟩
      have hb45 : Below wr.heap.size wr w5 := step_below HB4.out HB4.out.size hb5
      have HO1 := Lib.hid ((HH.out.row.below hb45).alloc (.cells #[.bool p, .int .i64 y] 78))
      have HN1 := Lib.hid (kb_alloc w5 p y)
      have hb1 : Below wr.heap.size wr (w5.alloc (.cells #[.bool p, .int .i64 y] 78)) := hb45.alloc hb45.size _
      have HB1 := Lib.hid (step_below HH.out.below HH.out.below.size hb1)
      have HX1 := Lib.hid (keep HH.out.box hb1)
      have HS1 : Hid (b + 1 ≤ (w5.alloc (.cells #[.bool p, .int .i64 y] 78)).heap.size) := Lib.hid (Nat.le_trans HH.out.size hb1.size)
      clear hb45 hb5 hb1 HC HB4
      go_wp2_with (at_builtin; refine app_k rfl (.tmp 15) (.tmp 23) rfl (b + 1) _ _ p y rfl HO1.out _ rfl HN1.out HSX.out HS1.out ?_)
      intro v2 w2' ho2 hg2
      have HH2 : Hid (RgH w w2' b k st so dm ep Ls own v2 (q + 1)) := Lib.hid
        ⟨Below.grown HB1.out hg2 HB1.out.size (fun j e => by have := (own_lt HO1.out j e).1; have := HBW.out; omega), (hg2.block b (lt_of_block HX1.out) (fun e => by have := (own_lt HO1.out b e.symm).1; omega)).trans HX1.out, by rw [← HNX.out]; exact ho2, Nat.le_trans HS1.out hg2.size⟩
      clear ho2 hg2 HO1 HN1 HB1 HX1 HS1 HNX HSX HH
      go_wp2
      go_roundg (gk - 1)
      case measure => omega
      case rel => exact ⟨q + 1, by have := HNO.out; omega, by go_num, HH2⟩
    · have HO9 := HH.out.row
      rw [show q = own.length by have := HNO.out; omega, List.take_length] at HO9
      have HO8 := Lib.hid (HO9.mono HBW.out)
      clear HO9
      go_wp2
      go_ret
      exact ⟨_, rfl, HO8, Lib.hid HH.out.below⟩

end Go.Proofs.YtbbmgandkmlojaaGreat.In

/-
  What is proved here: contracts of graph.Out and graph.Back (and of the closures that choose), and of the document's own Out and Back: the edges from, and to, a vertex. Conditions: at most 100000 edges.
-/
namespace Go.Proofs.YtbbmgandkmlojaaGreat.Gr
open Go.RowKit Wd Ws

/- What a closure chooses, in every world behind w. -/
def Chooses (g : Nat) (lb : Array Value) (p : Ed → Bool) (w : World) : Prop :=
  ∀ (W : World) (a b c : Int), Below w.heap.size w W → Calls Tryz.prog g (#[.agg #[.int .i64 a, .int .i64 b, .int .i64 c]] ++ lb) W fun e w' => e = .returned (.bool (p (a, b, c))) ∧ Below W.heap.size W w'
theorem Chooses.below {g : Nat} {lb : Array Value} {p : Ed → Bool} {w w' : World} (h : Chooses g lb p w) (hb : Below w.heap.size w w') : Chooses g lb p w' :=
  fun W a b c k => h W a b c (step_below hb hb.size k)

theorem out_closure (B : Nat) (v : Int) (w : World) (hB : w.cell? ⟨B, 0, none⟩ = some (.int .i64 v)) : Chooses 77 #[.pointer (some ⟨B, 0, none⟩)] (fun e => decide (e.1 = v)) w := by
  intro W a b c hb
  have hc := (hb.cell (block_lt_of_cell hB)).trans hB
  have hl := block_lt_of_cell hc
  show Calls Tryz.prog 77 #[.agg #[.int .i64 a, .int .i64 b, .int .i64 c], .pointer (some ⟨B, 0, none⟩)] W _
  clear hb hB
  have hc2 : (W.alloc (.cells #[.int .i64 a, .int .i64 b, .int .i64 c] 58)).cell? ⟨B, 0, none⟩ = some (.int .i64 v) := by
    rw [Sort.alloc_eq_grow, Sort.cell?_grow _ _ _ hl]; exact hc
  go_enter Tryz.func77, Tryz.ntmps77
  go_wp2
  go_ret
  exact ⟨rfl, ((Grw.refl W).alloc _).below⟩
theorem back_closure (B : Nat) (v : Int) (w : World) (hB : w.cell? ⟨B, 0, none⟩ = some (.int .i64 v)) : Chooses 78 #[.pointer (some ⟨B, 0, none⟩)] (fun e => decide (e.2.1 = v)) w := by
  intro W a b c hb
  have hc := (hb.cell (block_lt_of_cell hB)).trans hB
  have hl := block_lt_of_cell hc
  show Calls Tryz.prog 78 #[.agg #[.int .i64 a, .int .i64 b, .int .i64 c], .pointer (some ⟨B, 0, none⟩)] W _
  clear hb hB
  have hc2 : (W.alloc (.cells #[.int .i64 a, .int .i64 b, .int .i64 c] 58)).cell? ⟨B, 0, none⟩ = some (.int .i64 v) := by
    rw [Sort.alloc_eq_grow, Sort.cell?_grow _ _ _ hl]; exact hc
  go_enter Tryz.func78, Tryz.ntmps78
  go_wp2
  go_ret
  exact ⟨rfl, ((Grw.refl W).alloc _).below⟩

def CsRel (w : World) (L : List Ed) (p : Ed → Bool) (g : Nat) (v i : Value) (wr : World) : Prop :=
  ∃ k : Nat, k + g = L.length ∧ i = .int .i64 (k : Int) ∧ EOwn wr w.heap.size v ((L.take k).filter p) ∧ Below w.heap.size w wr
theorem filter_len (L : List Ed) (p : Ed → Bool) (k : Nat) : ((L.take k).filter p).length ≤ L.length := by
  have h1 := List.length_filter_le p (L.take k)
  have h2 : (L.take k).length ≤ L.length := by rw [List.length_take]; omega
  omega
theorem filter_yes {L : List Ed} {p : Ed → Bool} {k : Nat} {e : Ed} (h : L[k]? = some e) (hp : p e = true) : (L.take (k + 1)).filter p = (L.take k).filter p ++ [e] := by
  rw [take_at h, List.filter_append]; simp [hp]
theorem filter_no {L : List Ed} {p : Ed → Bool} {k : Nat} {e : Ed} (h : L[k]? = some e) (hp : p e = false) : (L.take (k + 1)).filter p = (L.take k).filter p := by
  rw [take_at h, List.filter_append]; simp [hp]

set_option maxRecDepth 100000 in
set_option maxHeartbeats 600000 in
theorem chosen_any (A : Option Addr) (c : Nat) (L : List Ed) (g : Nat) (lb : Array Value) (p : Ed → Bool) (w : World) (eg : ∀ args w, (callFunc g args).run Tryz.prog w = .ok (.enter g args) w) (hL : EAt w A L) (hm : L.length ≤ 100000) (hp : Chooses g lb p w) :
    Calls Tryz.prog 76 #[.slice A L.length c, .func (.func g) #[] lb] w fun e w' => ∃ v, e = .returned v ∧ EOwn w' w.heap.size v (L.filter p) ∧ Below w.heap.size w w' := by
  have HL := Lib.hid hL; have HP := Lib.hid hp; clear hL hp
  go_enter Tryz.func76, Tryz.ntmps76
  go_wp2
  go_loopg [5, 10] L.length (fun g v i wr => CsRel w L p g v i wr)
  case atStart => exact ⟨0, by omega, rfl, EOwn.none_ _ _, Below.refl _ w⟩
  case round =>
    obtain ⟨k, hk, rfl, ho, hb⟩ := hrel
    by_cases hlt : k < L.length
    · obtain ⟨e, he⟩ := at_lt L k hlt
      obtain ⟨bk, o, rfl, c0, c1, c2⟩ := (HL.out.below hb) k e he
      obtain ⟨e0, e1, e2⟩ := e
      have hb1 : Below w.heap.size w (wr.alloc (.cells #[.int .i64 e0, .int .i64 e1, .int .i64 e2] 58)) := hb.alloc hb.size _
      have ho1 := ho.alloc (.cells #[.int .i64 e0, .int .i64 e1, .int .i64 e2] 58)
      have HC := Lib.hid (HP.out _ e0 e1 e2 hb1)
      have HY := Lib.hid (heap_alloc_new wr (.cells #[.int .i64 e0, .int .i64 e1, .int .i64 e2] 58))
      have hlen := filter_len L p k
      have HB := Lib.hid hb1; have HO := Lib.hid ho1; have HE := Lib.hid he
      clear hb hb1 ho ho1 he
      go_wp2_with fail
      refine HC.out.mono ?_
      rintro er w1 ⟨rfl, hb2⟩
      clear HC c0 c1 c2
      have HY1 := Lib.hid ((hb2.block _ (lt_of_block HY.out)).trans HY.out)
      have HO1 := Lib.hid (HO.out.below hb2)
      have HB1 := Lib.hid (step_below HB.out (by have := HB.out.size; omega) hb2)
      clear hb2 HY HO HB
      obtain ⟨y0, y1, y2, hs1⟩ := eb_cells HY1.out
      cases hq : p (e0, e1, e2) with
      | true =>
        have HQ := Lib.hid hq; clear hq
        have hnew := heap_alloc_new w1 (.cells #[.int .i64 e0, .int .i64 e1, .int .i64 e2] 58)
        have HN := Lib.hid hnew; clear hnew
        have HO2 := Lib.hid (HO1.out.alloc (.cells #[.int .i64 e0, .int .i64 e1, .int .i64 e2] 58))
        have HB2 := Lib.hid (HB1.out.alloc HB1.out.size (.cells #[.int .i64 e0, .int .i64 e1, .int .i64 e2] 58))
        go_wp2_with (at_builtin; refine app_e rfl (.tmp 17) (.tmp 19) rfl w.heap.size _ _ e0 e1 e2 rfl HO2.out _ rfl HN.out ?c1 ?c2 ?_)
        case c1 => omega
        case c2 => exact HB2.out.size
        intro v' w2 ho2 hg2
        have HB3 := Lib.hid (Below.grown HB2.out hg2 HB2.out.size fun j e => (own_lt HO2.out j e).1)
        have HO3 := Lib.hid ho2; clear ho2 hg2
        go_wp2
        go_roundg (gk - 1)
        case measure => omega
        case rel => exact ⟨k + 1, by omega, by go_num, by rw [filter_yes HE.out HQ.out]; exact HO3.out, HB3.out⟩
      | false =>
        have HQ := Lib.hid hq; clear hq
        go_wp2
        go_roundg (gk - 1)
        case measure => omega
        case rel => exact ⟨k + 1, by omega, by go_num, by rw [filter_no HE.out HQ.out]; exact HO1.out, HB1.out⟩
    · have HK : Hid (k = L.length) := Lib.hid (by omega)
      have HO := Lib.hid ho; have HB := Lib.hid hb; clear ho hb
      go_wp2
      go_ret
      refine ⟨_, rfl, ?_, HB.out⟩
      have := HO.out
      rw [HK.out, List.take_length] at this
      exact this

end Go.Proofs.YtbbmgandkmlojaaGreat.Gr

/-
  What is proved here: contracts of graph.Out and graph.Back, and of the document's own Out and Back: the edges from, and to, a vertex. Conditions: at most 100000 edges.
-/
namespace Go.Proofs.YtbbmgandkmlojaaGreat.Gr
open Go.RowKit Wd Ws

set_option maxRecDepth 100000 in
theorem out_any (V v : Int) (A : Option Addr) (c : Nat) (L : List Ed) (w : World) (hL : EAt w A L) (hm : L.length ≤ 100000) :
    Calls Tryz.prog 53 #[.agg #[.int .i64 V, .slice A L.length c], .int .i64 v] w fun e w' => ∃ x, e = .returned x ∧ EOwn w' w.heap.size x (L.filter fun e => decide (e.1 = v)) ∧ Below w.heap.size w w' := by
  have hz := two_boxes w (.cells #[.int .i64 V, .slice A L.length c] 24) (.cells #[.int .i64 v] 3)
  have HC := Lib.hid (chosen_any A c L 77 #[.pointer (some ⟨w.heap.size + 1, 0, none⟩)] (fun e => decide (e.1 = v)) _ (enters_of Tryz.func77 (by kernel_rfl) rfl) (hL.below hz) hm
    (out_closure (w.heap.size + 1) v ((w.alloc (.cells #[.int .i64 V, .slice A L.length c] 24)).alloc (.cells #[.int .i64 v] 3)) (by simp)))
  have HZ := Lib.hid hz; clear hz hL
  go_enter Tryz.func53, Tryz.ntmps53
  go_wp2_with fail
  refine HC.out.mono ?_
  rintro e w' ⟨x, rfl, ho, hb⟩
  have HO := Lib.hid ho; have HB := Lib.hid hb; clear ho hb HC
  go_wp2_with fail
  go_ret
  exact ⟨x, rfl, own_mono HO.out (by simp; omega), HZ.out.trans (HB.out.mono (by simp; omega))⟩
set_option maxRecDepth 100000 in
theorem back_any (V v : Int) (A : Option Addr) (c : Nat) (L : List Ed) (w : World) (hL : EAt w A L) (hm : L.length ≤ 100000) :
    Calls Tryz.prog 54 #[.agg #[.int .i64 V, .slice A L.length c], .int .i64 v] w fun e w' => ∃ x, e = .returned x ∧ EOwn w' w.heap.size x (L.filter fun e => decide (e.2.1 = v)) ∧ Below w.heap.size w w' := by
  have hz := two_boxes w (.cells #[.int .i64 V, .slice A L.length c] 24) (.cells #[.int .i64 v] 3)
  have HC := Lib.hid (chosen_any A c L 78 #[.pointer (some ⟨w.heap.size + 1, 0, none⟩)] (fun e => decide (e.2.1 = v)) _ (enters_of Tryz.func78 (by kernel_rfl) rfl) (hL.below hz) hm
    (back_closure (w.heap.size + 1) v ((w.alloc (.cells #[.int .i64 V, .slice A L.length c] 24)).alloc (.cells #[.int .i64 v] 3)) (by simp)))
  have HZ := Lib.hid hz; clear hz hL
  go_enter Tryz.func54, Tryz.ntmps54
  go_wp2_with fail
  refine HC.out.mono ?_
  rintro e w' ⟨x, rfl, ho, hb⟩
  have HO := Lib.hid ho; have HB := Lib.hid hb; clear ho hb HC
  go_wp2_with fail
  go_ret
  exact ⟨x, rfl, own_mono HO.out (by simp; omega), HZ.out.trans (HB.out.mono (by simp; omega))⟩

def RoRel (w : World) (V : Int) (A : Option Addr) (c : Nat) (L : List Ed) (p : Ed → Bool) (g : Nat) (v i : Value) (wr : World) : Prop :=
  ∃ k : Nat, k + g = L.length ∧ i = .int .i64 (k : Int) ∧ EOwn wr w.heap.size v ((L.take k).filter p) ∧ Below w.heap.size w wr ∧ wr.heap[w.heap.size]? = some (.cells #[.int .i64 V, .slice A L.length c] 24 (0, 0)) ∧ v.ownBlock ≠ some w.heap.size

set_option maxRecDepth 100000 in
set_option maxHeartbeats 600000 in
theorem rout_any (V v : Int) (A : Option Addr) (c : Nat) (L : List Ed) (w : World) (hL : EAt w A L) (hm : L.length ≤ 100000) :
    Calls Tryz.prog 60 #[.agg #[.int .i64 V, .slice A L.length c], .int .i64 v] w fun e w' => ∃ x, e = .returned x ∧ EOwn w' w.heap.size x (L.filter fun e => decide (e.1 = v)) ∧ Below w.heap.size w w' := by
  have HL := Lib.hid hL; clear hL
  go_enter Tryz.func60, Tryz.ntmps60
  go_wp2
  go_loopg [5, 6] L.length (fun g x i wr => RoRel w V A c L (fun e => decide (e.1 = v)) g x i wr)
  case atStart => exact ⟨0, by omega, rfl, EOwn.none_ _ _, (Below.refl _ w).alloc (Nat.le_refl _) _, heap_alloc_new w _, by simp [Value.ownBlock]⟩
  case round =>
    obtain ⟨k, hk, rfl, ho, hb, hbx, hne⟩ := hrel
    obtain ⟨x0, x1, hsz⟩ := Bx.cells hbx
    by_cases hlt : k < L.length
    · obtain ⟨e, he⟩ := at_lt L k hlt
      obtain ⟨bk, o, rfl, c0, c1, c2⟩ := (HL.out.below hb) k e he
      obtain ⟨e0, e1, e2⟩ := e
      have hlen := filter_len L (fun e => decide (e.1 = v)) k
      by_cases hq : e0 = v
      · subst hq
        have hnew := heap_alloc_new wr (.cells #[.int .i64 e0, .int .i64 e1, .int .i64 e2] 58)
        have HN := Lib.hid hnew; clear hnew
        have HO2 := Lib.hid (ho.alloc (.cells #[.int .i64 e0, .int .i64 e1, .int .i64 e2] 58))
        have HB2 := Lib.hid (hb.alloc hb.size (.cells #[.int .i64 e0, .int .i64 e1, .int .i64 e2] 58))
        have HX2 := Lib.hid ((Lib.alloc_old wr (.cells #[.int .i64 e0, .int .i64 e1, .int .i64 e2] 58) _ hsz).trans hbx)
        have HE := Lib.hid he; have HNE := Lib.hid hne
        clear ho hb hbx he hne
        go_wp2_with (at_builtin; refine app_e rfl (.tmp 22) (.tmp 28) rfl w.heap.size _ _ e0 e1 e2 rfl HO2.out _ rfl HN.out ?c1 ?c2 ?_)
        case c1 => omega
        case c2 => have := HB2.out.size; simpa using this
        intro v' w2 ho2 hg2
        have HB3 := Lib.hid (Below.grown HB2.out hg2 HB2.out.size fun j e => (own_lt HO2.out j e).1)
        have HX3 := Lib.hid ((hg2.block _ (lt_of_block HX2.out) (fun h => HNE.out h.symm)).trans HX2.out)
        have HNE3 : Hid (v'.ownBlock ≠ some w.heap.size) := Lib.hid (fun h => by
          obtain ⟨_, cc, hcc⟩ := own_lt ho2 _ h
          have := HX3.out
          rw [hcc] at this; simp at this)
        have HO3 := Lib.hid ho2; clear ho2 hg2
        go_wp2
        go_roundg (gk - 1)
        case measure => omega
        case rel => exact ⟨k + 1, by omega, by go_num, by rw [filter_yes HE.out (by simp)]; exact HO3.out, HB3.out, HX3.out, HNE3.out⟩
      · have HE := Lib.hid he; have HNE := Lib.hid hne; have HO := Lib.hid ho; have HB := Lib.hid hb; have HX := Lib.hid hbx
        clear ho hb hbx he hne
        go_wp2
        go_roundg (gk - 1)
        case measure => omega
        case rel => exact ⟨k + 1, by omega, by go_num, by rw [filter_no HE.out (by simp [hq])]; exact HO.out, HB.out, HX.out, HNE.out⟩
    · have HK : Hid (k = L.length) := Lib.hid (by omega)
      have HO := Lib.hid ho; have HB := Lib.hid hb; clear ho hb hbx hne
      go_wp2
      go_ret
      refine ⟨_, rfl, ?_, HB.out⟩
      have := HO.out
      rw [HK.out, List.take_length] at this
      exact this
set_option maxRecDepth 100000 in
set_option maxHeartbeats 600000 in
theorem rback_any (V v : Int) (A : Option Addr) (c : Nat) (L : List Ed) (w : World) (hL : EAt w A L) (hm : L.length ≤ 100000) :
    Calls Tryz.prog 62 #[.agg #[.int .i64 V, .slice A L.length c], .int .i64 v] w fun e w' => ∃ x, e = .returned x ∧ EOwn w' w.heap.size x (L.filter fun e => decide (e.2.1 = v)) ∧ Below w.heap.size w w' := by
  have HL := Lib.hid hL; clear hL
  go_enter Tryz.func62, Tryz.ntmps62
  go_wp2
  go_loopg [5, 6] L.length (fun g x i wr => RoRel w V A c L (fun e => decide (e.2.1 = v)) g x i wr)
  case atStart => exact ⟨0, by omega, rfl, EOwn.none_ _ _, (Below.refl _ w).alloc (Nat.le_refl _) _, heap_alloc_new w _, by simp [Value.ownBlock]⟩
  case round =>
    obtain ⟨k, hk, rfl, ho, hb, hbx, hne⟩ := hrel
    obtain ⟨x0, x1, hsz⟩ := Bx.cells hbx
    by_cases hlt : k < L.length
    · obtain ⟨e, he⟩ := at_lt L k hlt
      obtain ⟨bk, o, rfl, c0, c1, c2⟩ := (HL.out.below hb) k e he
      obtain ⟨e0, e1, e2⟩ := e
      have hlen := filter_len L (fun e => decide (e.2.1 = v)) k
      by_cases hq : e1 = v
      · subst hq
        have hnew := heap_alloc_new wr (.cells #[.int .i64 e0, .int .i64 e1, .int .i64 e2] 58)
        have HN := Lib.hid hnew; clear hnew
        have HO2 := Lib.hid (ho.alloc (.cells #[.int .i64 e0, .int .i64 e1, .int .i64 e2] 58))
        have HB2 := Lib.hid (hb.alloc hb.size (.cells #[.int .i64 e0, .int .i64 e1, .int .i64 e2] 58))
        have HX2 := Lib.hid ((Lib.alloc_old wr (.cells #[.int .i64 e0, .int .i64 e1, .int .i64 e2] 58) _ hsz).trans hbx)
        have HE := Lib.hid he; have HNE := Lib.hid hne
        clear ho hb hbx he hne
        go_wp2_with (at_builtin; refine app_e rfl (.tmp 22) (.tmp 28) rfl w.heap.size _ _ e0 e1 e2 rfl HO2.out _ rfl HN.out ?c1 ?c2 ?_)
        case c1 => omega
        case c2 => have := HB2.out.size; simpa using this
        intro v' w2 ho2 hg2
        have HB3 := Lib.hid (Below.grown HB2.out hg2 HB2.out.size fun j e => (own_lt HO2.out j e).1)
        have HX3 := Lib.hid ((hg2.block _ (lt_of_block HX2.out) (fun h => HNE.out h.symm)).trans HX2.out)
        have HNE3 : Hid (v'.ownBlock ≠ some w.heap.size) := Lib.hid (fun h => by
          obtain ⟨_, cc, hcc⟩ := own_lt ho2 _ h
          have := HX3.out
          rw [hcc] at this; simp at this)
        have HO3 := Lib.hid ho2; clear ho2 hg2
        go_wp2
        go_roundg (gk - 1)
        case measure => omega
        case rel => exact ⟨k + 1, by omega, by go_num, by rw [filter_yes HE.out (by simp)]; exact HO3.out, HB3.out, HX3.out, HNE3.out⟩
      · have HE := Lib.hid he; have HNE := Lib.hid hne; have HO := Lib.hid ho; have HB := Lib.hid hb; have HX := Lib.hid hbx
        clear ho hb hbx he hne
        go_wp2
        go_roundg (gk - 1)
        case measure => omega
        case rel => exact ⟨k + 1, by omega, by go_num, by rw [filter_no HE.out (by simp [hq])]; exact HO.out, HB.out, HX.out, HNE.out⟩
    · have HK : Hid (k = L.length) := Lib.hid (by omega)
      have HO := Lib.hid ho; have HB := Lib.hid hb; clear ho hb hbx hne
      go_wp2
      go_ret
      refine ⟨_, rfl, ?_, HB.out⟩
      have := HO.out
      rw [HK.out, List.take_length] at this
      exact this

end Go.Proofs.YtbbmgandkmlojaaGreat.Gr

/-
  What is proved here: words for a state in memory: rows of values, of marks, of mail, of rows of messages, of vertices' edges; append of one to each. No condition.
-/
namespace Go.Proofs.YtbbmgandkmlojaaGreat.Sq
open Go.RowKit Gr Wd Ws Fx Rk Lb Al In

/- Rows of one kind stay where a row of another kind has grown. -/
theorem own_other {w w' : World} {B B' : Nat} {T T' : TypeId} {s s' n n' : Nat} {z v : Value} {xs ys : List Value} (hz : w.ownsRow B T s z n xs) (hv : w.ownsRow B' T' s' v n' ys) (hT : T ≠ T') (hg : w.grownBy w' v.ownBlock) : w'.ownsRow B T s z n xs :=
  own_kept hz fun b c fz hb hc => hg.block b (lt_of_block hc) (fun e => by
    obtain ⟨_, c1, hc1⟩ := own_lt hv b e.symm
    rw [hc1] at hc; injection hc with hc; injection hc with _ hc _
    exact hT hc.symm)
theorem box_other {w w' : World} {B' b : Nat} {T T' : TypeId} {s' n' : Nat} {v : Value} {ys : List Value} {c : Array Value} {fz : Nat × Nat} (hb : w.heap[b]? = some (.cells c T fz)) (hv : w.ownsRow B' T' s' v n' ys) (hT : T ≠ T') (hg : w.grownBy w' v.ownBlock) : w'.heap[b]? = some (.cells c T fz) :=
  (hg.block b (lt_of_block hb) (fun e => by
    obtain ⟨_, c1, hc1⟩ := own_lt hv b e.symm
    rw [hc1] at hb; injection hb with hb; injection hb with _ hb _
    exact hT hb.symm)).trans hb
theorem own_grown {w w' : World} {B B' : Nat} {T' : TypeId} {s' n' : Nat} {v : Value} {ys : List Value} (hv : w.ownsRow B' T' s' v n' ys) (hg : w.grownBy w' v.ownBlock) (h : B ≤ B') (hs : B ≤ w.heap.size) : Below B w w' :=
  Below.grown (Below.refl _ _) hg hs (fun j e => Nat.le_trans h (own_lt hv j e).1)

/- Values. -/
def QOwn (w : World) (B : Nat) (v : Value) (l : List Int) : Prop := w.ownsRow B 2 1 v l.length (ints l)
theorem QOwn.none_ (w : World) (B : Nat) : QOwn w B (.slice none 0 0) [] := World.ownsRow_nil _ _ _ _
theorem QOwn.below {w w' : World} {B : Nat} {v : Value} {l : List Int} (h : QOwn w B v l) (hb : Below w.heap.size w w') : QOwn w' B v l := own_below h hb
theorem QOwn.mono {w : World} {B B' : Nat} {v : Value} {l : List Int} (h : QOwn w B v l) (hb : B' ≤ B) : QOwn w B' v l := own_mono h hb
theorem QOwn.form {w : World} {B : Nat} {v : Value} {l : List Int} (h : QOwn w B v l) : ∃ (A : Option Addr) (c : Nat), v = .slice A l.length c ∧ IAt w A l := by
  obtain ⟨h0, h1 | ⟨g, cap, cur, h1, h2, h3, h4, h5, h6, h7⟩⟩ := h
  · have : l = [] := List.eq_nil_of_length_eq_zero h1.2
    subst this
    exact ⟨none, 0, h1.1, IAt.nil _ _⟩
  · refine ⟨some ⟨g, 0, none⟩, cap, h1, fun k x hx => ⟨g, 0, rfl, ?_⟩⟩
    have hk := lt_at hx
    rw [Nat.zero_add, cell_of_row w g k _ 2 (0, 0) h3]
    have e1 : cur[k]? = (cur.toList.take (l.length * 1))[k]? := by
      rw [List.getElem?_take, if_pos (by omega), Array.getElem?_toList]
    rw [e1, h7, ints_at, hx]; rfl
theorem infoQ : (Tryz.prog.info? 2).map (fun i => (i.zero, i.size, i.bytes)) = some (some (.int .i64 0), 1, 8) := by kernel_rfl
theorem app_q {w : World} {ops : Array Oper} {rest : List Oper} {o : Oper} {a : Act} {Q : Exit → Act → World → Prop} (hgd : o.guard = none) (s x : Operand)
    (ho : o.op = .call { callee := .builtin .append, args := #[s, x], argTypes := #[29, 29] }) (B : Nat) (v : Value) (l : List Int) (y : Int) (hs : a.eval s = v) (hown : QOwn w B v l)
    (g : Nat) (hx : a.eval x = .slice (some ⟨g, 0, none⟩) 1 1) (hg : w.heap[g]? = some (.cells #[.int .i64 y] 2 (0, 0))) (hn : l.length < 1000000000) (hB : B ≤ w.heap.size)
    (h : ∀ v' w', QOwn w' B v' (l ++ [y]) → w.grownBy w' v.ownBlock → wpList Tryz.prog ops Q rest (a.put o.dst v') w') : wpList Tryz.prog ops Q (o :: rest) a w := by
  obtain ⟨i0, hi, hz0, hz1, hz2⟩ := info_parts infoQ
  refine wpList_append_own w hgd s x 29 ho B 2 i0 _ 1 8 Tryz.underlying29 hi hz0 hz1 hz2 rfl (by decide) v l.length (ints l) hs hown ⟨g, 0, none⟩ 1 1 [.int .i64 y] hx rfl ?_ ?_ ?_ ?_ hB ?_
  · intro j u hu
    rw [add_plain, Lib.cell_of_heap hg]
    rcases j with _ | j
    · simpa using hu
    · simp at hu
  · intro u hu
    simp only [List.mem_cons, List.not_mem_nil, or_false] at hu
    rw [hu]; rfl
  · unfold maxLen; omega
  · omega
  · intro v' w' h1 h2 _
    refine h v' w' ?_ h2
    unfold QOwn
    rw [show ints (l ++ [y]) = ints l ++ [.int .i64 y] by simp [ints], List.length_append]; exact h1

/- Marks. -/
def bls (l : List Bool) : List Value := l.map Value.bool
theorem bls_at (l : List Bool) (k : Nat) : (bls l)[k]? = (l[k]?).map Value.bool := by simp [bls]
def BAt (w : World) (A : Option Addr) (l : List Bool) : Prop := ∀ (k : Nat) (x : Bool), l[k]? = some x → ∃ bk o, A = some ⟨bk, o, none⟩ ∧ w.cell? ⟨bk, o + k, none⟩ = some (.bool x)
theorem BAt.below {w w' : World} {A : Option Addr} {l : List Bool} (h : BAt w A l) (hb : Below w.heap.size w w') : BAt w' A l := by
  intro k x hx
  obtain ⟨bk, o, hA, c⟩ := h k x hx
  exact ⟨bk, o, hA, (hb.cell (block_lt_of_cell c)).trans c⟩
theorem BAt.nil (w : World) (A : Option Addr) : BAt w A [] := fun k x h => by simp at h
def BOwn (w : World) (B : Nat) (v : Value) (l : List Bool) : Prop := w.ownsRow B 4 1 v l.length (bls l)
theorem BOwn.none_ (w : World) (B : Nat) : BOwn w B (.slice none 0 0) [] := World.ownsRow_nil _ _ _ _
theorem BOwn.below {w w' : World} {B : Nat} {v : Value} {l : List Bool} (h : BOwn w B v l) (hb : Below w.heap.size w w') : BOwn w' B v l := own_below h hb
theorem BOwn.mono {w : World} {B B' : Nat} {v : Value} {l : List Bool} (h : BOwn w B v l) (hb : B' ≤ B) : BOwn w B' v l := own_mono h hb
theorem BOwn.form {w : World} {B : Nat} {v : Value} {l : List Bool} (h : BOwn w B v l) : ∃ (A : Option Addr) (c : Nat), v = .slice A l.length c ∧ BAt w A l := by
  obtain ⟨h0, h1 | ⟨g, cap, cur, h1, h2, h3, h4, h5, h6, h7⟩⟩ := h
  · have : l = [] := List.eq_nil_of_length_eq_zero h1.2
    subst this
    exact ⟨none, 0, h1.1, BAt.nil _ _⟩
  · refine ⟨some ⟨g, 0, none⟩, cap, h1, fun k x hx => ⟨g, 0, rfl, ?_⟩⟩
    have hk := lt_at hx
    rw [Nat.zero_add, cell_of_row w g k _ 4 (0, 0) h3]
    have e1 : cur[k]? = (cur.toList.take (l.length * 1))[k]? := by
      rw [List.getElem?_take, if_pos (by omega), Array.getElem?_toList]
    rw [e1, h7, bls_at, hx]; rfl
theorem infoB : (Tryz.prog.info? 4).map (fun i => (i.zero, i.size, i.bytes)) = some (some (.bool false), 1, 1) := by kernel_rfl
theorem app_b {w : World} {ops : Array Oper} {rest : List Oper} {o : Oper} {a : Act} {Q : Exit → Act → World → Prop} (hgd : o.guard = none) (s x : Operand)
    (ho : o.op = .call { callee := .builtin .append, args := #[s, x], argTypes := #[30, 30] }) (B : Nat) (v : Value) (l : List Bool) (y : Bool) (hs : a.eval s = v) (hown : BOwn w B v l)
    (g : Nat) (hx : a.eval x = .slice (some ⟨g, 0, none⟩) 1 1) (hg : w.heap[g]? = some (.cells #[.bool y] 4 (0, 0))) (hn : l.length < 1000000000) (hB : B ≤ w.heap.size)
    (h : ∀ v' w', BOwn w' B v' (l ++ [y]) → w.grownBy w' v.ownBlock → wpList Tryz.prog ops Q rest (a.put o.dst v') w') : wpList Tryz.prog ops Q (o :: rest) a w := by
  obtain ⟨i0, hi, hz0, hz1, hz2⟩ := info_parts infoB
  refine wpList_append_own w hgd s x 30 ho B 4 i0 _ 1 1 Tryz.underlying30 hi hz0 hz1 hz2 rfl (by decide) v l.length (bls l) hs hown ⟨g, 0, none⟩ 1 1 [.bool y] hx rfl ?_ ?_ ?_ ?_ hB ?_
  · intro j u hu
    rw [add_plain, Lib.cell_of_heap hg]
    rcases j with _ | j
    · simpa using hu
    · simp at hu
  · intro u hu
    simp only [List.mem_cons, List.not_mem_nil, or_false] at hu
    rw [hu]; rfl
  · unfold maxLen; omega
  · omega
  · intro v' w' h1 h2 _
    refine h v' w' ?_ h2
    unfold BOwn
    rw [show bls (l ++ [y]) = bls l ++ [.bool y] by simp [bls], List.length_append]; exact h1

/- Rows of messages, each an own row. -/
def EachM (w : World) (B : Nat) (xs : List Value) (Ls : List (List Ms)) : Prop := xs.length = Ls.length ∧ ∀ (k : Nat) (L : List Ms), Ls[k]? = some L → ∃ x, xs[k]? = some x ∧ MOwn w B x L
theorem EachM.below {w w' : World} {B : Nat} {xs : List Value} {Ls : List (List Ms)} (h : EachM w B xs Ls) (hb : Below w.heap.size w w') : EachM w' B xs Ls :=
  ⟨h.1, fun k L hk => by obtain ⟨x, h1, h2⟩ := h.2 k L hk; exact ⟨x, h1, h2.below hb⟩⟩
theorem EachM.nil (w : World) (B : Nat) : EachM w B [] [] := ⟨rfl, fun k L h => by simp at h⟩
theorem EachM.snoc {w : World} {B : Nat} {xs : List Value} {Ls : List (List Ms)} (h : EachM w B xs Ls) {x : Value} {L : List Ms} (hx : MOwn w B x L) : EachM w B (xs ++ [x]) (Ls ++ [L]) := by
  refine ⟨by simp [h.1], fun k M hk => ?_⟩
  rcases Nat.lt_or_ge k Ls.length with hh | hh
  · rw [List.getElem?_append_left hh] at hk
    obtain ⟨y, h1, h2⟩ := h.2 k M hk
    exact ⟨y, by rw [List.getElem?_append_left (by rw [h.1]; exact hh)]; exact h1, h2⟩
  · rw [List.getElem?_append_right hh] at hk
    have hk0 : k - Ls.length = 0 := by
      have := lt_at hk; simp at this; omega
    rw [hk0] at hk
    simp at hk; subst hk
    exact ⟨x, by rw [List.getElem?_append_right (by rw [h.1]; exact hh), h.1, hk0]; rfl, hx⟩
def ROwn (w : World) (B : Nat) (v : Value) (Ls : List (List Ms)) : Prop := ∃ xs, w.ownsRow B 97 1 v Ls.length xs ∧ EachM w B xs Ls
theorem ROwn.none_ (w : World) (B : Nat) : ROwn w B (.slice none 0 0) [] := ⟨[], World.ownsRow_nil _ _ _ _, EachM.nil _ _⟩
theorem ROwn.below {w w' : World} {B : Nat} {v : Value} {Ls : List (List Ms)} (h : ROwn w B v Ls) (hb : Below w.heap.size w w') : ROwn w' B v Ls := by
  obtain ⟨xs, h1, h2⟩ := h
  exact ⟨xs, own_below h1 hb, h2.below hb⟩
theorem ROwn.other {w w' : World} {B B' : Nat} {T' : TypeId} {s' n' : Nat} {v z : Value} {ys : List Value} {Ls : List (List Ms)} (h : ROwn w B z Ls) (hv : w.ownsRow B' T' s' v n' ys) (h1 : 97 ≠ T') (h2 : 126 ≠ T') (hg : w.grownBy w' v.ownBlock) : ROwn w' B z Ls := by
  obtain ⟨xs, g1, g2⟩ := h
  exact ⟨xs, own_other g1 hv h1 hg, g2.1, fun k L hk => by obtain ⟨x, e1, e2⟩ := g2.2 k L hk; exact ⟨x, e1, own_other e2 hv h2 hg⟩⟩
theorem ROwn.form {w : World} {B : Nat} {v : Value} {Ls : List (List Ms)} (h : ROwn w B v Ls) : ∃ (A : Option Addr) (c : Nat), v = .slice A Ls.length c ∧ RMs w A Ls := by
  obtain ⟨xs, ⟨h0, h1 | ⟨g, cap, cur, h1, h2, h3, h4, h5, h6, h7⟩⟩, he⟩ := h
  · have : Ls = [] := List.eq_nil_of_length_eq_zero h1.2
    subst this
    exact ⟨none, 0, h1.1, fun k L hk => by simp at hk⟩
  · refine ⟨some ⟨g, 0, none⟩, cap, h1, fun k L hx => ?_⟩
    have hk := lt_at hx
    obtain ⟨x, hx1, hx2⟩ := he.2 k L hx
    obtain ⟨A', c', rfl, hE, _⟩ := hx2.room
    refine ⟨g, 0, A', c', rfl, ?_, hE⟩
    rw [Nat.zero_add, cell_of_row w g k _ 97 (0, 0) h3]
    have e1 : cur[k]? = (cur.toList.take (Ls.length * 1))[k]? := by
      rw [List.getElem?_take, if_pos (by omega), Array.getElem?_toList]
    rw [e1, h7, hx1]
theorem infoR : (Tryz.prog.info? 97).map (fun i => (i.zero, i.size, i.bytes)) = some (some (.slice none 0 0), 1, 24) := by kernel_rfl
theorem app_r {w : World} {ops : Array Oper} {rest : List Oper} {o : Oper} {a : Act} {Q : Exit → Act → World → Prop} (hgd : o.guard = none) (s x : Operand)
    (ho : o.op = .call { callee := .builtin .append, args := #[s, x], argTypes := #[94, 94] }) (B : Nat) (v : Value) (Ls : List (List Ms)) (y : Value) (L : List Ms) (hs : a.eval s = v) (hown : ROwn w B v Ls)
    (g : Nat) (hx : a.eval x = .slice (some ⟨g, 0, none⟩) 1 1) (hg : w.heap[g]? = some (.cells #[y] 97 (0, 0))) (hy : MOwn w B y L) (hn : Ls.length < 1000000000) (hB : B ≤ w.heap.size)
    (h : ∀ v' w', ROwn w' B v' (Ls ++ [L]) → w.grownBy w' v.ownBlock → wpList Tryz.prog ops Q rest (a.put o.dst v') w') : wpList Tryz.prog ops Q (o :: rest) a w := by
  obtain ⟨i0, hi, hz0, hz1, hz2⟩ := info_parts infoR
  obtain ⟨xs, hown, hea⟩ := hown
  refine wpList_append_own w hgd s x 94 ho B 97 i0 _ 1 24 Tryz.underlying94 hi hz0 hz1 hz2 rfl (by decide) v Ls.length xs hs hown ⟨g, 0, none⟩ 1 1 [y] hx rfl ?_ ?_ ?_ ?_ hB ?_
  · intro j u hu
    rw [add_plain, Lib.cell_of_heap hg]
    rcases j with _ | j
    · simpa using hu
    · simp at hu
  · intro u hu
    simp only [List.mem_cons, List.not_mem_nil, or_false] at hu
    rw [hu]
    obtain ⟨A, c, rfl, _⟩ := hy.room; rfl
  · unfold maxLen; omega
  · omega
  · intro v' w' h1 h2 _
    have hk : ∀ (z : Value) (M : List Ms), MOwn w B z M → MOwn w' B z M := fun z M hz => own_other hz hown (by decide) h2
    refine h v' w' ⟨xs ++ [y], by rw [List.length_append]; exact h1, EachM.snoc ⟨hea.1, fun k M hM => ?_⟩ (hk _ _ hy)⟩ h2
    obtain ⟨z, h3, h4⟩ := hea.2 k M hM
    exact ⟨z, h3, hk _ _ h4⟩

/- Vertices' edges: of each those from it, and those to it. -/
abbrev Eg := List Ed × List Ed
def WAt (w : World) (A : Option Addr) (Ls : List Eg) : Prop := ∀ (k : Nat) (L : Eg), Ls[k]? = some L → ∃ bk o A1 c1 A2 c2, A = some ⟨bk, o, none⟩ ∧ w.cell? ⟨bk, o + k * 2, none⟩ = some (.slice A1 L.1.length c1) ∧ w.cell? ⟨bk, o + k * 2 + 1, none⟩ = some (.slice A2 L.2.length c2) ∧ EAt w A1 L.1 ∧ EAt w A2 L.2
theorem WAt.below {w w' : World} {A : Option Addr} {Ls : List Eg} (h : WAt w A Ls) (hb : Below w.heap.size w w') : WAt w' A Ls := by
  intro k L hx
  obtain ⟨bk, o, A1, c1, A2, c2, hA, e1, e2, g1, g2⟩ := h k L hx
  exact ⟨bk, o, A1, c1, A2, c2, hA, (hb.cell (block_lt_of_cell e1)).trans e1, (hb.cell (block_lt_of_cell e2)).trans e2, g1.below hb, g2.below hb⟩
theorem WAt.nil (w : World) (A : Option Addr) : WAt w A [] := fun k x h => by simp at h
def EachW (w : World) (B : Nat) (xs : List Value) (Ls : List Eg) : Prop := xs.length = Ls.length * 2 ∧ ∀ (k : Nat) (L : Eg), Ls[k]? = some L → ∃ x y, xs[k * 2]? = some x ∧ xs[k * 2 + 1]? = some y ∧ EOwn w B x L.1 ∧ EOwn w B y L.2
theorem EachW.below {w w' : World} {B : Nat} {xs : List Value} {Ls : List Eg} (h : EachW w B xs Ls) (hb : Below w.heap.size w w') : EachW w' B xs Ls :=
  ⟨h.1, fun k L hk => by obtain ⟨x, y, h1, h2, h3, h4⟩ := h.2 k L hk; exact ⟨x, y, h1, h2, h3.below hb, h4.below hb⟩⟩
theorem EachW.nil (w : World) (B : Nat) : EachW w B [] [] := ⟨rfl, fun k L h => by simp at h⟩
theorem EachW.snoc {w : World} {B : Nat} {xs : List Value} {Ls : List Eg} (h : EachW w B xs Ls) {x y : Value} {L M : List Ed} (hx : EOwn w B x L) (hy : EOwn w B y M) : EachW w B (xs ++ [x, y]) (Ls ++ [(L, M)]) := by
  refine ⟨by simp [h.1]; omega, fun k N hk => ?_⟩
  rcases Nat.lt_or_ge k Ls.length with hh | hh
  · rw [List.getElem?_append_left hh] at hk
    obtain ⟨u, v, h1, h2, h3, h4⟩ := h.2 k N hk
    exact ⟨u, v, by rw [List.getElem?_append_left (by rw [h.1]; omega)]; exact h1, by rw [List.getElem?_append_left (by rw [h.1]; omega)]; exact h2, h3, h4⟩
  · rw [List.getElem?_append_right hh] at hk
    have hk0 : k - Ls.length = 0 := by
      have := lt_at hk; simp at this; omega
    rw [hk0] at hk
    simp at hk; subst hk
    obtain rfl : k = Ls.length := by omega
    refine ⟨x, y, ?_, ?_, hx, hy⟩
    · rw [List.getElem?_append_right (by rw [h.1]; exact Nat.le_refl _), h.1, Nat.sub_self]; rfl
    · rw [List.getElem?_append_right (by rw [h.1]; omega), h.1, show Ls.length * 2 + 1 - Ls.length * 2 = 1 by omega]; rfl
def WOwn (w : World) (B : Nat) (v : Value) (Ls : List Eg) : Prop := ∃ xs, w.ownsRow B 85 2 v Ls.length xs ∧ EachW w B xs Ls
theorem WOwn.none_ (w : World) (B : Nat) : WOwn w B (.slice none 0 0) [] := ⟨[], World.ownsRow_nil _ _ _ _, EachW.nil _ _⟩
theorem WOwn.below {w w' : World} {B : Nat} {v : Value} {Ls : List Eg} (h : WOwn w B v Ls) (hb : Below w.heap.size w w') : WOwn w' B v Ls := by
  obtain ⟨xs, h1, h2⟩ := h
  exact ⟨xs, own_below h1 hb, h2.below hb⟩
theorem WOwn.form {w : World} {B : Nat} {v : Value} {Ls : List Eg} (h : WOwn w B v Ls) : ∃ (A : Option Addr) (c : Nat), v = .slice A Ls.length c ∧ WAt w A Ls := by
  obtain ⟨xs, ⟨h0, h1 | ⟨g, cap, cur, h1, h2, h3, h4, h5, h6, h7⟩⟩, he⟩ := h
  · have : Ls = [] := List.eq_nil_of_length_eq_zero h1.2
    subst this
    exact ⟨none, 0, h1.1, fun k L hk => by simp at hk⟩
  · refine ⟨some ⟨g, 0, none⟩, cap, h1, fun k L hx => ?_⟩
    have hk := lt_at hx
    obtain ⟨x, y, hx1, hx2, hx3, hx4⟩ := he.2 k L hx
    obtain ⟨A1, c1, rfl, g1, _⟩ := hx3.form
    obtain ⟨A2, c2, rfl, g2, _⟩ := hx4.form
    have key : ∀ j, j < Ls.length * 2 → w.cell? ⟨g, 0 + j, none⟩ = xs[j]? := fun j hj => by
      rw [Nat.zero_add, cell_of_row w g j _ 85 (0, 0) h3]
      have e1 : cur[j]? = (cur.toList.take (Ls.length * 2))[j]? := by
        rw [List.getElem?_take, if_pos hj, Array.getElem?_toList]
      rw [e1, h7]
    refine ⟨g, 0, A1, c1, A2, c2, rfl, ?_, ?_, g1, g2⟩
    · rw [key _ (by omega)]; exact hx1
    · rw [Nat.add_assoc, key _ (by omega)]; exact hx2
theorem infoW : (Tryz.prog.info? 85).map (fun i => (i.zero, i.size, i.bytes)) = some (some (.agg #[.slice none 0 0, .slice none 0 0]), 2, 48) := by kernel_rfl
theorem app_w {w : World} {ops : Array Oper} {rest : List Oper} {o : Oper} {a : Act} {Q : Exit → Act → World → Prop} (hgd : o.guard = none) (s x : Operand)
    (ho : o.op = .call { callee := .builtin .append, args := #[s, x], argTypes := #[59, 59] }) (B : Nat) (v : Value) (Ls : List Eg) (y z : Value) (L M : List Ed) (hs : a.eval s = v) (hown : WOwn w B v Ls)
    (g : Nat) (hx : a.eval x = .slice (some ⟨g, 0, none⟩) 1 1) (hg : w.heap[g]? = some (.cells #[y, z] 85 (0, 0))) (hy : EOwn w B y L) (hz : EOwn w B z M) (hn : Ls.length < 1000000000) (hB : B ≤ w.heap.size)
    (h : ∀ v' w', WOwn w' B v' (Ls ++ [(L, M)]) → w.grownBy w' v.ownBlock → wpList Tryz.prog ops Q rest (a.put o.dst v') w') : wpList Tryz.prog ops Q (o :: rest) a w := by
  obtain ⟨i0, hi, hz0, hz1, hz2⟩ := info_parts infoW
  obtain ⟨xs, hown, hea⟩ := hown
  refine wpList_append_own w hgd s x 59 ho B 85 i0 _ 2 48 Tryz.underlying59 hi hz0 hz1 hz2 rfl (by decide) v Ls.length xs hs hown ⟨g, 0, none⟩ 1 1 [y, z] hx rfl ?_ ?_ ?_ ?_ hB ?_
  · intro j u hu
    rw [add_plain, Lib.cell_of_heap hg]
    rcases j with _ | _ | j
    · simpa using hu
    · simpa using hu
    · simp at hu
  · intro u hu
    simp only [List.mem_cons, List.not_mem_nil, or_false] at hu
    rcases hu with rfl | rfl
    · obtain ⟨A, c, rfl, _⟩ := hy.form; rfl
    · obtain ⟨A, c, rfl, _⟩ := hz.form; rfl
  · unfold maxLen; omega
  · omega
  · intro v' w' h1 h2 _
    have hk : ∀ (u : Value) (N : List Ed), EOwn w B u N → EOwn w' B u N := fun u N hu => own_other hu hown (by decide) h2
    refine h v' w' ⟨xs ++ [y, z], by rw [List.length_append]; exact h1, EachW.snoc ⟨hea.1, fun k N hN => ?_⟩ (hk _ _ hy) (hk _ _ hz)⟩ h2
    obtain ⟨u, t, h3, h4, h5, h6⟩ := hea.2 k N hN
    exact ⟨u, t, h3, h4, hk _ _ h5, hk _ _ h6⟩

end Go.Proofs.YtbbmgandkmlojaaGreat.Sq

/-
  What is proved here: contracts of what tells whether a state may be: the program's and the document's. Conditions: counts fit an int.
-/
namespace Go.Proofs.YtbbmgandkmlojaaGreat.Sq
open Go.RowKit Gr Wd Ws Fx Rk Lb Al In

def inB (x : Int) : Bool := decide (0 ≤ x) && decide (x ≤ 4611686018427387904)
theorem inB_iff (x : Int) : inB x = true ↔ InR x := by unfold inB InR; simp
set_option maxRecDepth 100000 in
theorem isDist_any (x : Int) (w : World) : Calls Tryz.prog 66 #[.int .i64 x] w fun e w' => e = .returned (.bool (inB x)) ∧ w = w' := by
  obtain ⟨r, hr⟩ : ∃ r, inB x = r := ⟨_, rfl⟩
  rw [hr]
  unfold inB at hr
  by_cases h0 : 0 ≤ x
  · by_cases h1 : x ≤ 4611686018427387904
    · obtain rfl : true = r := by rw [← hr, decide_eq_true h0, decide_eq_true h1]; rfl
      clear hr
      go_enter Tryz.func66, Tryz.ntmps66
      go_wp2
      go_ret
      first | exact ⟨rfl, rfl⟩ | exact ⟨by simp [h1], rfl⟩
    · obtain rfl : false = r := by rw [← hr, decide_eq_true h0, decide_eq_false h1]; rfl
      clear hr
      go_enter Tryz.func66, Tryz.ntmps66
      go_wp2
      go_ret
      first | exact ⟨rfl, rfl⟩ | exact ⟨by simp [h1], rfl⟩
  · obtain rfl : false = r := by rw [← hr, decide_eq_false h0]; rfl
    clear hr
    go_enter Tryz.func66, Tryz.ntmps66
    go_wp2
    go_ret
    exact ⟨rfl, rfl⟩
theorem isDist_at (x : Int) (r : Bool) (hr : Hid (inB x = r)) (w : World) : Calls Tryz.prog 66 #[.int .i64 x] w fun e w' => e = .returned (.bool r) ∧ w = w' := by
  rw [← hr.out]; exact isDist_any x w
set_option maxRecDepth 100000 in
theorem rin_any (x : Int) (w : World) : Calls Tryz.prog 49 #[.int .i64 x] w fun e w' => e = .returned (.bool (inB x)) ∧ w = w' := by
  obtain ⟨r, hr⟩ : ∃ r, inB x = r := ⟨_, rfl⟩
  rw [hr]
  unfold inB at hr
  by_cases h0 : 0 ≤ x
  · by_cases h1 : x ≤ 4611686018427387904
    · obtain rfl : true = r := by rw [← hr, decide_eq_true h0, decide_eq_true h1]; rfl
      clear hr
      go_enter Tryz.func49, Tryz.ntmps49
      go_wp2
      go_ret
      first | exact ⟨rfl, rfl⟩ | exact ⟨by simp [h1], rfl⟩
    · obtain rfl : false = r := by rw [← hr, decide_eq_true h0, decide_eq_false h1]; rfl
      clear hr
      go_enter Tryz.func49, Tryz.ntmps49
      go_wp2
      go_ret
      first | exact ⟨rfl, rfl⟩ | exact ⟨by simp [h1], rfl⟩
  · obtain rfl : false = r := by rw [← hr, decide_eq_false h0]; rfl
    clear hr
    go_enter Tryz.func49, Tryz.ntmps49
    go_wp2
    go_ret
    exact ⟨rfl, rfl⟩
theorem rin_at (x : Int) (r : Bool) (hr : Hid (inB x = r)) (w : World) : Calls Tryz.prog 49 #[.int .i64 x] w fun e w' => e = .returned (.bool r) ∧ w = w' := by
  rw [← hr.out]; exact rin_any x w
theorem allD1_any (x : Int) (w : World) : Calls Tryz.prog 92 #[.int .i64 x] w fun e w' => e = .returned (.bool (!inB x)) ∧ w = w' := by
  have hd := isDist_any x w
  obtain ⟨r, hr⟩ : ∃ r, inB x = r := ⟨_, rfl⟩
  rw [hr] at hd ⊢
  have HD := Lib.hid hd; clear hd hr
  go_enter Tryz.func92, Tryz.ntmps92
  go_wp2_with fail
  refine HD.out.mono ?_
  rintro e w' ⟨rfl, rfl⟩
  go_wp2
  go_ret
  exact ⟨rfl, rfl⟩
def badB (m : Ml) : Bool := m.1 && !inB m.2
theorem isBad_any (p : Bool) (x : Int) (w : World) : Calls Tryz.prog 69 #[.agg #[.bool p, .int .i64 x]] w fun e w' => e = .returned (.bool (badB (p, x))) ∧ Hid (Below w.heap.size w w') := by
  have hd := fun W => isDist_any x W
  obtain ⟨r, hr⟩ : ∃ r, inB x = r := ⟨_, rfl⟩
  unfold badB
  simp only []
  rw [hr] at hd ⊢
  have HD := Lib.hid hd; clear hd hr
  have HB := Lib.hid ((Below.refl _ w).alloc (Nat.le_refl _) (.cells #[.bool p, .int .i64 x] 78))
  obtain ⟨W1, hW1⟩ : ∃ W1, W1 = w.alloc (.cells #[.bool p, .int .i64 x] 78) := ⟨_, rfl⟩
  obtain ⟨c0, c1, _⟩ := ml_cells (show W1.heap[w.heap.size]? = some (.cells #[.bool p, .int .i64 x] 78 (0, 0)) by rw [hW1]; exact heap_alloc_new w _)
  rw [← hW1] at HB
  cases p with
  | true =>
    go_enter Tryz.func69, Tryz.ntmps69
    go_upto_region 1 with fail
    rw [← hW1]
    clear hW1
    go_wp2_with fail
    refine (HD.out _).mono ?_
    rintro e w' ⟨rfl, rfl⟩
    go_wp2
    go_ret
    exact ⟨rfl, HB⟩
  | false =>
    go_enter Tryz.func69, Tryz.ntmps69
    go_upto_region 1 with fail
    rw [← hW1]
    clear hW1
    go_wp2_with fail
    go_ret
    exact ⟨rfl, HB⟩

def AyRel (w : World) {α : Type} (p : α → Bool) (l : List α) (gk : Nat) (i : Value) (wr : World) : Prop :=
  ∃ q : Nat, q + gk = l.length ∧ i = .int .i64 (q : Int) ∧ Hid (Below w.heap.size w wr) ∧ Hid (l.any p = (l.drop q).any p)
set_option maxRecDepth 100000 in
set_option maxHeartbeats 4000000 in
theorem indexQ_any (A : Option Addr) (n c : Nat) (l : List Int) (w : World) (hA : IAt w A l) (hn : l.length = n) (hn2 : n ≤ 9223372036854775807) :
    Calls Tryz.prog 103 #[.slice A n c, .func (.func 92) #[] #[]] w fun e w' => ∃ r : Int, e = .returned (.int .i64 r) ∧ Hid (decide (0 ≤ r) = l.any fun x => !inB x) ∧ Hid (Below w.heap.size w w') := by
  have HA := Lib.hid hA; have HN := Lib.hid hn
  clear hA hn
  go_enter Tryz.func103, Tryz.ntmps103
  go_wp2
  go_loopg [8] n (fun gk i wr => AyRel w (fun x => !inB x) l gk i wr)
  case atStart => exact ⟨0, by have := HN.out; omega, rfl, Lib.hid (Below.refl _ w), Lib.hid rfl⟩
  case round =>
    obtain ⟨q, hq, rfl, HB, HD⟩ := hrel
    rw [HN.out] at hq
    by_cases hlt : q < n
    · obtain ⟨x, hx⟩ := at_lt l q (by rw [HN.out]; exact hlt)
      obtain ⟨bk, o, rfl, c0⟩ := (HA.out.below HB.out) q x hx
      obtain ⟨t, ht⟩ : ∃ t, inB x = t := ⟨_, rfl⟩
      have HC := Lib.hid (fun W => allD1_any x W)
      have HD2 : Hid ((l.any fun x => !inB x) = (!t || (l.drop (q + 1)).any fun x => !inB x)) := Lib.hid (by rw [HD.out, drop_at hx, List.any_cons, ht])
      rw [ht] at HC
      clear hx ht HD
      go_wp2_with fail
      refine (HC.out _).mono ?_
      rintro e w3 ⟨rfl, rfl⟩
      clear c0
      cases t with
      | true =>
        have HD3 := Lib.hid (HD2.out.trans (Bool.false_or _))
        go_wp2
        go_roundg (gk - 1)
        case measure => omega
        case rel => exact ⟨q + 1, by have := HN.out; omega, by go_num, HB, HD3⟩
      | false =>
        have HD3 := Lib.hid (HD2.out.trans (Bool.true_or _))
        go_wp2
        go_ret
        exact ⟨_, rfl, Lib.hid (by rw [HD3.out]; exact decide_eq_true (by omega)), HB⟩
    · have HD3 : Hid ((l.any fun x => !inB x) = false) := Lib.hid (by rw [HD.out, List.drop_eq_nil_of_le (by rw [HN.out]; omega)]; rfl)
      go_wp2
      go_ret
      exact ⟨_, rfl, Lib.hid (by rw [HD3.out]; rfl), HB⟩
set_option maxRecDepth 100000 in
theorem containsQ_any (A : Option Addr) (n c : Nat) (l : List Int) (w : World) (hA : IAt w A l) (hn : l.length = n) (hn2 : n ≤ 9223372036854775807) :
    Calls Tryz.prog 91 #[.slice A n c, .func (.func 92) #[] #[]] w fun e w' => e = .returned (.bool (l.any fun x => !inB x)) ∧ Hid (Below w.heap.size w w') := by
  have HC := Lib.hid (indexQ_any A n c l w hA hn hn2)
  obtain ⟨t, ht⟩ : ∃ t, (l.any fun x => !inB x) = t := ⟨_, rfl⟩
  rw [ht] at HC ⊢
  clear ht
  clear hA hn
  go_enter Tryz.func91, Tryz.ntmps91
  go_wp2_with fail
  refine HC.out.mono ?_
  rintro e w' ⟨r, rfl, hr, hb⟩
  have hr2 := hr.out
  subst hr2
  clear hr HC
  by_cases h0 : 0 ≤ r
  · go_wp2
    go_ret
    exact ⟨by simp [h0], hb⟩
  · go_wp2
    go_ret
    exact ⟨by simp, hb⟩
set_option maxRecDepth 100000 in
theorem allD_any (A : Option Addr) (n c : Nat) (l : List Int) (w : World) (hA : IAt w A l) (hn : l.length = n) (hn2 : n ≤ 9223372036854775807) :
    Calls Tryz.prog 67 #[.slice A n c] w fun e w' => e = .returned (.bool (!l.any fun x => !inB x)) ∧ Hid (Below w.heap.size w w') := by
  have HC := Lib.hid (containsQ_any A n c l w hA hn hn2)
  obtain ⟨t, ht⟩ : ∃ t, (l.any fun x => !inB x) = t := ⟨_, rfl⟩
  rw [ht] at HC ⊢
  clear hA hn ht
  go_enter Tryz.func67, Tryz.ntmps67
  go_wp2_with fail
  refine HC.out.mono ?_
  rintro e w' ⟨rfl, hb⟩
  go_wp2
  go_ret
  exact ⟨rfl, hb⟩
set_option maxRecDepth 100000 in
set_option maxHeartbeats 4000000 in
theorem indexK_any (A : Option Addr) (n c : Nat) (l : List Ml) (w : World) (hA : KAt w A l) (hn : l.length = n) (hn2 : n ≤ 9223372036854775807) :
    Calls Tryz.prog 93 #[.slice A n c, .func (.func 69) #[] #[]] w fun e w' => ∃ r : Int, e = .returned (.int .i64 r) ∧ Hid (decide (0 ≤ r) = l.any badB) ∧ Hid (Below w.heap.size w w') := by
  have HA := Lib.hid hA; have HN := Lib.hid hn
  clear hA hn
  go_enter Tryz.func93, Tryz.ntmps93
  go_wp2
  go_loopg [8] n (fun gk i wr => AyRel w badB l gk i wr)
  case atStart => exact ⟨0, by have := HN.out; omega, rfl, Lib.hid (Below.refl _ w), Lib.hid rfl⟩
  case round =>
    obtain ⟨q, hq, rfl, HB, HD⟩ := hrel
    rw [HN.out] at hq
    by_cases hlt : q < n
    · obtain ⟨⟨p, x⟩, hx⟩ := at_lt l q (by rw [HN.out]; exact hlt)
      obtain ⟨bk, o, rfl, c0, c1⟩ := (HA.out.below HB.out) q _ hx
      simp only at c0 c1
      obtain ⟨t, ht⟩ : ∃ t, badB (p, x) = t := ⟨_, rfl⟩
      have HC := Lib.hid (fun W => isBad_any p x W)
      have HD2 : Hid (l.any badB = (t || (l.drop (q + 1)).any badB)) := Lib.hid (by rw [HD.out, drop_at hx, List.any_cons, ht])
      rw [ht] at HC
      clear hx ht HD
      go_wp2_with fail
      refine (HC.out _).mono ?_
      rintro e w3 ⟨rfl, hb3⟩
      have HB3 := Lib.hid (step_below HB.out HB.out.size hb3.out)
      clear c0 c1 hb3
      cases t with
      | false =>
        have HD3 := Lib.hid (HD2.out.trans (Bool.false_or _))
        go_wp2
        go_roundg (gk - 1)
        case measure => omega
        case rel => exact ⟨q + 1, by have := HN.out; omega, by go_num, HB3, HD3⟩
      | true =>
        have HD3 := Lib.hid (HD2.out.trans (Bool.true_or _))
        go_wp2
        go_ret
        exact ⟨_, rfl, Lib.hid (by rw [HD3.out]; exact decide_eq_true (by omega)), HB3⟩
    · have HD3 : Hid (l.any badB = false) := Lib.hid (by rw [HD.out, List.drop_eq_nil_of_le (by rw [HN.out]; omega)]; rfl)
      go_wp2
      go_ret
      exact ⟨_, rfl, Lib.hid (by rw [HD3.out]; rfl), HB⟩
set_option maxRecDepth 100000 in
theorem containsK_any (A : Option Addr) (n c : Nat) (l : List Ml) (w : World) (hA : KAt w A l) (hn : l.length = n) (hn2 : n ≤ 9223372036854775807) :
    Calls Tryz.prog 68 #[.slice A n c, .func (.func 69) #[] #[]] w fun e w' => e = .returned (.bool (l.any badB)) ∧ Hid (Below w.heap.size w w') := by
  have HC := Lib.hid (indexK_any A n c l w hA hn hn2)
  obtain ⟨t, ht⟩ : ∃ t, l.any badB = t := ⟨_, rfl⟩
  rw [ht] at HC ⊢
  clear ht
  clear hA hn
  go_enter Tryz.func68, Tryz.ntmps68
  go_wp2_with fail
  refine HC.out.mono ?_
  rintro e w' ⟨r, rfl, hr, hb⟩
  have hr2 := hr.out
  subst hr2
  clear hr HC
  by_cases h0 : 0 ≤ r
  · go_wp2
    go_ret
    exact ⟨by simp [h0], hb⟩
  · go_wp2
    go_ret
    exact ⟨by simp, hb⟩

end Go.Proofs.YtbbmgandkmlojaaGreat.Sq

/-
  What is proved here: boxes of six cells: what they read, what they hold behind a store of all six, and as a function's result. No condition.
-/
namespace Go.Proofs.YtbbmgandkmlojaaGreat.Sq
open Go.RowKit Gr Wd Ws Fx Rk Lb Al In

theorem six {w : World} {b : Nat} {T : TypeId} {a0 a1 a2 a3 a4 a5 : Value} (h : w.heap[b]? = some (.cells #[a0, a1, a2, a3, a4, a5] T (0, 0))) :
    w.cell? ⟨b, 0, none⟩ = some a0 ∧ w.cell? ⟨b, 1, none⟩ = some a1 ∧ w.cell? ⟨b, 2, none⟩ = some a2 ∧ w.cell? ⟨b, 3, none⟩ = some a3 ∧ w.cell? ⟨b, 4, none⟩ = some a4 ∧ w.cell? ⟨b, 5, none⟩ = some a5 ∧ b < w.heap.size :=
  ⟨by rw [Lib.cell_of_heap h]; rfl, by rw [Lib.cell_of_heap h]; rfl, by rw [Lib.cell_of_heap h]; rfl, by rw [Lib.cell_of_heap h]; rfl, by rw [Lib.cell_of_heap h]; rfl, by rw [Lib.cell_of_heap h]; rfl, lt_of_block h⟩
theorem warm {w : World} {b : Nat} {T : TypeId} {c : Array Value} (h : w.heap[b]? = some (.cells c T (0, 0))) (i : Nat) : w.frozen? ⟨b, i, none⟩ = false := Lib.frozen_of_heap h _
def put6 (w : World) (b : Nat) (u0 u1 u2 u3 u4 u5 : Value) : World := (((((w.setCell ⟨b, 0, none⟩ u0).setCell ⟨b, 1, none⟩ u1).setCell ⟨b, 2, none⟩ u2).setCell ⟨b, 3, none⟩ u3).setCell ⟨b, 4, none⟩ u4).setCell ⟨b, 5, none⟩ u5
theorem set_heap {w : World} {b i : Nat} {T : TypeId} {c : Array Value} (h : w.heap[b]? = some (.cells c T (0, 0))) (u : Value) : (w.setCell ⟨b, i, none⟩ u).heap[b]? = some (.cells (c.setIfInBounds i u) T (0, 0)) := heap_setCell_same w b i c T u h
theorem put6_heap {w : World} {b : Nat} {T : TypeId} {a0 a1 a2 a3 a4 a5 : Value} (h : w.heap[b]? = some (.cells #[a0, a1, a2, a3, a4, a5] T (0, 0))) (u0 u1 u2 u3 u4 u5 : Value) : (put6 w b u0 u1 u2 u3 u4 u5).heap[b]? = some (.cells #[u0, u1, u2, u3, u4, u5] T (0, 0)) := by
  have h0 := set_heap (i := 0) h u0
  have h1 := set_heap (i := 1) h0 u1
  have h2 := set_heap (i := 2) h1 u2
  have h3 := set_heap (i := 3) h2 u3
  have h4 := set_heap (i := 4) h3 u4
  exact set_heap (i := 5) h4 u5
theorem set_other (w : World) (b i k : Nat) (u : Value) (hk : k ≠ b) : (w.setCell ⟨b, i, none⟩ u).heap[k]? = w.heap[k]? := Below.heap_setCell w ⟨b, i, none⟩ u k hk
theorem put6_other (w : World) (b k : Nat) (u0 u1 u2 u3 u4 u5 : Value) (hk : k ≠ b) : (put6 w b u0 u1 u2 u3 u4 u5).heap[k]? = w.heap[k]? := by
  unfold put6
  rw [set_other _ _ _ _ _ hk, set_other _ _ _ _ _ hk, set_other _ _ _ _ _ hk, set_other _ _ _ _ _ hk, set_other _ _ _ _ _ hk, set_other _ _ _ _ _ hk]
theorem put6_below {B : Nat} {a w : World} (h : Below B a w) {b : Nat} (hb : B ≤ b) (u0 u1 u2 u3 u4 u5 : Value) : Below B a (put6 w b u0 u1 u2 u3 u4 u5) :=
  (((((h.setCell (p := ⟨b, 0, none⟩) hb u0).setCell (p := ⟨b, 1, none⟩) hb u1).setCell (p := ⟨b, 2, none⟩) hb u2).setCell (p := ⟨b, 3, none⟩) hb u3).setCell (p := ⟨b, 4, none⟩) hb u4).setCell (p := ⟨b, 5, none⟩) hb u5
/- An own row stays where other blocks are written. -/
theorem own_moved {w w' : World} {b B n s : Nat} {T : TypeId} {v : Value} {xs : List Value} {c : Array Value} {T' : TypeId} (h : w.ownsRow B T s v n xs) (hb : w.heap[b]? = some (.cells c T' (0, 0))) (hT : T ≠ T') (ho : ∀ k, k ≠ b → w'.heap[k]? = w.heap[k]?) : w'.ownsRow B T s v n xs :=
  own_kept h fun g c' fz _ hc => ho g fun e => by
    subst e; rw [hb] at hc; injection hc with hc; injection hc with _ hc _
    exact hT hc.symm
theorem own_aside {w w' : World} {b B n s : Nat} {T : TypeId} {v : Value} {xs : List Value} (h : w.ownsRow B T s v n xs) (hb : b < B) (ho : ∀ k, k ≠ b → w'.heap[k]? = w.heap[k]?) : w'.ownsRow B T s v n xs :=
  own_kept h fun g _ _ hg _ => ho g fun e => by have := (own_lt h g hg).1; omega
theorem EachM.moved {w w' : World} {b B : Nat} {xs : List Value} {Ls : List (List Ms)} {c : Array Value} {T' : TypeId} (h : EachM w B xs Ls) (hb : w.heap[b]? = some (.cells c T' (0, 0))) (hT : 126 ≠ T') (ho : ∀ k, k ≠ b → w'.heap[k]? = w.heap[k]?) : EachM w' B xs Ls :=
  ⟨h.1, fun k L hk => by obtain ⟨x, h1, h2⟩ := h.2 k L hk; exact ⟨x, h1, own_moved h2 hb hT ho⟩⟩
theorem EachW.moved {w w' : World} {b B : Nat} {xs : List Value} {Ls : List Eg} {c : Array Value} {T' : TypeId} (h : EachW w B xs Ls) (hb : w.heap[b]? = some (.cells c T' (0, 0))) (hT : 58 ≠ T') (ho : ∀ k, k ≠ b → w'.heap[k]? = w.heap[k]?) : EachW w' B xs Ls :=
  ⟨h.1, fun k L hk => by obtain ⟨x, y, h1, h2, h3, h4⟩ := h.2 k L hk; exact ⟨x, y, h1, h2, own_moved h3 hb hT ho, own_moved h4 hb hT ho⟩⟩
theorem WOwn.moved {w w' : World} {b B : Nat} {v : Value} {Ls : List Eg} {c : Array Value} {T' : TypeId} (h : WOwn w B v Ls) (hb : w.heap[b]? = some (.cells c T' (0, 0))) (hT : 85 ≠ T') (hT2 : 58 ≠ T') (ho : ∀ k, k ≠ b → w'.heap[k]? = w.heap[k]?) : WOwn w' B v Ls := by
  obtain ⟨xs, h1, h2⟩ := h
  exact ⟨xs, own_moved h1 hb hT ho, h2.moved hb hT2 ho⟩
theorem ROwn.moved {w w' : World} {b B : Nat} {v : Value} {Ls : List (List Ms)} {c : Array Value} {T' : TypeId} (h : ROwn w B v Ls) (hb : w.heap[b]? = some (.cells c T' (0, 0))) (hT : 97 ≠ T') (hT2 : 126 ≠ T') (ho : ∀ k, k ≠ b → w'.heap[k]? = w.heap[k]?) : ROwn w' B v Ls := by
  obtain ⟨xs, h1, h2⟩ := h
  exact ⟨xs, own_moved h1 hb hT ho, h2.moved hb hT2 ho⟩
/- Results: six cells in a box; and a number beside them. -/
set_option maxRecDepth 100000 in
theorem res_c (fn : Func) (c : Nat) (tmps : Array Value) (w : World) (b : Nat) (a0 a1 a2 a3 a4 a5 : Value) (hr : fn.results = #[.cell c 61]) (ht : tmps.getD c undef = .pointer (some ⟨b, 0, none⟩))
    (f : w.heap[b]? = some (.cells #[a0, a1, a2, a3, a4, a5] 61 (0, 0))) : (results fn tmps).run Tryz.prog w = .ok (.agg #[a0, a1, a2, a3, a4, a5]) w := by
  have ht' : tmps[c]?.getD undef = .pointer (some ⟨b, 0, none⟩) := by simpa using ht
  obtain ⟨f0, f1, f2, f3, f4, f5, _⟩ := six f
  simp [results, hr, ht', go_sem, f0, f1, f2, f3, f4, f5]
set_option maxRecDepth 100000 in
theorem res_s (fn : Func) (c : Nat) (tmps : Array Value) (w : World) (b : Nat) (a0 a1 a2 a3 a4 a5 : Value) (hr : fn.results = #[.cell c 33]) (ht : tmps.getD c undef = .pointer (some ⟨b, 0, none⟩))
    (f : w.heap[b]? = some (.cells #[a0, a1, a2, a3, a4, a5] 33 (0, 0))) : (results fn tmps).run Tryz.prog w = .ok (.agg #[a0, a1, a2, a3, a4, a5]) w := by
  have ht' : tmps[c]?.getD undef = .pointer (some ⟨b, 0, none⟩) := by simpa using ht
  obtain ⟨f0, f1, f2, f3, f4, f5, _⟩ := six f
  simp [results, hr, ht', go_sem, f0, f1, f2, f3, f4, f5]
set_option maxRecDepth 100000 in
theorem res2_s (fn : Func) (c d : Nat) (tmps : Array Value) (w : World) (b : Nat) (a0 a1 a2 a3 a4 a5 u : Value) (hr : fn.results = #[.cell c 33, .tmp d]) (ht : tmps.getD c undef = .pointer (some ⟨b, 0, none⟩)) (hd : tmps.getD d undef = u)
    (f : w.heap[b]? = some (.cells #[a0, a1, a2, a3, a4, a5] 33 (0, 0))) : (results fn tmps).run Tryz.prog w = .ok (.tuple #[.agg #[a0, a1, a2, a3, a4, a5], u]) w := by
  have ht' : tmps[c]?.getD undef = .pointer (some ⟨b, 0, none⟩) := by simpa using ht
  have hd' : tmps[d]?.getD undef = u := by simpa using hd
  obtain ⟨f0, f1, f2, f3, f4, f5, _⟩ := six f
  simp [results, hr, ht', hd', go_sem, f0, f1, f2, f3, f4, f5]
end Go.Proofs.YtbbmgandkmlojaaGreat.Sq

/-
  What is proved here: inside a round of a loop over a function a region runs as outside of it; and regions that draw their order, whose first operations leave what is held, in whatever order, and whose last ones go in one forced order. No condition on a program.
-/
namespace Go.Proofs.YtbbmgandkmlojaaGreat.Tl
open Go.RowKit Go.Sort

/- Into a round. -/
def calmB (ops : List Oper) : Bool := ops.all fun o => match o.op with
  | .defer _ => false
  | _ => true
theorem calm_of {ops : List Oper} (h : calmB ops = true) {o : Oper} (ho : o ∈ ops) : ∀ c, o.op ≠ .defer c := by
  intro c hc
  have := List.all_eq_true.1 h o ho
  rw [hc] at this
  cases this
section
variable {P : Program} {ops : Array Oper} {md : Region.Mode} {Q : Exit → Act → World → Prop} {l n : Nat}
theorem calls_round {f : FuncId} {args : Array Value} {w : World} {R : Ending → World → Prop} (h : Calls P f args w R) : CallsIn (Fence.wide.inRound l) n P f args w R := by
  have := (callsIn_wide (n := n)).2 h
  exact this
theorem rows_round {row : String} {args : Array Value} {w : World} {R : Value → World → Prop} (h : Rows P row args w R) : RowsIn (Fence.wide.inRound l) n P row args w R := fun c cs _ =>
  let ⟨v, w', r, s⟩ := h c cs
  ⟨v, w', r, stepsIn_wide.2 s⟩
theorem oper_round {o : Oper} {a : Act} {w : World} {K K' : Act → World → Prop} (hd : ∀ c, o.op ≠ .defer c) (hK : ∀ a w, K a w → K' a w) (h : o.wp P a w K Q) : o.wpIn (Fence.wide.inRound l) n P a w K' Q := by
  unfold Oper.wpIn
  refine ⟨fun _ _ => trivial, ?_⟩
  rw [show (Fence.wide.inRound l).round = some l from rfl, Oper.semAt_some l _ _ hd]
  unfold Oper.wp at h
  generalize (execOp a.eval o).run P w = r at *
  cases r with
  | ok x w' =>
    cases x <;> simp only [Oper.upon] at h <;> simp only [Oper.uponIn]
    case value v => exact hK _ _ h
    case skip => exact hK _ _ h
    case defer d => exact hK _ _ h
    case enter f args => exact ⟨fun h0 => (by cases h0), CallsIn.mono (calls_round h) fun e w'' he => by cases e <;> first | exact hK _ _ he | exact he⟩
    case row row args => exact ⟨fun h0 => (by cases h0), RowsIn.mono (rows_round h) fun _ _ he => hK _ _ he⟩
  | halt x w' => cases x <;> simp only [Oper.upon] at h <;> simp only [Oper.uponIn]; exact h
theorem any_round (hd : calmB ops.toList = true) (hQ : ¬ LetsOut Q) : ∀ (fuel : Nat) (listed : Array Bool) (a : Act) (w : World), wpAny P md ops Q fuel listed a w → wpAnyIn (Fence.wide.inRound l) n P md ops Q fuel listed a w
  | 0, _, _, _, h => h
  | fuel + 1, listed, a, w, h => by
    refine ⟨h.1, fun i hi => ?_⟩
    have h2 := h.2 i hi
    unfold wpOp at h2
    unfold wpOpIn
    cases ho : ops[i]? with
    | none =>
      simp only [ho] at h2 ⊢
      exact any_round hd hQ fuel _ a w h2
    | some o =>
      simp only [ho] at h2 ⊢
      split
      · rename_i hw
        simp only [hw, if_true] at h2
        rcases h2 with h2 | ⟨_, h2⟩
        · exact oper_round (calm_of hd (by
            have := Array.mem_of_getElem? ho
            exact Array.mem_toList_iff.2 this)) (fun a w h => any_round hd hQ fuel _ a w h) h2
        · exact absurd h2 hQ
      · rename_i hw
        simp only [hw] at h2
        exact ⟨fun _ _ => trivial, any_round hd hQ fuel _ _ w h2⟩
theorem list_round (hQ : ¬ LetsOut Q) : ∀ (r : List Oper) (a : Act) (w : World), calmB r = true → wpList P ops Q r a w → wpListIn (Fence.wide.inRound l) n P ops Q r a w
  | [], _, _, _, h => h
  | o :: r, a, w, hd, h => by
    unfold wpList at h
    unfold wpListIn
    have hd2 : calmB r = true := by
      unfold calmB at hd ⊢
      simp only [List.all_cons, Bool.and_eq_true] at hd
      exact hd.2
    split
    · rename_i hw
      simp only [hw, if_true] at h
      rcases h with h | ⟨_, h⟩
      · exact oper_round (calm_of hd List.mem_cons_self) (fun a w h => list_round hQ r a w hd2 h) h
      · exact absurd h hQ
    · rename_i hw
      simp only [hw] at h
      exact ⟨fun _ _ => trivial, list_round hQ r _ w hd2 h⟩
/- A region in one order, in a round. -/
theorem region_round {id : Nat} {a : Act} {w : World} {r : List Oper} (hd : calmB r = true) (hQ : ¬ LetsOut Q) (h : wpList P r.toArray Q r a w) : (Code.region id r.toArray false).wpIn (Fence.wide.inRound l) n P Q a w :=
  wpIn_region_lit (list_round hQ r a w hd h)
/- A region that only reads, in a round. -/
theorem region_quiet_round {id : Nat} {a : Act} {w : World} {r : List Oper} (hm : P.follows .mixedOrders = true) (hd : calmB r = true) (hQ : ¬ LetsOut Q) (hB : Region.lexB .any r.toArray = true)
    (h : wpQuiet P r.toArray (fun w' => ∃ p : Regrown, w' = grow (redrawn w p.d) p.os) (fun a' => ∀ w', (∃ p : Regrown, w' = grow (redrawn w p.d) p.os) → Q .normal a' w') r a) : (Code.region id r.toArray true).wpIn (Fence.wide.inRound l) n P Q a w := by
  simp only [Region.lexB, Bool.and_eq_true] at hB
  refine wpIn_region_any hm (any_round (by simpa using hd) hQ _ _ _ _ ?_)
  refine wpAny_of_quiet (C := fun w' => ∃ p : Regrown, w' = grow (redrawn w p.d) p.os) (Q := fun a' => ∀ w', (∃ p : Regrown, w' = grow (redrawn w p.d) p.os) → Q .normal a' w') (fun _ w' hw' h => h w' hw') _ _ _ _ ⟨⟨w.drawn + 1, #[]⟩, by rw [grow_empty]; rfl⟩ ?_
  have := wpAnyQ_lex (C := fun w' => ∃ p : Regrown, w' = grow (redrawn w p.d) p.os) (md := .any) hB.1 r 0 (Array.replicate r.toArray.size false) a (by simp) (by simpa using hB.2) h
  simpa using this
/- A region that reads, and calls what only reads, and then writes, in a round. -/
theorem region_tail_round {id : Nat} {a : Act} {w : World} {r : List Oper} (m : Nat) (hm : P.follows .mixedOrders = true) (hd : calmB r = true) (hQ : ¬ LetsOut Q) (hB : Region.lexTailB .any r.toArray m = true)
    (h : wpQuiet P r.toArray (fun w' => ∃ p : Regrown, w' = grow (redrawn w p.d) p.os) (fun a' => ∀ w', (∃ p : Regrown, w' = grow (redrawn w p.d) p.os) → wpList P r.toArray Q (r.drop m) a' w') (r.take m) a) : (Code.region id r.toArray true).wpIn (Fence.wide.inRound l) n P Q a w := by
  simp only [Region.lexTailB, Bool.and_eq_true, decide_eq_true_eq] at hB
  obtain ⟨⟨⟨⟨hsel, hn⟩, hs⟩, hc⟩, hlex⟩ := hB
  have hn' : m < r.length := by simpa using hn
  have htl : (r.take m).length = m := by simp; omega
  have hdl : (r.drop m).length = r.toArray.size - m := by simp
  have inv0 : HeadInv .any r.toArray m (Array.replicate r.toArray.size false) :=
    ⟨by simp, fun j oj _ hl => (by rw [getD_replicate_false] at hl; cases hl), fun t _ ht => getD_in (by simpa using ht) (getD_replicate_false _ _)⟩
  have H := head_lex (md := .any) (g := r.toArray.size - m) hsel hs hc hn (r.take m) 0 _ a (fun j hj => by
    have hj' : j < m := by rw [htl] at hj; exact hj
    simp [hj']) (by simpa using htl) inv0 (by rw [htl]; exact hlex) h
  refine wpIn_region_any hm (any_round (by simpa using hd) hQ _ _ _ _ ?_)
  have := any_of_head (Q' := Q) (g := r.toArray.size - m) (fun listed a' w' hw' hL => by
    have := wpAny_of_seq (md := .any) (Q' := Q) (r.drop m) m listed a' w' (fun j => by simp [List.getElem?_drop]) (by rw [hdl]; exact hL.1) (hL.2 w' hw')
    rwa [hdl] at this) _ _ _ _ ⟨⟨w.drawn + 1, #[]⟩, by rw [grow_empty]⟩ H
  rw [htl, show m + (r.toArray.size - m) = r.toArray.size by omega] at this
  exact this
end

/- What is held while the first n operations come up, in whatever order; then the rest, in one order. One of the rest (number p) may have come up ahead of all. -/
structure InvX (md : Region.Mode) (ops : Array Oper) (n p : Nat) (listed : Array Bool) : Prop where
  size : listed.size = ops.size
  closed : ∀ j oj, ops[j]? = some oj → listed.getD j false = true → ∀ e ∈ oj.after, Region.binds md e = true → listed.getD e.on false = true
  tail : ∀ t, n ≤ t → t < ops.size → t ≠ p → listed.getD t true = false
  pre : listed.getD p true = true
def chainX (md : Region.Mode) (ops : Array Oper) (n p : Nat) : Bool :=
  decide (n ≠ p) && (List.range ops.size).all fun t => decide (t ≤ n) || decide (t = p) || Region.waitsFor md ops t n
def seqL (md : Region.Mode) (ops : Array Oper) : List Nat → Array Bool → Bool
  | [], listed => (Region.ready md ops listed).isEmpty
  | i :: is, listed => decide (Region.ready md ops listed = [i]) && seqL md ops is (listed.setIfInBounds i true)
section
variable {P : Program} {ops : Array Oper} {md : Region.Mode} {S : World → Prop} {Q : Exit → Act → World → Prop} {n p g : Nat}
theorem InvX.set {i : Nat} {listed : Array Bool} (inv : InvX md ops n p listed) (hi : i ∈ Region.ready md ops listed) (hin : i < n) : InvX md ops n p (listed.setIfInBounds i true) := by
  obtain ⟨hun, oi, hoi, hall⟩ := mem_ready.1 hi
  refine ⟨by simp [inv.size], fun j oj hj hl e he hb => ?_, fun t ht ht' htp => by rw [getD_set_ne true (by omega)]; exact inv.tail t ht ht' htp, ?_⟩
  · by_cases hij : i = j
    · subst hij
      have : oj = oi := Option.some.inj (hj.symm.trans hoi)
      subst this
      exact getD_set_true (hall e he hb)
    · rw [getD_set_ne false hij] at hl
      exact getD_set_true (inv.closed j oj hj hl e he hb)
  · by_cases hip : i = p
    · subst hip; rw [inv.pre] at hun; cases hun
    · rw [getD_set_ne true hip]; exact inv.pre
theorem waitsX {listed : Array Bool} (hs : Region.sinkB md ops n = true) (hc : chainX md ops n p = true) (hn : n < ops.size) (inv : InvX md ops n p listed) :
    ∀ (d i : Nat), n - i = d → i < n → listed.getD i true = false → ∀ t, n ≤ t → t ∉ Region.ready md ops listed := by
  unfold chainX at hc
  simp only [Bool.and_eq_true, decide_eq_true_eq] at hc
  obtain ⟨hnp, hc⟩ := hc
  intro d
  induction d using Nat.strongRecOn with
  | _ d ih =>
    intro i hd hi hun t ht hr
    obtain ⟨htun, ot, hot, hall⟩ := mem_ready.1 hr
    have htlt : t < ops.size := (Array.getElem?_eq_some_iff.1 hot).1
    by_cases htn : t = n
    · subst htn
      have h1 := List.all_eq_true.1 hs i (List.mem_range.2 hi)
      obtain ⟨j, hj, hj2⟩ := List.any_eq_true.1 h1
      simp only [Bool.and_eq_true, decide_eq_true_eq] at hj2
      obtain ⟨oj, hoj, e, he, hb, hon⟩ := Region.waitsFor_spec hj2.2
      have hjle : j ≤ t := by have := List.mem_range.1 hj; omega
      by_cases hjt : j = t
      · subst hjt
        have : oj = ot := Option.some.inj (hoj.symm.trans hot)
        subst this
        have h2 := hall e he hb
        rw [hon, getD_both hun] at h2
        cases h2
      · cases hl : listed.getD j false with
        | true =>
          have h2 := inv.closed j oj hoj hl e he hb
          rw [hon, getD_both hun] at h2
          cases h2
        | false =>
          have hjs : j < listed.size := by rw [inv.size]; omega
          exact ih (t - j) (by omega) j rfl (by omega) (getD_in hjs hl) t (Nat.le_refl _) hr
    · by_cases htp : t = p
      · subst htp; rw [inv.pre] at htun; cases htun
      · have h1 := List.all_eq_true.1 hc t (List.mem_range.2 htlt)
        simp only [Bool.or_eq_true, decide_eq_true_eq] at h1
        rcases h1 with (h1 | h1) | h1
        · omega
        · exact htp h1
        · obtain ⟨o', ho', e, he, hb, hon⟩ := Region.waitsFor_spec h1
          have : o' = ot := Option.some.inj (ho'.symm.trans hot)
          subst this
          have h2 := hall e he hb
          rw [hon, getD_both (inv.tail n (Nat.le_refl _) hn hnp)] at h2
          cases h2
def headX (P : Program) (md : Region.Mode) (ops : Array Oper) (Q : Exit → Act → World → Prop) (S : World → Prop) (n p g : Nat) : Nat → Array Bool → Act → World → Prop
  | 0, listed, a, w => InvX md ops n p listed → (∀ j ∈ Region.ready md ops listed, n ≤ j) ∧ wpAny P md ops Q g listed a w
  | f + 1, listed, a, w => InvX md ops n p listed → Region.ready md ops listed ≠ [] ∧ ∀ i ∈ Region.ready md ops listed, i < n ∧ wpOp P ops Q i (fun a' w' => S w' ∧ headX P md ops Q S n p g f (listed.setIfInBounds i true) a' w') a w
theorem any_of_headX : ∀ (f : Nat) (listed : Array Bool) (a : Act) (w : World), InvX md ops n p listed → headX P md ops Q S n p g f listed a w → wpAny P md ops Q (f + g) listed a w
  | 0, _, _, _, inv, h => by rw [Nat.zero_add]; exact (h inv).2
  | f + 1, listed, a, w, inv, h => by
    rw [show f + 1 + g = (f + g) + 1 by omega]
    exact ⟨fun h0 => absurd h0 (h inv).1, fun i hi => wpOp_mono (fun a' w' h' => any_of_headX f _ a' w' (inv.set hi ((h inv).2 i hi).1) h'.2) ((h inv).2 i hi).2⟩
theorem headX_first (hs : Region.sinkB md ops n = true) (hc : chainX md ops n p = true) (hn : n < ops.size) {i : Nat} {oi : Oper} {v : Value} (hi : ops[i]? = some oi) (hin : i < n) (hsel : ∀ (j : Nat) (o : Oper) cs b, ops[j]? = some o → o.op ≠ .select cs b)
    (hQ : ∀ c a w, Q (.panic c) (a.put oi.dst v) w → Q (.panic c) a w) :
    ∀ (f : Nat) (listed : Array Bool) (a : Act) (w : World),
      (∀ j oj, ops[j]? = some oj → j ≠ i → listed.getD j true = false → (∀ e ∈ oj.after, Region.binds md e = true → e.on ≠ i) → oi.apart ops oj = true) →
      i ∈ Region.ready md ops listed → YieldsIf P ops S oi v a → S w →
      headX P md ops Q S n p g f (listed.setIfInBounds i true) (a.put oi.dst v) w → headX P md ops Q S n p g (f + 1) listed a w := by
  intro f
  induction f with
  | zero =>
    intro listed a w _ hr hy hS H inv
    have hun := (mem_ready.1 hr).1
    refine ⟨fun h => (by rw [h] at hr; cases hr), fun j hj => ?_⟩
    have hjn : j < n := by
      rcases Nat.lt_or_ge j n with h | h
      · exact h
      · exact absurd hj (waitsX hs hc hn inv _ i rfl hin hun j h)
    refine ⟨hjn, ?_⟩
    by_cases hji : j = i
    · subst hji; exact hy.wpOp hi hS ⟨hS, H⟩
    · have := (H (inv.set hr hin)).1 j (ready_mono hj hji)
      omega
  | succ f ih =>
    intro listed a w hfree hr hy hS H inv
    have hun := (mem_ready.1 hr).1
    refine ⟨fun h => (by rw [h] at hr; cases hr), fun j hj => ?_⟩
    have hjn : j < n := by
      rcases Nat.lt_or_ge j n with h | h
      · exact h
      · exact absurd hj (waitsX hs hc hn inv _ i rfl hin hun j h)
    refine ⟨hjn, ?_⟩
    by_cases hji : j = i
    · subst hji; exact hy.wpOp hi hS ⟨hS, H⟩
    · have h1 := ((H (inv.set hr hin)).2 j (ready_mono hj hji)).2
      obtain ⟨hjun, oj, hoj, hall⟩ := mem_ready.1 hj
      have hnot : ∀ e ∈ oj.after, Region.binds md e = true → e.on ≠ i := fun e he hb heq => by
        have h1 := hall e he hb
        rw [heq, getD_both hun] at h1
        cases h1
      have h2 := wpOp_putIf hoj (hfree j oj hoj hji hjun hnot) (fun cs b => hsel i oi cs b hi) (fun cs b => hsel j oj cs b hoj) hQ hy h1
      have hfree' : ∀ k ok, ops[k]? = some ok → k ≠ i → (listed.setIfInBounds j true).getD k true = false →
          (∀ e ∈ ok.after, Region.binds md e = true → e.on ≠ i) → oi.apart ops ok = true := fun k ok hk hki hun hno => by
        refine hfree k ok hk hki ?_ hno
        by_cases hjk : j = k
        · subst hjk; exact hjun
        · rw [getD_set_ne true hjk] at hun; exact hun
      refine wpOp_mono (fun a' w' h3 => ⟨h3.2.1, ih (listed.setIfInBounds j true) a' w' hfree' (ready_mono hr (Ne.symm hji)) h3.1 h3.2.1 ?_⟩) h2
      rw [Array.setIfInBounds_comm _ _ hji]
      exact h3.2.2
theorem headX_take (hg : (Region.sinkB md ops n && chainX md ops n p && decide (n < ops.size)) = true) {i : Nat} {oi : Oper} {v : Value} {f : Nat} {listed : Array Bool} {a : Act} {w : World} (hi : ops[i]? = some oi) (hin : i < n)
    (hsel : Region.noSelect ops = true) (hf : Region.free md ops listed i = true) (hr : (Region.ready md ops listed).contains i = true)
    (hQ : ∀ c a w, Q (.panic c) (a.put oi.dst v) w → Q (.panic c) a w) (hy : YieldsIf P ops S oi v a) (hS : S w)
    (h : headX P md ops Q S n p g f (listed.setIfInBounds i true) (a.put oi.dst v) w) : headX P md ops Q S n p g (f + 1) listed a w := by
  simp only [Bool.and_eq_true, decide_eq_true_eq] at hg
  exact headX_first hg.1.1 hg.1.2 hg.2 hi hin (Region.noSelect_spec hsel) hQ f listed a w (Region.free_spec hi hf) (by simpa using hr) hy hS h
/- The same, of a region that is written out. -/
theorem headX_tk {r : List Oper} {oi : Oper} {f : Nat} {listed : Array Bool} {a : Act} {w : World} (i : Nat) (v : Value) (hi : r[i]? = some oi) (hg : (Region.sinkB md r.toArray n && chainX md r.toArray n p && decide (n < r.toArray.size)) = true) (hin : i < n)
    (hsel : Region.noSelect r.toArray = true) (hf : Region.free md r.toArray listed i = true) (hr : (Region.ready md r.toArray listed).contains i = true)
    (hQ : ∀ c a w, Q (.panic c) (a.put oi.dst v) w → Q (.panic c) a w) (hw : Region.wanted oi (yielded r.toArray a.tmps) = true) (he : ∀ w, S w → (execOp a.eval oi).run P w = .ok (.value v) w) (hS : S w)
    (h : headX P md r.toArray Q S n p g f (listed.setIfInBounds i true) (a.put oi.dst v) w) : headX P md r.toArray Q S n p g (f + 1) listed a w :=
  headX_take hg (by simpa using hi) hin hsel hf hr hQ (Or.inl ⟨hw, he⟩) hS h
/- One alone may come up. -/
theorem headX_one {i : Nat} {o : Oper} {f : Nat} {listed : Array Bool} {a : Act} {w : World} (hi : ops[i]? = some o) (hin : i < n) (hr : Region.ready md ops listed = [i]) (hw : Region.wanted o (yielded ops a.tmps) = true)
    (h : ∀ K : Act → World → Prop, (∀ a' w', S w' → headX P md ops Q S n p g f (listed.setIfInBounds i true) a' w' → K a' w') → o.wp P a w K Q) : headX P md ops Q S n p g (f + 1) listed a w := by
  intro _
  refine ⟨by rw [hr]; simp, fun j hj => ?_⟩
  rw [hr] at hj
  obtain rfl : j = i := by simpa using hj
  refine ⟨hin, ?_⟩
  unfold wpOp
  simp only [hi, hw, if_true]
  exact .inl (h _ fun a' w' h1 h2 => ⟨h1, h2⟩)
theorem headX_vl {r : List Oper} {o : Oper} {f : Nat} {listed : Array Bool} {a : Act} {w : World} (i : Nat) (v : Value) (w' : World) (hi : r[i]? = some o) (hin : i < n) (hr : Region.ready md r.toArray listed = [i]) (hw : Region.wanted o (yielded r.toArray a.tmps) = true)
    (he : (execOp a.eval o).run P w = .ok (.value v) w') (hS : S w') (h : headX P md r.toArray Q S n p g f (listed.setIfInBounds i true) (a.put o.dst v) w') : headX P md r.toArray Q S n p g (f + 1) listed a w :=
  headX_one (by simpa using hi) hin hr hw fun K hK => by
    show o.upon P a K Q _
    rw [he]
    exact hK _ _ hS h
theorem headX_cl {r : List Oper} {o : Oper} {f : Nat} {listed : Array Bool} {a : Act} {w : World} {R : Value → World → Prop} (i : Nat) (fn : FuncId) (args : Array Value) (hi : r[i]? = some o) (hin : i < n) (hr : Region.ready md r.toArray listed = [i]) (hw : Region.wanted o (yielded r.toArray a.tmps) = true)
    (he : (execOp a.eval o).run P w = .ok (.enter fn args) w) (hc : Calls P fn args w fun e w' => ∃ v, e = .returned v ∧ R v w') (h : ∀ v w', R v w' → S w' ∧ headX P md r.toArray Q S n p g f (listed.setIfInBounds i true) (a.put o.dst v) w') : headX P md r.toArray Q S n p g (f + 1) listed a w :=
  headX_one (by simpa using hi) hin hr hw fun K hK => by
    show o.upon P a K Q _
    rw [he, Oper.upon_enter]
    refine hc.mono ?_
    rintro e w2 ⟨v, rfl, h2⟩
    exact hK _ _ (h v w2 h2).1 (h v w2 h2).2
theorem any_seqL : ∀ (is : List Nat) (l : List Oper) (listed : Array Bool) (a : Act) (w : World), is.map (fun i => ops[i]?) = l.map some → seqL md ops is listed = true → wpList P ops Q l a w → wpAny P md ops Q l.length listed a w
  | [], [], _, _, _, _, hB, h => ⟨by simpa [seqL] using hB, h⟩
  | [], _ :: _, _, _, _, he, _, _ => by simp at he
  | _ :: _, [], _, _, _, he, _, _ => by simp at he
  | i :: is, o :: l, listed, a, w, he, hB, h => by
    simp only [List.map_cons, List.cons.injEq] at he
    simp only [seqL, Bool.and_eq_true, decide_eq_true_eq] at hB
    refine ⟨fun h1 => (by rw [hB.1] at h1; cases h1), fun j hj => ?_⟩
    rw [hB.1] at hj
    obtain rfl : j = i := by simpa using hj
    unfold wpList at h
    unfold wpOp
    simp only [he.1]
    split
    · rename_i hw
      simp only [hw, if_true] at h
      rcases h with h | h
      · exact .inl (Oper.wp_mono (fun a w h => any_seqL is l _ a w he.2 hB.2 h) h)
      · exact .inr h
    · rename_i hw
      simp only [hw] at h
      exact any_seqL is l _ _ w he.2 hB.2 h
/- Behind the first n. -/
theorem headX_rest {r : List Oper} {listed : Array Bool} {a : Act} {w : World} (hB : Region.seqB md r.toArray (r.length - n) n listed = true) (h : wpList P r.toArray Q (r.drop n) a w) : headX P md r.toArray Q S n p (r.length - n) 0 listed a w := by
  intro _
  refine ⟨seqB_ready hB, ?_⟩
  have hdl : (r.drop n).length = r.length - n := by simp
  have := wpAny_of_seq (md := md) (Q' := Q) (r.drop n) n listed a w (fun j => by simp [List.getElem?_drop]) (by rw [hdl]; exact hB) h
  rwa [hdl] at this
theorem inv_none {n p : Nat} (hp : ops.size ≤ p) : InvX md ops n p (Array.replicate ops.size false) :=
  ⟨by simp, fun j oj _ hl => (by rw [getD_replicate_false] at hl; cases hl), fun t _ ht _ => getD_in (by simpa using ht) (getD_replicate_false _ _), by simp [hp]⟩
theorem headX_round {id l k : Nat} {a : Act} {w : World} {r : List Oper} (n : Nat) (hm : P.follows .mixedOrders = true) (hd : calmB r = true) (hQ : ¬ LetsOut Q) (hn : n ≤ r.length) (h : headX P .any r.toArray Q S n r.length (r.length - n) n (Array.replicate r.length false) a w.drew) :
    (Code.region id r.toArray true).wpIn (Fence.wide.inRound l) k P Q a w := by
  refine wpIn_region_any hm (any_round (by simpa using hd) hQ _ _ _ _ ?_)
  have := any_of_headX n _ _ _ (by have := inv_none (md := .any) (ops := r.toArray) (n := n) (p := r.length) (by simp); simpa using this) h
  rw [show n + (r.length - n) = r.toArray.size by simp; omega] at this
  simpa using this
theorem headX_region {id : Nat} {a : Act} {w : World} {r : List Oper} (n : Nat) (hm : P.follows .mixedOrders = true) (hn : n ≤ r.length) (h : headX P .any r.toArray Q S n r.length (r.length - n) n (Array.replicate r.length false) a w.drew) :
    (Code.region id r.toArray true).wp P Q a w := by
  refine wp_region_any hm ?_
  have := any_of_headX n _ _ _ (by have := inv_none (md := .any) (ops := r.toArray) (n := n) (p := r.length) (by simp); simpa using this) h
  rw [show n + (r.length - n) = r.toArray.size by simp; omega] at this
  simpa using this
/- One that yields in whatever world is taken ahead of all. -/
theorem headX_ahead {id : Nat} {a : Act} {w : World} {r : List Oper} {o : Oper} (n p : Nat) (v : Value) (hm : P.follows .mixedOrders = true) (hn : n + 1 ≤ r.length) (ho' : r[p]? = some o) (hno : o.after = #[]) (hsel : Region.noSelect r.toArray = true)
    (hf : Region.free .any r.toArray (Array.replicate r.length false) p = true) (hr : (Region.ready .any r.toArray (Array.replicate r.length false)).contains p = true)
    (hQ : ∀ c a w, Q (.panic c) (a.put o.dst v) w → Q (.panic c) a w) (hw : Region.wanted o (yielded r.toArray a.tmps) = true) (hev : ∀ w, (execOp a.eval o).run P w = .ok (.value v) w)
    (h : headX P .any r.toArray Q S n p (r.length - n - 1) n ((Array.replicate r.length false).setIfInBounds p true) (a.put o.dst v) w.drew) : (Code.region id r.toArray true).wp P Q a w := by
  refine wp_region_any hm ?_
  have ho : r.toArray[p]? = some o := by simpa using ho'
  have hpl : p < r.length := by have := (Array.getElem?_eq_some_iff.1 ho).1; simpa using this
  have inv : InvX .any r.toArray n p ((Array.replicate r.length false).setIfInBounds p true) := by
    refine ⟨by simp, fun j oj hj hl e he hb => ?_, fun t ht ht' htp => ?_, ?_⟩
    · by_cases hpj : p = j
      · subst hpj
        have : oj = o := Option.some.inj (hj.symm.trans ho)
        subst this
        rw [hno] at he; simp at he
      · rw [getD_set_ne false hpj, getD_replicate_false] at hl; cases hl
    · rw [getD_set_ne true (Ne.symm htp)]; exact getD_in (by simpa using ht') (getD_replicate_false _ _)
    · simp [hpl]
  have := any_of_headX n _ _ _ inv h
  rw [show r.toArray.size = (n + (r.length - n - 1)) + 1 by simp; omega]
  refine wpAny_take (i := p) (oi := o) (v := v) ho hsel ?_ ?_ hQ (Or.inl ⟨hw, hev⟩) ?_
  · rw [show n + (r.length - n - 1) + 1 = r.length by omega]; exact hf
  · rw [show n + (r.length - n - 1) + 1 = r.length by omega]; exact hr
  · rw [show n + (r.length - n - 1) + 1 = r.length by omega]; exact this
end

end Go.Proofs.YtbbmgandkmlojaaGreat.Tl

/-
  What is proved here: a contract of what keeps a graph's edges by vertices. Conditions: at most 512 vertices, at most 1000 edges.
-/
namespace Go.Proofs.YtbbmgandkmlojaaGreat.Sq
open Go.RowKit Gr Wd Ws Fx Rk Lb Al In

def egs (V : Nat) (L : List Ed) : List Eg := (List.range V).map fun (v : Nat) => (outE L (v : Int), bckE L (v : Int))
theorem egs_len (V : Nat) (L : List Ed) : (egs V L).length = V := by simp [egs]
theorem egs_at {V : Nat} {L : List Ed} {v : Nat} (h : v < V) : (egs V L)[v]? = some (outE L (v : Int), bckE L (v : Int)) := by
  unfold egs; rw [List.getElem?_map, List.getElem?_range h]; rfl
theorem egs_next {V : Nat} {L : List Ed} {v : Nat} (h : v < V) : (egs V L).take v ++ [(outE L (v : Int), bckE L (v : Int))] = (egs V L).take (v + 1) := (take_at (egs_at h)).symm
structure CoH (w wr : World) (b0 b2 b3 : Nat) (k st so dm ep : Int) (V : Int) (A : Option Addr) (n c : Nat) (Ls : List Eg) (v u : Value) : Prop where
  below : Below w.heap.size w wr
  gb : wr.heap[b0]? = some (.cells #[.int .i64 V, .slice A n c] 24 (0, 0))
  rb : wr.heap[b2]? = some (.cells #[.int .u8 0, .int .i64 0, .int .i64 0, .int .i64 0, .int .i64 0, .slice none 0 0] 61 (0, 0))
  cb : wr.heap[b3]? = some (.cells #[.int .u8 k, .int .i64 st, .int .i64 so, .int .i64 dm, .int .i64 ep, v] 61 (0, 0))
  own : WOwn wr (b3 + 1) u Ls
section
variable {w wr w' : World} {b0 b2 b3 n c : Nat} {k st so dm ep V : Int} {A : Option Addr} {Ls Ls' : List Eg} {v u u' : Value}
theorem CoH.step (h : CoH w wr b0 b2 b3 k st so dm ep V A n c Ls v u) (hb : Below wr.heap.size wr w') : CoH w w' b0 b2 b3 k st so dm ep V A n c Ls v u :=
  ⟨step_below h.below h.below.size hb, keep h.gb hb, keep h.rb hb, keep h.cb hb, h.own.below hb⟩
theorem CoH.grown (h : CoH w wr b0 b2 b3 k st so dm ep V A n c Ls v u) (hg : wr.grownBy w' u.ownBlock) (hl : w.heap.size ≤ b3 + 1) (ho : WOwn w' (b3 + 1) u' Ls') : CoH w w' b0 b2 b3 k st so dm ep V A n c Ls' v u' := by
  obtain ⟨xs, h1, _⟩ := h.own
  exact ⟨h.below.trans (own_grown h1 hg hl h.below.size), box_other h.gb h1 (by decide) hg, box_other h.rb h1 (by decide) hg, box_other h.cb h1 (by decide) hg, ho⟩
theorem CoH.put (h : CoH w wr b0 b2 b3 k st so dm ep V A n c Ls v u) (hl : w.heap.size ≤ b3) (h0 : b0 ≠ b3) (h2 : b2 ≠ b3) : CoH w (wr.setCell ⟨b3, 5, none⟩ u) b0 b2 b3 k st so dm ep V A n c Ls u u :=
  ⟨h.below.setCell (p := ⟨b3, 5, none⟩) hl u, (set_other _ _ _ _ _ h0).trans h.gb, (set_other _ _ _ _ _ h2).trans h.rb, set_heap (i := 5) h.cb u, h.own.moved h.cb (by decide) (by decide) (fun k hk => set_other _ _ _ _ _ hk)⟩
end
def CoRel (w : World) (b0 b2 b3 : Nat) (k st so dm ep : Int) (V : Nat) (A : Option Addr) (n c : Nat) (L : List Ed) (gk : Nat) (i : Value) (wr : World) : Prop :=
  ∃ (q : Nat) (v : Value), q + gk = V ∧ i = .int .i64 (q : Int) ∧ Hid (CoH w wr b0 b2 b3 k st so dm ep (V : Int) A n c ((egs V L).take q) v v)
theorem own_mono_w {w : World} {B B' : Nat} {v : Value} {Ls : List Eg} (h : WOwn w B v Ls) (hb : B' ≤ B) : WOwn w B' v Ls := by
  obtain ⟨xs, h1, h2⟩ := h
  exact ⟨xs, own_mono h1 hb, h2.1, fun k L hk => by obtain ⟨x, y, e1, e2, e3, e4⟩ := h2.2 k L hk; exact ⟨x, y, e1, e2, own_mono e3 hb, own_mono e4 hb⟩⟩
theorem two {w : World} {b : Nat} {T : TypeId} {a0 a1 : Value} (h : w.heap[b]? = some (.cells #[a0, a1] T (0, 0))) : w.cell? ⟨b, 0, none⟩ = some a0 ∧ w.cell? ⟨b, 1, none⟩ = some a1 ∧ b < w.heap.size :=
  ⟨by rw [Lib.cell_of_heap h]; rfl, by rw [Lib.cell_of_heap h]; rfl, lt_of_block h⟩
theorem new_w (w : World) (x y : Value) : (w.alloc (.cells #[x, y] 85)).heap[w.heap.size]? = some (.cells #[x, y] 85 (0, 0)) := heap_alloc_new w _

set_option maxRecDepth 100000 in
set_option maxHeartbeats 8000000 in
theorem course_any (k st so dm ep : Int) (V : Nat) (A : Option Addr) (c n : Nat) (L : List Ed) (w : World) (hL : EAt w A L) (hn : n = L.length) (hm : L.length ≤ 1000) (hV : V ≤ 512) :
    Calls Tryz.prog 34 #[.agg #[.int .i64 (V : Int), .slice A n c], .agg #[.int .u8 k, .int .i64 st, .int .i64 so, .int .i64 dm, .int .i64 ep]] w fun e w' => ∃ v, e = .returned (.agg #[.int .u8 k, .int .i64 st, .int .i64 so, .int .i64 dm, .int .i64 ep, v]) ∧ Hid (WOwn w' w.heap.size v (egs V L)) ∧ Hid (Below w.heap.size w w') := by
  have mixed := mixedI
  have HL := Lib.hid hL; have HN := Lib.hid hn
  clear hL hn
  obtain ⟨W4, hW4⟩ : ∃ W4, W4 = (((w.alloc (.cells #[.int .i64 (V : Int), .slice A n c] 24)).alloc (.cells #[.int .u8 k, .int .i64 st, .int .i64 so, .int .i64 dm, .int .i64 ep] 26)).alloc (.cells #[.int .u8 0, .int .i64 0, .int .i64 0, .int .i64 0, .int .i64 0, .slice none 0 0] 61)).alloc (.cells #[.int .u8 k, .int .i64 st, .int .i64 so, .int .i64 dm, .int .i64 ep, .slice none 0 0] 61) := ⟨_, rfl⟩
  have hal := al4 w (.cells #[.int .i64 (V : Int), .slice A n c] 24) (.cells #[.int .u8 k, .int .i64 st, .int .i64 so, .int .i64 dm, .int .i64 ep] 26) (.cells #[.int .u8 0, .int .i64 0, .int .i64 0, .int .i64 0, .int .i64 0, .slice none 0 0] 61) (.cells #[.int .u8 k, .int .i64 st, .int .i64 so, .int .i64 dm, .int .i64 ep, .slice none 0 0] 61)
  rw [← hW4] at hal
  obtain ⟨b0, e0⟩ : ∃ b0, b0 = w.heap.size := ⟨_, rfl⟩
  obtain ⟨b2, e2⟩ : ∃ b2, b2 = w.heap.size + 1 + 1 := ⟨_, rfl⟩
  obtain ⟨b3, e3⟩ : ∃ b3, b3 = w.heap.size + 1 + 1 + 1 := ⟨_, rfl⟩
  have HLO : Hid (w.heap.size ≤ b2 ∧ w.heap.size ≤ b3 ∧ b0 ≠ b2 ∧ b0 ≠ b3 ∧ b2 ≠ b3 ∧ b2 < b3) := Lib.hid (by omega)
  have HH0 : Hid (CoH w W4 b0 b2 b3 k st so dm ep (V : Int) A n c ((egs V L).take 0) (.slice none 0 0) (.slice none 0 0)) := Lib.hid (by
    rw [e0, e2, e3]; exact ⟨hal.2.2.2.2, hal.1, hal.2.2.1, hal.2.2.2.1, by rw [List.take_zero]; exact WOwn.none_ _ _⟩)
  clear hal
  go_enter Tryz.func34, Tryz.ntmps34
  go_upto_region 2 with fail
  rw [← hW4, show w.heap.size + 1 + 1 + 1 = b3 from e3.symm, show w.heap.size + 1 + 1 = b2 from e2.symm, show w.heap.size = b0 from e0.symm]
  clear hW4 e0 e2 e3
  obtain ⟨g0, g1, gl⟩ := two HH0.out.gb
  go_wp2_with fail
  clear g0 g1 gl
  go_loopg [11] V (fun gk i wr => CoRel w b0 b2 b3 k st so dm ep V A n c L gk i wr)
  case atStart => exact ⟨0, _, by omega, rfl, HH0⟩
  case round =>
    clear HH0
    obtain ⟨q, v, hq, rfl, HH⟩ := hrel
    by_cases hlt : q < V
    · obtain ⟨g0, g1, gl⟩ := two HH.out.gb
      obtain ⟨Av, cv, rfl, _⟩ := HH.out.own.form
      have hq2 : ((egs V L).take q).length = q := by rw [List.length_take, egs_len]; omega
      have HLEN : Hid (((egs V L).take q).length < 1000000000) := Lib.hid (by rw [hq2]; omega)
      rw [hq2] at HH
      clear hq2
      obtain ⟨_, _, _, _, _, c5, cl⟩ := six HH.out.cb
      have fr5 := warm HH.out.cb 5
      have HS : Hid (Below w.heap.size w wr.drew) := Lib.hid HH.out.below.drew
      have HEA : Hid (∀ W, Below w.heap.size w W → EAt W A L) := Lib.hid fun W h => HL.out.below h
      have HO : Hid (∀ W, Below w.heap.size w W → Calls Tryz.prog 53 #[.agg #[.int .i64 (V : Int), .slice A n c], .int .i64 (q : Int)] W fun e w' => ∃ x, e = .returned x ∧ Hid (EOwn w' W.heap.size x (outE L (q : Int)) ∧ Below W.heap.size W w')) := Lib.hid (fun W h => by
        rw [HN.out]
        refine (out_any (V : Int) (q : Int) A c L W (HL.out.below h) (by omega)).mono ?_
        rintro e w' ⟨x, rfl, hx, hb⟩
        exact ⟨_, rfl, Lib.hid ⟨hx, hb⟩⟩)
      have HK : Hid (∀ W, Below w.heap.size w W → Calls Tryz.prog 54 #[.agg #[.int .i64 (V : Int), .slice A n c], .int .i64 (q : Int)] W fun e w' => ∃ x, e = .returned x ∧ Hid (EOwn w' W.heap.size x (bckE L (q : Int)) ∧ Below W.heap.size W w')) := Lib.hid (fun W h => by
        rw [HN.out]
        refine (back_any (V : Int) (q : Int) A c L W (HL.out.below h) (by omega)).mono ?_
        rintro e w' ⟨x, rfl, hx, hb⟩
        exact ⟨_, rfl, Lib.hid ⟨hx, hb⟩⟩)
      have HB3 : Hid (w.heap.size ≤ b3 + 1 ∧ b3 + 1 ≤ wr.heap.size) := Lib.hid ⟨by have := HLO.out; omega, cl⟩
      have HBD : Hid (Below wr.heap.size wr wr.drew) := Lib.hid (Below.refl _ wr).drew
      go_upto_region 5 with fail
      have hS : (fun w' : World => w'.cell? ⟨b0, 0, none⟩ = some (.int .i64 (V : Int)) ∧ w'.cell? ⟨b0, 1, none⟩ = some (.slice A n c) ∧ w'.cell? ⟨b3, 5, none⟩ = some (.slice Av q cv)) wr.drew := ⟨by simpa using g0, by simpa using g1, by simpa using c5⟩
      refine Tl.headX_region (S := fun w' : World => w'.cell? ⟨b0, 0, none⟩ = some (.int .i64 (V : Int)) ∧ w'.cell? ⟨b0, 1, none⟩ = some (.slice A n c) ∧ w'.cell? ⟨b3, 5, none⟩ = some (.slice Av q cv)) 10 (by kernel_rfl) (by decide) ?_
      refine Tl.headX_tk 0 ?v0_1 rfl (by kernel_rfl) (by decide) (by kernel_rfl) (by kernel_rfl) (by kernel_rfl) (fun _ _ _ h => h) (by rfl) (fun W hSw => ?hy0_1) hS ?_
      case hy0_1 => ((try dsimp only at hSw); go_simp; try with_reducible rfl)
      simp only [Act.put, List.setIfInBounds_toArray, List.set_cons_zero, List.set_cons_succ]
      refine Tl.headX_tk 1 ?v1_2 rfl (by kernel_rfl) (by decide) (by kernel_rfl) (by kernel_rfl) (by kernel_rfl) (fun _ _ _ h => h) (by rfl) (fun W hSw => ?hy1_2) hS ?_
      case hy1_2 => ((try dsimp only at hSw); go_simp; try with_reducible rfl)
      simp only [Act.put, List.setIfInBounds_toArray, List.set_cons_zero, List.set_cons_succ]
      refine Tl.headX_tk 2 ?v2_3 rfl (by kernel_rfl) (by decide) (by kernel_rfl) (by kernel_rfl) (by kernel_rfl) (fun _ _ _ h => h) (by rfl) (fun W hSw => ?hy2_3) hS ?_
      case hy2_3 => ((try dsimp only at hSw); go_simp; try with_reducible rfl)
      simp only [Act.put, List.setIfInBounds_toArray, List.set_cons_zero, List.set_cons_succ]
      refine Tl.headX_tk 3 ?v3_4 rfl (by kernel_rfl) (by decide) (by kernel_rfl) (by kernel_rfl) (by kernel_rfl) (fun _ _ _ h => h) (by rfl) (fun W hSw => ?hy3_4) hS ?_
      case hy3_4 => ((try dsimp only at hSw); go_simp; try with_reducible rfl)
      simp only [Act.put, List.setIfInBounds_toArray, List.set_cons_zero, List.set_cons_succ]
      refine Tl.headX_tk 5 ?v5_5 rfl (by kernel_rfl) (by decide) (by kernel_rfl) (by kernel_rfl) (by kernel_rfl) (fun _ _ _ h => h) (by rfl) (fun W hSw => ?hy5_5) hS ?_
      case hy5_5 => ((try dsimp only at hSw); go_simp; try with_reducible rfl)
      simp only [Act.put, List.setIfInBounds_toArray, List.set_cons_zero, List.set_cons_succ]
      refine Tl.headX_tk 6 ?v6_6 rfl (by kernel_rfl) (by decide) (by kernel_rfl) (by kernel_rfl) (by kernel_rfl) (fun _ _ _ h => h) (by rfl) (fun W hSw => ?hy6_6) hS ?_
      case hy6_6 => ((try dsimp only at hSw); go_simp; try with_reducible rfl)
      simp only [Act.put, List.setIfInBounds_toArray, List.set_cons_zero, List.set_cons_succ]
      refine Tl.headX_cl 4 _ _ rfl (by decide) (by kernel_rfl) (by rfl) ?he4 (HO.out wr.drew HS.out) ?_
      case he4 => (go_simp; try with_reducible rfl)
      rintro x w5 hx5
      have HX5 := Lib.hid hx5.out.1
      have HH5 := Lib.hid ((HH.out.step HBD.out).step hx5.out.2)
      obtain ⟨Ax, cx, rfl, _⟩ := HX5.out.form
      obtain ⟨nx, hnx⟩ : ∃ m, m = (outE L (q : Int)).length := ⟨_, rfl⟩
      rw [← hnx] at HX5 ⊢
      clear hx5 hnx hS g0 g1 gl c5 cl fr5
      obtain ⟨g0, g1, gl⟩ := two HH5.out.gb
      obtain ⟨_, _, _, _, _, c5, cl⟩ := six HH5.out.cb
      refine ⟨⟨g0, g1, c5⟩, ?_⟩
      simp only [Act.put, List.setIfInBounds_toArray, List.set_cons_zero, List.set_cons_succ]
      refine Tl.headX_cl 7 _ _ rfl (by decide) (by kernel_rfl) (by rfl) ?he7 (HK.out w5 HH5.out.below) ?_
      case he7 => (go_simp; try with_reducible rfl)
      rintro y w6 hx6
      have HY6 := Lib.hid hx6.out.1
      have HH6 := Lib.hid (HH5.out.step hx6.out.2)
      have HX6 := Lib.hid (HX5.out.below hx6.out.2)
      obtain ⟨Ay, cy, rfl, _⟩ := HY6.out.form
      obtain ⟨ny, hny⟩ : ∃ m, m = (bckE L (q : Int)).length := ⟨_, rfl⟩
      rw [← hny] at HY6 ⊢
      have HB56 : Hid (b3 + 1 ≤ w5.heap.size) := Lib.hid cl
      clear hx6 hny g0 g1 gl c5 cl
      obtain ⟨g0, g1, gl⟩ := two HH6.out.gb
      obtain ⟨_, _, _, _, _, c5, cl⟩ := six HH6.out.cb
      have hS : (fun w' : World => w'.cell? ⟨b0, 0, none⟩ = some (.int .i64 (V : Int)) ∧ w'.cell? ⟨b0, 1, none⟩ = some (.slice A n c) ∧ w'.cell? ⟨b3, 5, none⟩ = some (.slice Av q cv)) w6 := ⟨g0, g1, c5⟩
      refine ⟨hS, ?_⟩
      simp only [Act.put, List.setIfInBounds_toArray, List.set_cons_zero, List.set_cons_succ]
      refine Tl.headX_tk 8 ?v8_7 rfl (by kernel_rfl) (by decide) (by kernel_rfl) (by kernel_rfl) (by kernel_rfl) (fun _ _ _ h => h) (by rfl) (fun W hSw => ?hy8_7) hS ?_
      case hy8_7 => ((try dsimp only at hSw); go_simp; try with_reducible rfl)
      simp only [Act.put, List.setIfInBounds_toArray, List.set_cons_zero, List.set_cons_succ]
      have HB7 : Hid (Below w6.heap.size w6 (w6.alloc (.cells #[.slice Ax nx cx, .slice Ay ny cy] 85))) := Lib.hid ((Below.refl _ w6).alloc (Nat.le_refl _) _)
      have HH7 := Lib.hid (HH6.out.step HB7.out)
      have HO7 := Lib.hid HH7.out.own
      have HX7 : Hid (EOwn (w6.alloc (.cells #[.slice Ax nx cx, .slice Ay ny cy] 85)) (b3 + 1) (.slice Ax nx cx) (outE L (q : Int))) := Lib.hid (own_mono (HX6.out.below HB7.out) HB3.out.2)
      have HY7 : Hid (EOwn (w6.alloc (.cells #[.slice Ax nx cx, .slice Ay ny cy] 85)) (b3 + 1) (.slice Ay ny cy) (bckE L (q : Int))) := Lib.hid (own_mono (HY6.out.below HB7.out) HB56.out)
      have HN7 := Lib.hid (new_w w6 (.slice Ax nx cx) (.slice Ay ny cy))
      have HZ7 : Hid (b3 + 1 ≤ (w6.alloc (.cells #[.slice Ax nx cx, .slice Ay ny cy] 85)).heap.size) := Lib.hid (lt_of_block HH7.out.cb)
      obtain ⟨g07, g17, _⟩ := two HH7.out.gb
      obtain ⟨_, _, _, _, _, c57, _⟩ := six HH7.out.cb
      refine Tl.headX_vl 9 ?v9_8 ?w9_8 rfl (by decide) (by kernel_rfl) (by rfl) ?hy9_8 ?hs9_8 ?_
      case hy9_8 => (go_simp; first | (constructor <;> with_reducible rfl) | with_reducible rfl)
      case hs9_8 => exact ⟨g07, g17, c57⟩
      simp only [Act.put, List.setIfInBounds_toArray, List.set_cons_zero, List.set_cons_succ]
      refine Tl.headX_rest (by kernel_rfl) ?_
      simp only [List.drop_succ_cons, List.drop_zero]
      clear hS HO HK HX6 HY6 HX5 g0 g1 gl c5 cl g07 g17 c57
      go_wp2_with (at_builtin; refine app_w rfl (.tmp 15) (.tmp 23) rfl (b3 + 1) _ _ _ _ _ _ rfl HO7.out _ rfl HN7.out HX7.out HY7.out HLEN.out HZ7.out ?_)
      intro v8 w8 ho8 hg8
      have HH8 := Lib.hid (HH7.out.grown hg8 HB3.out.1 ho8)
      obtain ⟨A8, c8, rfl, _⟩ := ho8.form
      rw [show ((egs V L).take q ++ [(outE L (q : Int), bckE L (q : Int))]).length = q + 1 by rw [egs_next hlt, List.length_take, egs_len]; omega] at HH8 ⊢
      clear hg8 ho8
      have HH9 := Lib.hid (HH8.out.put HLO.out.2.1 HLO.out.2.2.2.1 HLO.out.2.2.2.2.1)
      rw [egs_next hlt] at HH9
      obtain ⟨_, _, _, _, _, c5, cl⟩ := six HH8.out.cb
      have fr8 := warm HH8.out.cb 5
      go_wp2
      go_roundg (gk - 1)
      case measure => omega
      case rel => exact ⟨q + 1, _, by omega, by go_num, HH9⟩
    · obtain rfl : q = V := by omega
      rw [List.take_of_length_le (by rw [egs_len]; exact Nat.le_refl _)] at HH
      obtain ⟨Av, cv, rfl, _⟩ := HH.out.own.form
      obtain ⟨qn, hqn⟩ : ∃ m, m = (egs q L).length := ⟨_, rfl⟩
      rw [← hqn] at HH
      clear hqn
      have HB3' : Hid (w.heap.size ≤ b3 + 1) := Lib.hid (by have := HLO.out; omega)
      obtain ⟨c0, c1, c2, c3, c4, c5, cl⟩ := six HH.out.cb
      obtain ⟨r0, r1, r2, r3, r4, r5, rl⟩ := six HH.out.rb
      have f0 := warm HH.out.rb 0; have f1 := warm HH.out.rb 1; have f2 := warm HH.out.rb 2; have f3 := warm HH.out.rb 3; have f4 := warm HH.out.rb 4; have f5 := warm HH.out.rb 5
      go_wp2
      have h6 := put6_heap HH.out.rb (.int .u8 k) (.int .i64 st) (.int .i64 so) (.int .i64 dm) (.int .i64 ep) (.slice Av qn cv)
      have ho := own_mono_w (HH.out.own.moved HH.out.rb (by decide) (by decide) (fun j hj => put6_other wr b2 j (.int .u8 k) (.int .i64 st) (.int .i64 so) (.int .i64 dm) (.int .i64 ep) (.slice Av qn cv) hj)) HB3'.out
      have hb := put6_below HH.out.below HLO.out.1 (.int .u8 k) (.int .i64 st) (.int .i64 so) (.int .i64 dm) (.int .i64 ep) (.slice Av qn cv)
      unfold put6 at h6 ho hb
      exact bodyPost_ret (v := .agg #[.int .u8 k, .int .i64 st, .int .i64 so, .int .i64 dm, .int .i64 ep, .slice Av qn cv]) (res_c _ _ _ _ _ _ _ _ _ _ _ Tryz.results34 rfl h6) rfl ⟨_, rfl, Lib.hid ho, Lib.hid hb⟩

end Go.Proofs.YtbbmgandkmlojaaGreat.Sq

/-
  What is proved here: a loop over a function, where what a round is handed may be known by the world that it is handed in (R), and where the loop's variables lie in boxes that each round makes (R'). No program; the library's laws of a loop's record are what it rests on.
-/
namespace Go.Proofs.YtbbmgandkmlojaaGreat.Pt
open Go.RowKit

/- An iterator's contract: R tells what is known of what a round is handed. -/
def Told {α : Type} (F : Fence) (n : Nat) (P : Program) (g : Nat) (lb : Array Value) (encs : α → Array Value) (R : α → World → Prop) (Kp : World → World → Prop) (S Sp : List α → Prop) (N : Nat) (w : World) : Prop :=
  ∀ (l : Nat) (J Jx : List α → World → Prop) (W : World), Below w.heap.size w W → AbidesFrom W.heap.size J → AbidesFrom W.heap.size Jx →
    (∀ pre x W1, J pre W1 → R x W1 → pre.length < N → YieldAt F (n - 1) P l (encs x) W1 fun e W' =>
      (e = .returned (.bool true) ∧ J (pre ++ [x]) W' ∧ Kp W1 W') ∨ (e = .returned (.bool false) ∧ Jx (pre ++ [x]) W')) →
    J [] W →
    CallsIn F n P g (#[.func (.yield l) #[] #[]] ++ lb) W fun e W' => (∃ v, e = .returned v) ∧ ((∃ xs, S xs ∧ J xs W') ∨ (∃ pre, Sp pre ∧ Jx pre W'))

variable {F : Fence} {n : Nat} {P : Program}
set_option maxHeartbeats 1000000 in
theorem wp_told {α : Type} {g : Operand} {ps : Array Tmp} {assign body : Code} {Q : Exit → Act → World → Prop} {a : Act} {w : World}
    (hro : F.round = none) (h1 : 1 ≤ n) {gf : Nat} {lb : Array Value} (hg : a.eval g = .func (.func gf) #[] lb) (hFg : F.fn gf) (eg : ∀ args w, (callFunc gf args).run P w = .ok (.enter gf args) w)
    {encs : α → Array Value} {R : α → World → Prop} {R' : α → Act → World → Prop} {Kp : World → World → Prop} {S Sp : List α → Prop} {N : Nat} {w0 : World} (hseq : Told F (n - 1) P gf lb encs R Kp S Sp N w0)
    (hKt : ∀ {A B C : World}, Kp A B → Kp B C → Kp A C) (hKb : ∀ (W : World) (l : Nat) (o o' : Obj), w.heap.size ≤ l → W.heap[l]? = some o → o.isCells = false → o.isWalk = false → Kp W (W.putObj l o')) (hb0 : Below w0.heap.size w0 w) (hps : ∀ x, (encs x).size = ps.size)
    (hRk : ∀ x a' W l o o', W.heap[l]? = some o → o.isCells = false → R' x a' W → R' x a' (W.putObj l o'))
    (I : List α → World → Prop) (Ix : Code → List α → World → Prop) (hI : OwnFrom w.heap.size I) (hIx : ∀ c, OwnFrom w.heap.size (Ix c)) (h0 : I [] w)
    (hassign : ∀ (l : Nat) (pre : List α) (x : α) (W : World) (K : Act → World → Prop), I pre W → R x W → (∀ a' W', KeepsOthers W W' → Kp W W' → I pre W' → R' x a' W' → K a' W') →
      assign.wpIn (F.inRound l) (n - 1 - 1) P (Exit.then K (fun _ _ _ => False)) { tmps := (ps.zip (encs x)).foldl (fun t (p, v) => t.setIfInBounds p v) a.tmps, defers := [] } W)
    (hbody : ∀ (l : Nat) (pre : List α) (x : α) (a' : Act) (W : World), I pre W → R' x a' W → pre.length < N → body.wpIn (F.inRound l) (n - 1 - 1) P (ownPostK Kp I Ix (pre ++ [x]) W) a' W)
    (hdone : ∀ (D : Nat) (xs : List α) (W : World), w.heap.size ≤ D → S xs → I xs W → W.heap[D]? = some (.deferred (some [])) → Q .normal { a with defers := { target := .collected D, args := #[] } :: a.defers } W)
    (hstop : ∀ (D : Nat) (c : Code) (pre : List α) (W : World), w.heap.size ≤ D → Sp pre → Ix c pre W → W.heap[D]? = some (.deferred (some [])) → c.wpIn F n P Q { a with defers := { target := .collected D, args := #[] } :: a.defers } W) :
    (Code.rangeFunc g ps assign body).wpIn F n P Q a w := by
  refine wpIn_rangeFunc fun fn hfn => ?_
  rw [hro]
  obtain ⟨rc, hrc⟩ : ∃ rc : LoopState → Option Code → Loop, rc = fun st pe => { state := st, pending := pe, fn, tmps := a.tmps, params := ps, assign, body, defers := w.heap.size } := ⟨_, rfl⟩
  obtain ⟨V, hV⟩ : ∃ V, (w.alloc (.deferred (some []))).alloc (.loop (rc .ready none)) = V := ⟨_, rfl⟩
  have v1 : V.heap[w.heap.size + 1]? = some (.loop (rc .ready none)) := by
    rw [← hV]; have := World.alloc_heap_new (w.alloc (.deferred (some []))) (.loop (rc .ready none)); rwa [World.size_alloc] at this
  have v0 : V.heap[w.heap.size]? = some (.deferred (some [])) := by
    rw [← hV]; exact (Below.heap_alloc _ _ _ (by simp)).trans (World.alloc_heap_new w _)
  have vI : I [] V := by rw [← hV]; exact hI.alloc _ (hI.alloc _ h0)
  have vB : Below w0.heap.size w0 V := by
    rw [← hV]; exact hb0.trans ((((Below.refl _ w).alloc (Nat.le_refl _) _).alloc (by simp) _).mono hb0.size)
  have vs : V.heap.size = w.heap.size + 2 := by rw [← hV]; simp
  refine ⟨w.heap.size + 1, [{ target := .collected w.heap.size, args := #[] }], V, { target := .fn (.func gf) lb, args := #[.func (.yield (w.heap.size + 1)) #[] #[]] }, V, gf,
    #[.func (.yield (w.heap.size + 1)) #[] #[]] ++ lb, V, ?_, ?_, ?_, ?_, fun _ => h1, ?_⟩
  · rw [← hV, hrc]; exact run_enterLoop_outer _ _ _ _ _
  · simp only [resolve, hg]
    simp [go_sem]
  · intro f' hf'; simp [Target.leads] at hf'; subst hf'; exact hFg
  · simp [invoke, go_sem, eg]
  · have far : ∀ {A : World} {row : Option Nat}, (∀ r, row = some r → V.heap.size ≤ r ∧ ∃ o : Obj, A.heap[r]? = some o ∧ o.isWalk = true) → (∀ r, row = some r → w.heap.size ≤ r ∧ ∃ o : Obj, A.heap[r]? = some o ∧ o.isCells = false) :=
      fun hr r e => by obtain ⟨hB, o, ho, hw⟩ := hr r e; exact ⟨by omega, o, ho, Obj.not_cells_of_walk hw⟩
    refine (hseq (w.heap.size + 1)
      (fun pre W => I pre W ∧ W.heap[w.heap.size + 1]? = some (.loop (rc .ready none)) ∧ W.heap[w.heap.size]? = some (.deferred (some [])))
      (fun pre W => ∃ c, Ix c pre W ∧ W.heap[w.heap.size + 1]? = some (.loop (rc .done (some c))) ∧ W.heap[w.heap.size]? = some (.deferred (some [])))
      V vB ?_ ?_ ?_ ⟨vI, v1, v0⟩).mono ?_
    · intro s A B row hs hgr hr
      exact ⟨hI s A B row hs.1 hgr (far hr), (grownBy_keeps hgr (fun r e => (hr r e).2) hs.2.1 rfl).trans hs.2.1, (grownBy_keeps hgr (fun r e => (hr r e).2) hs.2.2 rfl).trans hs.2.2⟩
    · rintro s A B row ⟨c, hc, hl, hk⟩ hgr hr
      exact ⟨c, hIx c s A B row hc hgr (far hr), (grownBy_keeps hgr (fun r e => (hr r e).2) hl rfl).trans hl, (grownBy_keeps hgr (fun r e => (hr r e).2) hk rfl).trans hk⟩
    · rintro pre x W ⟨hi, hl, hk⟩ hR hlen
      have hy := run_yield (P := P) (args := encs x) hl (by rw [hrc]; exact hps x)
      rw [hrc] at hy
      refine ⟨fn, _, assign, body, hy, roundIn_of_wpIn hfn (hassign _ pre x W _ hi hR fun a' W' hko hkp hi' hR' => ?_)⟩
      have hl' := hko.same _ _ hl rfl
      have hk' := hko.same _ _ hk rfl
      have hlt : w.heap.size + 1 < W'.heap.size := (Array.getElem?_eq_some_iff.1 hl').1
      refine ⟨_, run_beginRound hl' (by rw [hrc]), ?_⟩
      obtain ⟨W2, hW2⟩ : ∃ W2, W'.putObj (w.heap.size + 1) (.loop { rc .ready none with state := .busy }) = W2 := ⟨_, rfl⟩
      have hl2 : W2.heap[w.heap.size + 1]? = some (.loop { rc .ready none with state := .busy }) := by rw [← hW2]; exact World.putObj_heap_same hlt
      have hk2 : W2.heap[w.heap.size]? = some (.deferred (some [])) := by rw [← hW2]; exact (World.putObj_heap_other (by omega)).trans hk'
      have hw2 : Kp W' W2 := by rw [← hW2]; exact hKb _ _ _ _ (by omega) hl' rfl rfl
      have hi2 : I pre W2 := by rw [← hW2]; exact hI.putObj _ hi' (by omega) hl' rfl
      have hR2 : R' x a' W2 := by rw [← hW2]; exact hRk _ _ _ _ _ _ hl' rfl hR'
      rw [hW2]
      refine wpIn_mono (hbody _ pre x a' W2 hi2 hR2 hlen) ?_
      have fin : ∀ (jump : Option Code) (W3 : World), KeepsOthers W2 W3 →
          (Instr.endRound (w.heap.size + 1) jump).run P W3 = .ok (.bool jump.isNone) (W3.putObj (w.heap.size + 1) (.loop (rc (if jump.isNone then .ready else .done) jump))) ∧
          W3.heap[w.heap.size + 1]? = some (.loop { rc .ready none with state := .busy }) ∧
          (W3.putObj (w.heap.size + 1) (.loop (rc (if jump.isNone then .ready else .done) jump))).heap[w.heap.size + 1]? = some (.loop (rc (if jump.isNone then .ready else .done) jump)) ∧
          (W3.putObj (w.heap.size + 1) (.loop (rc (if jump.isNone then .ready else .done) jump))).heap[w.heap.size]? = some (.deferred (some [])) := fun jump W3 hk3 => by
        have hl3 := hk3.same _ _ hl2 rfl
        have := run_endRound (P := P) jump hl3
        rw [hrc] at this ⊢
        exact ⟨this, by rw [hrc] at hl3; exact hl3, World.putObj_heap_same (Array.getElem?_eq_some_iff.1 hl3).1, (World.putObj_heap_other (by omega)).trans (hk3.same _ _ hk2 rfl)⟩
      have out : ∀ (c : Code) (W3 : World), KeepsOthers W2 W3 → Ix c (pre ++ [x]) W3 → ∃ c', Ix c' (pre ++ [x]) (W3.putObj (w.heap.size + 1) (.loop (rc .done (some c)))) ∧ (W3.putObj (w.heap.size + 1) (.loop (rc .done (some c)))).heap[w.heap.size + 1]? = some (.loop (rc .done (some c'))) ∧ (W3.putObj (w.heap.size + 1) (.loop (rc .done (some c)))).heap[w.heap.size]? = some (.deferred (some [])) := fun c W3 hk3 hi3 => by
        obtain ⟨_, hl3, hl4, hk4⟩ := fin (some c) W3 hk3
        exact ⟨c, (hIx _).putObj _ hi3 (by omega) hl3 rfl, hl4, hk4⟩
      rintro e a3 W3 hp
      cases e with
      | normal =>
        obtain ⟨hk3, hkp3, hi3⟩ := hp
        obtain ⟨hr, hl3, hl4, hk4⟩ := fin none W3 hk3
        exact ⟨_, _, hr, .inl ⟨rfl, ⟨hI.putObj _ hi3 (by omega) hl3 rfl, hl4, hk4⟩, hKt (hKt (hKt hkp hw2) hkp3) (hKb _ _ _ _ (by omega) hl3 rfl rfl)⟩⟩
      | ret => exact ⟨_, _, (fin (some .ret) W3 hp.1).1, .inr ⟨rfl, out _ W3 hp.1 hp.2⟩⟩
      | exit id => exact ⟨_, _, (fin (some (.exit id)) W3 hp.1).1, .inr ⟨rfl, out _ W3 hp.1 hp.2⟩⟩
      | goto t => exact ⟨_, _, (fin (some (.goto t)) W3 hp.1).1, .inr ⟨rfl, out _ W3 hp.1 hp.2⟩⟩
      | panic ch => exact hp.elim
      | outgrown => exact hp.elim
    · rintro e W2 ⟨⟨v, rfl⟩, (⟨xs, hS, hi, hl, hk⟩ | ⟨pre, hSp, c, hi, hl, hk⟩)⟩
      · exact ⟨none, _, by have := run_endLoop (P := P) hl (by rw [hrc]; simp); rw [hrc] at this; exact this, hdone _ xs _ (Nat.le_refl _) hS (hI.putObj _ hi (by omega) hl rfl) ((World.putObj_heap_other (by omega)).trans hk)⟩
      · exact ⟨some c, _, by have := run_endLoop (P := P) hl (by rw [hrc]; simp); rw [hrc] at this; exact this, hstop _ c pre _ (Nat.le_refl _) hSp ((hIx c).putObj _ hi (by omega) hl rfl) ((World.putObj_heap_other (by omega)).trans hk)⟩

end Go.Proofs.YtbbmgandkmlojaaGreat.Pt

/-
  What is proved here: contracts of the function that hands out each vertex with its edges. Conditions: at most 100000 vertices.
-/
namespace Go.Proofs.YtbbmgandkmlojaaGreat.Sq
open Go.RowKit Go.Shelf Gr Wd Ws Fx Rk Lb Al In
attribute [local go_sem] Oper.semAt_some

/- What a round is handed. -/
structure Vx where
  v : Nat
  o : Value
  b : Value
def encsV (x : Vx) : Array Value := #[.int .i64 (x.v : Int), .agg #[x.o, x.b]]
def RV (Ls : List Eg) (x : Vx) (W : World) : Prop := ∃ (L : Eg) (B : Nat), Ls[x.v]? = some L ∧ EOwn W B x.o L.1 ∧ EOwn W B x.b L.2
theorem WOwn.at {w : World} {B : Nat} {v : Value} {Ls : List Eg} (h : WOwn w B v Ls) : ∃ (A : Option Addr) (c : Nat), v = .slice A Ls.length c ∧ ∀ (k : Nat) (L : Eg), Ls[k]? = some L → ∃ bk o A1 c1 A2 c2, A = some ⟨bk, o, none⟩ ∧ w.cell? ⟨bk, o + k * 2, none⟩ = some (.slice A1 L.1.length c1) ∧ w.cell? ⟨bk, o + k * 2 + 1, none⟩ = some (.slice A2 L.2.length c2) ∧ EOwn w B (.slice A1 L.1.length c1) L.1 ∧ EOwn w B (.slice A2 L.2.length c2) L.2 := by
  obtain ⟨xs, ⟨h0, h1 | ⟨g, cap, cur, h1, h2, h3, h4, h5, h6, h7⟩⟩, he⟩ := h
  · have : Ls = [] := List.eq_nil_of_length_eq_zero h1.2
    subst this
    exact ⟨none, 0, h1.1, fun k L hk => by simp at hk⟩
  · refine ⟨some ⟨g, 0, none⟩, cap, h1, fun k L hx => ?_⟩
    have hk := lt_at hx
    obtain ⟨x, y, hx1, hx2, hx3, hx4⟩ := he.2 k L hx
    obtain ⟨A1, c1, rfl, _⟩ := hx3.form
    obtain ⟨A2, c2, rfl, _⟩ := hx4.form
    have key : ∀ j, j < Ls.length * 2 → w.cell? ⟨g, 0 + j, none⟩ = xs[j]? := fun j hj => by
      rw [Nat.zero_add, cell_of_row w g j _ 85 (0, 0) h3]
      have e1 : cur[j]? = (cur.toList.take (Ls.length * 2))[j]? := by
        rw [List.getElem?_take, if_pos hj, Array.getElem?_toList]
      rw [e1, h7]
    refine ⟨g, 0, A1, c1, A2, c2, rfl, ?_, ?_, hx3, hx4⟩
    · rw [key _ (by omega)]; exact hx1
    · rw [Nat.add_assoc, key _ (by omega)]; exact hx2
/- What the rounds leave: boxes of what is kept, rows of it, edges. -/
def Kq (W W' : World) : Prop := ∀ (i : Nat) (c : Array Value) (T : TypeId) (fz : Nat × Nat), (T = 61 ∨ T = 85 ∨ T = 58) → W.heap[i]? = some (.cells c T fz) → W'.heap[i]? = W.heap[i]?
theorem Kq.refl (W : World) : Kq W W := fun _ _ _ _ _ _ => rfl
theorem Kq.trans {A B C : World} (h : Kq A B) (k : Kq B C) : Kq A C := fun i c T fz hT hi => by
  have h1 := h i c T fz hT hi
  exact (k i c T fz hT (h1.trans hi)).trans h1
theorem Kq.below {A B : World} (h : Below A.heap.size A B) : Kq A B := fun i _ _ _ _ hi => h.block i (lt_of_block hi)
theorem Kq.grown {w w' : World} {B s n : Nat} {T : TypeId} {v : Value} {xs : List Value} (h : w.ownsRow B T s v n xs) (hg : w.grownBy w' v.ownBlock) (h1 : T ≠ 61) (h2 : T ≠ 85) (h3 : T ≠ 58) : Kq w w' := fun i c T' fz hT hi => by
  rw [box_other hi h (by
    rcases hT with rfl | rfl | rfl
    · exact Ne.symm h1
    · exact Ne.symm h2
    · exact Ne.symm h3) hg, hi]
theorem Kq.moved {w w' : World} {b : Nat} {T : TypeId} {c : Array Value} (hb : w.heap[b]? = some (.cells c T (0, 0))) (ho : ∀ k, k ≠ b → w'.heap[k]? = w.heap[k]?) (h1 : T ≠ 61) (h2 : T ≠ 85) (h3 : T ≠ 58) : Kq w w' := fun i c' T' fz hT hi => ho i fun e => by
  subst e; rw [hb] at hi; injection hi with hi; injection hi with _ hi _
  rcases hT with rfl | rfl | rfl
  · exact h1 hi
  · exact h2 hi
  · exact h3 hi
theorem Kq.obj {n : Nat} (W : World) (l : Nat) (o o' : Obj) (_ : n ≤ l) (h : W.heap[l]? = some o) (ho : o.isCells = false) (_ : o.isWalk = false) : Kq W (W.putObj l o') := fun i c T fz _ hi => by
  refine World.putObj_heap_other ?_
  intro e; subst e; rw [h] at hi; injection hi with hi; subst hi; cases ho
theorem own_kq {w w' : World} {B s n : Nat} {T : TypeId} {v : Value} {xs : List Value} (h : w.ownsRow B T s v n xs) (hT : T = 61 ∨ T = 85 ∨ T = 58) (hk : Kq w w') : w'.ownsRow B T s v n xs :=
  own_kept h fun g c fz _ hc => hk g c T fz hT hc
theorem WOwn.kq {w w' : World} {B : Nat} {v : Value} {Ls : List Eg} (h : WOwn w B v Ls) (hk : Kq w w') : WOwn w' B v Ls := by
  obtain ⟨xs, h1, h2⟩ := h
  exact ⟨xs, own_kq h1 (.inr (.inl rfl)) hk, h2.1, fun k L hL => by obtain ⟨x, y, e1, e2, e3, e4⟩ := h2.2 k L hL; exact ⟨x, y, e1, e2, own_kq e3 (.inr (.inr rfl)) hk, own_kq e4 (.inr (.inr rfl)) hk⟩⟩
structure ItV (W : World) (b B : Nat) (k st so dm ep : Int) (v : Value) (Ls : List Eg) : Prop where
  box : W.heap[b]? = some (.cells #[.int .u8 k, .int .i64 st, .int .i64 so, .int .i64 dm, .int .i64 ep, v] 61 (0, 0))
  row : WOwn W B v Ls
theorem ItV.kq {W W' : World} {b B : Nat} {k st so dm ep : Int} {v : Value} {Ls : List Eg} (h : ItV W b B k st so dm ep v Ls) (hk : Kq W W') : ItV W' b B k st so dm ep v Ls :=
  ⟨(hk b _ _ _ (.inl rfl) h.box).trans h.box, h.row.kq hk⟩

theorem vertices_any (k st so dm ep : Int) (A : Option Addr) (n c : Nat) (w : World) :
    Calls Tryz.prog 55 #[.agg #[.int .u8 k, .int .i64 st, .int .i64 so, .int .i64 dm, .int .i64 ep, .slice A n c]] w fun e w' => e = .returned (.func (.func 79) #[] #[.pointer (some ⟨w.heap.size, 0, none⟩)]) ∧ w' = w.alloc (.cells #[.int .u8 k, .int .i64 st, .int .i64 so, .int .i64 dm, .int .i64 ep, .slice A n c] 61) := by
  go_enter Tryz.func55, Tryz.ntmps55
  go_wp2
  go_ret
  exact ⟨rfl, rfl⟩

theorem told_bool {e : Ending} {W : World} {X Y : World → Prop} (h : (e = .returned (.bool true) ∧ X W) ∨ (e = .returned (.bool false) ∧ Y W)) : ∃ b : Bool, e = .returned (.bool b) ∧ Hid ((b = true → X W) ∧ (b = false → Y W)) := by
  rcases h with ⟨rfl, h⟩ | ⟨rfl, h⟩
  · exact ⟨true, rfl, Lib.hid ⟨fun _ => h, fun h => by cases h⟩⟩
  · exact ⟨false, rfl, Lib.hid ⟨fun h => (by cases h), fun _ => h⟩⟩
theorem below_grown {w w' : World} (h : Below w.heap.size w w') : w.grownBy w' none := ⟨h.os, h.tape, h.output, h.size, fun i hi _ => h.block i hi⟩
def TdRel (J : List Vx → World → Prop) (b B : Nat) (k st so dm ep : Int) (v : Value) (Ls : List Eg) (m : Nat) (i : Value) (wr : World) : Prop :=
  ∃ (j : Nat) (pre : List Vx), j ≤ m ∧ i = .int .i64 (j : Int) ∧ pre.length = j ∧ Hid (pre.map Vx.v = List.range j) ∧ Hid (J pre wr) ∧ Hid (ItV wr b B k st so dm ep v Ls)

set_option maxRecDepth 100000 in
set_option maxHeartbeats 4000000 in
theorem vert_told (n : Nat) (hn : 1 ≤ n) (b B : Nat) (k st so dm ep : Int) (v : Value) (Ls : List Eg) (m : Nat) (w : World) (h : ItV w b B k st so dm ep v Ls) (hm : Ls.length = m) (hl : m ≤ 100000) :
    Pt.Told Fence.wide n Tryz.prog 79 #[.pointer (some ⟨b, 0, none⟩)] encsV (RV Ls) Kq (fun xs => xs.map Vx.v = List.range m) (fun _ => True) m w := by
  intro lp J Jx W hW hJ hJx hY h0
  have mixed := mixedI
  have H := Lib.hid (h.kq (Kq.below hW)); have HM := Lib.hid hm; clear h hm hW
  have hY2 : ∀ pre x W1, J pre W1 → RV Ls x W1 → pre.length < m → YieldAt Fence.wide (n - 1) Tryz.prog lp (encsV x) W1 fun e W' => ∃ b : Bool, e = .returned (.bool b) ∧ Hid ((b = true → J (pre ++ [x]) W' ∧ Kq W1 W') ∧ (b = false → Jx (pre ++ [x]) W')) :=
    fun pre x W1 h1 h2 h3 => (hY pre x W1 h1 h2 h3).mono fun e W' h => told_bool (X := fun W => J (pre ++ [x]) W ∧ Kq W1 W) (Y := fun W => Jx (pre ++ [x]) W) h
  clear hY
  have f51 : Fence.wide.fn 79 := trivial
  refine callsIn_of_wp Tryz.func79 rfl f51 ?_ rfl
  simp only [Tryz.ntmps79, List.size_toArray, List.length_cons, List.length_nil, Nat.reduceAdd, Nat.reduceSub, Array.replicate_succ, Array.replicate_zero, List.push_toArray, List.append_toArray, List.nil_append, List.cons_append]
  obtain ⟨Av, cv, rfl, _⟩ := H.out.row.form
  rw [HM.out] at H
  obtain ⟨_, _, _, _, _, x5, xl⟩ := six H.out.box
  gi_wp2
  gi_loopw [8] (fun i wr => TdRel J b B k st so dm ep (.slice Av m cv) Ls m i wr) (fun i _ => m - (intOf i).toNat)
  case atStart => exact ⟨0, [], Nat.zero_le _, rfl, rfl, Lib.hid rfl, Lib.hid h0, H⟩
  case round =>
    obtain ⟨j, pre, hj, rfl, hlen, HP, HJ, HI⟩ := hrel
    clear x5 xl H
    by_cases hlt : j < m
    · obtain ⟨L, hL⟩ := at_lt Ls j (by rw [HM.out]; exact hlt)
      obtain ⟨A', c', e', hWA⟩ := HI.out.row.at
      rw [HM.out] at e'
      cases e'
      obtain ⟨bk, o, A1, c1, A2, c2, rfl, y0, y1, hE1, hE2⟩ := hWA j L hL
      obtain ⟨n1, hn1⟩ : ∃ n1, n1 = L.1.length := ⟨_, rfl⟩
      obtain ⟨n2, hn2⟩ : ∃ n2, n2 = L.2.length := ⟨_, rfl⟩
      rw [← hn1] at y0; rw [← hn2] at y1
      have HN1 := Lib.hid hn1; have HN2 := Lib.hid hn2; have HE1 := Lib.hid hE1; have HE2 := Lib.hid hE2; have HL := Lib.hid hL
      clear hn1 hn2 hE1 hE2 hL hWA
      obtain ⟨W4, hW4⟩ : ∃ W4, W4 = wr.alloc (.cells #[.slice A1 n1 c1, .slice A2 n2 c2] 85) := ⟨_, rfl⟩
      have hb4 : Below wr.heap.size wr W4 := by rw [hW4]; exact (Below.refl _ wr).alloc (Nat.le_refl _) _
      have HI4 := Lib.hid (HI.out.kq (Kq.below hb4))
      have hRV : RV Ls ⟨j, .slice A1 n1 c1, .slice A2 n2 c2⟩ W4 := ⟨L, B, HL.out, by rw [HN1.out]; exact HE1.out.below hb4, by rw [HN2.out]; exact HE2.out.below hb4⟩
      obtain ⟨fn, tmps, assign, body, hy, hR⟩ := hY2 pre ⟨j, .slice A1 n1 c1, .slice A2 n2 c2⟩ W4 (hJ pre wr W4 none HJ.out (below_grown hb4) (fun r e => by cases e)) hRV (by omega)
      dsimp only [encsV] at hy
      clear hb4 hRV
      rw [hW4] at hy hR
      gi_wp2
      refine hR.mono ?_
      rintro e w6 ⟨q, rfl, HH⟩
      clear hy hR y0 y1
      rw [← hW4] at HH
      cases q with
      | true =>
        have HH2 := Lib.hid (HH.out.1 rfl)
        gi_wp2
        go_roundw
        case rel => exact ⟨j + 1, pre ++ [_], by omega, by simp, by simp [hlen], Lib.hid (by rw [List.map_append, HP.out, List.range_succ]; rfl), Lib.hid HH2.out.1, Lib.hid (HI4.out.kq HH2.out.2)⟩
        case measure => simp [intOf]; omega
      | false =>
        have HH2 := Lib.hid (HH.out.2 rfl)
        gi_wp2
        refine bodyPost_ret (results_none rfl _ _ _) rfl ?_
        exact ⟨⟨_, rfl⟩, .inr ⟨pre ++ [_], trivial, HH2.out⟩⟩
    · obtain rfl : j = m := by omega
      gi_wp2
      go_end0
      exact ⟨⟨_, rfl⟩, .inl ⟨pre, HP.out, HJ.out⟩⟩

end Go.Proofs.YtbbmgandkmlojaaGreat.Sq

/-
  What is proved here: words for the memory of tell: its boxes and rows, and how they go on. No condition.
-/
namespace Go.Proofs.YtbbmgandkmlojaaGreat.Sq
open Go.RowKit Go.Shelf Gr Wd Ws Fx Rk Lb Al In
open Pa (vl bt vl_of vl_at bt_of bt_at)

theorem obj_kept {A B : World} {row : Option Nat} (hg : A.grownBy B row) (hr : ∀ r, row = some r → ∃ o, A.heap[r]? = some o ∧ o.isCells = false) {i : Nat} {c : Array Value} {T : TypeId} {fz : Nat × Nat} (h : A.heap[i]? = some (.cells c T fz)) : B.heap[i]? = some (.cells c T fz) :=
  (hg.block i (lt_of_block h) fun e => by
    obtain ⟨o, ho, hc⟩ := hr i e.symm
    rw [h] at ho; injection ho with ho; subst ho; cases hc).trans h
theorem row_kept {A B : World} {row : Option Nat} (hg : A.grownBy B row) (hr : ∀ r, row = some r → ∃ o, A.heap[r]? = some o ∧ o.isCells = false) {B0 s n : Nat} {T : TypeId} {v : Value} {xs : List Value} (h : A.ownsRow B0 T s v n xs) : B.ownsRow B0 T s v n xs :=
  own_kept h fun _ _ _ _ hc => (obj_kept hg hr hc).trans hc.symm
theorem keeps_below {W W' : World} (h : Below W.heap.size W W') : KeepsOthers W W' := ⟨h.size, fun k _ hk _ => (h.block k (lt_of_block hk)).trans hk⟩
theorem keeps_grown {w w' : World} {B s n : Nat} {T : TypeId} {v : Value} {xs : List Value} (h : w.ownsRow B T s v n xs) (hg : w.grownBy w' v.ownBlock) : KeepsOthers w w' :=
  ⟨hg.size, fun k o hk ho => (hg.block k (lt_of_block hk) fun e => by
    obtain ⟨_, c1, hc1⟩ := own_lt h k e.symm
    rw [hc1] at hk; injection hk with hk; subst hk; cases ho).trans hk⟩
theorem eat_kq {W : World} {lp : Nat} {o o' : Obj} {A : Option Addr} {L : List Ed} (h : EAt W A L) (hl : W.heap[lp]? = some o) (ho : o.isCells = false) : EAt (W.putObj lp o') A L := by
  intro i e hi
  obtain ⟨bk, of, hA, c0, c1, c2⟩ := h i e hi
  have key : ∀ {p : Addr} {v : Value}, W.cell? p = some v → (W.putObj lp o').cell? p = some v := fun hp => cell_kept hp (grownBy_putObj' W lp o') (fun r e => by cases e; exact ⟨o, hl, ho⟩)
  exact ⟨bk, of, hA, key c0, key c1, key c2⟩
/- What is kept of both kinds. -/
def KK (W W' : World) : Prop := KeepsOthers W W' ∧ Kq W W'
theorem KK.trans {A B C : World} (h : KK A B) (k : KK B C) : KK A C := ⟨h.1.trans k.1, h.2.trans k.2⟩
theorem KK.below {A B : World} (h : Below A.heap.size A B) : KK A B := ⟨keeps_below h, Kq.below h⟩
theorem KK.grown {w w' : World} {B s n : Nat} {T : TypeId} {v : Value} {xs : List Value} (h : w.ownsRow B T s v n xs) (hg : w.grownBy w' v.ownBlock) (h1 : T ≠ 61) (h2 : T ≠ 85) (h3 : T ≠ 58) : KK w w' := ⟨keeps_grown h hg, Kq.grown h hg h1 h2 h3⟩
theorem KK.set {w : World} {b i : Nat} {T : TypeId} {c : Array Value} (hb : w.heap[b]? = some (.cells c T (0, 0))) (u : Value) (h1 : T ≠ 61) (h2 : T ≠ 85) (h3 : T ≠ 58) : KK w (w.setCell ⟨b, i, none⟩ u) :=
  ⟨KeepsOthers.setCell _ _ _, Kq.moved hb (fun _ hk => set_other _ _ _ _ _ hk) h1 h2 h3⟩

/- A vertex's edges, in the box of the round. -/
structure RX (W : World) (b B : Nat) (L : List Ed) (v : Nat) (A1 A2 : Option Addr) (n1 n2 c1 c2 : Nat) : Prop where
  box : W.heap[b]? = some (.cells #[.slice A1 n1 c1, .slice A2 n2 c2] 85 (0, 0))
  o : EOwn W B (.slice A1 n1 c1) (outE L (v : Int))
  k : EOwn W B (.slice A2 n2 c2) (bckE L (v : Int))
theorem RX.below {W W' : World} {b B : Nat} {L : List Ed} {v : Nat} {A1 A2 : Option Addr} {n1 n2 c1 c2 : Nat} (h : RX W b B L v A1 A2 n1 n2 c1 c2) (hb : Below W.heap.size W W') : RX W' b B L v A1 A2 n1 n2 c1 c2 := ⟨keep h.box hb, own_below h.o hb, own_below h.k hb⟩
theorem RX.grown {W W' : World} {b B : Nat} {L : List Ed} {v : Nat} {A1 A2 : Option Addr} {n1 n2 c1 c2 : Nat} {B0 s n : Nat} {T : TypeId} {u : Value} {xs : List Value} (h : RX W b B L v A1 A2 n1 n2 c1 c2) (hv : W.ownsRow B0 T s u n xs) (hg : W.grownBy W' u.ownBlock) (h1 : 85 ≠ T) (h2 : 58 ≠ T) : RX W' b B L v A1 A2 n1 n2 c1 c2 :=
  ⟨box_other h.box hv h1 hg, own_other h.o hv h2 hg, own_other h.k hv h2 hg⟩
theorem RX.set {W : World} {b B : Nat} {L : List Ed} {v : Nat} {A1 A2 : Option Addr} {n1 n2 c1 c2 b' i : Nat} {T : TypeId} {c : Array Value} (h : RX W b B L v A1 A2 n1 n2 c1 c2) (hb : W.heap[b']? = some (.cells c T (0, 0))) (u : Value) (h1 : 85 ≠ T) (h2 : 58 ≠ T) : RX (W.setCell ⟨b', i, none⟩ u) b B L v A1 A2 n1 n2 c1 c2 := by
  have ho : ∀ j, j ≠ b' → (W.setCell ⟨b', i, none⟩ u).heap[j]? = W.heap[j]? := fun _ hj => set_other _ _ _ _ _ hj
  refine ⟨(ho b fun e => ?_).trans h.box, own_moved h.o hb h2 ho, own_moved h.k hb h2 ho⟩
  subst e
  have := h.box
  rw [hb] at this; injection this with this; injection this with _ this _
  exact h1 this.symm

/- What fits an int. -/
def I63 (x : Int) : Prop := -9223372036854775808 ≤ x ∧ x ≤ 9223372036854775807
theorem InR.i63 {x : Int} (h : InR x) : I63 x := by unfold InR at h; unfold I63; omega

def rowF (k : Int) (L : List Ed) (vals : List Int) (chg : List Bool) (v : Nat) : List Ms := sendM k (v : Int) (vl vals v) (bt chg v) (outE L (v : Int)) (bckE L (v : Int))
def sumF (k : Int) (L : List Ed) (vals : List Int) (ns : List Nat) : Int := (ns.map fun (v : Nat) => prtS k (vl vals v) (outE L (v : Int)).length).foldl (jonS k) 0
def mosF (k : Int) (was vals : List Int) (chg : List Bool) (ns : List Nat) : Int := (ns.map fun (v : Nat) => prtM k (vl was v) (vl vals v) (bt chg v)).foldl (jonM k) 0
theorem sumF_next (k : Int) (L : List Ed) (vals : List Int) (ns : List Nat) (v : Nat) : sumF k L vals (ns ++ [v]) = jonS k (sumF k L vals ns) (prtS k (vl vals v) (outE L (v : Int)).length) := by unfold sumF; rw [List.map_append, List.foldl_append]; rfl
theorem mosF_next (k : Int) (was vals : List Int) (chg : List Bool) (ns : List Nat) (v : Nat) : mosF k was vals chg (ns ++ [v]) = jonM k (mosF k was vals chg ns) (prtM k (vl was v) (vl vals v) (bt chg v)) := by unfold mosF; rw [List.map_append, List.foldl_append]; rfl
/- The boxes of tell, from block n0 on. -/
structure TlH (w W : World) (n0 b : Nat) (k st so dm ep : Int) (ve : Value) (Aa : Option Addr) (na ca : Nat) (L : List Ed) (was vals : List Int) (chg : List Bool) (l1 l2 l3 : List Nat) (va ua vs us : Value) : Prop where
  below : Below w.heap.size w W
  cb : W.heap[n0]? = some (.cells #[.int .u8 k, .int .i64 st, .int .i64 so, .int .i64 dm, .int .i64 ep, ve] 61 (0, 0))
  pb : W.heap[n0 + 1]? = some (.cells #[.pointer (some ⟨b, 0, none⟩)] 90 (0, 0))
  hb : W.heap[n0 + 1 + 1]? = some (.cells #[.slice Aa na ca] 29 (0, 0))
  ab : W.heap[n0 + 1 + 1 + 1]? = some (.cells #[va] 93 (0, 0))
  sb : W.heap[n0 + 1 + 1 + 1 + 1]? = some (.cells #[vs] 94 (0, 0))
  tb : W.heap[n0 + 1 + 1 + 1 + 1 + 1]? = some (.cells #[.int .i64 (sumF k L vals l3), .int .i64 (mosF k was vals chg l3)] 120 (0, 0))
  ao : IOwn W (n0 + 6) ua (l1.map fun (v : Nat) => (v : Int))
  so : ROwn W (n0 + 6) us (l2.map (rowF k L vals chg))
theorem al6 (w : World) (a b c d e f : Obj) : ((((((w.alloc a).alloc b).alloc c).alloc d).alloc e).alloc f).heap[w.heap.size]? = some a ∧ ((((((w.alloc a).alloc b).alloc c).alloc d).alloc e).alloc f).heap[w.heap.size + 1]? = some b ∧ ((((((w.alloc a).alloc b).alloc c).alloc d).alloc e).alloc f).heap[w.heap.size + 2]? = some c ∧ ((((((w.alloc a).alloc b).alloc c).alloc d).alloc e).alloc f).heap[w.heap.size + 3]? = some d ∧ ((((((w.alloc a).alloc b).alloc c).alloc d).alloc e).alloc f).heap[w.heap.size + 4]? = some e ∧ ((((((w.alloc a).alloc b).alloc c).alloc d).alloc e).alloc f).heap[w.heap.size + 5]? = some f ∧ Below w.heap.size w ((((((w.alloc a).alloc b).alloc c).alloc d).alloc e).alloc f) := by
  obtain ⟨h1, h2, h3, h4, h5⟩ := al4 w a b c d
  have h6 := heap_alloc_new ((((w.alloc a).alloc b).alloc c).alloc d) e
  rw [show ((((w.alloc a).alloc b).alloc c).alloc d).heap.size = w.heap.size + 4 by simp] at h6
  have h7 := heap_alloc_new (((((w.alloc a).alloc b).alloc c).alloc d).alloc e) f
  rw [show (((((w.alloc a).alloc b).alloc c).alloc d).alloc e).heap.size = w.heap.size + 5 by simp] at h7
  have h8 := h5.alloc h5.size e
  exact ⟨at_alloc (at_alloc h1 e) f, at_alloc (at_alloc h2 e) f, at_alloc (at_alloc h3 e) f, at_alloc (at_alloc h4 e) f, at_alloc h6 f, h7, h8.alloc h8.size f⟩
section
variable {w W W' : World} {n0 b na ca : Nat} {k st so dm ep : Int} {ve : Value} {Aa : Option Addr} {L : List Ed} {was vals : List Int} {chg : List Bool} {l1 l2 l3 : List Nat} {va ua vs us u : Value}
theorem TlH.made (w : World) (b na ca : Nat) (k st so dm ep : Int) (ve : Value) (Aa : Option Addr) (L : List Ed) (was vals : List Int) (chg : List Bool) :
    TlH w ((((((w.alloc (.cells #[.int .u8 k, .int .i64 st, .int .i64 so, .int .i64 dm, .int .i64 ep, ve] 61)).alloc (.cells #[.pointer (some ⟨b, 0, none⟩)] 90)).alloc (.cells #[.slice Aa na ca] 29)).alloc (.cells #[.slice none 0 0] 93)).alloc (.cells #[.slice none 0 0] 94)).alloc (.cells #[.int .i64 0, .int .i64 0] 120)) w.heap.size b k st so dm ep ve Aa na ca L was vals chg [] [] [] (.slice none 0 0) (.slice none 0 0) (.slice none 0 0) (.slice none 0 0) := by
  obtain ⟨h1, h2, h3, h4, h5, h6, h7⟩ := al6 w (.cells #[.int .u8 k, .int .i64 st, .int .i64 so, .int .i64 dm, .int .i64 ep, ve] 61) (.cells #[.pointer (some ⟨b, 0, none⟩)] 90) (.cells #[.slice Aa na ca] 29) (.cells #[.slice none 0 0] 93) (.cells #[.slice none 0 0] 94) (.cells #[.int .i64 0, .int .i64 0] 120)
  exact ⟨h7, h1, h2, h3, h4, h5, h6, IOwn.none_ _ _, ROwn.none_ _ _⟩
theorem TlH.step (h : TlH w W n0 b k st so dm ep ve Aa na ca L was vals chg l1 l2 l3 va ua vs us) (hb : Below W.heap.size W W') : TlH w W' n0 b k st so dm ep ve Aa na ca L was vals chg l1 l2 l3 va ua vs us :=
  ⟨step_below h.below h.below.size hb, keep h.cb hb, keep h.pb hb, keep h.hb hb, keep h.ab hb, keep h.sb hb, keep h.tb hb, own_below h.ao hb, h.so.below hb⟩
theorem TlH.kept (h : TlH w W n0 b k st so dm ep ve Aa na ca L was vals chg l1 l2 l3 va ua vs us) {row : Option Nat} (hg : W.grownBy W' row) (hr : ∀ r, row = some r → ∃ o, W.heap[r]? = some o ∧ o.isCells = false) (hn : ∀ r, row = some r → w.heap.size ≤ r) : TlH w W' n0 b k st so dm ep ve Aa na ca L was vals chg l1 l2 l3 va ua vs us := by
  refine ⟨Below.grown h.below hg h.below.size hn, obj_kept hg hr h.cb, obj_kept hg hr h.pb, obj_kept hg hr h.hb, obj_kept hg hr h.ab, obj_kept hg hr h.sb, obj_kept hg hr h.tb, row_kept hg hr h.ao, ?_⟩
  obtain ⟨xs, h1, h2⟩ := h.so
  exact ⟨xs, row_kept hg hr h1, h2.1, fun i M hi => by obtain ⟨x, e1, e2⟩ := h2.2 i M hi; exact ⟨x, e1, row_kept hg hr e2⟩⟩
theorem TlH.grownA {v : Nat} {b' : Int} (h : TlH w W n0 b k st so dm ep ve Aa na ca L was vals chg l1 l2 l3 va ua vs us) (hg : W.grownBy W' ua.ownBlock) (hl : w.heap.size ≤ n0 + 6) (ho : IOwn W' (n0 + 6) u (l1.map (fun (v : Nat) => (v : Int)) ++ [(b' : Int)])) (hb' : b' = ((v : Nat) : Int)) : TlH w W' n0 b k st so dm ep ve Aa na ca L was vals chg (l1 ++ [v]) l2 l3 va u vs us := by
  have h1 := h.ao
  exact ⟨h.below.trans (own_grown h1 hg hl h.below.size), box_other h.cb h1 (by decide) hg, box_other h.pb h1 (by decide) hg, box_other h.hb h1 (by decide) hg, box_other h.ab h1 (by decide) hg, box_other h.sb h1 (by decide) hg, box_other h.tb h1 (by decide) hg, by rw [List.map_append]; subst hb'; exact ho, h.so.other h1 (by decide) (by decide) hg⟩
theorem TlH.putA (h : TlH w W n0 b k st so dm ep ve Aa na ca L was vals chg l1 l2 l3 va ua vs us) (hl : w.heap.size ≤ n0) : TlH w (W.setCell ⟨n0 + 1 + 1 + 1, 0, none⟩ ua) n0 b k st so dm ep ve Aa na ca L was vals chg l1 l2 l3 ua ua vs us := by
  have ho : ∀ j, j ≠ n0 + 1 + 1 + 1 → (W.setCell ⟨n0 + 1 + 1 + 1, 0, none⟩ ua).heap[j]? = W.heap[j]? := fun j hj => set_other _ _ _ _ _ hj
  exact ⟨h.below.setCell (p := ⟨n0 + 1 + 1 + 1, 0, none⟩) (by show w.heap.size ≤ n0 + 1 + 1 + 1; omega) ua, (ho _ (by omega)).trans h.cb, (ho _ (by omega)).trans h.pb, (ho _ (by omega)).trans h.hb, set_heap (i := 0) h.ab ua, (ho _ (by omega)).trans h.sb, (ho _ (by omega)).trans h.tb, own_moved h.ao h.ab (by decide) ho, h.so.moved h.ab (by decide) (by decide) ho⟩
theorem TlH.grownS (h : TlH w W n0 b k st so dm ep ve Aa na ca L was vals chg l1 l2 l3 va ua vs us) (hg : W.grownBy W' us.ownBlock) (hl : w.heap.size ≤ n0 + 6) {v : Nat} (ho : ROwn W' (n0 + 6) u (l2.map (rowF k L vals chg) ++ [rowF k L vals chg v])) : TlH w W' n0 b k st so dm ep ve Aa na ca L was vals chg l1 (l2 ++ [v]) l3 va ua vs u := by
  obtain ⟨xs, h1, _⟩ := h.so
  exact ⟨h.below.trans (own_grown h1 hg hl h.below.size), box_other h.cb h1 (by decide) hg, box_other h.pb h1 (by decide) hg, box_other h.hb h1 (by decide) hg, box_other h.ab h1 (by decide) hg, box_other h.sb h1 (by decide) hg, box_other h.tb h1 (by decide) hg, own_other h.ao h1 (by decide) hg, by rw [List.map_append]; exact ho⟩
theorem TlH.putS (h : TlH w W n0 b k st so dm ep ve Aa na ca L was vals chg l1 l2 l3 va ua vs us) (hl : w.heap.size ≤ n0) : TlH w (W.setCell ⟨n0 + 1 + 1 + 1 + 1, 0, none⟩ us) n0 b k st so dm ep ve Aa na ca L was vals chg l1 l2 l3 va ua us us := by
  have ho : ∀ j, j ≠ n0 + 1 + 1 + 1 + 1 → (W.setCell ⟨n0 + 1 + 1 + 1 + 1, 0, none⟩ us).heap[j]? = W.heap[j]? := fun j hj => set_other _ _ _ _ _ hj
  exact ⟨h.below.setCell (p := ⟨n0 + 1 + 1 + 1 + 1, 0, none⟩) (by show w.heap.size ≤ n0 + 1 + 1 + 1 + 1; omega) us, (ho _ (by omega)).trans h.cb, (ho _ (by omega)).trans h.pb, (ho _ (by omega)).trans h.hb, (ho _ (by omega)).trans h.ab, set_heap (i := 0) h.sb us, (ho _ (by omega)).trans h.tb, own_moved h.ao h.sb (by decide) ho, h.so.moved h.sb (by decide) (by decide) ho⟩
theorem TlH.putT (h : TlH w W n0 b k st so dm ep ve Aa na ca L was vals chg l1 l2 l3 va ua vs us) (hl : w.heap.size ≤ n0) (v : Nat) : TlH w ((W.setCell ⟨n0 + 1 + 1 + 1 + 1 + 1, 0, none⟩ (.int .i64 (sumF k L vals (l3 ++ [v])))).setCell ⟨n0 + 1 + 1 + 1 + 1 + 1, 1, none⟩ (.int .i64 (mosF k was vals chg (l3 ++ [v])))) n0 b k st so dm ep ve Aa na ca L was vals chg l1 l2 (l3 ++ [v]) va ua vs us := by
  obtain ⟨x, hx⟩ : ∃ x : Value, x = .int .i64 (sumF k L vals (l3 ++ [v])) := ⟨_, rfl⟩
  obtain ⟨y, hy⟩ : ∃ y : Value, y = .int .i64 (mosF k was vals chg (l3 ++ [v])) := ⟨_, rfl⟩
  rw [← hx, ← hy]
  have ho : ∀ j, j ≠ n0 + 1 + 1 + 1 + 1 + 1 → ((W.setCell ⟨n0 + 1 + 1 + 1 + 1 + 1, 0, none⟩ x).setCell ⟨n0 + 1 + 1 + 1 + 1 + 1, 1, none⟩ y).heap[j]? = W.heap[j]? := fun j hj => (set_other _ _ _ _ _ hj).trans (set_other _ _ _ _ _ hj)
  have h2 := set_heap (i := 1) (set_heap (i := 0) h.tb x) y
  exact ⟨(h.below.setCell (p := ⟨n0 + 1 + 1 + 1 + 1 + 1, 0, none⟩) (by show w.heap.size ≤ n0 + 1 + 1 + 1 + 1 + 1; omega) x).setCell (p := ⟨n0 + 1 + 1 + 1 + 1 + 1, 1, none⟩) (by show w.heap.size ≤ n0 + 1 + 1 + 1 + 1 + 1; omega) y, (ho _ (by omega)).trans h.cb, (ho _ (by omega)).trans h.pb, (ho _ (by omega)).trans h.hb, (ho _ (by omega)).trans h.ab, (ho _ (by omega)).trans h.sb, by rw [← hx, ← hy]; exact h2, own_moved h.ao h.tb (by decide) ho, h.so.moved h.tb (by decide) (by decide) ho⟩
end

end Go.Proofs.YtbbmgandkmlojaaGreat.Sq

/-
  What is proved here: plain facts on what all vertices send: to vertices of the graph, and not too many. No program.
-/
namespace Go.Proofs.YtbbmgandkmlojaaGreat.Sq
open Gr Fx Rk Lb Al In
open Pa (vl bt)

theorem mem_putM {k : Int} {y : Ms} : ∀ (xs l : List Ms), y ∈ putM k l xs → (∃ x ∈ xs, y.1 = x.1) ∨ y ∈ l
  | [], l, h => Or.inr h
  | x :: xs, l, h => by
    rcases mem_putM xs (insM k l x) h with ⟨z, hz, e⟩ | h
    · exact Or.inl ⟨z, List.mem_cons_of_mem _ hz, e⟩
    · rcases mem_insM h with e | h
      · exact Or.inl ⟨x, List.mem_cons_self, e⟩
      · exact Or.inr h
theorem raw_to {V : Nat} {L : List Ed} (hf : ∀ e ∈ L, fitE (V : Int) e = true) (k v x : Int) (ch : Bool) : ∀ m ∈ rawM k v x ch (outE L v) (bckE L v), 0 ≤ m.1 ∧ m.1 < (V : Int) := by
  intro m hm
  have h1 : ∀ e ∈ outE L v, 0 ≤ e.2.1 ∧ e.2.1 < (V : Int) := fun e he => by have := (fitE_iff _ _).1 (hf e (List.mem_filter.1 he).1); omega
  have h2 : ∀ e ∈ bckE L v, 0 ≤ e.1 ∧ e.1 < (V : Int) := fun e he => by have := (fitE_iff _ _).1 (hf e (List.mem_filter.1 he).1); omega
  unfold rawM at hm
  split at hm
  · obtain ⟨e, he, rfl⟩ := List.mem_map.1 hm; exact h1 e he
  · split at hm
    · split at hm
      · obtain ⟨u, hu, rfl⟩ := List.mem_map.1 hm
        unfold nearL at hu
        rcases (mem_putAll _ _).1 hu with hu | hu
        · simp at hu
        · rcases List.mem_append.1 hu with hu | hu
          · obtain ⟨e, he, rfl⟩ := List.mem_map.1 (List.mem_filter.1 hu).1; exact h1 e he
          · obtain ⟨e, he, rfl⟩ := List.mem_map.1 (List.mem_filter.1 hu).1; exact h2 e he
      · split at hm
        · obtain ⟨e, he, rfl⟩ := List.mem_map.1 hm; exact h1 e he
        · simp at hm
    · simp at hm
theorem rows_toin {k : Int} {V : Nat} {L : List Ed} {vals : List Int} {chg : List Bool} (hf : ∀ e ∈ L, fitE (V : Int) e = true) (hV : V ≤ 512) : ToIn (rowsS k V L vals chg).flatten := by
  intro m hm
  obtain ⟨r, hr, hm⟩ := List.mem_flatten.1 hm
  obtain ⟨v, _, rfl⟩ := List.mem_map.1 hr
  rcases mem_putM _ _ hm with ⟨x, hx, e⟩ | h
  · have := raw_to hf _ _ _ _ x hx
    omega
  · simp at h
theorem own_in (V : Nat) (hV : V ≤ 512) : OwnIn ((List.range V).map fun (v : Nat) => (v : Int)) := by
  intro x hx
  obtain ⟨v, hv, rfl⟩ := List.mem_map.1 hx
  have := List.mem_range.1 hv
  omega
theorem flat_len (m : Nat) : ∀ l : List (List Ms), (∀ r ∈ l, r.length ≤ m) → l.flatten.length ≤ l.length * m
  | [], _ => by simp
  | r :: l, h => by
    have h1 := h r List.mem_cons_self
    have h2 := flat_len m l fun s hs => h s (List.mem_cons_of_mem _ hs)
    rw [List.flatten_cons, List.length_append, List.length_cons, Nat.add_mul]
    omega
theorem send_len (k v x : Int) (ch : Bool) (L M : List Ed) : (sendM k v x ch L M).length ≤ L.length + M.length := by
  have h := putM_len k (rawM k v x ch L M) []
  have h2 : (rawM k v x ch L M).length ≤ L.length + M.length := by
    unfold rawM
    split
    · simp [sentR]
    · split
      · split
        · have h3 := putAll_len (tos v L ++ froms v M) []
          have h4 := tos_len v L
          have h5 := froms_len v M
          simp only [sentL, List.length_map]
          unfold nearL
          simp only [List.length_append, List.length_nil] at h3
          omega
        · split <;> simp [sentP]
      · simp
  unfold sendM
  simp only [List.length_nil] at h
  omega
theorem rows_few (k : Int) (V : Nat) (L : List Ed) (vals : List Int) (chg : List Bool) (hV : V ≤ 512) (hL : L.length ≤ 1000) : (rowsS k V L vals chg).flatten.length < 1000000000 := by
  have h := flat_len 2000 (rowsS k V L vals chg) fun r hr => by
    obtain ⟨v, _, rfl⟩ := List.mem_map.1 hr
    have h1 := send_len k (v : Int) (vl vals v) (bt chg v) (outE L (v : Int)) (bckE L (v : Int))
    have h2 : (outE L (v : Int)).length ≤ L.length := List.length_filter_le _ _
    have h3 : (bckE L (v : Int)).length ≤ L.length := List.length_filter_le _ _
    omega
  have hl : (rowsS k V L vals chg).length = V := by simp [rowsS]
  rw [hl] at h
  omega
end Go.Proofs.YtbbmgandkmlojaaGreat.Sq

