/-
  What is proved here: the map of what came to whom, in memory: what a lookup tells, what a store leaves. Conditions: vertices fit an int, fewer than 10^9 messages came. What is proved here: contracts of inbox.with and of inbox.together: what came to whom. Conditions: vertices fit an int, fewer than 10^9 messages. What is proved here: a contract of inbox.together: what came to whom of rows of messages. Conditions: vertices fit an int, fewer than 10^9 messages.
-/
import Derived.Test.YtdcaekmgfcpbmaaGreatQcAlP2
import Derived.Test.YtdcaekmgfcpbmaaGreatQcAlR1x
import Derived.Test.YtdcaekmgfcpbmaaGreatQcMnMkx
import Derived.Deep.CutRange
import Derived.Deep.Fields
import Derived.Deep.RegionLaw
import Derived.Deep.AppendLies
import Derived.Laws.OwnMore
import Derived.Laws.StructEq
import Derived.Test.YtdcaekmgfcpbmaaGreatQcInMathx
import Derived.Maps.OwnSet
import Derived.Maps.Views
import Derived.Test.YtdcaekmgfcpbmaaGreatQcPaTail
import Derived.Carry
namespace Go.Proofs.YtdcaekmgfcpbmaaGreat.In
open Go.RowKit Go.Maps Gr Wd Ws Fx Rk Lb Al
def mlV (m : Ml) : Value := .agg #[.bool m.1, .int .i64 m.2]
def mlD (m : Ml) : DataW Unit := .agg [.lit (.bool m.1), .lit (.int .i64 m.2)]
def mlElem : Value → Option (DataW Unit × List MemPlace)
  | .agg a => match a.toList with
    | [.bool h, .int .i64 x] => some (mlD (h, x), [])
    | _ => none
  | _ => none
theorem mlElem_mk (m : Ml) : mlElem (mlV m) = some (mlD m, []) := rfl
theorem mlElem_inv {v : Value} {z : DataW Unit × List MemPlace} (h : mlElem v = some z) : ∃ m : Ml, v = mlV m ∧ z = (mlD m, []) := by
  unfold mlElem at h
  split at h
  · rename_i a
    split at h
    · rename_i b x he
      refine ⟨(b, x), ?_, (Option.some.inj h).symm⟩
      obtain ⟨l⟩ := a
      simp only at he
      subst he
      rfl
    · cases h
  · cases h
theorem mlD_inj {m n : Ml} (h : mlD m = mlD n) : m = n := by
  unfold mlD at h
  simp at h
  exact Prod.ext h.1 h.2
theorem keyedI : Keyed Tryz.prog 3 := int_keyed Tryz.underlying3
theorem wf_i {a : Int} (h : -9223372036854775808 ≤ a ∧ a ≤ 9223372036854775807) : (Lit.int .i64 a).wf = true := by
  have h3 : IntKind.i64.min = -9223372036854775808 := by decide
  have h4 : IntKind.i64.max = 9223372036854775807 := by decide
  simp only [Lit.wf, Bool.and_eq_true, decide_eq_true_eq]; omega
theorem key_i {a : Int} (h : -9223372036854775808 ≤ a ∧ a ≤ 9223372036854775807) : keyOf Tryz.prog 3 (.int .i64 a) = some (.int .i64 a) := keyOf_int_mk Tryz.underlying3 (wf_i h)
theorem zeroMl (w : World) : (zeroValue 114).run Tryz.prog w = .ok (mlV (false, 0)) w := by kernel_rfl
structure CMd (D : DataW Unit) (k : Int) (L : List Ms) : Prop where
  has_ : ∀ v : Int, has D (.int .i64 v) = (mailM k v L).isSome
  at_ : ∀ (v y : Int), mailM k v L = some y → ∀ z, D.atKey (.int .i64 v) z = mlD (true, y)
def CM (w : World) (M : Nat) (k : Int) (L : List Ms) : Prop := ∃ D : DataW Unit, w.ownsMap Tryz.prog 3 mlElem M L.length D ∧ CMd D k L
theorem CM.made (w : World) (k : Int) : CM (w.alloc (.map #[] 0)) w.heap.size k [] := ⟨.map [], World.ownsMap_made _ _ _ _, ⟨fun _ => rfl, fun v y h => by cases h⟩⟩
theorem CM.lt {w : World} {M : Nat} {k : Int} {L : List Ms} (h : CM w M k L) : M < w.heap.size := by
  obtain ⟨D, h1, _⟩ := h; exact h1.lt
theorem CM.kept {w w' : World} {M : Nat} {k : Int} {L : List Ms} (h : CM w M k L) (hk : w'.heap[M]? = w.heap[M]?) : CM w' M k L := by
  obtain ⟨D, ⟨es, clock, h1, h2⟩, h3⟩ := h
  exact ⟨D, ⟨es, clock, hk.trans h1, h2⟩, h3⟩
theorem CM.below {w w' : World} {M : Nat} {k : Int} {L : List Ms} (h : CM w M k L) (hb : Below w.heap.size w w') : CM w' M k L := h.kept (hb.block M h.lt)
theorem CM.look {w : World} {M : Nat} {k : Int} {L : List Ms} (h : CM w M k L) {v : Int} (hv : -9223372036854775808 ≤ v ∧ v ≤ 9223372036854775807) :
    (Instr.lookup 150 (.map (some M)) (.int .i64 v) false).run Tryz.prog w = .ok (mlV (mlOf (mailM k v L))) w := by
  obtain ⟨D, h1, h2⟩ := h
  obtain ⟨u, ps, hrun, hu⟩ := h1.lookup keyedI Tryz.underlying150 (zeroMl w) (mlElem_mk (false, 0)) (key_i hv)
  obtain ⟨m, rfl, hm⟩ := mlElem_inv hu
  rw [hrun]
  have hm' := congrArg Prod.fst hm
  simp only at hm'
  have e : m = mlOf (mailM k v L) := by
    cases hc : mailM k v L with
    | none =>
      rw [atKey_of_not_has (by rw [h2.has_ v, hc]; rfl)] at hm'
      exact (mlD_inj hm').symm
    | some y =>
      rw [h2.at_ v y hc] at hm'
      exact (mlD_inj hm').symm
  rw [e]
theorem CM.store {w : World} {M : Nat} {k : Int} {L : List Ms} (h : CM w M k L) {v : Int} (x y : Int) (hv : -9223372036854775808 ≤ v ∧ v ≤ 9223372036854775807) (hn : L.length < 1000000000) (hy : mailM k v (L ++ [(v, x)]) = some y) :
    ∃ w', (Instr.mapUpdate 150 (.map (some M)) (.int .i64 v) (mlV (true, y))).run Tryz.prog w = .ok () w' ∧ CM w' M k (L ++ [(v, x)]) ∧ w.grownBy w' (some M) := by
  obtain ⟨D, h1, h2⟩ := h
  obtain ⟨w', hrun, h3, h4⟩ := h1.update keyedI Tryz.underlying150 (by unfold maxLen; omega) (key_i hv) (mlElem_mk (true, y))
  have hM : IsMap D := h1.isMap
  have hk : WideAt.IsKeyLit (.int .i64 v) := keyedI.key (key_i hv)
  refine ⟨w', hrun, ⟨_, by rw [List.length_append]; exact h3, ⟨fun u => ?_, fun u z hz q => ?_⟩⟩, h4⟩
  · by_cases e : u = v
    · subst e; rw [has_put_same hM hk, hy]; rfl
    · rw [has_put_other (by simpa using e), h2.has_ u, mailM_snoc]
      unfold mst; rw [if_neg (fun e2 => e e2.symm)]
  · by_cases e : u = v
    · subst e
      rw [hy] at hz
      rw [atKey_put_same hM hk, Option.some.inj hz]
    · rw [atKey_put_other (by simpa using e)]
      rw [mailM_snoc] at hz
      unfold mst at hz; rw [if_neg (fun e2 => e e2.symm)] at hz
      exact h2.at_ u z hz q
def nxt (k : Int) (m : Ml) (x : Int) : Int := if m.1 = true then comb k m.2 x else x
theorem nxt_mail (k v x : Int) (L : List Ms) : mailM k v (L ++ [(v, x)]) = some (nxt k (mlOf (mailM k v L)) x) := by
  rw [mailM_snoc]
  unfold mst; rw [if_pos rfl]
  cases mailM k v L <;> rfl
end Go.Proofs.YtdcaekmgfcpbmaaGreat.In
namespace Go.Proofs.YtdcaekmgfcpbmaaGreat.In
open Go.RowKit Go.Maps Gr Wd Ws Fx Rk Lb Al
theorem mixedI : Tryz.prog.follows .mixedOrders = true := by kernel_rfl
theorem ml_cells {W : World} {b : Nat} {p : Bool} {x : Int} (h : W.heap[b]? = some (.cells #[.bool p, .int .i64 x] 114 (0, 0))) : W.cell? ⟨b, 0, none⟩ = some (.bool p) ∧ W.cell? ⟨b, 1, none⟩ = some (.int .i64 x) ∧ (∀ j, W.frozen? ⟨b, j, none⟩ = false) ∧ b < W.heap.size :=
  ⟨by rw [Lib.cell_of_heap h]; rfl, by rw [Lib.cell_of_heap h]; rfl, fun j => Lib.frozen_of_heap h j, lt_of_block h⟩
theorem put_ml {W : World} {b : Nat} {p : Bool} {x : Int} (h : W.heap[b]? = some (.cells #[.bool p, .int .i64 x] 114 (0, 0))) (q : Bool) (y : Int) :
    ((W.setCell ⟨b, 0, none⟩ (.bool q)).setCell ⟨b, 1, none⟩ (.int .i64 y)).heap[b]? = some (.cells #[.bool q, .int .i64 y] 114 (0, 0)) := by
  have h1 := heap_setCell_same W b 0 _ 114 (.bool q) h
  have h2 := heap_setCell_same _ b 1 _ 114 (.int .i64 y) h1
  exact h2
set_option maxRecDepth 100000 in
theorem with_any (k st so dm ep : Int) (h : Bool) (x v : Int) (w : World) : Calls Tryz.prog 98 #[.agg #[.int .u8 k, .int .i64 st, .int .i64 so, .int .i64 dm, .int .i64 ep], .agg #[.bool h, .int .i64 x], .int .i64 v] w fun e w' => e = .returned (.agg #[.bool true, .int .i64 (nxt k (h, x) v)]) ∧ Below w.heap.size w w' := by
  obtain ⟨r, hr⟩ : ∃ r, nxt k (h, x) v = r := ⟨_, rfl⟩
  rw [hr]
  have HR := Lib.hid hr; clear hr
  obtain ⟨W1, hW1⟩ : ∃ W1, W1 = ((w.alloc (.cells #[.int .u8 k, .int .i64 st, .int .i64 so, .int .i64 dm, .int .i64 ep] 40)).alloc (.cells #[.bool h, .int .i64 x] 114)).alloc (.cells #[.bool false, .int .i64 0] 114) := ⟨_, rfl⟩
  have hal := al3 w (.cells #[.int .u8 k, .int .i64 st, .int .i64 so, .int .i64 dm, .int .i64 ep] 40) (.cells #[.bool h, .int .i64 x] 114) (.cells #[.bool false, .int .i64 0] 114)
  rw [← hW1] at hal
  obtain ⟨b0, e0⟩ : ∃ b0, b0 = w.heap.size := ⟨_, rfl⟩
  obtain ⟨b1, e1⟩ : ∃ b1, b1 = w.heap.size + 1 := ⟨_, rfl⟩
  obtain ⟨b2, e2⟩ : ∃ b2, b2 = w.heap.size + 2 := ⟨_, rfl⟩
  obtain ⟨x0, x1, x2, hb⟩ := hal
  rw [← e0] at x0; rw [← e1] at x1; rw [← e2] at x2
  have X0 := Lib.hid x0; have X1 := Lib.hid x1; have X2 := Lib.hid x2; have HB := Lib.hid hb
  have HGE : Hid (w.heap.size ≤ b2) := Lib.hid (by omega)
  clear x0 x1 x2 hb
  cases h
  · have e3 : v = r := HR.out
    subst e3
    clear HR
    go_enter Tryz.func98, Tryz.ntmps98
    go_upto_region 1 with fail
    rw [← hW1]
    rw [show w.heap.size + 2 = b2 from e2.symm, show w.heap.size + 1 = b1 from e1.symm, show w.heap.size = b0 from e0.symm]
    clear hW1 e0 e1 e2
    obtain ⟨m0, m1, _⟩ := ml_cells X1.out
    obtain ⟨u0, u1, uf, _⟩ := ml_cells X2.out
    go_wp2_with fail
    have hp := put_ml X2.out true v
    obtain ⟨k0, k1, _⟩ := ml_cells hp
    have hB5 : Below w.heap.size w ((W1.setCell ⟨b2, 0, none⟩ (.bool true)).setCell ⟨b2, 1, none⟩ (.int .i64 v)) := (HB.out.setCell (p := ⟨b2, 0, none⟩) HGE.out _).setCell (p := ⟨b2, 1, none⟩) HGE.out _
    exact bodyPost_ret (v := .agg #[.bool true, .int .i64 v]) (by simp [results, Tryz.results98, go_sem, k0, k1]) rfl ⟨rfl, hB5⟩
  · have e3 : comb k x v = r := HR.out
    have HC := Lib.hid (fun W => comb_any k st so dm ep x v W)
    rw [e3] at HC
    clear HR e3
    go_enter Tryz.func98, Tryz.ntmps98
    go_upto_region 1 with fail
    rw [← hW1]
    rw [show w.heap.size + 2 = b2 from e2.symm, show w.heap.size + 1 = b1 from e1.symm, show w.heap.size = b0 from e0.symm]
    clear hW1 e0 e1 e2
    obtain ⟨m0, m1, _⟩ := ml_cells X1.out
    obtain ⟨j0, j1, j2, j3, j4, _⟩ := jb_cells X0.out
    go_wp2_with fail
    refine (HC.out _).mono ?_
    rintro e w2 ⟨rfl, hb2⟩
    clear m0 m1 j0 j1 j2 j3 j4
    have Y2 := Lib.hid (keep X2.out hb2)
    have HB2 := Lib.hid (step_below HB.out HB.out.size hb2)
    clear hb2
    obtain ⟨u0, u1, uf, _⟩ := ml_cells Y2.out
    go_wp2_with fail
    have hp := put_ml Y2.out true r
    obtain ⟨k0, k1, _⟩ := ml_cells hp
    have hB5 : Below w.heap.size w ((w2.setCell ⟨b2, 0, none⟩ (.bool true)).setCell ⟨b2, 1, none⟩ (.int .i64 r)) := (HB2.out.setCell (p := ⟨b2, 0, none⟩) HGE.out _).setCell (p := ⟨b2, 1, none⟩) HGE.out _
    exact bodyPost_ret (v := .agg #[.bool true, .int .i64 r]) (by simp [results, Tryz.results98, go_sem, k0, k1]) rfl ⟨rfl, hB5⟩
end Go.Proofs.YtdcaekmgfcpbmaaGreat.In
namespace Go.Proofs.YtdcaekmgfcpbmaaGreat.In
open Go.RowKit Go.Maps Gr Wd Ws Fx Rk Lb Al
def RMs (w : World) (A : Option Addr) (Ls : List (List Ms)) : Prop := ∀ (k : Nat) (L : List Ms), Ls[k]? = some L → ∃ bk o A' c, A = some ⟨bk, o, none⟩ ∧ w.cell? ⟨bk, o + k, none⟩ = some (.slice A' L.length c) ∧ MAt w A' L
theorem RMs.below {w w' : World} {A : Option Addr} {Ls : List (List Ms)} (h : RMs w A Ls) (hb : Below w.heap.size w w') : RMs w' A Ls := fun k L hk => by
  obtain ⟨bk, o, A', c, e, c0, hm⟩ := h k L hk
  exact ⟨bk, o, A', c, e, (hb.cell (block_lt_of_cell c0)).trans c0, hm.below hb⟩
def ToIn (L : List Ms) : Prop := ∀ e ∈ L, -9223372036854775808 ≤ e.1 ∧ e.1 ≤ 9223372036854775807
theorem flat_at {Ls : List (List Ms)} {q : Nat} {L : List Ms} (h : Ls[q]? = some L) : Ls.flatten = (Ls.take q).flatten ++ (L ++ (Ls.drop (q + 1)).flatten) := by
  rw [← List.flatten_cons, ← drop_at h, ← List.flatten_append, List.take_append_drop]
theorem flat_next {Ls : List (List Ms)} {q : Nat} {L : List Ms} (h : Ls[q]? = some L) : (Ls.take (q + 1)).flatten = (Ls.take q).flatten ++ L := by
  rw [take_at h, List.flatten_append]; simp
structure TgH (w wr : World) (b M : Nat) (k st so dm ep : Int) (L : List Ms) : Prop where
  below : Below w.heap.size w wr
  box : wr.heap[b]? = some (.cells #[.int .u8 k, .int .i64 st, .int .i64 so, .int .i64 dm, .int .i64 ep] 40 (0, 0))
  map : CM wr M k L
theorem TgH.step {w w1 w2 : World} {b M : Nat} {k st so dm ep : Int} {L : List Ms} (h : TgH w w1 b M k st so dm ep L) (hb : Below w1.heap.size w1 w2) : TgH w w2 b M k st so dm ep L :=
  ⟨step_below h.below h.below.size hb, keep h.box hb, h.map.below hb⟩
theorem TgH.grown {w w1 w2 : World} {b M : Nat} {k st so dm ep : Int} {L L' : List Ms} (h : TgH w w1 b M k st so dm ep L) (hg : w1.grownBy w2 (some M)) (hm : CM w2 M k L') (hM : w.heap.size ≤ M) (hn : b ≠ M) : TgH w w2 b M k st so dm ep L' :=
  ⟨Below.grown h.below hg h.below.size (fun j e => by cases e; exact hM), (hg.block b (lt_of_block h.box) (fun e => hn (by cases e; rfl))).trans h.box, hm⟩
def T1Rel (w : World) (b M : Nat) (k st so dm ep : Int) (Ls : List (List Ms)) (gk : Nat) (i : Value) (wr : World) : Prop :=
  ∃ q : Nat, q + gk = Ls.length ∧ i = .int .i64 (q : Int) ∧ Hid (TgH w wr b M k st so dm ep (Ls.take q).flatten)
def T2Rel (w : World) (b M : Nat) (k st so dm ep : Int) (P L : List Ms) (gk : Nat) (i : Value) (wr : World) : Prop :=
  ∃ q : Nat, q + gk = L.length ∧ i = .int .i64 (q : Int) ∧ Hid (TgH w wr b M k st so dm ep (P ++ L.take q))
theorem mb_alloc (w : World) (t y : Int) : (w.alloc (.cells #[.int .i64 t, .int .i64 y] 155)).heap[w.heap.size]? = some (.cells #[.int .i64 t, .int .i64 y] 155 (0, 0)) := heap_alloc_new w _
set_option maxRecDepth 100000 in
set_option maxHeartbeats 4000000 in
theorem together_any (k st so dm ep : Int) (A : Option Addr) (c : Nat) (Ls : List (List Ms)) (w : World) (hR : RMs w A Ls) (hT : ToIn Ls.flatten) (hn : Ls.length ≤ 9223372036854775807) (hF : Ls.flatten.length < 1000000000) :
    Calls Tryz.prog 91 #[.agg #[.int .u8 k, .int .i64 st, .int .i64 so, .int .i64 dm, .int .i64 ep], .slice A Ls.length c] w fun e w' => (∃ M, e = .returned (.map (some M)) ∧ Hid (w.heap.size ≤ M) ∧ Hid (CM w' M k Ls.flatten)) ∧ Hid (Below w.heap.size w w') := by
  have mixed := mixedI
  have HR := Lib.hid hR; have HT := Lib.hid hT; have HF := Lib.hid hF; clear hR hT hF
  obtain ⟨n, hn'⟩ : ∃ n, n = Ls.length := ⟨_, rfl⟩
  rw [← hn'] at hn ⊢
  have HN := Lib.hid hn'; clear hn'
  obtain ⟨W1, hW1⟩ : ∃ W1, W1 = (w.alloc (.cells #[.int .u8 k, .int .i64 st, .int .i64 so, .int .i64 dm, .int .i64 ep] 40)).alloc (.map #[] 0) := ⟨_, rfl⟩
  have hal := al2 w (.cells #[.int .u8 k, .int .i64 st, .int .i64 so, .int .i64 dm, .int .i64 ep] 40) (.map #[] 0)
  have hcm : CM W1 (w.heap.size + 1) k [] := by
    have := CM.made (w.alloc (.cells #[.int .u8 k, .int .i64 st, .int .i64 so, .int .i64 dm, .int .i64 ep] 40)) k
    rw [show (w.alloc (.cells #[.int .u8 k, .int .i64 st, .int .i64 so, .int .i64 dm, .int .i64 ep] 40)).heap.size = w.heap.size + 1 by simp] at this
    rw [hW1]; exact this
  rw [← hW1] at hal
  obtain ⟨b, eb⟩ : ∃ b, b = w.heap.size := ⟨_, rfl⟩
  obtain ⟨M, eM⟩ : ∃ M, M = w.heap.size + 1 := ⟨_, rfl⟩
  rw [← eM] at hcm
  have HH1 : Hid (TgH w W1 b M k st so dm ep []) := Lib.hid ⟨hal.2.2, by rw [eb]; exact hal.1, hcm⟩
  have HGM : Hid (w.heap.size ≤ M) := Lib.hid (by omega)
  have HBM : Hid (b ≠ M) := Lib.hid (by omega)
  clear hal hcm
  have hmm := @run_makeMap Tryz.prog
  go_enter Tryz.func91, Tryz.ntmps91
  go_upto_region 2 with fail
  rw [← hW1]
  rw [show w.heap.size + 1 = M from eM.symm, show w.heap.size = b from eb.symm]
  clear hW1 eM eb
  go_wp2_with fail
  go_loopg [13] n (fun gk i wr => T1Rel w b M k st so dm ep Ls gk i wr)
  case atStart => exact ⟨0, by have := HN.out; omega, rfl, Lib.hid (by simpa using HH1.out)⟩
  case round =>
    clear HH1
    obtain ⟨q, hq, rfl, HH⟩ := hrel
    rw [← HN.out] at hq
    by_cases hlt : q < n
    · obtain ⟨L, hL⟩ := at_lt Ls q (by rw [← HN.out]; exact hlt)
      obtain ⟨bk, o, A', c', rfl, c00, hm⟩ := HR.out q L hL
      have c0 := (HH.out.below.cell (block_lt_of_cell c00)).trans c00
      clear c00
      have HL := Lib.hid hL; have HM := Lib.hid hm
      obtain ⟨m, hm'⟩ : ∃ m, m = L.length := ⟨_, rfl⟩
      rw [← hm'] at c0
      have HMN := Lib.hid hm'
      have hmb : m ≤ 1000000000 := by
        have := congrArg List.length (flat_at hL)
        simp only [List.length_append] at this
        have := HF.out; omega
      clear hL hm hm'
      go_wp2_with fail
      clear c0
      obtain ⟨G0, rfl⟩ : ∃ G0 : Nat, G0 = gk := ⟨_, rfl⟩
      go_loopg [19] m (fun gk i wr => T2Rel w b M k st so dm ep (Ls.take q).flatten L gk i wr)
      case atStart => exact ⟨0, by have := HMN.out; omega, rfl, Lib.hid (by simpa using HH.out)⟩
      case round =>
        obtain ⟨j, hj, rfl, HH2⟩ := hrel
        rw [← HMN.out] at hj
        by_cases hlt2 : j < m
        · obtain ⟨⟨t, y⟩, he⟩ := at_lt L j (by rw [← HMN.out]; exact hlt2)
          obtain ⟨bk2, o2, rfl, c0, c1⟩ := (HM.out.below HH2.out.below) j _ he
          simp only at c0 c1
          have ht : -9223372036854775808 ≤ t ∧ t ≤ 9223372036854775807 := HT.out (t, y) (by
            rw [flat_at HL.out]
            exact List.mem_append_right _ (List.mem_append_left _ (List.mem_of_getElem? he)))
          obtain ⟨K, hK⟩ : ∃ K, K = (Ls.take q).flatten ++ L.take j := ⟨_, rfl⟩
          have hKn : K.length < 1000000000 := by
            have := congrArg List.length (flat_at HL.out)
            simp only [List.length_append] at this
            rw [hK, List.length_append, List.length_take]
            have := HF.out; omega
          have HNX : Hid (K ++ [(t, y)] = (Ls.take q).flatten ++ L.take (j + 1)) := Lib.hid (by rw [take_at he, hK, List.append_assoc])
          rw [← hK] at HH2
          obtain ⟨⟨h, x⟩, hx⟩ : ∃ hx : Ml, mlOf (mailM k t K) = hx := ⟨_, rfl⟩
          obtain ⟨r, hr⟩ : ∃ r, nxt k (h, x) y = r := ⟨_, rfl⟩
          have HY : Hid (mailM k t (K ++ [(t, y)]) = some r) := Lib.hid (by rw [nxt_mail, hx, hr])
          have HW : Hid (Below wr.heap.size wr (wr.alloc (.cells #[.int .i64 t, .int .i64 y] 155))) := Lib.hid ((Below.refl _ wr).alloc (Nat.le_refl _) _)
          have HE := Lib.hid (mb_alloc wr t y)
          have HKN := Lib.hid hKn; have HTT := Lib.hid ht; have HX := Lib.hid hx; have HRr := Lib.hid hr
          clear he hK hKn ht hx hr
          go_upto_region 8 with fail
          obtain ⟨W1, hW1⟩ : ∃ W1, W1 = wr.alloc (.cells #[.int .i64 t, .int .i64 y] 155) := ⟨_, rfl⟩
          rw [← hW1] at HW HE ⊢
          obtain ⟨eb, heb⟩ : ∃ eb, eb = wr.heap.size := ⟨_, rfl⟩
          rw [← heb] at HE ⊢
          have HH5 := Lib.hid (HH2.out.step HW.out)
          obtain ⟨p0, p1, _⟩ := msg_cells HE.out
          obtain ⟨j0, j1, j2, j3, j4, _⟩ := jb_cells HH5.out.box
          have z0 := cell_regrown p0; have z1 := cell_regrown p1
          have y0 := cell_regrown j0; have y1 := cell_regrown j1; have y2 := cell_regrown j2; have y3 := cell_regrown j3; have y4 := cell_regrown j4
          have hlk : ∀ (d : Nat) (os : Array Obj), (Instr.lookup 150 (.map (some M)) (.int .i64 t) false).run Tryz.prog (Sort.grow (redrawn W1 d) os) = .ok (.agg #[.bool h, .int .i64 x]) (Sort.grow (redrawn W1 d) os) := fun d os => by
            have := (HH5.out.map.below (below_regrown W1 d os)).look HTT.out
            rw [HX.out] at this; exact this
          have hC := regr fun W (_ : Below W1.heap.size W1 W) => with_any k st so dm ep h x y W
          rw [HRr.out] at hC
          have C1 := Lib.hid hC
          clear hC p0 p1 c0 c1 hW1 heb j0 j1 j2 j3 j4
          refine Tl.region_tail_below 11 mixed (by kernel_rfl) ?_
          simp only [List.take_succ_cons, List.take_zero, List.drop_succ_cons, List.drop_zero]
          repeat (go_big_quiet_step ((with_reducible first | exact C1.out _ _)))
          refine wpQuiet_nil ?_
          intro _ hw'
          obtain ⟨⟨dq, osq⟩, hw''⟩ := hw'
          subst hw''
          obtain ⟨W4, hW4⟩ : ∃ W4, W4 = Sort.grow (redrawn W1 dq) osq := ⟨_, rfl⟩
          have hb4 : Below W1.heap.size W1 W4 := by rw [hW4]; exact below_regrown W1 dq osq
          rw [← hW4]
          have HH6 := Lib.hid (HH5.out.step hb4)
          obtain ⟨W5, hup, hcm, hg5⟩ := HH6.out.map.store y r HTT.out HKN.out HY.out
          unfold mlV at hup
          simp only at hup
          rw [HNX.out] at hcm
          have HH7 := Lib.hid (HH6.out.grown hg5 hcm HGM.out HBM.out)
          clear hb4 hW4 z0 z1 y0 y1 y2 y3 y4 hlk C1 hcm hg5
          go_wp2
          go_roundg (gk - 1)
          case measure => omega
          case rel => exact ⟨j + 1, by have := HMN.out; omega, by go_num, HH7⟩
        · have HH3 : Hid (TgH w wr b M k st so dm ep (Ls.take (q + 1)).flatten) := Lib.hid (by
            have := HH2.out
            rwa [show j = L.length by have := HMN.out; omega, List.take_length, ← flat_next HL.out] at this)
          go_wp2
          go_roundg (G0 - 1)
          case measure => omega
          case rel => exact ⟨q + 1, by have := HN.out; omega, by go_num, HH3⟩
    · have HH3 : Hid (TgH w wr b M k st so dm ep Ls.flatten) := Lib.hid (by
        have := HH.out
        rwa [show q = Ls.length by have := HN.out; omega, List.take_length] at this)
      go_wp2
      go_ret
      exact ⟨⟨M, rfl, HGM, Lib.hid HH3.out.map⟩, Lib.hid HH3.out.below⟩
end Go.Proofs.YtdcaekmgfcpbmaaGreat.In
