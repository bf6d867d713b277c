/-
  What is proved here: what a state that came in gives: rows that can be read, numbers of 64 bits. No condition.
-/
import Derived.Test.YtfbfckdabbaocaaQaSqEq
import Derived.Test.YtfbfckdabbaocaaQaAlIn
import Derived.Test.YtfbfckdabbaocaaQaInIn
namespace Go.Proofs.Ytfbfckdabbaocaa.Sq
open Go.ChangeShapes Go.WideShapes Go.ChangeAt Go.RowKit Go.Deep Gr Wd Ws Lb Al
set_option maxRecDepth 100000 in
theorem q_in {H : Type} {enc : TypeId × Value → H} {W : World} {fuel : Nat} {v : Value} {x : DataW H × List MemPlace}
    (hf : DataW.trod enc Try.prog W 0 (fun _ => true) true fuel 23 [v] = some x) :
    ∃ (L : List Int) (A : Option Addr) (c : Nat), v = .slice A L.length c ∧ L.length ≤ maxLen ∧ IAt W A L := by
  obtain ⟨A, len, cap, rfl, hl, hi⟩ := In.slice_cells Try.underlying23 In.cellsJ (by omega) hf
  obtain ⟨ls, hls, hp⟩ := In.pick_list (fun i (z : Int) => ∃ bk o, A = some ⟨bk, o, none⟩ ∧ W.cell? ⟨bk, o + i, none⟩ = some (.int .i64 z)) len (fun i hil => by
    obtain ⟨bk, o, hA, cs', f, y, hcl, hat, ht⟩ := hi i hil
    match cs', hcl with
    | [z0], _ =>
      obtain ⟨q0, e0, _, w0⟩ := DataW.trod_int Try.underlying2 ht
      injection e0 with e0
      subst e0
      have h0 := hat 0 (by omega)
      rw [Nat.mul_one] at h0
      exact ⟨q0, bk, o, hA, h0⟩)
  exact ⟨ls, A, cap, by rw [hls], by omega, fun k z hz => hp k z hz⟩
set_option maxRecDepth 100000 in
theorem b_in {H : Type} {enc : TypeId × Value → H} {W : World} {fuel : Nat} {v : Value} {x : DataW H × List MemPlace}
    (hf : DataW.trod enc Try.prog W 0 (fun _ => true) true fuel 24 [v] = some x) :
    ∃ (L : List Bool) (A : Option Addr) (c : Nat), v = .slice A L.length c ∧ L.length ≤ maxLen ∧ BAt W A L := by
  obtain ⟨A, len, cap, rfl, hl, hi⟩ := In.slice_cells Try.underlying24 In.cellsB (by omega) hf
  obtain ⟨ls, hls, hp⟩ := In.pick_list (fun i (z : Bool) => ∃ bk o, A = some ⟨bk, o, none⟩ ∧ W.cell? ⟨bk, o + i, none⟩ = some (.bool z)) len (fun i hil => by
    obtain ⟨bk, o, hA, cs', f, y, hcl, hat, ht⟩ := hi i hil
    match cs', hcl with
    | [z0], _ =>
      obtain ⟨q0, e0, _⟩ := DataW.trod_bool Try.underlying4 ht
      injection e0 with e0
      subst e0
      have h0 := hat 0 (by omega)
      rw [Nat.mul_one] at h0
      exact ⟨q0, bk, o, hA, h0⟩)
  exact ⟨ls, A, cap, by rw [hls], by omega, fun k z hz => hp k z hz⟩
set_option maxRecDepth 100000 in
theorem k_in {H : Type} {enc : TypeId × Value → H} {W : World} {fuel : Nat} {v : Value} {x : DataW H × List MemPlace}
    (hf : DataW.trod enc Try.prog W 0 (fun _ => true) true fuel 25 [v] = some x) :
    ∃ (L : List In.Ml) (A : Option Addr) (c : Nat), v = .slice A L.length c ∧ L.length ≤ maxLen ∧ In.KAt W A L ∧ ∀ m ∈ L, I63 m.2 := by
  obtain ⟨A, len, cap, rfl, hl, hi⟩ := In.slice_cells Try.underlying25 In.cellsM (by omega) hf
  obtain ⟨ls, hls, hp⟩ := In.pick_list (fun i (e : In.Ml) => I63 e.2 ∧ ∃ bk o, A = some ⟨bk, o, none⟩ ∧ W.cell? ⟨bk, o + i * 2, none⟩ = some (.bool e.1) ∧ W.cell? ⟨bk, o + i * 2 + 1, none⟩ = some (.int .i64 e.2)) len (fun i hil => by
    obtain ⟨bk, o, hA, cs', f, y, hcl, hat, ht⟩ := hi i hil
    obtain ⟨ys, n', _, hy, _, hyl, hfld⟩ := DataW.trod_struct Try.underlying61 ht
    match cs', hcl with
    | [z0, z1], _ =>
      match ys, hyl with
      | [y0, y1], _ =>
        have f0 : DataW.trod enc Try.prog W 0 (fun _ => true) true n' 4 (([z0, z1].drop 0).take (Try.prog.cellsOf 4)) = [y0, y1][0]? := hfld 0 _ rfl
        have f1 : DataW.trod enc Try.prog W 0 (fun _ => true) true n' 2 (([z0, z1].drop 1).take (Try.prog.cellsOf 2)) = [y0, y1][1]? := hfld 1 _ rfl
        rw [In.cellsB] at f0
        rw [In.cellsJ] at f1
        have g0 : DataW.trod enc Try.prog W 0 (fun _ => true) true n' 4 [z0] = some y0 := f0
        have g1 : DataW.trod enc Try.prog W 0 (fun _ => true) true n' 2 [z1] = some y1 := f1
        obtain ⟨q0, e0, _⟩ := DataW.trod_bool Try.underlying4 g0
        obtain ⟨q1, e1, _, w1⟩ := DataW.trod_int Try.underlying2 g1
        injection e0 with e0
        injection e1 with e1
        subst e0 e1
        have h0 := hat 0 (by omega)
        have h1 := hat 1 (by omega)
        exact ⟨(q0, q1), In.i64_in w1, bk, o, hA, h0, h1⟩)
  refine ⟨ls, A, cap, by rw [hls], by omega, fun k z hz => (hp k z hz).2, fun m hm => ?_⟩
  obtain ⟨k, hk, rfl⟩ := List.mem_iff_getElem.1 hm
  exact (hp k _ (List.getElem?_eq_getElem hk)).1
end Go.Proofs.Ytfbfckdabbaocaa.Sq
