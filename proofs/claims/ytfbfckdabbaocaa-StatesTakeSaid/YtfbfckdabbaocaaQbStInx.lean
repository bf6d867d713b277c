/-
  What is proved here: what a state that came in gives: rows that can be read, numbers of 64 bits. No condition. What is proved here: what a part, bytes, and a list of parts that came in give: rows that can be read. No condition.
-/
import Derived.Test.YtfbfckdabbaocaaQbSqEqx
import Derived.Test.YtfbfckdabbaocaaQbAlIn
import Derived.Test.YtfbfckdabbaocaaQbInIn
import Derived.Test.YtfbfckdabbaocaaQbSqErx
namespace Go.Proofs.Ytfbfckdabbaocaa.Sq
open Go.ChangeShapes Go.WideShapes Go.ChangeAt Go.RowKit Go.Deep Gr Wd Ws Lb Al
set_option maxRecDepth 100000 in
theorem q_in {H : Type} {enc : TypeId × Value → H} {W : World} {fuel : Nat} {v : Value} {x : DataW H × List MemPlace}
    (hf : DataW.trod enc Try.prog W 0 (fun _ => true) true fuel 23 [v] = some x) :
    ∃ (L : List Int) (A : Option Addr) (c : Nat), v = .slice A L.length c ∧ L.length ≤ maxLen ∧ IAt W A L := by
  obtain ⟨A, len, cap, rfl, hl, hi⟩ := In.slice_cells Try.underlying23 In.cellsJ (by omega) hf
  obtain ⟨ls, hls, hp⟩ := In.pick_list (fun i (z : Int) => ∃ bk o, A = some ⟨bk, o, none⟩ ∧ W.cell? ⟨bk, o + i, none⟩ = some (.int .i64 z)) len (fun i hil => by
    obtain ⟨bk, o, hA, cs', f, y, hcl, hat, ht⟩ := hi i hil
    match cs', hcl with
    | [z0], _ =>
      obtain ⟨q0, e0, _, w0⟩ := DataW.trod_int Try.underlying2 ht
      injection e0 with e0
      subst e0
      have h0 := hat 0 (by omega)
      rw [Nat.mul_one] at h0
      exact ⟨q0, bk, o, hA, h0⟩)
  exact ⟨ls, A, cap, by rw [hls], by omega, fun k z hz => hp k z hz⟩
set_option maxRecDepth 100000 in
theorem b_in {H : Type} {enc : TypeId × Value → H} {W : World} {fuel : Nat} {v : Value} {x : DataW H × List MemPlace}
    (hf : DataW.trod enc Try.prog W 0 (fun _ => true) true fuel 24 [v] = some x) :
    ∃ (L : List Bool) (A : Option Addr) (c : Nat), v = .slice A L.length c ∧ L.length ≤ maxLen ∧ BAt W A L := by
  obtain ⟨A, len, cap, rfl, hl, hi⟩ := In.slice_cells Try.underlying24 In.cellsB (by omega) hf
  obtain ⟨ls, hls, hp⟩ := In.pick_list (fun i (z : Bool) => ∃ bk o, A = some ⟨bk, o, none⟩ ∧ W.cell? ⟨bk, o + i, none⟩ = some (.bool z)) len (fun i hil => by
    obtain ⟨bk, o, hA, cs', f, y, hcl, hat, ht⟩ := hi i hil
    match cs', hcl with
    | [z0], _ =>
      obtain ⟨q0, e0, _⟩ := DataW.trod_bool Try.underlying4 ht
      injection e0 with e0
      subst e0
      have h0 := hat 0 (by omega)
      rw [Nat.mul_one] at h0
      exact ⟨q0, bk, o, hA, h0⟩)
  exact ⟨ls, A, cap, by rw [hls], by omega, fun k z hz => hp k z hz⟩
set_option maxRecDepth 100000 in
theorem k_in {H : Type} {enc : TypeId × Value → H} {W : World} {fuel : Nat} {v : Value} {x : DataW H × List MemPlace}
    (hf : DataW.trod enc Try.prog W 0 (fun _ => true) true fuel 25 [v] = some x) :
    ∃ (L : List In.Ml) (A : Option Addr) (c : Nat), v = .slice A L.length c ∧ L.length ≤ maxLen ∧ In.KAt W A L ∧ ∀ m ∈ L, I63 m.2 := by
  obtain ⟨A, len, cap, rfl, hl, hi⟩ := In.slice_cells Try.underlying25 In.cellsM (by omega) hf
  obtain ⟨ls, hls, hp⟩ := In.pick_list (fun i (e : In.Ml) => I63 e.2 ∧ ∃ bk o, A = some ⟨bk, o, none⟩ ∧ W.cell? ⟨bk, o + i * 2, none⟩ = some (.bool e.1) ∧ W.cell? ⟨bk, o + i * 2 + 1, none⟩ = some (.int .i64 e.2)) len (fun i hil => by
    obtain ⟨bk, o, hA, cs', f, y, hcl, hat, ht⟩ := hi i hil
    obtain ⟨ys, n', _, hy, _, hyl, hfld⟩ := DataW.trod_struct Try.underlying61 ht
    match cs', hcl with
    | [z0, z1], _ =>
      match ys, hyl with
      | [y0, y1], _ =>
        have f0 : DataW.trod enc Try.prog W 0 (fun _ => true) true n' 4 (([z0, z1].drop 0).take (Try.prog.cellsOf 4)) = [y0, y1][0]? := hfld 0 _ rfl
        have f1 : DataW.trod enc Try.prog W 0 (fun _ => true) true n' 2 (([z0, z1].drop 1).take (Try.prog.cellsOf 2)) = [y0, y1][1]? := hfld 1 _ rfl
        rw [In.cellsB] at f0
        rw [In.cellsJ] at f1
        have g0 : DataW.trod enc Try.prog W 0 (fun _ => true) true n' 4 [z0] = some y0 := f0
        have g1 : DataW.trod enc Try.prog W 0 (fun _ => true) true n' 2 [z1] = some y1 := f1
        obtain ⟨q0, e0, _⟩ := DataW.trod_bool Try.underlying4 g0
        obtain ⟨q1, e1, _, w1⟩ := DataW.trod_int Try.underlying2 g1
        injection e0 with e0
        injection e1 with e1
        subst e0 e1
        have h0 := hat 0 (by omega)
        have h1 := hat 1 (by omega)
        exact ⟨(q0, q1), In.i64_in w1, bk, o, hA, h0, h1⟩)
  refine ⟨ls, A, cap, by rw [hls], by omega, fun k z hz => (hp k z hz).2, fun m hm => ?_⟩
  obtain ⟨k, hk, rfl⟩ := List.mem_iff_getElem.1 hm
  exact (hp k _ (List.getElem?_eq_getElem hk)).1
set_option maxRecDepth 100000 in
theorem state_in {H : Type} {enc : TypeId × Value → H} {W : World} {base : Nat} {v : Value} {d : DataW H} {ps : List MemPlace}
    (hval : Value.okWide Try.prog W .any base 48 v) (h : DataW.Trod enc Try.prog W 0 (fun _ => true) true 48 v d ps) :
    ∃ (p : Int) (s : Sq) (Av Ac Ai : Option Addr) (cv cc ci : Nat), v = .agg #[.int .i64 p, .slice Av s.vals.length cv, .slice Ac s.chg.length cc, .slice Ai s.inb.length ci, .int .i64 s.sum, .int .i64 s.most] ∧ (s.vals.length ≤ maxLen ∧ s.chg.length ≤ maxLen ∧ s.inb.length ≤ maxLen) ∧ SAt W Av Ac Ai s.vals.length s.chg.length s.inb.length s ∧ (∀ m ∈ s.inb, I63 m.2) ∧ I63 p := by
  obtain ⟨cs, rfl, hsz⟩ := okWide_struct Try.underlying48 hval
  rw [show Try.prog.cellsOf 48 = 6 by kernel_rfl] at hsz
  obtain ⟨fuel, hf⟩ := h
  obtain ⟨ys, n', _, hy, _, hyl, hfld⟩ := DataW.trod_struct Try.underlying48 hf
  obtain ⟨l⟩ := cs
  match l, hsz with
  | [z0, z1, z2, z3, z4, z5], _ =>
    match ys, hyl with
    | [y0, y1, y2, y3, y4, y5], _ =>
      have f0 : DataW.trod enc Try.prog W 0 (fun _ => true) true n' 3 (([z0, z1, z2, z3, z4, z5].drop 0).take (Try.prog.cellsOf 3)) = [y0, y1, y2, y3, y4, y5][0]? := hfld 0 _ rfl
      rw [In.cellsI] at f0
      have g0 : DataW.trod enc Try.prog W 0 (fun _ => true) true n' 3 [z0] = some y0 := f0
      obtain ⟨q0, e0, _, w0⟩ := DataW.trod_int Try.underlying3 g0
      injection e0 with e0
      have f1 : DataW.trod enc Try.prog W 0 (fun _ => true) true n' 23 (([z0, z1, z2, z3, z4, z5].drop 1).take (Try.prog.cellsOf 23)) = [y0, y1, y2, y3, y4, y5][1]? := hfld 1 _ rfl
      rw [show Try.prog.cellsOf 23 = 1 by kernel_rfl] at f1
      have g1 : DataW.trod enc Try.prog W 0 (fun _ => true) true n' 23 [z1] = some y1 := f1
      obtain ⟨L1, A1, c1, rfl, hl1, hL1⟩ := q_in g1
      have f2 : DataW.trod enc Try.prog W 0 (fun _ => true) true n' 24 (([z2, z3, z4, z5]).take (Try.prog.cellsOf 24)) = [y0, y1, y2, y3, y4, y5][2]? := hfld 2 _ rfl
      rw [show Try.prog.cellsOf 24 = 1 by kernel_rfl] at f2
      have g2 : DataW.trod enc Try.prog W 0 (fun _ => true) true n' 24 [z2] = some y2 := f2
      obtain ⟨L2, A2, c2, rfl, hl2, hL2⟩ := b_in g2
      have f3 : DataW.trod enc Try.prog W 0 (fun _ => true) true n' 25 (([z3, z4, z5]).take (Try.prog.cellsOf 25)) = [y0, y1, y2, y3, y4, y5][3]? := hfld 3 _ rfl
      rw [show Try.prog.cellsOf 25 = 1 by kernel_rfl] at f3
      have g3 : DataW.trod enc Try.prog W 0 (fun _ => true) true n' 25 [z3] = some y3 := f3
      obtain ⟨L3, A3, c3, rfl, hl3, hL3, hI3⟩ := k_in g3
      have f4 : DataW.trod enc Try.prog W 0 (fun _ => true) true n' 2 (([z4, z5]).take (Try.prog.cellsOf 2)) = [y0, y1, y2, y3, y4, y5][4]? := hfld 4 _ rfl
      rw [In.cellsJ] at f4
      have g4 : DataW.trod enc Try.prog W 0 (fun _ => true) true n' 2 [z4] = some y4 := f4
      obtain ⟨q4, e4, _, w4⟩ := DataW.trod_int Try.underlying2 g4
      injection e4 with e4
      have f5 : DataW.trod enc Try.prog W 0 (fun _ => true) true n' 2 (([z5]).take (Try.prog.cellsOf 2)) = [y0, y1, y2, y3, y4, y5][5]? := hfld 5 _ rfl
      rw [In.cellsJ] at f5
      have g5 : DataW.trod enc Try.prog W 0 (fun _ => true) true n' 2 [z5] = some y5 := f5
      obtain ⟨q5, e5, _, w5⟩ := DataW.trod_int Try.underlying2 g5
      injection e5 with e5
      subst e0 e4 e5
      exact ⟨q0, ⟨L1, L2, L3, q4, q5⟩, A1, A2, A3, c1, c2, c3, rfl, ⟨hl1, hl2, hl3⟩, ⟨hL1, hL2, hL3, rfl, rfl, rfl⟩, hI3, In.i64_in w0⟩
end Go.Proofs.Ytfbfckdabbaocaa.Sq
namespace Go.Proofs.Ytfbfckdabbaocaa.St
open Go.ChangeShapes Go.WideShapes Go.ChangeAt Go.RowKit Go.Deep Gr Wd Ws Lb Al
open Sq (q_in b_in k_in I63)
theorem cells8 : Try.prog.cellsOf 5 = 1 := by kernel_rfl
end Go.Proofs.Ytfbfckdabbaocaa.St
