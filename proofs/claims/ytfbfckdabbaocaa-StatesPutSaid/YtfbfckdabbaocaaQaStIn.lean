/-
  What is proved here: what a part, bytes, and a list of parts that came in give: rows that can be read. No condition.
-/
import Derived.Test.YtfbfckdabbaocaaQaSqIn
import Derived.Test.YtfbfckdabbaocaaQaStMem
namespace Go.Proofs.Ytfbfckdabbaocaa.St
open Go.ChangeShapes Go.WideShapes Go.ChangeAt Go.RowKit Go.Deep Gr Wd Ws Lb Al
open Sq (q_in b_in k_in I63)
set_option maxRecDepth 100000 in
theorem n_in {H : Type} {enc : TypeId × Value → H} {W : World} {fuel : Nat} {v : Value} {x : DataW H × List MemPlace}
    (hf : DataW.trod enc Try.prog W 0 (fun _ => true) true fuel 22 [v] = some x) :
    ∃ (L : List Int) (A : Option Addr) (c : Nat), v = .slice A L.length c ∧ L.length ≤ maxLen ∧ IAt W A L := by
  obtain ⟨A, len, cap, rfl, hl, hi⟩ := In.slice_cells Try.underlying22 In.cellsI (by omega) hf
  obtain ⟨ls, hls, hp⟩ := In.pick_list (fun i (z : Int) => ∃ bk o, A = some ⟨bk, o, none⟩ ∧ W.cell? ⟨bk, o + i, none⟩ = some (.int .i64 z)) len (fun i hil => by
    obtain ⟨bk, o, hA, cs', f, y, hcl, hat, ht⟩ := hi i hil
    match cs', hcl with
    | [z0], _ =>
      obtain ⟨q0, e0, _, w0⟩ := DataW.trod_int Try.underlying3 ht
      injection e0 with e0
      subst e0
      have h0 := hat 0 (by omega)
      rw [Nat.mul_one] at h0
      exact ⟨q0, bk, o, hA, h0⟩)
  exact ⟨ls, A, cap, by rw [hls], by omega, fun k z hz => hp k z hz⟩
theorem cells8 : Try.prog.cellsOf 5 = 1 := by kernel_rfl
set_option maxRecDepth 100000 in
theorem bytes_at {H : Type} {enc : TypeId × Value → H} {W : World} {base : Nat} {v : Value} {d : DataW H} {ps : List MemPlace}
    (hval : Value.okWide Try.prog W .any base 30 v) (h : DataW.Trod enc Try.prog W 0 (fun _ => true) true 30 v d ps) :
    ∃ (L : List Nat) (A : Option Addr) (c : Nat), v = .slice A L.length c ∧ L.length ≤ maxLen ∧ Fd.At W A L := by
  obtain ⟨a1, len, cap, rfl⟩ := okWide_slice Try.underlying30 hval
  obtain ⟨fuel, hf⟩ := h
  obtain ⟨A, len', c, e, hl, hi⟩ := In.slice_cells Try.underlying30 cells8 (by omega) (show DataW.trod enc Try.prog W 0 (fun _ => true) true fuel 30 [.slice a1 len cap] = _ from hf)
  cases e
  obtain ⟨ls, hls, hp⟩ := In.pick_list (fun i (z : Nat) => z < 256 ∧ ∃ ad, a1 = some ad ∧ W.cell? (ad.add i) = some (.int .u8 (z : Int))) len (fun i hil => by
    obtain ⟨bk, o, hA, cs', f, y, hcl, hat, ht⟩ := hi i hil
    match cs', hcl with
    | [z0], _ =>
      obtain ⟨q0, e0, _, w0⟩ := DataW.trod_int Try.underlying5 ht
      injection e0 with e0
      subst e0
      have h0 := hat 0 (by omega)
      rw [Nat.mul_one] at h0
      have hb := In.u8_in w0
      refine ⟨q0.toNat, by omega, ⟨bk, o, none⟩, hA, ?_⟩
      rw [Fd.add_plain, show ((q0.toNat : Nat) : Int) = q0 by omega]
      exact h0)
  exact ⟨ls, a1, cap, by rw [hls], by rw [hls]; exact hl, fun k z hz => hp k z hz⟩
def PIn (W : World) (cs : List Value) (p : Pr) : Prop := ∃ (Ao Av Ac Ai : Option Addr) (co cv cc ci : Nat), cs = [.int .i64 p.st, .slice Ao p.own.length co, .slice Av p.vals.length cv, .slice Ac p.chg.length cc, .slice Ai p.inb.length ci] ∧ (p.own.length ≤ maxLen ∧ p.vals.length ≤ maxLen ∧ p.chg.length ≤ maxLen ∧ p.inb.length ≤ maxLen) ∧ PAt W Ao Av Ac Ai p.own.length p.vals.length p.chg.length p.inb.length p
set_option maxRecDepth 100000 in
theorem part_cells {H : Type} {enc : TypeId × Value → H} {W : World} {fuel : Nat} {l : List Value} {x : DataW H × List MemPlace} (hsz : l.length = 5)
    (hf : DataW.trod enc Try.prog W 0 (fun _ => true) true fuel 27 l = some x) : ∃ p : Pr, PIn W l p := by
  obtain ⟨ys, n', _, hy, _, hyl, hfld⟩ := DataW.trod_struct Try.underlying27 hf
  match l, hsz with
  | [z0, z1, z2, z3, z4], _ =>
    match ys, hyl with
    | [y0, y1, y2, y3, y4], _ =>
      have f0 : DataW.trod enc Try.prog W 0 (fun _ => true) true n' 3 (([z0, z1, z2, z3, z4].drop 0).take (Try.prog.cellsOf 3)) = [y0, y1, y2, y3, y4][0]? := hfld 0 _ rfl
      rw [show Try.prog.cellsOf 3 = 1 by kernel_rfl] at f0
      have g0 : DataW.trod enc Try.prog W 0 (fun _ => true) true n' 3 [z0] = some y0 := f0
      obtain ⟨q0, e0, _, w0⟩ := DataW.trod_int Try.underlying3 g0
      injection e0 with e0
      have f1 : DataW.trod enc Try.prog W 0 (fun _ => true) true n' 22 (([z0, z1, z2, z3, z4].drop 1).take (Try.prog.cellsOf 22)) = [y0, y1, y2, y3, y4][1]? := hfld 1 _ rfl
      rw [show Try.prog.cellsOf 22 = 1 by kernel_rfl] at f1
      have g1 : DataW.trod enc Try.prog W 0 (fun _ => true) true n' 22 [z1] = some y1 := f1
      obtain ⟨L1, A1, c1, e1, hl1, hL1⟩ := n_in g1
      have f2 : DataW.trod enc Try.prog W 0 (fun _ => true) true n' 23 (([z0, z1, z2, z3, z4].drop 2).take (Try.prog.cellsOf 23)) = [y0, y1, y2, y3, y4][2]? := hfld 2 _ rfl
      rw [show Try.prog.cellsOf 23 = 1 by kernel_rfl] at f2
      have g2 : DataW.trod enc Try.prog W 0 (fun _ => true) true n' 23 [z2] = some y2 := f2
      obtain ⟨L2, A2, c2, e2, hl2, hL2⟩ := q_in g2
      have f3 : DataW.trod enc Try.prog W 0 (fun _ => true) true n' 24 (([z0, z1, z2, z3, z4].drop 3).take (Try.prog.cellsOf 24)) = [y0, y1, y2, y3, y4][3]? := hfld 3 _ rfl
      rw [show Try.prog.cellsOf 24 = 1 by kernel_rfl] at f3
      have g3 : DataW.trod enc Try.prog W 0 (fun _ => true) true n' 24 [z3] = some y3 := f3
      obtain ⟨L3, A3, c3, e3, hl3, hL3⟩ := b_in g3
      have f4 : DataW.trod enc Try.prog W 0 (fun _ => true) true n' 25 (([z0, z1, z2, z3, z4].drop 4).take (Try.prog.cellsOf 25)) = [y0, y1, y2, y3, y4][4]? := hfld 4 _ rfl
      rw [show Try.prog.cellsOf 25 = 1 by kernel_rfl] at f4
      have g4 : DataW.trod enc Try.prog W 0 (fun _ => true) true n' 25 [z4] = some y4 := f4
      obtain ⟨L4, A4, c4, e4, hl4, hL4, _⟩ := k_in g4
      subst e0 e1 e2 e3 e4
      exact ⟨⟨q0, L1, L2, L3, L4⟩, A1, A2, A3, A4, c1, c2, c3, c4, rfl, ⟨hl1, hl2, hl3, hl4⟩, ⟨hL1, hL2, hL3, hL4, rfl, rfl, rfl, rfl⟩⟩
set_option maxRecDepth 100000 in
theorem part_in {H : Type} {enc : TypeId × Value → H} {W : World} {base : Nat} {v : Value} {d : DataW H} {ps : List MemPlace}
    (hval : Value.okWide Try.prog W .any base 27 v) (h : DataW.Trod enc Try.prog W 0 (fun _ => true) true 27 v d ps) :
    ∃ (p : Pr) (Ao Av Ac Ai : Option Addr) (co cv cc ci : Nat), v = .agg #[.int .i64 p.st, .slice Ao p.own.length co, .slice Av p.vals.length cv, .slice Ac p.chg.length cc, .slice Ai p.inb.length ci] ∧ (p.own.length ≤ maxLen ∧ p.vals.length ≤ maxLen ∧ p.chg.length ≤ maxLen ∧ p.inb.length ≤ maxLen) ∧ PAt W Ao Av Ac Ai p.own.length p.vals.length p.chg.length p.inb.length p := by
  obtain ⟨cs, rfl, hsz⟩ := okWide_struct Try.underlying27 hval
  rw [show Try.prog.cellsOf 27 = 5 by kernel_rfl] at hsz
  obtain ⟨fuel, hf⟩ := h
  obtain ⟨l⟩ := cs
  obtain ⟨p, Ao, Av, Ac, Ai, co, cv, cc, ci, e, hl, hp⟩ := part_cells (l := l) (show l.length = 5 from hsz) hf
  have e2 : l = _ := e
  subst e2
  exact ⟨p, Ao, Av, Ac, Ai, co, cv, cc, ci, rfl, hl, hp⟩
end Go.Proofs.Ytfbfckdabbaocaa.St
