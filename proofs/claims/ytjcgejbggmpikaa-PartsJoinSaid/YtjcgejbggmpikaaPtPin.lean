/-
  What is proved here: what parts that came in give. No condition.
-/
import Derived.Test.YtjcgejbggmpikaaPtIn
import Derived.Test.YtjcgejbggmpikaaPtJ4
namespace Go.Proofs.Ytjcgejbggmpikaa.Pt
open Go.ChangeShapes Go.WideShapes Go.ChangeAt Go.RowKit Go.Deep Gr Wd Ws

/- A slice that came in, element by element. -/
theorem slice_cells {H : Type} {enc : TypeId × Value → H} {W : World} {fuel : Nat} {v : Value} {x : DataW H × List MemPlace} {S E : TypeId} {n : Nat} (ht : Try.prog.underlying S = some (.slice E)) (hn : Try.prog.cellsOf E = n) (h1 : 0 < n)
    (hf : DataW.trod enc Try.prog W 0 (fun _ => true) true fuel S [v] = some x) :
    ∃ (A : Option Addr) (len cap : Nat), v = .slice A len cap ∧ len ≤ maxLen ∧ ∀ i, i < len → ∃ bk o, A = some ⟨bk, o, none⟩ ∧ ∃ (cs' : List Value) (fuel' : Nat) (y : DataW H × List MemPlace), cs'.length = n ∧ (∀ j, j < n → W.cell? ⟨bk, o + i * n + j, none⟩ = cs'[j]?) ∧ DataW.trod enc Try.prog W 0 (fun _ => true) true fuel' E cs' = some y := by
  rcases open_slice ht hf with ⟨hcs, hx⟩ | ⟨a, len', cap', m, n', D, Pl, hcs, _, hl, hm, hmm, hx, hi⟩
  · injection hcs with hcs
    exact ⟨none, 0, 0, hcs, Nat.zero_le _, fun i hi => absurd hi (by omega)⟩
  · injection hcs with hcs
    subst hcs
    simp only [if_true] at hmm
    refine ⟨some a, len', cap', rfl, by omega, fun i hil => ?_⟩
    have hsp : a.spot = none := by
      obtain ⟨cs0, hc0, _⟩ := hi 0 (by omega)
      rw [hn] at hc0
      obtain ⟨_, hcl0, hat0⟩ := World.cells?_some hc0
      have q0 := hat0 0 (by omega)
      have : cs0[0]? = some (cs0[0]'(by omega)) := List.getElem?_eq_getElem (by omega)
      rw [this] at q0
      simpa [Addr.add] using World.cell?_spot q0
    obtain ⟨bk, o, sp⟩ := a
    obtain rfl : sp = none := hsp
    obtain ⟨cs', hc, ht'⟩ := hi i (by omega)
    rw [hn] at hc
    obtain ⟨_, hcl, hat⟩ := World.cells?_some hc
    refine ⟨bk, o, rfl, cs', _, _, hcl, fun j hj => ?_, ht'⟩
    have := hat j (by omega)
    rw [Ws.add_plain, Ws.add_plain] at this
    exact this

theorem cellsR' : Try.prog.cellsOf 28 = 1 := by kernel_rfl
theorem cellsIs : Try.prog.cellsOf 24 = 1 := by kernel_rfl
theorem cellsRs : Try.prog.cellsOf 32 = 1 := by kernel_rfl
theorem cellsPt : Try.prog.cellsOf 34 = 6 := by kernel_rfl

set_option maxRecDepth 100000 in
theorem ints_in {H : Type} {enc : TypeId × Value → H} {W : World} {fuel : Nat} {v : Value} {x : DataW H × List MemPlace}
    (hf : DataW.trod enc Try.prog W 0 (fun _ => true) true fuel 24 [v] = some x) : ∃ (L : List Int) (A : Option Addr) (c : Nat), v = .slice A L.length c ∧ L.length ≤ maxLen ∧ IAt W A L := by
  obtain ⟨A, len, c, rfl, hl, hi⟩ := slice_cells Try.underlying24 cellsI (by omega) hf
  obtain ⟨ls, hls, hp⟩ := pick_list (fun i (z : Int) => ∃ bk o, A = some ⟨bk, o, none⟩ ∧ W.cell? ⟨bk, o + i, none⟩ = some (.int .i64 z)) len (fun i hil => by
    obtain ⟨bk, o, hA, cs', f, y, hcl, hat, ht⟩ := hi i hil
    match cs', hcl with
    | [z0], _ =>
      obtain ⟨q0, e0, _, w0⟩ := DataW.trod_int Try.underlying3 ht
      injection e0 with e0
      subst e0
      have h0 := hat 0 (by omega)
      rw [Nat.mul_one] at h0
      exact ⟨q0, bk, o, hA, h0⟩)
  exact ⟨ls, A, c, by rw [hls], by omega, fun k z hz => hp k z hz⟩

set_option maxRecDepth 100000 in
theorem rows_in {H : Type} {enc : TypeId × Value → H} {W : World} {fuel : Nat} {v : Value} {x : DataW H × List MemPlace}
    (hf : DataW.trod enc Try.prog W 0 (fun _ => true) true fuel 32 [v] = some x) : ∃ (Ls : List (List Ed)) (A : Option Addr) (c : Nat), v = .slice A Ls.length c ∧ Ls.length ≤ maxLen ∧ RAt W A Ls ∧ Fits Ls := by
  obtain ⟨A, len, c, rfl, hl, hi⟩ := slice_cells Try.underlying32 cellsR' (by omega) hf
  obtain ⟨ls, hls, hp⟩ := pick_list (fun i (L : List Ed) => L.length ≤ 9223372036854775807 ∧ ∃ bk o A' c', A = some ⟨bk, o, none⟩ ∧ W.cell? ⟨bk, o + i, none⟩ = some (.slice A' L.length c') ∧ EAt W A' L) len (fun i hil => by
    obtain ⟨bk, o, hA, cs', f, y, hcl, hat, ht⟩ := hi i hil
    match cs', hcl with
    | [z0], _ =>
      obtain ⟨L, A', c', rfl, h1, h2, _⟩ := edges_in ht
      have h0 := hat 0 (by omega)
      rw [Nat.mul_one] at h0
      exact ⟨L, by unfold maxLen at h1; omega, bk, o, A', c', hA, h0, h2⟩)
  refine ⟨ls, A, c, by rw [hls], by omega, fun k z hz => (hp k z hz).2, fun L hL => ?_⟩
  obtain ⟨k, hk, rfl⟩ := List.mem_iff_getElem.1 hL
  exact (hp k _ (List.getElem?_eq_getElem hk)).1

/- Parts that came in. -/
set_option maxRecDepth 100000 in
theorem parts_in {H : Type} {enc : TypeId × Value → H} {W : World} {base : Nat} {v : Value} {d : DataW H} {ps : List MemPlace}
    (hval : Value.okWide Try.prog W .any base 47 v) (h : DataW.Trod enc Try.prog W 0 (fun _ => true) true 47 v d ps) :
    ∃ (L : List Pt) (A : Option Addr) (c : Nat), v = .slice A L.length c ∧ L.length ≤ maxLen ∧ LAt W A L ∧ ∀ Q ∈ L, Sm Q := by
  obtain ⟨fuel, hf⟩ := h
  obtain ⟨_, _, _, rfl⟩ := okWide_slice Try.underlying47 hval
  obtain ⟨A, len, c, e, hl, hi⟩ := slice_cells Try.underlying47 cellsPt (by omega) hf
  obtain ⟨ls, hls, hp⟩ := pick_list (fun i (P : Pt) => Sm P ∧ ∃ bk o A1 A2 A3 c1 c2 c3, A = some ⟨bk, o, none⟩ ∧ PCells W bk (o + i * 6) P A1 A2 A3 c1 c2 c3) len (fun i hil => by
    obtain ⟨bk, o, hA, cs', f, y, hcl, hat, ht⟩ := hi i hil
    obtain ⟨ys, n', _, hy, _, hyl, hfld⟩ := DataW.trod_struct Try.underlying34 ht
    match cs', hcl with
    | [z0, z1, z2, z3, z4, z5], _ =>
      match ys, hyl with
      | [y0, y1, y2, y3, y4, y5], _ =>
        have f0 : DataW.trod enc Try.prog W 0 (fun _ => true) true n' 3 (([z0, z1, z2, z3, z4, z5].drop 0).take (Try.prog.cellsOf 3)) = [y0, y1, y2, y3, y4, y5][0]? := hfld 0 _ rfl
        rw [cellsI] at f0
        have g0 : DataW.trod enc Try.prog W 0 (fun _ => true) true n' 3 [z0] = some y0 := f0
        have f1 : DataW.trod enc Try.prog W 0 (fun _ => true) true n' 3 (([z0, z1, z2, z3, z4, z5].drop 1).take (Try.prog.cellsOf 3)) = [y0, y1, y2, y3, y4, y5][1]? := hfld 1 _ rfl
        rw [cellsI] at f1
        have g1 : DataW.trod enc Try.prog W 0 (fun _ => true) true n' 3 [z1] = some y1 := f1
        have f2 : DataW.trod enc Try.prog W 0 (fun _ => true) true n' 3 (([z0, z1, z2, z3, z4, z5].drop 2).take (Try.prog.cellsOf 3)) = [y0, y1, y2, y3, y4, y5][2]? := hfld 2 _ rfl
        rw [cellsI] at f2
        have g2 : DataW.trod enc Try.prog W 0 (fun _ => true) true n' 3 [z2] = some y2 := f2
        have f3 : DataW.trod enc Try.prog W 0 (fun _ => true) true n' 24 (([z0, z1, z2, z3, z4, z5].drop 3).take (Try.prog.cellsOf 24)) = [y0, y1, y2, y3, y4, y5][3]? := hfld 3 _ rfl
        rw [cellsIs] at f3
        have g3 : DataW.trod enc Try.prog W 0 (fun _ => true) true n' 24 [z3] = some y3 := f3
        have f4 : DataW.trod enc Try.prog W 0 (fun _ => true) true n' 32 (([z0, z1, z2, z3, z4, z5].drop 4).take (Try.prog.cellsOf 32)) = [y0, y1, y2, y3, y4, y5][4]? := hfld 4 _ rfl
        rw [cellsRs] at f4
        have g4 : DataW.trod enc Try.prog W 0 (fun _ => true) true n' 32 [z4] = some y4 := f4
        have f5 : DataW.trod enc Try.prog W 0 (fun _ => true) true n' 32 (([z0, z1, z2, z3, z4, z5].drop 5).take (Try.prog.cellsOf 32)) = [y0, y1, y2, y3, y4, y5][5]? := hfld 5 _ rfl
        rw [cellsRs] at f5
        have g5 : DataW.trod enc Try.prog W 0 (fun _ => true) true n' 32 [z5] = some y5 := f5
        obtain ⟨q0, e0, _, w0⟩ := DataW.trod_int Try.underlying3 g0
        injection e0 with e0
        subst e0
        obtain ⟨q1, e1, _, w1⟩ := DataW.trod_int Try.underlying3 g1
        injection e1 with e1
        subst e1
        obtain ⟨q2, e2, _, w2⟩ := DataW.trod_int Try.underlying3 g2
        injection e2 with e2
        subst e2
        obtain ⟨L3, A3, c3, rfl, l3, i3⟩ := ints_in g3
        obtain ⟨L4, A4, c4, rfl, l4, i4, t4⟩ := rows_in g4
        obtain ⟨L5, A5, c5, rfl, l5, i5, t5⟩ := rows_in g5
        exact ⟨⟨q0, q1, q2, L3, L4, L5⟩, ⟨by unfold maxLen at l3; show L3.length ≤ _; omega, by unfold maxLen at l4; show L4.length ≤ _; omega, by unfold maxLen at l5; show L5.length ≤ _; omega, t4, t5⟩, bk, o, A3, A4, A5, c3, c4, c5, hA,
          ⟨hat 0 (by omega), hat 1 (by omega), hat 2 (by omega), hat 3 (by omega), hat 4 (by omega), hat 5 (by omega), i3, i4, i5⟩⟩)
  refine ⟨ls, A, c, by rw [hls]; exact e, by omega, fun k z hz => (hp k z hz).2, fun Q hQ => ?_⟩
  obtain ⟨k, hk, rfl⟩ := List.mem_iff_getElem.1 hQ
  exact (hp k _ (List.getElem?_eq_getElem hk)).1

end Go.Proofs.Ytjcgejbggmpikaa.Pt
