/-
  What is proved here: bytes that came in can be read, in one block. No condition.
-/
import Derived.Test.YtfbfckdabbaocaaQbStInx
import Derived.Test.YtfbfckdabbaocaaQbStR5x
namespace Go.Proofs.Ytfbfckdabbaocaa.St
open Go.ChangeShapes Go.WideShapes Go.ChangeAt Go.RowKit Go.Deep Gr Wd Ws Lb Al
open Sq (q_in b_in k_in I63)
set_option maxRecDepth 100000 in
theorem bytes_at2 {H : Type} {enc : TypeId × Value → H} {W : World} {base : Nat} {v : Value} {d : DataW H} {ps : List MemPlace}
    (hval : Value.okWide Try.prog W .any base 30 v) (h : DataW.Trod enc Try.prog W 0 (fun _ => true) true 30 v d ps) :
    ∃ (L : List Nat) (A : Option Addr) (c : Nat), v = .slice A L.length c ∧ L.length ≤ maxLen ∧ UAt W A L := by
  obtain ⟨a1, len, cap, rfl⟩ := okWide_slice Try.underlying30 hval
  obtain ⟨fuel, hf⟩ := h
  obtain ⟨A, len', c, e, hl, hi⟩ := In.slice_cells Try.underlying30 cells8 (by omega) (show DataW.trod enc Try.prog W 0 (fun _ => true) true fuel 30 [.slice a1 len cap] = _ from hf)
  cases e
  obtain ⟨ls, hls, hp⟩ := In.pick_list (fun i (z : Nat) => z < 256 ∧ ∃ g o, a1 = some ⟨g, o, none⟩ ∧ W.cell? ⟨g, o + i, none⟩ = some (.int .u8 (z : Int))) len (fun i hil => by
    obtain ⟨bk, o, hA, cs', f, y, hcl, hat, ht⟩ := hi i hil
    match cs', hcl with
    | [z0], _ =>
      obtain ⟨q0, e0, _, w0⟩ := DataW.trod_int Try.underlying5 ht
      injection e0 with e0
      subst e0
      have h0 := hat 0 (by omega)
      rw [Nat.mul_one] at h0
      have hb := In.u8_in w0
      refine ⟨q0.toNat, by omega, bk, o, hA, ?_⟩
      rw [show ((q0.toNat : Nat) : Int) = q0 by omega]
      exact h0)
  exact ⟨ls, a1, cap, by rw [hls], by rw [hls]; exact hl, fun k z hz => hp k z hz⟩
end Go.Proofs.Ytfbfckdabbaocaa.St
