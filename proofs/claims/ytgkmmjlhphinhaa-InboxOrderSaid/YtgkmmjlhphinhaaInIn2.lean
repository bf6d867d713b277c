/-
  What is proved here: a slice of messages that came in has room for what it holds. No condition.
-/
import Derived.Test.YtgkmmjlhphinhaaInIn
namespace Go.Proofs.Ytgkmmjlhphinhaa.In
open Go.ChangeShapes Go.WideShapes Go.ChangeAt Go.RowKit Go.Deep Gr Wd Ws Lb Al

theorem cap_in {H : Type} {enc : TypeId × Value → H} {W : World} {A : Option Addr} {n c : Nat} {d : DataW H} {ps : List MemPlace}
    (h : DataW.Trod enc Try.prog W 0 (fun _ => true) true 24 (.slice A n c) d ps) : n ≤ c := by
  obtain ⟨fuel, hf⟩ := h
  rcases open_slice Try.underlying24 (show DataW.trod enc Try.prog W 0 (fun _ => true) true fuel 24 [.slice A n c] = _ from hf) with ⟨hcs, hx⟩ | ⟨a, len', cap', m, n', D, Pl, hcs, _, hl, hm, hmm, hx, hi⟩
  · cases hcs; exact Nat.le_refl _
  · cases hcs; exact hl

end Go.Proofs.Ytgkmmjlhphinhaa.In
