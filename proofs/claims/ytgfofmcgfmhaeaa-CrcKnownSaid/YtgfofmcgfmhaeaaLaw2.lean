/-
  What is proved here: what a slice of bytes that came in gives, and the laws' last step in the form that takes such slices. No condition.
-/
import Derived.Test.YtgfofmcgfmhaeaaLaw
namespace Go.Proofs.Ytgfofmcgfmhaeaa
open Go.ChangeShapes Go.WideShapes Go.ChangeAt Go.RowKit

theorem laidOut : laidOutB Try.prog = true := by kernel_rfl
theorem cells5 : Try.prog.cellsOf 5 = 1 := by kernel_rfl

theorem law_post2 {H : Type} {enc : TypeId × Value → H} {f : Func} {s : ChangeSpec} {apart : Bool} {W W' : World} {args : Array Value} {ds : List (DataW H)} {before : List MemPlace}
    (hW : DataW.Whole enc Try.prog f.params.toList s.vars apart W args.toList ds [] before) (hb : Below W.heap.size W W')
    (ht : f.resultTypes = #[4]) (hr : (s.fn H (ds ++ [])).results = [.lit (.bool true)]) (hv : s.vars = []) (hg : (s.fn H (ds ++ [])).vars = [])
    (hargs : DataW.TrodAll enc Try.prog W' 0 (fun b => decide (b < W.heap.size)) true f.params.toList args.toList (s.fn H (ds ++ [])).args before) :
    s.post enc Try.prog f apart true false false W args (.bool true) W' := by
  have hres : ∀ (b : Nat) (sp : Nat → Bool) (hd : Bool), DataW.TrodAll enc Try.prog W' b sp hd f.resultTypes.toList ((Value.bool true).resultList f.resultTypes.size) (s.fn H (ds ++ [])).results [] := by
    intro b sp hd
    rw [hr, ht]
    exact trodAll_cons_mk (shut_bool Try.underlying4 _) trodAll_mk0
  have hvars : ∀ sp : Nat → Bool, DataW.TrodVars enc Try.prog W' sp s.vars (s.fn H (ds ++ [])).vars [] := by
    intro sp; rw [hv, hg]; rfl
  exact ⟨ds, [], before, [], before, [], hW, hres _ _ _, hargs, hvars _, hb.frame _, fun h => absurd h (by simp)⟩

/- The bytes of a slice that came in. -/
theorem bytes_in {H : Type} {enc : TypeId × Value → H} {W : World} {base : Nat} {v : Value} {d : DataW H} {ps : List MemPlace}
    (hval : Value.okWide Try.prog W .any base 22 v) (h : DataW.Trod enc Try.prog W 0 (fun _ => true) true 22 v d ps) :
    ∃ l : List Nat, l.length ≤ maxLen ∧ Bytes W v l := by
  obtain ⟨a1, len, cap, rfl⟩ := okWide_slice Try.underlying22 hval
  obtain ⟨fuel, hf⟩ := h
  rcases open_ints Try.underlying22 Try.underlying5 cells5 hf with ⟨hcs, hx⟩ | ⟨a, len', cap', zs, hcs, _, hl, hm, hz, hx, hcell, hwz⟩
  · simp [Value.cells] at hcs
    obtain ⟨rfl, rfl, rfl⟩ := hcs
    exact ⟨[], Nat.zero_le _, Bytes.none_ W⟩
  · simp [Value.cells] at hcs
    obtain ⟨rfl, rfl, rfl⟩ := hcs
    simp only [if_true] at hz
    have hlen : ((zs.take len).map Int.toNat).length = len := by simp; omega
    refine ⟨(zs.take len).map Int.toNat, by rw [hlen]; omega, ?_⟩
    refine ⟨some a, cap, by rw [hlen], fun k x hx => ?_⟩
    have hk : k < len := by
      rcases Nat.lt_or_ge k len with h | h
      · exact h
      · rw [List.getElem?_eq_none (by rw [hlen]; exact h)] at hx; cases hx
    have hk2 : k < zs.length := by omega
    have ex : x = (zs[k]).toNat := by
      rw [List.getElem?_map, List.getElem?_take, if_pos hk, List.getElem?_eq_getElem hk2] at hx
      simpa using hx.symm
    have hw := hwz (zs[k]) (List.getElem_mem hk2)
    have h1 : IntKind.u8.min ≤ zs[k] ∧ zs[k] ≤ IntKind.u8.max := by simpa [Lit.wf] using hw
    have h3 : IntKind.u8.min = 0 := by decide
    have h4 : IntKind.u8.max = 255 := by decide
    refine ⟨by omega, a, rfl, ?_⟩
    have hc := hcell k hk2
    have hg : zs.getD k 0 = zs[k] := by rw [List.getD_eq_getElem?_getD, List.getElem?_eq_getElem hk2]; rfl
    rw [hg] at hc
    have e2 : zs[k] = ((x : Nat) : Int) := by omega
    rw [e2] at hc
    exact hc

end Go.Proofs.Ytgfofmcgfmhaeaa
