/-
  What is proved here: what a slice of slices of bytes that came in gives, and plain facts on rows of bytes put behind one another: for the law CrcJoins. No condition.
-/
import Derived.Test.YtgfofmcgfmhaeaaLaw2
import Derived.Deep.Matrix
import Derived.SizedLaws
namespace Go.Proofs.Ytgfofmcgfmhaeaa
open Go.ChangeShapes Go.WideShapes Go.ChangeAt Go.RowKit Go.Deep

theorem cells22 : Try.prog.cellsOf 22 = 1 := by kernel_rfl
theorem bytesOf5 : Try.prog.bytesOf 5 = 1 := by kernel_rfl

/- A slice of bytes at an address, as a list of numbers. -/
def At (w : World) (B : Option Addr) (l : List Nat) : Prop := ∀ (k x : Nat), l[k]? = some x → x < 256 ∧ ∃ bd, B = some bd ∧ w.cell? (bd.add k) = some (.int .u8 (x : Int))
theorem At.bytes {w : World} {B : Option Addr} {l : List Nat} (h : At w B l) (d : Nat) : Bytes w (.slice B l.length d) l := ⟨B, d, rfl, h⟩
theorem At.below {w w' : World} {B : Option Addr} {l : List Nat} (h : At w B l) {b : Nat} (hb : Below b w w') (hs : b = w.heap.size) : At w' B l := by
  subst hs
  intro k x hx
  obtain ⟨h1, bd, e, h2⟩ := h k x hx
  exact ⟨h1, bd, e, (hb.cell (block_lt_of_cell h2)).trans h2⟩

def RowAt (w : World) (A : Option Addr) (i : Nat) (l : List Nat) : Prop :=
  l.length ≤ 140737488355328 ∧ ∃ ad B d, A = some ad ∧ w.cell? (ad.add i) = some (.slice B l.length d) ∧ (B = none → d = 0) ∧ At w B l
def RowsB (w : World) (v : Value) (ls : List (List Nat)) : Prop :=
  ∃ (A : Option Addr) (c : Nat), v = .slice A ls.length c ∧ ∀ (i : Nat) (l : List Nat), ls[i]? = some l → RowAt w A i l
theorem RowAt.below {w w' : World} {A : Option Addr} {i : Nat} {l : List Nat} (h : RowAt w A i l) (hb : Below w.heap.size w w') : RowAt w' A i l := by
  obtain ⟨h0, ad, B, d, e, hc, hn, ha⟩ := h
  exact ⟨h0, ad, B, d, e, (hb.cell (block_lt_of_cell hc)).trans hc, hn, ha.below hb rfl⟩

theorem weights_all {H : Type} {P : Program} {e : TypeId} : ∀ {ds : List (DataW H)} {d : DataW H}, d ∈ ds → ∀ n ∈ d.weights P e, n ∈ DataW.weightsAll P e ds
  | d0 :: ds, d, hd, n, hn => by
    simp only [DataW.weightsAll, List.mem_append]
    rcases List.mem_cons.1 hd with rfl | hd
    · exact Or.inl hn
    · exact Or.inr (weights_all hd n hn)
  | [], _, hd, _, _ => by cases hd

theorem rows_in {H : Type} {enc : TypeId × Value → H} {W : World} {base : Nat} {v : Value} {d : DataW H} {ps : List MemPlace} {t1 : TypeId} {d1 : DataW H}
    (hval : Value.okWide Try.prog W .any base 32 v) (h : DataW.Trod enc Try.prog W 0 (fun _ => true) true 32 v d ps)
    (hs : (DataW.weightsEach Try.prog [32, t1] [d, d1]).all (· ≤ reachBytes) = true) :
    ∃ ls : List (List Nat), ls.length ≤ maxLen ∧ RowsB W v ls := by
  obtain ⟨a1, len, cap, rfl⟩ := okWide_slice Try.underlying32 hval
  obtain ⟨fuel, hf⟩ := h
  rcases open_int_rows Try.underlying32 Try.underlying22 Try.underlying5 cells22 cells5 hf with ⟨hcs, hx⟩ | ⟨a, len', cap', A, L, C, Z, hcs, _, hl, hm, hx, hr⟩
  · simp [Value.cells] at hcs
    obtain ⟨rfl, rfl, rfl⟩ := hcs
    exact ⟨[], Nat.zero_le _, none, 0, rfl, fun i l h => by simp at h⟩
  · simp [Value.cells] at hcs
    obtain ⟨rfl, rfl, rfl⟩ := hcs
    simp only [Prod.mk.injEq] at hx
    obtain ⟨rfl, rfl⟩ := hx
    have hlen : ((List.range len).map fun r => ((Z r).take (L r)).map Int.toNat).length = len := by simp
    refine ⟨(List.range len).map fun r => ((Z r).take (L r)).map Int.toNat, by rw [hlen]; omega, some a, cap, by rw [hlen], fun i l hi => ?_⟩
    have hil : i < len := by
      rcases Nat.lt_or_ge i len with h | h
      · exact h
      · rw [List.getElem?_eq_none (by rw [hlen]; exact h)] at hi; cases hi
    have el : l = ((Z i).take (L i)).map Int.toNat := by
      rw [List.getElem?_map, List.getElem?_range hil] at hi
      simpa using hi.symm
    obtain ⟨hc, hLC, hCm, hZ, hwf, hno, hsome⟩ := hr i (by omega)
    have hll : l.length = L i := by rw [el]; simp; omega
    have hat : At W (A i) l := by
      intro k x hx
      have hk : k < L i := by
        rcases Nat.lt_or_ge k (L i) with h | h
        · exact h
        · rw [List.getElem?_eq_none (by rw [hll]; exact h)] at hx; cases hx
      have hk2 : k < (Z i).length := by omega
      have ex : x = ((Z i)[k]).toNat := by
        rw [el, List.getElem?_map, List.getElem?_take, if_pos hk, List.getElem?_eq_getElem hk2] at hx
        simpa using hx.symm
      have hw := hwf ((Z i)[k]) (List.getElem_mem hk2)
      have h1 : IntKind.u8.min ≤ (Z i)[k] ∧ (Z i)[k] ≤ IntKind.u8.max := by simpa [Lit.wf] using hw
      have h3 : IntKind.u8.min = 0 := by decide
      have h4 : IntKind.u8.max = 255 := by decide
      refine ⟨by omega, ?_⟩
      cases hA : A i with
      | none => have := hno hA; omega
      | some a' =>
        refine ⟨a', rfl, ?_⟩
        have hcc := (hsome a' hA).2 k (by omega)
        have hg : (Z i).getD k 0 = (Z i)[k] := by rw [List.getD_eq_getElem?_getD, List.getElem?_eq_getElem hk2]; rfl
        rw [hg] at hcc
        have e2 : (Z i)[k] = ((x : Nat) : Int) := by omega
        rw [e2] at hcc
        exact hcc
    refine ⟨?_, a, A i, C i, rfl, by rw [hll]; exact hc, hno, hat⟩
    cases hA : A i with
    | none => have := hno hA; rw [hll]; omega
    | some a' =>
      have hmem : intRow (H := H) .u8 (A i) (L i) (Z i) ∈ (List.range len).map fun r => intRow (H := H) .u8 (A r) (L r) (Z r) := List.mem_map.2 ⟨i, List.mem_range.2 hil, rfl⟩
      have hw : (Z i).length ∈ (intRow (H := H) .u8 (A i) (L i) (Z i)).weights Try.prog 22 := by
        simp only [hA, intRow, DataW.weights, Try.underlying22, bytesOf5, lits]
        have : ((List.take (L i) (Z i)).map (fun n => DataW.lit (H := H) (.int .u8 n))).length + ((List.drop (L i) (Z i)).map (fun n => DataW.lit (H := H) (.int .u8 n))).length = (Z i).length := by simp; omega
        rw [this, Nat.mul_one]
        exact List.mem_cons_self ..
      have h2 := weights_all hmem _ hw
      have h3 := List.all_eq_true.1 hs (Z i).length (DataW.weights_mem_each (j := 0) rfl rfl _ (by
        simp only [DataW.weights, Try.underlying32]
        exact List.mem_cons_of_mem _ (List.mem_append_left _ h2)))
      have h4 : (Z i).length ≤ reachBytes := by simpa using h3
      have h5 : reachBytes < 140737488355328 := by decide
      rw [hll]; omega

/- Rows put behind one another. -/
def fl (ls : List (List Nat)) : List Nat := ls.flatten
def vals (l : List Nat) : List Value := l.map fun (x : Nat) => Value.int .u8 (x : Int)
theorem fl_take (ls : List (List Nat)) (i : Nat) (h : i < ls.length) : fl (ls.take (i + 1)) = fl (ls.take i) ++ ls[i] := by
  unfold fl; rw [List.take_succ_eq_append_getElem h, List.flatten_append, List.flatten_singleton]
theorem fl_drop (ls : List (List Nat)) (i : Nat) (h : i < ls.length) : fl (ls.drop i) = ls[i] ++ fl (ls.drop (i + 1)) := by
  unfold fl; rw [List.drop_eq_getElem_cons h, List.flatten_cons]
theorem fl_all (ls : List (List Nat)) : fl (ls.take ls.length) = fl ls := by rw [List.take_length]
theorem vals_length (l : List Nat) : (vals l).length = l.length := by simp [vals]
theorem vals_append (a b : List Nat) : vals (a ++ b) = vals a ++ vals b := by simp [vals]
theorem vals_one (l : List Nat) : ∀ u ∈ vals l, u.oneCell' = true := by
  intro u hu
  simp only [vals, List.mem_map] at hu
  obtain ⟨x, _, rfl⟩ := hu
  rfl
theorem At.vals {w : World} {B : Addr} {l : List Nat} (h : At w (some B) l) : ∀ (j : Nat) (u : Value), (vals l)[j]? = some u → w.cell? (B.add j) = some u := by
  intro j u hu
  unfold Ytgfofmcgfmhaeaa.vals at hu
  rw [List.getElem?_map] at hu
  cases hx : l[j]? with
  | none => rw [hx] at hu; cases hu
  | some x =>
    rw [hx] at hu
    obtain ⟨_, bd, e, hc⟩ := h j x hx
    cases e
    simp at hu
    rw [← hu]; exact hc
theorem At.nil {w : World} {l : List Nat} (h : At w none l) : l = [] := by
  cases l with
  | nil => rfl
  | cons x l => obtain ⟨_, bd, e, _⟩ := h 0 x rfl; cases e

theorem own_below {w w' : World} {base e size : Nat} {v : Value} {n : Nat} {xs : List Value} (h : w.ownsRow base e size v n xs) (hb : Below w.heap.size w w') : w'.ownsRow base e size v n xs := by
  obtain ⟨h1, h2⟩ := h
  refine ⟨h1, ?_⟩
  rcases h2 with h2 | ⟨g, cap, cur, e1, e2, e3, e4⟩
  · exact Or.inl h2
  · have hg : g < w.heap.size := by
      rcases Nat.lt_or_ge g w.heap.size with h | h
      · exact h
      · rw [Array.getElem?_eq_none h] at e3; cases e3
    exact Or.inr ⟨g, cap, cur, e1, e2, (hb.block g hg).trans e3, e4⟩

end Go.Proofs.Ytgfofmcgfmhaeaa
