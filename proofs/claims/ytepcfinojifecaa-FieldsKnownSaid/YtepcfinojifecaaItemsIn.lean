/-
  What is proved here: what a slice of items and a slice of bytes that came in give: they read as lists, each item's bytes take at most 2^47. No condition.
-/
import Derived.Test.YtepcfinojifecaaItems
import Derived.Test.YtepcfinojifecaaLaw
import Derived.Deep.Slices
import Derived.Deep.Fields
namespace Go.Proofs.Ytepcfinojifecaa
open Go.ChangeShapes Go.WideShapes Go.ChangeAt Go.RowKit Go.Deep

theorem cells5 : Try.prog.cellsOf 5 = 1 := by kernel_rfl
theorem cells30 : Try.prog.cellsOf 30 = 1 := by kernel_rfl
theorem cells31 : Try.prog.cellsOf 31 = 1 := by kernel_rfl
theorem cells33 : Try.prog.cellsOf 33 = 3 := by kernel_rfl
theorem bytesOf5 : Try.prog.bytesOf 5 = 1 := by kernel_rfl
theorem reach_lt : reachBytes < 140737488355328 := by decide

/- Bytes that came in, as one cell that holds a slice. -/
theorem bytes_cell {H : Type} {enc : TypeId × Value → H} {W : World} {fuel : Nat} {v : Value} {x : DataW H × List MemPlace}
    (hf : DataW.trod enc Try.prog W 0 (fun _ => true) true fuel 31 [v] = some x) (hs : ∀ n ∈ x.1.weights Try.prog 31, n ≤ reachBytes) :
    ∃ (l : List Nat) (A : Option Addr) (c : Nat), v = .slice A l.length c ∧ l.length ≤ 140737488355328 ∧ l.length ≤ c ∧ (A = none → c = 0) ∧ At W A l := by
  rcases open_ints Try.underlying31 Try.underlying5 cells5 hf with ⟨hcs, hx⟩ | ⟨a, len, cap, zs, hcs, _, hl, hm, hz, hx, hcell, hwz⟩
  · injection hcs with hcs
    exact ⟨[], none, 0, hcs, by simp, by simp, fun _ => rfl, At.nil_⟩
  · injection hcs with hcs
    simp only [if_true] at hz
    have hlen : ((zs.take len).map Int.toNat).length = len := by simp; omega
    have hw : zs.length ≤ reachBytes := by
      refine hs _ ?_
      rw [hx]
      simp only [DataW.weights, Try.underlying31, bytesOf5, lits]
      have : ((List.take len zs).map (fun n => DataW.lit (H := H) (.int .u8 n))).length + ((List.drop len zs).map (fun n => DataW.lit (H := H) (.int .u8 n))).length = zs.length := by simp; omega
      rw [this, Nat.mul_one]
      exact List.mem_cons_self ..
    have := reach_lt
    refine ⟨(zs.take len).map Int.toNat, some a, cap, by rw [hlen]; exact hcs, by rw [hlen]; omega, by rw [hlen]; omega, fun h => (by cases h), fun k y hy => ?_⟩
    have hk : k < len := by
      rcases Nat.lt_or_ge k len with h | h
      · exact h
      · rw [List.getElem?_eq_none (by rw [hlen]; exact h)] at hy; cases hy
    have hk2 : k < zs.length := by omega
    have ex : y = (zs[k]).toNat := by
      rw [List.getElem?_map, List.getElem?_take, if_pos hk, List.getElem?_eq_getElem hk2] at hy
      simpa using hy.symm
    obtain ⟨m, e1, e2⟩ := u8_nat (hwz (zs[k]) (List.getElem_mem hk2))
    have hc := hcell k hk2
    have hg : zs.getD k 0 = zs[k] := by rw [List.getD_eq_getElem?_getD, List.getElem?_eq_getElem hk2]; rfl
    rw [hg, e1] at hc
    have e3 : y = m := by rw [ex, e1]; rfl
    subst e3
    exact ⟨e2, a, rfl, hc⟩

theorem pick_list {α : Type} (P : Nat → α → Prop) : ∀ n : Nat, (∀ i, i < n → ∃ x, P i x) → ∃ l : List α, l.length = n ∧ ∀ i x, l[i]? = some x → P i x
  | 0, _ => ⟨[], rfl, fun i x h => by simp at h⟩
  | n + 1, h => by
    obtain ⟨l, hl, hp⟩ := pick_list P n (fun i hi => h i (by omega))
    obtain ⟨x, hx⟩ := h n (by omega)
    refine ⟨l ++ [x], by simp [hl], fun i y hy => ?_⟩
    rcases Nat.lt_or_ge i n with hi | hi
    · rw [List.getElem?_append_left (by omega)] at hy; exact hp i y hy
    · rw [List.getElem?_append_right (by omega)] at hy
      have : i - l.length = 0 := by
        rcases Nat.eq_zero_or_pos (i - l.length) with h0 | h0
        · exact h0
        · rw [List.getElem?_eq_none (by simp; omega)] at hy; cases hy
      rw [this] at hy
      simp at hy
      have e : i = n := by omega
      rw [← hy, e]; exact hx
theorem weights_all {H : Type} {P : Program} {e : TypeId} : ∀ {ds : List (DataW H)} {d : DataW H}, d ∈ ds → ∀ n ∈ d.weights P e, n ∈ DataW.weightsAll P e ds
  | d0 :: ds, d, hd, n, hn => by
    simp only [DataW.weightsAll, List.mem_append]
    rcases List.mem_cons.1 hd with rfl | hd
    · exact Or.inl hn
    · exact Or.inr (weights_all hd n hn)
  | [], _, hd, _, _ => by cases hd

theorem items_in {H : Type} {enc : TypeId × Value → H} {W : World} {base : Nat} {v : Value} {d : DataW H} {ps : List MemPlace}
    (hval : Value.okWide Try.prog W .any base 22 v) (h : DataW.Trod enc Try.prog W 0 (fun _ => true) true 22 v d ps) (hs : ∀ n ∈ d.weights Try.prog 22, n ≤ reachBytes) :
    ∃ (ls : List It) (A : Option Addr) (c : Nat), v = .slice A ls.length c ∧ ls.length ≤ maxLen ∧ ItemsAt W A ls := by
  obtain ⟨a1, len, cap, rfl⟩ := okWide_slice Try.underlying22 hval
  obtain ⟨fuel, hf⟩ := h
  rcases open_slice Try.underlying22 hf with ⟨hcs, hx⟩ | ⟨a, len', cap', m, n, D, Pl, hcs, _, hl, hm, hmm, hx, hi⟩
  · simp [Value.cells] at hcs
    obtain ⟨rfl, rfl, rfl⟩ := hcs
    exact ⟨[], none, 0, rfl, Nat.zero_le _, fun i x h => by simp at h⟩
  · simp [Value.cells] at hcs
    obtain ⟨rfl, rfl, rfl⟩ := hcs
    simp only [if_true] at hmm
    simp only [Prod.mk.injEq] at hx
    obtain ⟨rfl, _⟩ := hx
    obtain ⟨ls, hls, hp⟩ := pick_list (fun i x => ItemAt W (some a) i x) len (fun i hil => by
      obtain ⟨cs', hc, ht⟩ := hi i (by omega)
      rw [cells33] at hc
      obtain ⟨_, hcl, hat⟩ := World.cells?_some hc
      obtain ⟨ys, n', _, hy, _, hyl, hfld⟩ := DataW.trod_struct Try.underlying33 ht
      match cs', hcl with
      | [z0, z1, z2], _ =>
        match ys, hyl with
        | [y0, y1, y2], _ =>
          have f0 : DataW.trod enc Try.prog W 0 (fun _ => true) true n' 5 (([z0, z1, z2].drop 0).take (Try.prog.cellsOf 5)) = [y0, y1, y2][0]? := hfld 0 _ rfl
          have f1 : DataW.trod enc Try.prog W 0 (fun _ => true) true n' 30 (([z0, z1, z2].drop 1).take (Try.prog.cellsOf 30)) = [y0, y1, y2][1]? := hfld 1 _ rfl
          have f2 : DataW.trod enc Try.prog W 0 (fun _ => true) true n' 31 (([z0, z1, z2].drop 2).take (Try.prog.cellsOf 31)) = [y0, y1, y2][2]? := hfld 2 _ rfl
          rw [cells5] at f0
          rw [cells30] at f1
          rw [cells31] at f2
          have g0 : DataW.trod enc Try.prog W 0 (fun _ => true) true n' 5 [z0] = some y0 := f0
          have g1 : DataW.trod enc Try.prog W 0 (fun _ => true) true n' 30 [z1] = some y1 := f1
          have g2 : DataW.trod enc Try.prog W 0 (fun _ => true) true n' 31 [z2] = some y2 := f2
          obtain ⟨q0, e0, _, w0⟩ := DataW.trod_int Try.underlying5 g0
          obtain ⟨q1, e1, _, w1⟩ := DataW.trod_int Try.underlying30 g1
          obtain ⟨k0, rfl, b0⟩ := u8_nat w0
          obtain ⟨k1, rfl, b1⟩ := u64_nat w1
          injection e0 with e0
          injection e1 with e1
          subst e0 e1
          simp only [Prod.mk.injEq] at hy
          have hd : D i = .agg [y0.1, y1.1, y2.1] := by rw [hy.1]; rfl
          obtain ⟨l, B, c, rfl, l1, _, _, l2⟩ := bytes_cell g2 (fun n hn => hs n (by
            simp only [DataW.weights, Try.underlying22]
            refine List.mem_cons_of_mem _ (List.mem_append_left _ (weights_all (List.mem_map.2 ⟨i, List.mem_range.2 hil, rfl⟩) n ?_))
            rw [hd]
            simp only [DataW.weights, Try.underlying33]
            exact DataW.weights_mem_each (j := 2) rfl rfl n hn))
          have h0 := hat 0 (by omega)
          have h1 := hat 1 (by omega)
          have h2 := hat 2 (by omega)
          have hsp : a.spot = none := by
            have hz := World.cell?_spot h0
            rcases Nat.eq_zero_or_pos i with hz0 | hz0
            · subst hz0; simpa [Addr.add] using hz
            · obtain ⟨cs0, hc0, _⟩ := hi 0 (by omega)
              rw [cells33] at hc0
              obtain ⟨_, hcl0, hat0⟩ := World.cells?_some hc0
              have q0 := hat0 0 (by omega)
              have : cs0[0]? = some (cs0[0]'(by omega)) := List.getElem?_eq_getElem (by omega)
              rw [this] at q0
              simpa [Addr.add] using World.cell?_spot q0
          obtain ⟨bk, o, sp⟩ := a
          obtain rfl : sp = none := hsp
          rw [add_plain, add_plain] at h0 h1 h2
          exact ⟨⟨k0, k1, l⟩, b0, b1, l1, bk, o, B, c, rfl, h0, h1, h2, l2⟩)
    exact ⟨ls, some a, cap, by rw [hls], by omega, hp⟩

end Go.Proofs.Ytepcfinojifecaa
