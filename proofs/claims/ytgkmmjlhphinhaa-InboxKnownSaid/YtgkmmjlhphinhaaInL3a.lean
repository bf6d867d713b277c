/-
  What is proved here: what the law InboxOrder leans on: pieces of slices, rows handed in by a variadic call, mail of them. No condition but that counts fit.
-/
import Derived.Test.YtgkmmjlhphinhaaInWk
import Derived.Test.YtgkmmjlhphinhaaInL2
import Derived.Deep.RegionHeld3
import Derived.OrdersHeld
namespace Go.Proofs.Ytgkmmjlhphinhaa.In
open Go.RowKit Go.Maps Gr Wd Ws Fx Rk Lb Al

theorem elemS : Try.prog.underlying 24 = some (.slice (Try.prog.elem 24)) := by kernel_rfl
theorem sizeS (W : World) : (sizeOf (Try.prog.elem 24)).run Try.prog W = .ok 2 W := by kernel_rfl
/- The first so many. -/
theorem cut_lo (A : Option Addr) (n c k : Nat) (hk : k ≤ n) (hc : n ≤ c) : ∃ A1 c1, k ≤ c1 ∧ (∀ W, (Instr.slice 24 (.slice A n c) none (some (.int .i64 (k : Int))) none).run Try.prog W = .ok (.slice A1 k c1) W) ∧ ∀ (w : World) (L : List Ms), MAt w A L → MAt w A1 (L.take k) := by
  refine ⟨(if c = 0 then A else A.map (·.add (0 * 2))), c - 0, by omega, fun W => ?_, fun w L h => ?_⟩
  · rw [run_slice_h W _ A n c elemS .i64 (k : Int) (by omega) (by omega), sizeS]
    simp [Result.andThen, sliced]
  · split
    · exact h.take k
    · intro i e hi
      obtain ⟨bk, o, hA, c0, c1⟩ := h.take k i e hi
      refine ⟨bk, o, ?_, c0, c1⟩
      rw [hA]
      show some (Addr.add ⟨bk, o, none⟩ 0) = _
      rw [add_plain]; rfl
/- All but the first so many. -/
theorem cut_hi (A : Option Addr) (n c k : Nat) (hk : k ≤ n) (hc : n ≤ c) : ∃ A1 c1, n - k ≤ c1 ∧ (∀ W, (Instr.slice 24 (.slice A n c) (some (.int .i64 (k : Int))) none none).run Try.prog W = .ok (.slice A1 (n - k) c1) W) ∧ ∀ (w : World) (L : List Ms), L.length = n → MAt w A L → MAt w A1 (L.drop k) := by
  refine ⟨(if c = k then A else A.map (·.add (k * 2))), c - k, by omega, fun W => ?_, fun w L hL h => ?_⟩
  · rw [run_slice_l W _ A n c elemS .i64 (k : Int) (by omega) (by omega), sizeS]
    simp [Result.andThen, sliced]
  · split
    · rw [List.drop_eq_nil_of_le (by omega)]; exact MAt.nil _ _
    · cases A with
      | none => rw [mat_none h, List.drop_nil]; exact MAt.nil _ _
      | some a =>
        rcases Nat.eq_zero_or_pos n with h0 | h0
        · rw [List.drop_eq_nil_of_le (by omega)]; exact MAt.nil _ _
        · obtain ⟨e, he⟩ := at_lt L 0 (by omega)
          obtain ⟨bk, o, hA, _⟩ := h 0 e he
          have hA' := Option.some.inj hA
          subst hA'
          have := h.drop k
          show MAt w (some (Addr.add ⟨bk, o, none⟩ (k * 2))) _
          rw [add_plain]; exact this
/- Values that are rows that can be read. -/
def RV (w : World) (vs : List Value) (Ls : List (List Ms)) : Prop := vs.length = Ls.length ∧ ∀ (k : Nat) (v : Value) (L : List Ms), vs[k]? = some v → Ls[k]? = some L → ∃ A c, v = .slice A L.length c ∧ MAt w A L
theorem RV.nil (w : World) : RV w [] [] := ⟨rfl, fun k v L h _ => by simp at h⟩
theorem RV.cons {w : World} {A : Option Addr} {n c : Nat} {L : List Ms} {vs : List Value} {Ls : List (List Ms)} (hn : L.length = n) (hL : MAt w A L) (h : RV w vs Ls) : RV w (.slice A n c :: vs) (L :: Ls) := by
  subst hn
  refine ⟨by simp [h.1], fun k v M hv hM => ?_⟩
  rcases k with _ | k
  · simp at hv hM; subst hv; subst hM; exact ⟨A, c, rfl, hL⟩
  · simp at hv hM; exact h.2 k v M hv hM
theorem RV.below {w w' : World} {vs : List Value} {Ls : List (List Ms)} (h : RV w vs Ls) (hb : Below w.heap.size w w') : RV w' vs Ls := ⟨h.1, fun k v L hv hL => by
  obtain ⟨A, c, e, hm⟩ := h.2 k v L hv hL
  exact ⟨A, c, e, hm.below hb⟩⟩
theorem RV.rows {w : World} {g : Nat} {vs : List Value} {Ls : List (List Ms)} (h : RV w vs Ls) (hg : w.heap[g]? = some (.cells vs.toArray 24 (0, 0))) : RMs w (some ⟨g, 0, none⟩) Ls := by
  intro k L hk
  obtain ⟨v, hv⟩ := at_lt vs k (by rw [h.1]; exact lt_at hk)
  obtain ⟨A, c, e, hm⟩ := h.2 k v L hv hk
  refine ⟨g, 0, A, c, rfl, ?_, hm⟩
  rw [Nat.zero_add, cell_of_row w g k _ 24 (0, 0) hg, List.getElem?_toArray, hv, e]
/- Mail of rows that were just laid. -/
theorem mg_lit (k st so dm ep : Int) (Ao : Option Addr) (no co m : Nat) (own : List Int) (vs : List Value) (Ls : List (List Ms)) (X : List Ml) (w0 : World) (hO : IAt w0 Ao own) (hno : own.length = no) (hV : RV w0 vs Ls) (hm : vs.length = m) (hT : ToIn Ls.flatten) (hOI : OwnIn own) (hno2 : no < 1000000) (hm2 : m ≤ 1000000) (hF : Ls.flatten.length < 1000000000) (hX : mergeM k own Ls = X)
    (W : World) (hW : Hid (Below w0.heap.size w0 W)) :
    Calls Try.prog 14 #[.agg #[.int .u8 k, .int .i64 st, .int .i64 so, .int .i64 dm, .int .i64 ep], .slice Ao no co, .slice (some ⟨W.heap.size, 0, none⟩) m m] (W.alloc (.cells vs.toArray 24)) fun e w' => ∃ A c, e = .returned (.slice A no c) ∧ Hid (KAt w' A X) ∧ Hid (Below W.heap.size W w') := by
  have hb : Below W.heap.size W (W.alloc (.cells vs.toArray 24)) := (Below.refl _ W).alloc (Nat.le_refl _) _
  have hb2 := step_below hW.out hW.out.size hb
  have hg : (W.alloc (.cells vs.toArray 24)).heap[W.heap.size]? = some (.cells vs.toArray 24 (0, 0)) := heap_alloc_new W _
  refine (merge_any k st so dm ep Ao (some ⟨W.heap.size, 0, none⟩) no co m m own Ls _ (hO.below hb2) hno ((hV.below hb2).rows hg) (by rw [← hV.1]; exact hm) hT hOI hno2 hm2 hF).mono ?_
  rintro e w' ⟨v, he, hk, hbk⟩
  have hk2 := hk.out
  rw [hX] at hk2
  obtain ⟨A, c, hv, hat⟩ := ks_at hk2
  refine ⟨A, c, ?_, Lib.hid hat, Lib.hid (step_below hb hb.size hbk.out)⟩
  rw [he, hv, ← hX, mergeM_len, hno]
/- .. held against other mail. -/
theorem sm_lit (Aw : Option Addr) (no cw : Nat) (X : List Ml) (w0 : World) (hK : KAt w0 Aw X) (hX : X.length = no) (hno : no < 1000000) (W : World) (A : Option Addr) (c : Nat) (hW : Hid (Below w0.heap.size w0 W)) (hA : Hid (KAt W A X)) :
    Calls Try.prog 17 #[.slice Aw no cw, .slice A no c] W fun e w' => e = .returned (.bool true) ∧ Hid (Below W.heap.size W w') := by
  have := same_any Aw A no no cw c X X W (hK.below hW.out) hA.out hX hX (by omega) (by omega)
  rwa [sameB_refl] at this
theorem pick_any (i : Int) (n : Nat) (h1 : 1 ≤ n) (h2 : n ≤ 1000000) (w : World) : ∃ v : Nat, v < n ∧ Calls Try.prog 18 #[.int .i64 i, .int .i64 (n : Int)] w fun e w' => e = .returned (.int .i64 (v : Int)) ∧ w = w' := by
  obtain ⟨r, hr⟩ : ∃ r, i.tmod (n : Int) = r := ⟨_, rfl⟩
  have hn0 : (n : Int) ≠ 0 := by omega
  have r1 : -(n : Int) < r ∧ r < n := by
    subst hr
    rcases Int.le_total 0 i with h | h
    · rw [Int.tmod_eq_emod_of_nonneg h]
      have := Int.emod_nonneg i hn0; have := Int.emod_lt_of_pos i (show 0 < (n : Int) by omega)
      omega
    · have e : i.tmod n = -((-i).tmod n) := by rw [Int.neg_tmod]; omega
      rw [e, Int.tmod_eq_emod_of_nonneg (by omega)]
      have := Int.emod_nonneg (-i) hn0; have := Int.emod_lt_of_pos (-i) (show 0 < (n : Int) by omega)
      omega
  obtain ⟨v, hv⟩ : ∃ v : Nat, (r + n).tmod (n : Int) = v := ⟨((r + n).tmod (n : Int)).toNat, by
    rw [Int.tmod_eq_emod_of_nonneg (by omega)]
    have := Int.emod_nonneg (r + n) hn0; omega⟩
  have v1 : v < n := by
    have : (r + n) % (n : Int) < n := Int.emod_lt_of_pos _ (by omega)
    rw [Int.tmod_eq_emod_of_nonneg (by omega)] at hv
    omega
  refine ⟨v, v1, ?_⟩
  have t1 : IntKind.i64.wrap r = r := IntWalk.i64_in _ (by omega)
  have t2 : IntKind.i64.wrap (r + n) = r + n := IntWalk.i64_in _ (by omega)
  have t3 : IntKind.i64.wrap (v : Int) = v := IntWalk.i64_in _ (by omega)
  have t4 : decide ((n : Int) ≤ 0) = false := by simp; omega
  have t5 : ((n : Int) == 0) = false := by simp; omega
  clear r1 v1
  go_enter Try.func18, Try.ntmps18
  go_wp2
  go_ret
  exact ⟨rfl, rfl⟩
/- .. where the world is one behind w0. -/
theorem mg_good (k st so dm ep : Int) (Ao : Option Addr) (no co m : Nat) (own : List Int) (vs : List Value) (Ls : List (List Ms)) (X : List Ml) (w0 : World) (hO : IAt w0 Ao own) (hno : own.length = no) (hV : RV w0 vs Ls) (hm : vs.length = m) (hT : ToIn Ls.flatten) (hOI : OwnIn own) (hno2 : no < 1000000) (hm2 : m ≤ 1000000) (hF : Ls.flatten.length < 1000000000) (hX : mergeM k own Ls = X) :
    Hid (∀ W, Hid (Below w0.heap.size w0 W) → Calls Try.prog 14 #[.agg #[.int .u8 k, .int .i64 st, .int .i64 so, .int .i64 dm, .int .i64 ep], .slice Ao no co, .slice (some ⟨W.heap.size, 0, none⟩) m m] (W.alloc (.cells vs.toArray 24)) fun e w' => ∃ A c, e = .returned (.slice A no c) ∧ Hid (KAt w' A X) ∧ Hid (Below w0.heap.size w0 w')) := Lib.hid fun W hW => by
  refine (mg_lit k st so dm ep Ao no co m own vs Ls X w0 hO hno hV hm hT hOI hno2 hm2 hF hX W hW).mono ?_
  rintro e w' ⟨A, c, he, hk, hb⟩
  exact ⟨A, c, he, hk, Lib.hid (step_below hW.out hW.out.size hb.out)⟩
theorem sm_good (Aw : Option Addr) (no cw : Nat) (X : List Ml) (w0 : World) (hK : KAt w0 Aw X) (hX : X.length = no) (hno : no < 1000000) : Hid (∀ W A c, Hid (Below w0.heap.size w0 W) → Hid (KAt W A X) →
    Calls Try.prog 17 #[.slice Aw no cw, .slice A no c] W fun e w' => e = .returned (.bool true) ∧ Hid (Below w0.heap.size w0 w')) := Lib.hid fun W A c hW hA => by
  refine (sm_lit Aw no cw X w0 hK hX hno W A c hW hA).mono ?_
  rintro e w' ⟨he, hb⟩
  exact ⟨he, Lib.hid (step_below hW.out hW.out.size hb.out)⟩
end Go.Proofs.Ytgkmmjlhphinhaa.In
