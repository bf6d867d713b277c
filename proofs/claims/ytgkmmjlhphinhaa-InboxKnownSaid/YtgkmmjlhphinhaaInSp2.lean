/-
  What is proved here: a contract of the document's own Split. Conditions: fewer than 1000000 messages.
-/
import Derived.Test.YtgkmmjlhphinhaaInSp1
namespace Go.Proofs.Ytgkmmjlhphinhaa.In
open Go.RowKit Go.Maps Gr Wd Ws Fx Rk Lb Al Pt

/- Values of one cell each, in a row that the call has made. -/
def VOwn (w : World) (B : Nat) (v : Value) (xs : List Value) : Prop := w.ownsRow B 24 1 v xs.length xs
theorem VOwn.none_ (w : World) (B : Nat) : VOwn w B (.slice none 0 0) [] := World.ownsRow_nil _ _ _ _
/- One row more. -/
theorem app_v {w : World} {ops : Array Oper} {rest : List Oper} {o : Oper} {a : Act} {Q : Exit → Act → World → Prop} (hgd : o.guard = none) (s x : Operand)
    (ho : o.op = .call { callee := .builtin .append, args := #[s, x], argTypes := #[31, 31] }) (B : Nat) (v : Value) (xs : List Value) (y : Value) (hy : y.oneCell' = true) (hs : a.eval s = v) (hown : VOwn w B v xs)
    (g : Nat) (hx : a.eval x = .slice (some ⟨g, 0, none⟩) 1 1) (hg : w.heap[g]? = some (.cells #[y] 24 (0, 0))) (hn : xs.length < 1000000) (hB : B ≤ w.heap.size)
    (h : ∀ v' w', VOwn w' B v' (xs ++ [y]) → w.grownBy w' v.ownBlock → wpList Try.prog ops Q rest (a.put o.dst v') w') : wpList Try.prog ops Q (o :: rest) a w := by
  obtain ⟨i0, hi, hz0, hz1, hz2⟩ := info_parts infoR
  refine wpList_append_own w hgd s x 31 ho B 24 i0 _ 1 24 Try.underlying31 hi hz0 hz1 hz2 rfl (by decide) v xs.length xs hs hown ⟨g, 0, none⟩ 1 1 [y] hx rfl ?_ ?_ ?_ ?_ hB ?_
  · intro j u hu
    rw [add_plain, Lib.cell_of_heap hg]
    rcases j with _ | j
    · simpa using hu
    · simp at hu
  · intro u hu
    rw [List.mem_singleton.1 hu]; exact hy
  · unfold maxLen; omega
  · omega
  · intro v' w' h1 h2 _
    refine h v' w' ?_ h2
    unfold VOwn
    rw [List.length_append]; exact h1
/- Each of these values is a row of messages that the call has made. -/
def RowsV (w : World) (B : Nat) (xs : List Value) (Ls : List (List Ms)) : Prop := xs.length = Ls.length ∧ ∀ (i : Nat) (v : Value) (M : List Ms), xs[i]? = some v → Ls[i]? = some M → MOwn w B v M
theorem RowsV.below {w w' : World} {B : Nat} {xs : List Value} {Ls : List (List Ms)} (h : RowsV w B xs Ls) (hb : Below w.heap.size w w') : RowsV w' B xs Ls := ⟨h.1, fun i v M hv hM => (h.2 i v M hv hM).below hb⟩
theorem RowsV.nil (w : World) (B : Nat) : RowsV w B [] [] := ⟨rfl, fun i v M hv _ => by simp at hv⟩
theorem RowsV.snoc {w : World} {B : Nat} {xs : List Value} {Ls : List (List Ms)} {v : Value} {M : List Ms} (h : RowsV w B xs Ls) (hv : MOwn w B v M) : RowsV w B (xs ++ [v]) (Ls ++ [M]) := by
  refine ⟨by rw [List.length_append, List.length_append, h.1]; rfl, fun i u N hu hN => ?_⟩
  rcases Nat.lt_or_ge i xs.length with hi | hi
  · rw [List.getElem?_append_left hi] at hu
    rw [List.getElem?_append_left (by rw [← h.1]; exact hi)] at hN
    exact h.2 i u N hu hN
  · have hi2 := lt_at hu
    rw [List.length_append, List.length_singleton] at hi2
    obtain rfl : i = xs.length := by omega
    rw [List.getElem?_append_right (Nat.le_refl _), Nat.sub_self] at hu
    rw [h.1, List.getElem?_append_right (Nat.le_refl _), Nat.sub_self] at hN
    simp at hu hN
    rw [← hu, ← hN]; exact hv
theorem ty_ne : (29 : TypeId) ≠ 24 := by decide
/- What grows in a row of rows leaves rows. -/
theorem RowsV.grown {w w' : World} {B C : Nat} {xs ys : List Value} {Ls : List (List Ms)} {v : Value} (h : RowsV w B xs Ls) (hv : VOwn w C v ys) (hg : w.grownBy w' v.ownBlock) : RowsV w' B xs Ls := by
  refine ⟨h.1, fun i u M hu hM => own_kept (h.2 i u M hu hM) fun g c fz hgb hc => hg.block g (lt_of_block hc) fun e => ?_⟩
  obtain ⟨_, c2, hc2⟩ := own_lt hv g e.symm
  rw [hc] at hc2
  have := Option.some.inj hc2
  injection this with _ h2 _
  exact ty_ne h2
theorem VOwn.rows {w : World} {B C : Nat} {v : Value} {xs : List Value} {Ls : List (List Ms)} (h : VOwn w C v xs) (hr : RowsV w B xs Ls) : SlR w v Ls := by
  obtain ⟨_, h1 | ⟨g, cap, cur, h1, h2, h3, h4, h5, h6, h7⟩⟩ := h
  · refine ⟨none, 0, 0, h1.1, by rw [← hr.1]; exact h1.2, fun k L hk => ?_⟩
    have := lt_at hk
    have := hr.1
    omega
  · refine ⟨some ⟨g, 0, none⟩, xs.length, cap, h1, hr.1.symm, fun k L hk => ?_⟩
    have hkl := lt_at hk
    obtain ⟨u, hu⟩ := at_lt xs k (by rw [hr.1]; exact hkl)
    obtain ⟨A', c', hu2, hat, _⟩ := (hr.2 k u L hu hk).room
    refine ⟨g, 0, A', c', rfl, ?_, hat⟩
    rw [Nat.zero_add, cell_of_row w g k _ 24 (0, 0) h3]
    have e1 : cur[k]? = (cur.toList.take (xs.length * 1))[k]? := by
      rw [List.getElem?_take, if_pos (by rw [hr.1]; omega), Array.getElem?_toList]
    rw [e1, h7, hu, hu2]
theorem slice_one (A : Option Addr) (n c : Nat) : (Value.slice A n c).oneCell' = true := rfl
structure RsH (w wr : World) (n : Nat) (L : List Ms) (v : Value) (xs : List Value) (q : Nat) : Prop where
  below : Below w.heap.size w wr
  out : VOwn wr w.heap.size v xs
  rows : RowsV wr w.heap.size xs (rowsW n L q)
def RsRel (w : World) (n : Nat) (L : List Ms) (gk : Nat) (v i : Value) (wr : World) : Prop :=
  ∃ (q : Nat) (xs : List Value), q + gk = n ∧ i = .int .i64 (q : Int) ∧ Hid (RsH w wr n L v xs q)
def Rs2Rel (w0 : World) (n : Nat) (L : List Ms) (i : Int) (gk : Nat) (v q : Value) (wr : World) : Prop :=
  ∃ j : Nat, j + gk = L.length ∧ q = .int .i64 (j : Int) ∧ Hid (MOwn wr w0.heap.size v (rowW (n : Int) (L.take j) i)) ∧ Hid (Below w0.heap.size w0 wr)

set_option maxRecDepth 100000 in
set_option maxHeartbeats 4000000 in
theorem rsplit_any (A : Option Addr) (n c : Nat) (L : List Ms) (k : Int) (w : World) (hL : MAt w A L) (hln : L.length = n) (hn : n < 1000000) :
    Calls Try.prog 13 #[.slice A n c, .int .i64 k] w fun e w' => ∃ v, e = .returned v ∧ Hid (SlR w' v (splitM L k)) ∧ Hid (Below w.heap.size w w') := by
  have mixed := mixedI
  have HL := Lib.hid hL; have HLN := Lib.hid hln; clear hL hln
  by_cases hk : 1 ≤ k ∧ k ≤ 64
  · obtain ⟨m, hm⟩ : ∃ m : Nat, k = (m : Int) := ⟨k.toNat, by omega⟩
    subst hm
    have hm1 : 1 ≤ m := by omega
    have hm2 : m ≤ 64 := by omega
    have hSP : splitM L (m : Int) = rowsW m L m := by unfold splitM; rw [if_pos hk]; simp
    rw [hSP]
    clear hSP hk
    go_enter Try.func13, Try.ntmps13
    go_wp2_with fail
    go_loopg [5, 6] m (fun gk v i wr => RsRel w m L gk v i wr)
    case atStart => exact ⟨0, [], by omega, rfl, Lib.hid ⟨Below.refl _ w, VOwn.none_ _ _, RowsV.nil _ _⟩⟩
    case round =>
      obtain ⟨q, xs, hq, rfl, HH⟩ := hrel
      by_cases hlt : q < m
      · go_wp2_with fail
        obtain ⟨G0, rfl⟩ : ∃ G0 : Nat, G0 = gk := ⟨_, rfl⟩
        obtain ⟨w0, rfl⟩ : ∃ w0 : World, w0 = wr := ⟨_, rfl⟩
        go_loopg [7, 8] n (fun gk v i wr => Rs2Rel w0 m L (q : Int) gk v i wr)
        case atStart => exact ⟨0, by have := HLN.out; omega, rfl, Lib.hid (by simpa [rowW] using MOwn.none_ _ _), Lib.hid (Below.refl _ _)⟩
        case round =>
          obtain ⟨j, hj, rfl, HO, HB⟩ := hrel
          rw [HLN.out] at hj
          by_cases hlt2 : j < n
          · obtain ⟨⟨t, y⟩, he⟩ := at_lt L j (by rw [HLN.out]; exact hlt2)
            obtain ⟨bk, o, rfl, c0, c1⟩ := (HL.out.below (step_below HH.out.below HH.out.below.size HB.out)) j _ he
            simp only at c0 c1
            have HQ := Lib.hid he
            obtain ⟨x, hx⟩ : ∃ x, ofI t (m : Int) = x := ⟨_, rfl⟩
            have HC := Lib.hid (fun W => rof_any t (m : Int) W)
            rw [hx] at HC
            have HX := Lib.hid hx
            clear he hx
            go_wp2_with fail
            refine (HC.out _).mono ?_
            rintro e w3 ⟨rfl, rfl⟩
            by_cases hxq : x = (q : Int)
            · subst hxq
              have HN1 := Lib.hid (mb_alloc wr t y)
              have HO1 := Lib.hid (HO.out.alloc (.cells #[.int .i64 t, .int .i64 y] 29))
              have hb1 : Below wr.heap.size wr (wr.alloc (.cells #[.int .i64 t, .int .i64 y] 29)) := (Below.refl _ wr).alloc (Nat.le_refl _) _
              have HB1 := Lib.hid (step_below HB.out HB.out.size hb1)
              have hsl : (rowW (m : Int) (L.take j) (q : Int)).length < 1000000000 := by
                have : (rowW (m : Int) (L.take j) (q : Int)).length ≤ (L.take j).length := List.length_filter_le _ _
                rw [List.length_take] at this; omega
              have HSL := Lib.hid hsl
              have HNX : Hid (rowW (m : Int) (L.take j) (q : Int) ++ [(t, y)] = rowW (m : Int) (L.take (j + 1)) (q : Int)) := Lib.hid (by rw [rowW_next HQ.out, if_pos HX.out])
              clear hsl hb1
              go_wp2_with (at_builtin; refine app_m rfl (.tmp 35) (.tmp 40) rfl w0.heap.size _ _ t y rfl HO1.out _ rfl HN1.out HSL.out HB1.out.size ?_)
              intro v2 w2' ho2 hg2
              have HB2 := Lib.hid (grown_own HB1.out HB1.out.size HO1.out hg2)
              have HO2 : Hid (MOwn w2' w0.heap.size v2 (rowW (m : Int) (L.take (j + 1)) (q : Int))) := Lib.hid (by rw [← HNX.out]; exact ho2)
              clear ho2 hg2 HO1 HB1 HN1 HO HB c0 c1
              go_wp2
              go_roundg (gk - 1)
              case measure => omega
              case rel => exact ⟨j + 1, by have := HLN.out; omega, by go_num, HO2, HB2⟩
            · have hb : (x == (q : Int)) = false := by simpa using hxq
              have HO2 : Hid (MOwn wr w0.heap.size u7 (rowW (m : Int) (L.take (j + 1)) (q : Int))) := Lib.hid (by rw [rowW_next HQ.out, if_neg (by rw [HX.out]; exact hxq)]; exact HO.out)
              go_wp2
              go_roundg (gk - 1)
              case measure => omega
              case rel => exact ⟨j + 1, by have := HLN.out; omega, by go_num, HO2, HB⟩
          · have hO9 := HO.out
            rw [show j = L.length by have := HLN.out; omega, List.take_length] at hO9
            obtain ⟨A', c', hu7, _⟩ := hO9.room
            obtain ⟨nu, hnu⟩ : ∃ nu, nu = (rowW (m : Int) L (q : Int)).length := ⟨_, rfl⟩
            rw [← hnu] at hu7
            subst hu7
            have HO9 := Lib.hid hO9
            have hxl : xs.length < 1000000 := by rw [HH.out.rows.1, rowsW_len]; omega
            have HXL := Lib.hid hxl
            have hbw : Below w0.heap.size w0 (wr.alloc (.cells #[.slice A' nu c'] 24)) := HB.out.alloc HB.out.size _
            have hv1 : VOwn (wr.alloc (.cells #[.slice A' nu c'] 24)) w.heap.size u5 xs := own_below HH.out.out hbw
            have HV1 := Lib.hid hv1
            have HN1 := Lib.hid (heap_alloc_new wr (.cells #[.slice A' nu c'] 24))
            have HR1 := Lib.hid ((HH.out.rows.below hbw).snoc ((hO9.alloc (.cells #[.slice A' nu c'] 24)).mono HH.out.below.size))
            have HB1 := Lib.hid (step_below HH.out.below HH.out.below.size hbw)
            clear hO9 hnu hxl hbw hv1
            go_wp2_with (at_builtin; refine app_v rfl (.tmp 42) (.tmp 44) rfl w.heap.size _ xs _ (slice_one _ _ _) rfl HV1.out _ rfl HN1.out HXL.out HB1.out.size ?_)
            intro v2 w2' ho2 hg2
            have HH2 : Hid (RsH w w2' m L v2 (xs ++ [.slice A' nu c']) (q + 1)) := Lib.hid ⟨Below.grown HB1.out hg2 HB1.out.size (fun j e => (own_lt HV1.out j e).1), ho2, by
              rw [rowsW_succ]
              exact HR1.out.grown HV1.out hg2⟩
            clear ho2 hg2 HV1 HN1 HR1 HB1 HH
            go_wp2
            go_roundg (G0 - 1)
            case measure => omega
            case rel => exact ⟨q + 1, _, by omega, by go_num, HH2⟩
      · have HH3 : Hid (SlR wr u5 (rowsW m L m)) := Lib.hid (by
          have := HH.out.rows
          rw [show q = m by omega] at this
          exact HH.out.out.rows this)
        go_wp2
        go_ret
        exact ⟨_, rfl, HH3, Lib.hid HH.out.below⟩
  · have hSP : splitM L k = [] := by unfold splitM; rw [if_neg hk]
    rw [hSP]
    by_cases h1 : k < 1
    · go_enter Try.func13, Try.ntmps13
      go_wp2
      go_ret
      exact ⟨_, rfl, Lib.hid ⟨none, 0, 0, rfl, rfl, fun k L h => by simp at h⟩, Lib.hid (Below.refl _ w)⟩
    · have h2 : 64 < k := by omega
      go_enter Try.func13, Try.ntmps13
      go_wp2
      go_ret
      exact ⟨_, rfl, Lib.hid ⟨none, 0, 0, rfl, rfl, fun k L h => by simp at h⟩, Lib.hid (Below.refl _ w)⟩

end Go.Proofs.Ytgkmmjlhphinhaa.In
