/-
  What is proved here: contracts of the document's own put and Near: a number in its place; a vertex's neighbours. Conditions: at most 100000 edges each way.
-/
import Derived.Test.YtobmkhbkcmdhbaaGreatAlLW1
namespace Go.Proofs.YtobmkhbkcmdhbaaGreat.Lb
open Go.RowKit Gr Wd Ws

theorem IOwn.room {w : World} {B : Nat} {v : Value} {L : List Int} (h : IOwn w B v L) : ∃ A c, v = .slice A L.length c ∧ IAt w A L ∧ L.length ≤ c ∧ c ≤ maxLen ∧ ((A = none ∧ c = 0) ∨ ∃ g, A = some ⟨g, 0, none⟩) := by
  obtain ⟨A0, c0, hv, hat⟩ := h.form
  obtain ⟨h0, h1 | ⟨g, cap, cur, h1, h2, h3, h4, h5, h6, h7⟩⟩ := h
  · have : L = [] := List.eq_nil_of_length_eq_zero h1.2
    subst this
    exact ⟨none, 0, h1.1, IAt.nil _ _, Nat.le_refl _, Nat.zero_le _, Or.inl ⟨rfl, rfl⟩⟩
  · rw [h1] at hv
    injection hv with hA hn hc
    subst hA hc
    exact ⟨_, cap, h1, hat, h4, h5, Or.inr ⟨g, rfl⟩⟩
theorem app_irest {w : World} {ops : Array Oper} {rest : List Oper} {o : Oper} {a : Act} {Q : Exit → Act → World → Prop} (hgd : o.guard = none) (s x : Operand)
    (ho : o.op = .call { callee := .builtin .append, args := #[s, x], argTypes := #[82, 82] }) (B : Nat) (v : Value) (K L : List Int) (hs : a.eval s = v) (hown : IOwn w B v K)
    (A : Option Addr) (n c : Nat) (hx : a.eval x = .slice A n c) (hL : IAt w A L) (hnL : L.length = n) (hn : K.length + n < 1000000000) (hB : B ≤ w.heap.size)
    (h : ∀ v' w', IOwn w' B v' (K ++ L) → w.grownBy w' v.ownBlock → wpList Tryz.prog ops Q rest (a.put o.dst v') w') : wpList Tryz.prog ops Q (o :: rest) a w := by
  subst hnL
  cases A with
  | some ad => exact app_ints hgd s x ho B v K L hs hown ad c hx hL hn hB h
  | none =>
    obtain rfl := iat_none hL
    obtain ⟨i0, hi, _⟩ := info_parts infoI
    have u22 := run_underlying Tryz.underlying82
    obtain ⟨A', c', rfl, _, hcap, _⟩ := hown.room
    have hr : (Builtin.append_ #[82, 82] o.type #[.slice A' K.length c', .slice none 0 c]).run Tryz.prog w = .ok (.slice A' K.length c') w := by
      cases A' <;> simp [Builtin.append_, Builtin.lenOf, Builtin.firstCells, u22, sizeOf, typeInfo, hi, hcap, storeCells]
    refine wpList_plain hgd fun _ hK => ?_
    unfold Oper.wp execOp
    simp only [ho, resolve, invoke, builtin, Sem.run_bind, Sem.run_pure, Result.andThen_ok, List.map_toArray, List.map_cons, List.map_nil, hs, hx, hr, List.length_nil]
    exact hK _ _ (h _ _ (by rw [List.append_nil]; exact hown) ⟨rfl, rfl, rfl, Nat.le_refl _, fun _ _ _ => rfl⟩)
theorem IAt.take {w : World} {A : Option Addr} {L : List Int} (h : IAt w A L) (k : Nat) : IAt w A (L.take k) := fun i e hi => h i e (by
  rw [List.getElem?_take] at hi; split at hi
  · exact hi
  · cases hi)
theorem IAt.drop {w : World} {g o : Nat} {L : List Int} (h : IAt w (some ⟨g, o, none⟩) L) (k : Nat) : IAt w (some ⟨g, o + k, none⟩) (L.drop k) := fun i e hi => by
  rw [List.getElem?_drop] at hi
  obtain ⟨bk, o', e1, c0⟩ := h (k + i) e hi
  cases e1
  exact ⟨g, o + k, rfl, by rw [Nat.add_assoc]; exact c0⟩

theorem IOwn.mono {w : World} {B B' : Nat} {v : Value} {l : List Int} (h : IOwn w B v l) (hb : B' ≤ B) : IOwn w B' v l := own_mono h hb
def PuRel (w : World) (l : List Int) (n : Int) (g : Nat) (i : Value) (wr : World) : Prop :=
  ∃ k : Nat, k + g = l.length ∧ i = .int .i64 (k : Int) ∧ w = wr ∧ ∀ (j : Nat) (x : Int), j < k → l[j]? = some x → x < n
theorem less_on {l : List Int} {n x : Int} {k : Nat} (h : ∀ (j : Nat) (y : Int), j < k → l[j]? = some y → y < n) (hx : l[k]? = some x) (hl : x < n) : ∀ (j : Nat) (y : Int), j < k + 1 → l[j]? = some y → y < n := by
  intro j y hj hy
  by_cases e : j = k
  · subst e; rw [hx] at hy; injection hy with hy; omega
  · exact h j y (by omega) hy

/- What put does behind its place. -/
set_option maxRecDepth 100000 in
set_option maxHeartbeats 2000000 in
theorem put_any (x : Value) (l : List Int) (B : Nat) (n : Int) (w : World) (h : IOwn w B x l) (hB : B ≤ w.heap.size) (hlen : l.length < 1000000) :
    Calls Tryz.prog 57 #[x, .int .i64 n] w fun e w' => ∃ r, e = .returned r ∧ Hid (IOwn w' B r (ins n l)) ∧ Hid (Below w.heap.size w w') := by
  obtain ⟨A, c, rfl, hat, hc, hcm, hA⟩ := h.room
  have hcm2 : c ≤ 9223372036854775807 := by unfold maxLen at hcm; omega
  have HAt := Lib.hid hat; have HO := Lib.hid h; have HA := Lib.hid hA; clear hat h hA hcm
  obtain ⟨N, hN⟩ : ∃ N, N = l.length := ⟨_, rfl⟩
  have HN := Lib.hid hN
  rw [← hN] at hc hlen ⊢
  clear hN
  go_enter Tryz.func57, Tryz.ntmps57
  go_wp2
  go_loopg [5] N (fun g i wr => PuRel w l n g i wr)
  case atStart => exact ⟨0, by have := HN.out; omega, rfl, rfl, fun j x hj => absurd hj (by omega)⟩
  case round =>
    obtain ⟨k, hk, rfl, rfl, hles⟩ := hrel
    rw [← HN.out] at hk
    have HLE := Lib.hid hles; clear hles
    have hkN : k ≤ N := by omega
    by_cases hlt : k < N
    · obtain ⟨y, hy⟩ := at_lt l k (by rw [← HN.out]; exact hlt)
      obtain ⟨bk, o, hA0, c0⟩ := HAt.out k y hy
      obtain rfl : o = 0 := by
        rcases HA.out with ⟨h, _⟩ | ⟨g', h⟩
        · rw [h] at hA0; cases hA0
        · rw [h] at hA0; cases hA0; rfl
      subst hA0
      rw [Nat.zero_add] at c0
      have HY := Lib.hid hy; clear hy
      by_cases hyn : y < n
      · go_wp2
        go_roundg (gk - 1)
        case measure => omega
        case rel => exact ⟨k + 1, by have := HN.out; omega, by go_num, rfl, less_on HLE.out HY.out hyn⟩
      · have hins := ins_at l k HLE.out (by rw [← HN.out]; omega) (fun z hz => by rw [HY.out] at hz; injection hz with hz; omega)
        by_cases hyn2 : y = n
        · rw [if_pos (by rw [HY.out, hyn2])] at hins
          have HI := Lib.hid hins; clear hins
          subst hyn2
          go_wp2
          go_ret
          refine ⟨_, rfl, ?_, Lib.hid (Below.refl _ _)⟩
          have := HO.out
          rw [← HN.out] at this
          rw [HI.out]
          exact Lib.hid this
        · rw [if_neg (by rw [HY.out]; intro e; injection e with e; exact hyn2 e)] at hins
          have HI := Lib.hid hins; clear hins
          have hat1 := HAt.out.take k
          have hkc : k < c := by omega
          have hlk : (l.take k).length = k := by simp; have := HN.out; omega
          have hld : (l.drop k).length = N - k := by simp; have := HN.out; omega
          have hs1 : ([] : List Int).length + k < 1000000000 := by simp; omega
          have hs2 : (l.take k).length < 1000000000 := by simp; omega
          have hs3 : (l.take k ++ [n]).length + (N - k) < 1000000000 := by rw [List.length_append, hlk]; simp; omega
          go_wp2_with (at_builtin; refine app_irest rfl (.tmp 34) (.tmp 37) rfl w.heap.size _ [] (l.take k) rfl (IOwn.none_ _ _) _ _ _ rfl hat1 hlk hs1 (Nat.le_refl _) ?_)
          intro v1 w1 ho1 hg1
          have hb1 : Below w.heap.size w w1 := Below.grown (Below.refl _ w) hg1 (Nat.le_refl _) nofun
          have HN1 := Lib.hid (heap_alloc_new w1 (.cells #[.int .i64 n] 3))
          have HO1 := Lib.hid (ho1.alloc (.cells #[.int .i64 n] 3))
          have HB2 := Lib.hid (hb1.alloc hb1.size (.cells #[.int .i64 n] 3))
          clear ho1 hg1 hb1 hat1
          have HO1' : Hid (IOwn (w1.alloc (.cells #[.int .i64 n] 3)) w.heap.size v1 (l.take k)) := HO1
          go_wp2_with (at_builtin; refine app_i rfl (.tmp 39) (.tmp 41) rfl w.heap.size _ (l.take k) n rfl HO1.out _ rfl HN1.out hs2 HB2.out.size ?_)
          intro v2 w2 ho2 hg2
          have hb3 := Below.grown HB2.out hg2 HB2.out.size fun j e => own_lt_i HO1.out j e
          have hat3 := (HAt.out.below hb3).drop k
          rw [Nat.zero_add] at hat3
          have HB3 := Lib.hid hb3; have HO2 := Lib.hid ho2
          clear ho2 hg2 hb3
          go_wp2_with (at_builtin; refine app_irest rfl (.tmp 43) (.tmp 46) rfl w.heap.size _ (l.take k ++ [n]) (l.drop k) rfl HO2.out _ _ _ rfl hat3 hld hs3 HB3.out.size ?_)
          intro v3 w3 ho3 hg3
          have hb4 := Below.grown HB3.out hg3 HB3.out.size fun j e => own_lt_i HO2.out j e
          have HB4 := Lib.hid hb4; have HO3 := Lib.hid (IOwn.mono ho3 hB); clear ho3 hg3 hb4 hat3
          go_wp2
          go_ret
          refine ⟨_, rfl, Lib.hid ?_, HB4⟩
          have := HO3.out
          rw [HI.out]
          exact this
    · have hkN2 : k = N := by omega
      have hins := ins_at l k HLE.out (by rw [← HN.out]; omega) (fun z hz => by rw [List.getElem?_eq_none (by rw [← HN.out]; omega)] at hz; cases hz)
      have hn0 : l[k]? = none := List.getElem?_eq_none (by rw [← HN.out]; omega)
      rw [if_neg (by rw [hn0]; simp)] at hins
      have HI := Lib.hid hins
      rw [hkN2, HN.out, List.take_length, List.drop_length] at HI
      clear hins hn0 hk hlt
      subst hkN2
      have hll : l.length = k := HN.out.symm
      have hs1 : ([] : List Int).length + k < 1000000000 := by simp; omega
      have hs2 : l.length < 1000000000 := by omega
      rcases HA.out with ⟨rfl, rfl⟩ | ⟨g, rfl⟩
      · obtain rfl : k = 0 := by omega
        obtain rfl : l = [] := List.eq_nil_of_length_eq_zero hll
        have hat1 := IAt.nil w none
        go_wp2_with (at_builtin; refine app_irest rfl (.tmp 34) (.tmp 37) rfl w.heap.size _ [] [] rfl (IOwn.none_ _ _) _ _ _ rfl hat1 rfl hs1 (Nat.le_refl _) ?_)
        intro v1 w1 ho1 hg1
        have ho1' : IOwn w1 w.heap.size v1 [] := ho1
        have hb1 : Below w.heap.size w w1 := Below.grown (Below.refl _ w) hg1 (Nat.le_refl _) nofun
        have HN1 := Lib.hid (heap_alloc_new w1 (.cells #[.int .i64 n] 3))
        have HO1 := Lib.hid (ho1'.alloc (.cells #[.int .i64 n] 3))
        have HB2 := Lib.hid (hb1.alloc hb1.size (.cells #[.int .i64 n] 3))
        clear ho1 ho1' hg1 hb1 hat1
        go_wp2_with (at_builtin; refine app_i rfl (.tmp 39) (.tmp 41) rfl w.heap.size _ [] n rfl HO1.out _ rfl HN1.out hs2 HB2.out.size ?_)
        intro v2 w2 ho2 hg2
        have ho2' : IOwn w2 w.heap.size v2 [n] := ho2
        have hb3 := Below.grown HB2.out hg2 HB2.out.size fun j e => own_lt_i HO1.out j e
        have HB3 := Lib.hid hb3; have HO2 := Lib.hid ho2'
        have hat3 := IAt.nil w2 none
        have hs3 : ([n] : List Int).length + 0 < 1000000000 := by simp
        clear ho2 ho2' hg2 hb3
        go_wp2_with (at_builtin; refine app_irest rfl (.tmp 43) (.tmp 46) rfl w.heap.size _ [n] [] rfl HO2.out _ _ _ rfl hat3 rfl hs3 HB3.out.size ?_)
        intro v3 w3 ho3 hg3
        have hb4 := Below.grown HB3.out hg3 HB3.out.size fun j e => own_lt_i HO2.out j e
        have ho3' : IOwn w3 w.heap.size v3 [n] := ho3
        have HB4 := Lib.hid hb4; have HO3 := Lib.hid (IOwn.mono ho3' hB); clear ho3 ho3' hg3 hb4 hat3
        go_wp2
        go_ret
        exact ⟨_, rfl, HO3, HB4⟩
      · have hat1 := HAt.out
        go_wp2_with (at_builtin; refine app_irest rfl (.tmp 34) (.tmp 37) rfl w.heap.size _ [] l rfl (IOwn.none_ _ _) _ _ _ rfl hat1 hll hs1 (Nat.le_refl _) ?_)
        intro v1 w1 ho1 hg1
        have ho1' : IOwn w1 w.heap.size v1 l := ho1
        have hb1 : Below w.heap.size w w1 := Below.grown (Below.refl _ w) hg1 (Nat.le_refl _) nofun
        have HN1 := Lib.hid (heap_alloc_new w1 (.cells #[.int .i64 n] 3))
        have HO1 := Lib.hid (ho1'.alloc (.cells #[.int .i64 n] 3))
        have HB2 := Lib.hid (hb1.alloc hb1.size (.cells #[.int .i64 n] 3))
        clear ho1 ho1' hg1 hb1 hat1
        go_wp2_with (at_builtin; refine app_i rfl (.tmp 39) (.tmp 41) rfl w.heap.size _ l n rfl HO1.out _ rfl HN1.out hs2 HB2.out.size ?_)
        intro v2 w2 ho2 hg2
        have ho2' : IOwn w2 w.heap.size v2 (l ++ [n]) := ho2
        have hb3 := Below.grown HB2.out hg2 HB2.out.size fun j e => own_lt_i HO1.out j e
        have HB3 := Lib.hid hb3; have HO2 := Lib.hid ho2'
        have hs3 : (l ++ [n]).length + 0 < 1000000000 := by simp; omega
        clear ho2 ho2' hg2 hb3
        by_cases hkc : k < c
        · have hat3 := IAt.nil w2 (some ⟨g, k, none⟩)
          go_wp2_with (at_builtin; refine app_irest rfl (.tmp 43) (.tmp 46) rfl w.heap.size _ (l ++ [n]) [] rfl HO2.out _ _ _ rfl hat3 rfl hs3 HB3.out.size ?_)
          intro v3 w3 ho3 hg3
          have hb4 := Below.grown HB3.out hg3 HB3.out.size fun j e => own_lt_i HO2.out j e
          have ho3' : IOwn w3 w.heap.size v3 (l ++ [n]) := by simpa using ho3
          have HB4 := Lib.hid hb4; have HO3 := Lib.hid (IOwn.mono ho3' hB); clear ho3 ho3' hg3 hb4 hat3
          go_wp2
          go_ret
          refine ⟨_, rfl, Lib.hid ?_, HB4⟩
          have := HO3.out
          rw [HI.out]
          exact this
        · have hkc2 : k = c := by omega
          subst hkc2
          have hat3 := IAt.nil w2 (some ⟨g, 0, none⟩)
          go_wp2_with (at_builtin; refine app_irest rfl (.tmp 43) (.tmp 46) rfl w.heap.size _ (l ++ [n]) [] rfl HO2.out _ _ _ rfl hat3 rfl hs3 HB3.out.size ?_)
          intro v3 w3 ho3 hg3
          have hb4 := Below.grown HB3.out hg3 HB3.out.size fun j e => own_lt_i HO2.out j e
          have ho3' : IOwn w3 w.heap.size v3 (l ++ [n]) := by simpa using ho3
          have HB4 := Lib.hid hb4; have HO3 := Lib.hid (IOwn.mono ho3' hB); clear ho3 ho3' hg3 hb4 hat3
          go_wp2
          go_ret
          refine ⟨_, rfl, Lib.hid ?_, HB4⟩
          have := HO3.out
          rw [HI.out]
          exact this

end Go.Proofs.YtobmkhbkcmdhbaaGreat.Lb
