/-
  What is proved here: the texts AlLR1 AlLR2 AlR3 AlQ1 AlQ2 AlQ3 AlQ4 of this seat, laid together (each says itself what it proves; no condition beyond theirs).
-/
import Derived.Test.YtbbmgandkmlojaaGreatAlLW1
import Derived.Test.YtbbmgandkmlojaaGreatAlR2
import Derived.Test.YtbbmgandkmlojaaGreatSqG3
import Derived.Test.YtbbmgandkmlojaaGreatPaTail
import Derived.Test.YtbbmgandkmlojaaGreatPtG4
import Derived.Stop.Asserts
import Derived.Laws.StructEq
/-
  What is proved here: contracts of the document's own put and Near: a number in its place; a vertex's neighbours. Conditions: at most 100000 edges each way.
-/
namespace Go.Proofs.YtbbmgandkmlojaaGreat.Lb
open Go.RowKit Gr Wd Ws

theorem IOwn.room {w : World} {B : Nat} {v : Value} {L : List Int} (h : IOwn w B v L) : ∃ A c, v = .slice A L.length c ∧ IAt w A L ∧ L.length ≤ c ∧ c ≤ maxLen ∧ ((A = none ∧ c = 0) ∨ ∃ g, A = some ⟨g, 0, none⟩) := by
  obtain ⟨A0, c0, hv, hat⟩ := h.form
  obtain ⟨h0, h1 | ⟨g, cap, cur, h1, h2, h3, h4, h5, h6, h7⟩⟩ := h
  · have : L = [] := List.eq_nil_of_length_eq_zero h1.2
    subst this
    exact ⟨none, 0, h1.1, IAt.nil _ _, Nat.le_refl _, Nat.zero_le _, Or.inl ⟨rfl, rfl⟩⟩
  · rw [h1] at hv
    injection hv with hA hn hc
    subst hA hc
    exact ⟨_, cap, h1, hat, h4, h5, Or.inr ⟨g, rfl⟩⟩
theorem app_irest {w : World} {ops : Array Oper} {rest : List Oper} {o : Oper} {a : Act} {Q : Exit → Act → World → Prop} (hgd : o.guard = none) (s x : Operand)
    (ho : o.op = .call { callee := .builtin .append, args := #[s, x], argTypes := #[93, 93] }) (B : Nat) (v : Value) (K L : List Int) (hs : a.eval s = v) (hown : IOwn w B v K)
    (A : Option Addr) (n c : Nat) (hx : a.eval x = .slice A n c) (hL : IAt w A L) (hnL : L.length = n) (hn : K.length + n < 1000000000) (hB : B ≤ w.heap.size)
    (h : ∀ v' w', IOwn w' B v' (K ++ L) → w.grownBy w' v.ownBlock → wpList Tryz.prog ops Q rest (a.put o.dst v') w') : wpList Tryz.prog ops Q (o :: rest) a w := by
  subst hnL
  cases A with
  | some ad => exact app_ints hgd s x ho B v K L hs hown ad c hx hL hn hB h
  | none =>
    obtain rfl := iat_none hL
    obtain ⟨i0, hi, _⟩ := info_parts infoI
    have u22 := run_underlying Tryz.underlying93
    obtain ⟨A', c', rfl, _, hcap, _⟩ := hown.room
    have hr : (Builtin.append_ #[93, 93] o.type #[.slice A' K.length c', .slice none 0 c]).run Tryz.prog w = .ok (.slice A' K.length c') w := by
      cases A' <;> simp [Builtin.append_, Builtin.lenOf, Builtin.firstCells, u22, sizeOf, typeInfo, hi, hcap, storeCells]
    refine wpList_plain hgd fun _ hK => ?_
    unfold Oper.wp execOp
    simp only [ho, resolve, invoke, builtin, Sem.run_bind, Sem.run_pure, Result.andThen_ok, List.map_toArray, List.map_cons, List.map_nil, hs, hx, hr, List.length_nil]
    exact hK _ _ (h _ _ (by rw [List.append_nil]; exact hown) ⟨rfl, rfl, rfl, Nat.le_refl _, fun _ _ _ => rfl⟩)
theorem IAt.take {w : World} {A : Option Addr} {L : List Int} (h : IAt w A L) (k : Nat) : IAt w A (L.take k) := fun i e hi => h i e (by
  rw [List.getElem?_take] at hi; split at hi
  · exact hi
  · cases hi)
theorem IAt.drop {w : World} {g o : Nat} {L : List Int} (h : IAt w (some ⟨g, o, none⟩) L) (k : Nat) : IAt w (some ⟨g, o + k, none⟩) (L.drop k) := fun i e hi => by
  rw [List.getElem?_drop] at hi
  obtain ⟨bk, o', e1, c0⟩ := h (k + i) e hi
  cases e1
  exact ⟨g, o + k, rfl, by rw [Nat.add_assoc]; exact c0⟩

theorem IOwn.mono {w : World} {B B' : Nat} {v : Value} {l : List Int} (h : IOwn w B v l) (hb : B' ≤ B) : IOwn w B' v l := own_mono h hb
def PuRel (w : World) (l : List Int) (n : Int) (g : Nat) (i : Value) (wr : World) : Prop :=
  ∃ k : Nat, k + g = l.length ∧ i = .int .i64 (k : Int) ∧ w = wr ∧ ∀ (j : Nat) (x : Int), j < k → l[j]? = some x → x < n
theorem less_on {l : List Int} {n x : Int} {k : Nat} (h : ∀ (j : Nat) (y : Int), j < k → l[j]? = some y → y < n) (hx : l[k]? = some x) (hl : x < n) : ∀ (j : Nat) (y : Int), j < k + 1 → l[j]? = some y → y < n := by
  intro j y hj hy
  by_cases e : j = k
  · subst e; rw [hx] at hy; injection hy with hy; omega
  · exact h j y (by omega) hy

/- What put does behind its place. -/
set_option maxRecDepth 100000 in
set_option maxHeartbeats 2000000 in
theorem put_any (x : Value) (l : List Int) (B : Nat) (n : Int) (w : World) (h : IOwn w B x l) (hB : B ≤ w.heap.size) (hlen : l.length < 1000000) :
    Calls Tryz.prog 100 #[x, .int .i64 n] w fun e w' => ∃ r, e = .returned r ∧ Hid (IOwn w' B r (ins n l)) ∧ Hid (Below w.heap.size w w') := by
  obtain ⟨A, c, rfl, hat, hc, hcm, hA⟩ := h.room
  have hcm2 : c ≤ 9223372036854775807 := by unfold maxLen at hcm; omega
  have HAt := Lib.hid hat; have HO := Lib.hid h; have HA := Lib.hid hA; clear hat h hA hcm
  obtain ⟨N, hN⟩ : ∃ N, N = l.length := ⟨_, rfl⟩
  have HN := Lib.hid hN
  rw [← hN] at hc hlen ⊢
  clear hN
  go_enter Tryz.func100, Tryz.ntmps100
  go_wp2
  go_loopg [5] N (fun g i wr => PuRel w l n g i wr)
  case atStart => exact ⟨0, by have := HN.out; omega, rfl, rfl, fun j x hj => absurd hj (by omega)⟩
  case round =>
    obtain ⟨k, hk, rfl, rfl, hles⟩ := hrel
    rw [← HN.out] at hk
    have HLE := Lib.hid hles; clear hles
    have hkN : k ≤ N := by omega
    by_cases hlt : k < N
    · obtain ⟨y, hy⟩ := at_lt l k (by rw [← HN.out]; exact hlt)
      obtain ⟨bk, o, hA0, c0⟩ := HAt.out k y hy
      obtain rfl : o = 0 := by
        rcases HA.out with ⟨h, _⟩ | ⟨g', h⟩
        · rw [h] at hA0; cases hA0
        · rw [h] at hA0; cases hA0; rfl
      subst hA0
      rw [Nat.zero_add] at c0
      have HY := Lib.hid hy; clear hy
      by_cases hyn : y < n
      · go_wp2
        go_roundg (gk - 1)
        case measure => omega
        case rel => exact ⟨k + 1, by have := HN.out; omega, by go_num, rfl, less_on HLE.out HY.out hyn⟩
      · have hins := ins_at l k HLE.out (by rw [← HN.out]; omega) (fun z hz => by rw [HY.out] at hz; injection hz with hz; omega)
        by_cases hyn2 : y = n
        · rw [if_pos (by rw [HY.out, hyn2])] at hins
          have HI := Lib.hid hins; clear hins
          subst hyn2
          go_wp2
          go_ret
          refine ⟨_, rfl, ?_, Lib.hid (Below.refl _ _)⟩
          have := HO.out
          rw [← HN.out] at this
          rw [HI.out]
          exact Lib.hid this
        · rw [if_neg (by rw [HY.out]; intro e; injection e with e; exact hyn2 e)] at hins
          have HI := Lib.hid hins; clear hins
          have hat1 := HAt.out.take k
          have hkc : k < c := by omega
          have hlk : (l.take k).length = k := by simp; have := HN.out; omega
          have hld : (l.drop k).length = N - k := by simp; have := HN.out; omega
          have hs1 : ([] : List Int).length + k < 1000000000 := by simp; omega
          have hs2 : (l.take k).length < 1000000000 := by simp; omega
          have hs3 : (l.take k ++ [n]).length + (N - k) < 1000000000 := by rw [List.length_append, hlk]; simp; omega
          go_wp2_with (at_builtin; refine app_irest rfl (.tmp 34) (.tmp 37) rfl w.heap.size _ [] (l.take k) rfl (IOwn.none_ _ _) _ _ _ rfl hat1 hlk hs1 (Nat.le_refl _) ?_)
          intro v1 w1 ho1 hg1
          have hb1 : Below w.heap.size w w1 := Below.grown (Below.refl _ w) hg1 (Nat.le_refl _) nofun
          have HN1 := Lib.hid (heap_alloc_new w1 (.cells #[.int .i64 n] 3))
          have HO1 := Lib.hid (ho1.alloc (.cells #[.int .i64 n] 3))
          have HB2 := Lib.hid (hb1.alloc hb1.size (.cells #[.int .i64 n] 3))
          clear ho1 hg1 hb1 hat1
          have HO1' : Hid (IOwn (w1.alloc (.cells #[.int .i64 n] 3)) w.heap.size v1 (l.take k)) := HO1
          go_wp2_with (at_builtin; refine app_i rfl (.tmp 39) (.tmp 41) rfl w.heap.size _ (l.take k) n rfl HO1.out _ rfl HN1.out hs2 HB2.out.size ?_)
          intro v2 w2 ho2 hg2
          have hb3 := Below.grown HB2.out hg2 HB2.out.size fun j e => own_lt_i HO1.out j e
          have hat3 := (HAt.out.below hb3).drop k
          rw [Nat.zero_add] at hat3
          have HB3 := Lib.hid hb3; have HO2 := Lib.hid ho2
          clear ho2 hg2 hb3
          go_wp2_with (at_builtin; refine app_irest rfl (.tmp 43) (.tmp 46) rfl w.heap.size _ (l.take k ++ [n]) (l.drop k) rfl HO2.out _ _ _ rfl hat3 hld hs3 HB3.out.size ?_)
          intro v3 w3 ho3 hg3
          have hb4 := Below.grown HB3.out hg3 HB3.out.size fun j e => own_lt_i HO2.out j e
          have HB4 := Lib.hid hb4; have HO3 := Lib.hid (IOwn.mono ho3 hB); clear ho3 hg3 hb4 hat3
          go_wp2
          go_ret
          refine ⟨_, rfl, Lib.hid ?_, HB4⟩
          have := HO3.out
          rw [HI.out]
          exact this
    · have hkN2 : k = N := by omega
      have hins := ins_at l k HLE.out (by rw [← HN.out]; omega) (fun z hz => by rw [List.getElem?_eq_none (by rw [← HN.out]; omega)] at hz; cases hz)
      have hn0 : l[k]? = none := List.getElem?_eq_none (by rw [← HN.out]; omega)
      rw [if_neg (by rw [hn0]; simp)] at hins
      have HI := Lib.hid hins
      rw [hkN2, HN.out, List.take_length, List.drop_length] at HI
      clear hins hn0 hk hlt
      subst hkN2
      have hll : l.length = k := HN.out.symm
      have hs1 : ([] : List Int).length + k < 1000000000 := by simp; omega
      have hs2 : l.length < 1000000000 := by omega
      rcases HA.out with ⟨rfl, rfl⟩ | ⟨g, rfl⟩
      · obtain rfl : k = 0 := by omega
        obtain rfl : l = [] := List.eq_nil_of_length_eq_zero hll
        have hat1 := IAt.nil w none
        go_wp2_with (at_builtin; refine app_irest rfl (.tmp 34) (.tmp 37) rfl w.heap.size _ [] [] rfl (IOwn.none_ _ _) _ _ _ rfl hat1 rfl hs1 (Nat.le_refl _) ?_)
        intro v1 w1 ho1 hg1
        have ho1' : IOwn w1 w.heap.size v1 [] := ho1
        have hb1 : Below w.heap.size w w1 := Below.grown (Below.refl _ w) hg1 (Nat.le_refl _) nofun
        have HN1 := Lib.hid (heap_alloc_new w1 (.cells #[.int .i64 n] 3))
        have HO1 := Lib.hid (ho1'.alloc (.cells #[.int .i64 n] 3))
        have HB2 := Lib.hid (hb1.alloc hb1.size (.cells #[.int .i64 n] 3))
        clear ho1 ho1' hg1 hb1 hat1
        go_wp2_with (at_builtin; refine app_i rfl (.tmp 39) (.tmp 41) rfl w.heap.size _ [] n rfl HO1.out _ rfl HN1.out hs2 HB2.out.size ?_)
        intro v2 w2 ho2 hg2
        have ho2' : IOwn w2 w.heap.size v2 [n] := ho2
        have hb3 := Below.grown HB2.out hg2 HB2.out.size fun j e => own_lt_i HO1.out j e
        have HB3 := Lib.hid hb3; have HO2 := Lib.hid ho2'
        have hat3 := IAt.nil w2 none
        have hs3 : ([n] : List Int).length + 0 < 1000000000 := by simp
        clear ho2 ho2' hg2 hb3
        go_wp2_with (at_builtin; refine app_irest rfl (.tmp 43) (.tmp 46) rfl w.heap.size _ [n] [] rfl HO2.out _ _ _ rfl hat3 rfl hs3 HB3.out.size ?_)
        intro v3 w3 ho3 hg3
        have hb4 := Below.grown HB3.out hg3 HB3.out.size fun j e => own_lt_i HO2.out j e
        have ho3' : IOwn w3 w.heap.size v3 [n] := ho3
        have HB4 := Lib.hid hb4; have HO3 := Lib.hid (IOwn.mono ho3' hB); clear ho3 ho3' hg3 hb4 hat3
        go_wp2
        go_ret
        exact ⟨_, rfl, HO3, HB4⟩
      · have hat1 := HAt.out
        go_wp2_with (at_builtin; refine app_irest rfl (.tmp 34) (.tmp 37) rfl w.heap.size _ [] l rfl (IOwn.none_ _ _) _ _ _ rfl hat1 hll hs1 (Nat.le_refl _) ?_)
        intro v1 w1 ho1 hg1
        have ho1' : IOwn w1 w.heap.size v1 l := ho1
        have hb1 : Below w.heap.size w w1 := Below.grown (Below.refl _ w) hg1 (Nat.le_refl _) nofun
        have HN1 := Lib.hid (heap_alloc_new w1 (.cells #[.int .i64 n] 3))
        have HO1 := Lib.hid (ho1'.alloc (.cells #[.int .i64 n] 3))
        have HB2 := Lib.hid (hb1.alloc hb1.size (.cells #[.int .i64 n] 3))
        clear ho1 ho1' hg1 hb1 hat1
        go_wp2_with (at_builtin; refine app_i rfl (.tmp 39) (.tmp 41) rfl w.heap.size _ l n rfl HO1.out _ rfl HN1.out hs2 HB2.out.size ?_)
        intro v2 w2 ho2 hg2
        have ho2' : IOwn w2 w.heap.size v2 (l ++ [n]) := ho2
        have hb3 := Below.grown HB2.out hg2 HB2.out.size fun j e => own_lt_i HO1.out j e
        have HB3 := Lib.hid hb3; have HO2 := Lib.hid ho2'
        have hs3 : (l ++ [n]).length + 0 < 1000000000 := by simp; omega
        clear ho2 ho2' hg2 hb3
        by_cases hkc : k < c
        · have hat3 := IAt.nil w2 (some ⟨g, k, none⟩)
          go_wp2_with (at_builtin; refine app_irest rfl (.tmp 43) (.tmp 46) rfl w.heap.size _ (l ++ [n]) [] rfl HO2.out _ _ _ rfl hat3 rfl hs3 HB3.out.size ?_)
          intro v3 w3 ho3 hg3
          have hb4 := Below.grown HB3.out hg3 HB3.out.size fun j e => own_lt_i HO2.out j e
          have ho3' : IOwn w3 w.heap.size v3 (l ++ [n]) := by simpa using ho3
          have HB4 := Lib.hid hb4; have HO3 := Lib.hid (IOwn.mono ho3' hB); clear ho3 ho3' hg3 hb4 hat3
          go_wp2
          go_ret
          refine ⟨_, rfl, Lib.hid ?_, HB4⟩
          have := HO3.out
          rw [HI.out]
          exact this
        · have hkc2 : k = c := by omega
          subst hkc2
          have hat3 := IAt.nil w2 (some ⟨g, 0, none⟩)
          go_wp2_with (at_builtin; refine app_irest rfl (.tmp 43) (.tmp 46) rfl w.heap.size _ (l ++ [n]) [] rfl HO2.out _ _ _ rfl hat3 rfl hs3 HB3.out.size ?_)
          intro v3 w3 ho3 hg3
          have hb4 := Below.grown HB3.out hg3 HB3.out.size fun j e => own_lt_i HO2.out j e
          have ho3' : IOwn w3 w.heap.size v3 (l ++ [n]) := by simpa using ho3
          have HB4 := Lib.hid hb4; have HO3 := Lib.hid (IOwn.mono ho3' hB); clear ho3 ho3' hg3 hb4 hat3
          go_wp2
          go_ret
          refine ⟨_, rfl, Lib.hid ?_, HB4⟩
          have := HO3.out
          rw [HI.out]
          exact this

end Go.Proofs.YtbbmgandkmlojaaGreat.Lb

/-
  What is proved here: the contract of the document's own Near: a vertex's neighbours. Conditions: at most 100000 edges each way.
-/
namespace Go.Proofs.YtbbmgandkmlojaaGreat.Lb
open Go.RowKit Gr Wd Ws

def M1Rel (w : World) (v : Int) (L : List Ed) (g : Nat) (x i : Value) (wr : World) : Prop :=
  ∃ k : Nat, k + g = L.length ∧ i = .int .i64 (k : Int) ∧ IOwn wr w.heap.size x (putAll [] (tos v (L.take k))) ∧ Below w.heap.size w wr
def M2Rel (w : World) (v : Int) (L M : List Ed) (g : Nat) (x i : Value) (wr : World) : Prop :=
  ∃ k : Nat, k + g = M.length ∧ i = .int .i64 (k : Int) ∧ IOwn wr w.heap.size x (putAll [] (tos v L ++ froms v (M.take k))) ∧ Below w.heap.size w wr
theorem put_small (l : List Int) (n : Nat) (h : l.length ≤ n) : (putAll [] l).length ≤ n := by have := putAll_len l []; simp at this; omega

set_option maxRecDepth 100000 in
set_option maxHeartbeats 1000000 in
theorem rnear_any (v : Int) (A B : Option Addr) (c d : Nat) (L M : List Ed) (w : World) (hL : EAt w A L) (hM : EAt w B M) (hl : L.length ≤ 100000) (hm : M.length ≤ 100000) :
    Calls Tryz.prog 84 #[.int .i64 v, .slice A L.length c, .slice B M.length d] w fun e w' => ∃ r, e = .returned r ∧ Hid (IOwn w' w.heap.size r (nearL v L M)) ∧ Hid (Below w.heap.size w w') := by
  have HL := Lib.hid hL; have HM := Lib.hid hM; clear hL hM
  go_enter Tryz.func84, Tryz.ntmps84
  go_wp2
  go_loopg [7, 8] L.length (fun g x i wr => M1Rel w v L g x i wr)
  case atStart => exact ⟨0, by omega, rfl, IOwn.none_ _ _, Below.refl _ w⟩
  case round =>
    obtain ⟨k, hk, rfl, ho, hb⟩ := hrel
    by_cases hlt : k < L.length
    · obtain ⟨e, he⟩ := at_lt L k hlt
      obtain ⟨bk, o, rfl, c0, c1, c2⟩ := (HL.out.below hb) k e he
      obtain ⟨e0, e1, e2⟩ := e
      have hlen : (putAll [] (tos v (L.take k))).length < 1000000 := by have h1 := tos_len v (L.take k); have h2 := take_len L k; have h3 := put_small _ _ h1; omega
      have HC := Lib.hid (put_any _ _ w.heap.size e1 _ ho hb.size hlen)
      have HE := Lib.hid he; have HB := Lib.hid hb; have HO := Lib.hid ho
      clear hb ho he hlen
      by_cases hev : e1 = v
      · subst hev
        go_wp2
        go_roundg (gk - 1)
        case measure => omega
        case rel =>
          refine ⟨k + 1, by omega, by go_num, ?_, HB.out⟩
          rw [take_at HE.out, tos_snoc, if_pos rfl]; exact HO.out
      · go_wp2_with fail
        refine HC.out.mono ?_
        rintro er w1 ⟨r, rfl, hO, hb2⟩
        go_wp2
        go_roundg (gk - 1)
        case measure => omega
        case rel =>
          refine ⟨k + 1, by omega, by go_num, ?_, HB.out.trans (hb2.out.mono HB.out.size)⟩
          rw [take_at HE.out, tos_snoc, if_neg hev, putAll_snoc]; exact hO.out
    · have HK : Hid (k = L.length) := Lib.hid (by omega)
      have hfull := ho; rw [HK.out, List.take_length] at hfull
      have HO := Lib.hid hfull; have HB := Lib.hid hb; clear ho hb hfull
      obtain ⟨G, rfl⟩ : ∃ G : Nat, G = gk := ⟨_, rfl⟩
      clear HK
      go_wp2
      go_loopg [7, 9] M.length (fun g x i wr => M2Rel w v L M g x i wr)
      case atStart => exact ⟨0, by omega, rfl, by simpa [froms] using HO.out, HB.out⟩
      case round =>
        obtain ⟨k2, hk2, rfl, ho, hb⟩ := hrel
        clear HO HB
        by_cases hlt2 : k2 < M.length
        · obtain ⟨e, he⟩ := at_lt M k2 hlt2
          obtain ⟨bk, o, rfl, c0, c1, c2⟩ := (HM.out.below hb) k2 e he
          obtain ⟨e0, e1, e2⟩ := e
          have hlen : (putAll [] (tos v L ++ froms v (M.take k2))).length < 1000000 := by
            have h1 := tos_len v L; have h2 := froms_len v (M.take k2); have h3 := take_len M k2
            have h4 := put_small (tos v L ++ froms v (M.take k2)) 200000 (by rw [List.length_append]; omega)
            omega
          have HC := Lib.hid (put_any _ _ w.heap.size e0 _ ho hb.size hlen)
          have HE := Lib.hid he; have HB := Lib.hid hb; have HO := Lib.hid ho
          clear hb ho he hlen
          by_cases hev : e0 = v
          · subst hev
            go_wp2
            go_roundg (gk - 1)
            case measure => omega
            case rel =>
              refine ⟨k2 + 1, by omega, by go_num, ?_, HB.out⟩
              rw [take_at HE.out, froms_snoc, if_pos rfl]; exact HO.out
          · go_wp2_with fail
            refine HC.out.mono ?_
            rintro er w1 ⟨r, rfl, hO, hb2⟩
            go_wp2
            go_roundg (gk - 1)
            case measure => omega
            case rel =>
              refine ⟨k2 + 1, by omega, by go_num, ?_, HB.out.trans (hb2.out.mono HB.out.size)⟩
              rw [take_at HE.out, froms_snoc, if_neg hev, ← List.append_assoc, putAll_snoc]; exact hO.out
        · have HK2 : Hid (k2 = M.length) := Lib.hid (by omega)
          have hfull := ho; rw [HK2.out, List.take_length] at hfull
          have HO := Lib.hid hfull; have HB := Lib.hid hb; clear ho hb hfull
          go_wp2
          go_ret
          exact ⟨_, rfl, HO, HB⟩

end Go.Proofs.YtbbmgandkmlojaaGreat.Lb

/-
  What is proved here: a contract of the document's own Send: what any vertex sends is sendM. Conditions: at most 1000 edges each way.
-/
namespace Go.Proofs.YtbbmgandkmlojaaGreat.Al
open Go.RowKit Go.Sort Gr Wd Ws Fx Rk Lb

/- What is told behind so many edges. -/
def Sn (w : World) (b : Nat) (k st so dm ep : Int) (W : World) : Prop := Below w.heap.size w W ∧ W.heap[b]? = some (.cells #[.int .u8 k, .int .i64 st, .int .i64 so, .int .i64 dm, .int .i64 ep] 26 (0, 0))
theorem Sn.step {w W W' : World} {b : Nat} {k st so dm ep : Int} (h : Sn w b k st so dm ep W) (hb : Below W.heap.size W W') : Sn w b k st so dm ep W' := ⟨step_below h.1 h.1.size hb, (hb.block _ (lt_of_block h.2)).trans h.2⟩
def SnRel (w : World) (b : Nat) (k st so dm ep : Int) (L0 : List Ms) (M : List Ms) (n : Nat) (gk : Nat) (v i : Value) (wr : World) : Prop :=
  ∃ q : Nat, q + gk = n ∧ i = .int .i64 (q : Int) ∧ Hid (MOwn wr w.heap.size v (putM k L0 (M.take q))) ∧ Hid (Sn w b k st so dm ep wr)
theorem rgive_q (v n g : Int) (hg : Hid (giveI v n = g)) (w : World) (h0 : -9223372036854775808 ≤ v) (h1 : v ≤ 9223372036854775807) (h2 : -9223372036854775808 ≤ n) (h3 : n ≤ 9223372036854775807) :
    Calls Tryz.prog 86 #[.int .i64 v, .int .i64 n] w fun e w' => e = .returned (.int .i64 g) ∧ w = w' := Rk.rgive_any v n g w hg h0 h1 h2 h3
theorem rgived_q (v x y z g : Int) (hg : Hid (addI v z = g)) (w : World) : Calls Tryz.prog 87 #[.int .i64 v, .agg #[.int .i64 x, .int .i64 y, .int .i64 z]] w fun e w' => e = .returned (.int .i64 g) ∧ Below w.heap.size w w' := by
  rw [← hg.out]; exact Pa.rgive_any v x y z w

set_option maxRecDepth 100000 in
set_option maxHeartbeats 4000000 in
theorem rsend_1 (st so dm ep v x : Int) (ch : Bool) (A C : Option Addr) (c d : Nat) (L M : List Ed) (w : World) (hL : EAt w A L) (_hM : EAt w C M) (hl : L.length ≤ 1000) (_hm : M.length ≤ 1000) (hx0 : -9223372036854775808 ≤ x) (hx1 : x ≤ 9223372036854775807) :
    Calls Tryz.prog 61 #[.agg #[.int .u8 1, .int .i64 st, .int .i64 so, .int .i64 dm, .int .i64 ep], .int .i64 v, .int .i64 x, .bool ch, .slice A L.length c, .slice C M.length d] w fun e w' => ∃ r, e = .returned r ∧ Hid (MOwn w' w.heap.size r (sendM (1) v x ch L M)) ∧ Hid (Below w.heap.size w w') := by
  have mixed := mixedO
  have HSM := Lib.hid (sendM_one v x ch L M)
  obtain ⟨W1, hW1⟩ : ∃ W1, W1 = w.alloc (.cells #[.int .u8 1, .int .i64 st, .int .i64 so, .int .i64 dm, .int .i64 ep] 26) := ⟨_, rfl⟩
  have hb1 : Below w.heap.size w W1 := by rw [hW1]; exact (Below.refl _ w).alloc (Nat.le_refl _) _
  have x0 : W1.heap[w.heap.size]? = some (.cells #[.int .u8 1, .int .i64 st, .int .i64 so, .int .i64 dm, .int .i64 ep] 26 (0, 0)) := by rw [hW1]; exact heap_alloc_new w _
  obtain ⟨b, e0⟩ : ∃ b, b = w.heap.size := ⟨_, rfl⟩
  rw [← e0] at x0
  have HS : Hid (Sn w b (1) st so dm ep W1) := Lib.hid ⟨hb1, x0⟩
  have HL := Lib.hid hL
  obtain ⟨n, hn⟩ : ∃ n, n = L.length := ⟨_, rfl⟩
  obtain ⟨m, hmm⟩ : ∃ m, m = M.length := ⟨_, rfl⟩
  rw [← hn] at hl ⊢
  have HNL := Lib.hid hn
  obtain ⟨j0, j1, j2, j3, j4, _⟩ := job_cells x0
  rw [show sentR x L.length L = sentR x n L by rw [hn]] at HSM
  go_enter Tryz.func61, Tryz.ntmps61
  go_upto_region 1 with fail
  rw [← hW1, show w.heap.size = b from e0.symm]
  clear hW1 e0 hb1 x0 hn
  go_wp2_with fail
  clear j0 j1 j2 j3 j4
  go_loopg [13, 16] n (fun gk v i wr => SnRel w b 1 st so dm ep [] (sentR x n L) n gk v i wr)
  case atStart => exact ⟨0, by omega, rfl, Lib.hid (MOwn.none_ _ _), HS⟩
  case round =>
    obtain ⟨q, hq, rfl, HO, HSq⟩ := hrel
    obtain ⟨j0, j1, j2, j3, j4, _⟩ := job_cells HSq.out.2
    by_cases hlt : q < n
    · obtain ⟨⟨e0, e1, e2⟩, hu⟩ := at_lt L q (by rw [← HNL.out]; exact hlt)
      obtain ⟨bk, o, rfl, c0, c1, c2⟩ := (HL.out.below HSq.out.1) q _ hu
      obtain ⟨y, hy⟩ : ∃ y, giveI x n = y := ⟨_, rfl⟩
      have hm1 : (sentR x n L)[q]? = some (e1, y) := by rw [← hy]; unfold sentR; rw [List.getElem?_map, hu]; rfl
      have HM1 : Hid (putM 1 [] ((sentR x n L).take (q + 1)) = insM 1 (putM 1 [] ((sentR x n L).take q)) (e1, y)) := Lib.hid (by rw [take_at hm1, putM_snoc])
      have hlen : (putM 1 [] ((sentR x n L).take q)).length < 1000000 := by
        have h1 := putM_len 1 ((sentR x n L).take q) []
        have h2 : ((sentR x n L).take q).length ≤ q := by rw [List.length_take]; omega
        simp at h1; omega
      have HLEN := Lib.hid hlen
      have HY := Lib.hid hy
      clear hu hm1 hlen hy
      go_upto_region 12 with fail
      have f0 := cell_regrown j0; have f1 := cell_regrown j1; have f2 := cell_regrown j2; have f3 := cell_regrown j3; have f4 := cell_regrown j4
      have z0 := cell_regrown c0; have z1 := cell_regrown c1; have z2 := cell_regrown c2
      have HC := Lib.hid (regr fun W (_ : Below wr.heap.size wr W) => ((rgive_q x (n : Int) y HY W hx0 hx1 (by omega) (by omega)).mono fun _ _ k => ⟨k.1, k.2 ▸ Below.refl _ _⟩ : Calls Tryz.prog 86 #[.int .i64 x, .int .i64 (n : Int)] W fun e w' => e = .returned (.int .i64 y) ∧ Below W.heap.size W w'))
      clear j0 j1 j2 j3 j4 c0 c1 c2
      refine Tl.region_tail_below 12 mixed (by kernel_rfl) ?_
      simp only [List.take_succ_cons, List.take_zero, List.drop_succ_cons, List.drop_zero]
      repeat (go_big_quiet_step ((with_reducible exact HC.out _ _)))
      refine wpQuiet_nil ?_
      intro _ hw'
      obtain ⟨⟨dq, osq⟩, hw''⟩ := hw'
      subst hw''
      obtain ⟨W3, hW3⟩ : ∃ W3, W3 = Sort.grow (redrawn wr dq) osq := ⟨_, rfl⟩
      have hb3 : Below wr.heap.size wr W3 := by rw [hW3]; exact below_regrown wr dq osq
      rw [← hW3]
      have HO3 := Lib.hid (HO.out.below hb3)
      have HS3 := Lib.hid (HSq.out.step hb3)
      clear hW3 hb3 HO HSq f0 f1 f2 f3 f4 z0 z1 z2 HC
      go_wp2_with fail
      refine (radd_any 1 st so dm ep _ _ w.heap.size e1 y _ HO3.out HS3.out.1.size HLEN.out).mono ?_
      rintro e w4 ⟨r4, rfl, HO4, hb4⟩
      have HS4 := Lib.hid (HS3.out.step hb4.out)
      clear hb4
      obtain ⟨j0, _, _, _, _, _⟩ := job_cells HS4.out.2
      go_wp2
      go_roundg (gk - 1)
      case measure => omega
      case rel => exact ⟨q + 1, by omega, by go_num, Lib.hid (by rw [HM1.out]; exact HO4.out), HS4⟩
    · have HE : Hid ((sentR x n L).take q = sentR x n L) := Lib.hid (List.take_of_length_le (by unfold sentR; rw [List.length_map, ← HNL.out]; omega))
      go_wp2
      go_ret
      refine ⟨_, rfl, Lib.hid ?_, Lib.hid HSq.out.1⟩
      have := HO.out
      rw [HE.out] at this
      rw [HSM.out]
      exact this
set_option maxRecDepth 100000 in
set_option maxHeartbeats 4000000 in
theorem rsend_3 (st so dm ep v x : Int) (A C : Option Addr) (c d : Nat) (L M : List Ed) (w : World) (hL : EAt w A L) (_hM : EAt w C M) (hl : L.length ≤ 1000) (_hm : M.length ≤ 1000) (_hx0 : -9223372036854775808 ≤ x) (_hx1 : x ≤ 9223372036854775807) :
    Calls Tryz.prog 61 #[.agg #[.int .u8 3, .int .i64 st, .int .i64 so, .int .i64 dm, .int .i64 ep], .int .i64 v, .int .i64 x, .bool true, .slice A L.length c, .slice C M.length d] w fun e w' => ∃ r, e = .returned r ∧ Hid (MOwn w' w.heap.size r (sendM (3) v x true L M)) ∧ Hid (Below w.heap.size w w') := by
  have mixed := mixedO
  have HSM : Hid (sendM 3 v x true L M = putM 3 [] (sentP x L)) := Lib.hid (sendM_three v x true L M)
  obtain ⟨W1, hW1⟩ : ∃ W1, W1 = w.alloc (.cells #[.int .u8 3, .int .i64 st, .int .i64 so, .int .i64 dm, .int .i64 ep] 26) := ⟨_, rfl⟩
  have hb1 : Below w.heap.size w W1 := by rw [hW1]; exact (Below.refl _ w).alloc (Nat.le_refl _) _
  have x0 : W1.heap[w.heap.size]? = some (.cells #[.int .u8 3, .int .i64 st, .int .i64 so, .int .i64 dm, .int .i64 ep] 26 (0, 0)) := by rw [hW1]; exact heap_alloc_new w _
  obtain ⟨b, e0⟩ : ∃ b, b = w.heap.size := ⟨_, rfl⟩
  rw [← e0] at x0
  have HS : Hid (Sn w b (3) st so dm ep W1) := Lib.hid ⟨hb1, x0⟩
  have HL := Lib.hid hL
  obtain ⟨n, hn⟩ : ∃ n, n = L.length := ⟨_, rfl⟩
  obtain ⟨m, hmm⟩ : ∃ m, m = M.length := ⟨_, rfl⟩
  rw [← hn] at hl ⊢
  have HNL := Lib.hid hn
  obtain ⟨j0, j1, j2, j3, j4, _⟩ := job_cells x0
  go_enter Tryz.func61, Tryz.ntmps61
  go_upto_region 1 with fail
  rw [← hW1, show w.heap.size = b from e0.symm]
  clear hW1 e0 hb1 x0 hn
  go_wp2_with fail
  clear j0 j1 j2 j3 j4
  go_loopg [13, 16] n (fun gk v i wr => SnRel w b 3 st so dm ep [] (sentP x L) n gk v i wr)
  case atStart => exact ⟨0, by omega, rfl, Lib.hid (MOwn.none_ _ _), HS⟩
  case round =>
    obtain ⟨q, hq, rfl, HO, HSq⟩ := hrel
    obtain ⟨j0, j1, j2, j3, j4, _⟩ := job_cells HSq.out.2
    by_cases hlt : q < n
    · obtain ⟨⟨e0, e1, e2⟩, hu⟩ := at_lt L q (by rw [← HNL.out]; exact hlt)
      obtain ⟨bk, o, rfl, c0, c1, c2⟩ := (HL.out.below HSq.out.1) q _ hu
      obtain ⟨y, hy⟩ : ∃ y, addI x e2 = y := ⟨_, rfl⟩
      have hm1 : (sentP x L)[q]? = some (e1, y) := by rw [← hy]; unfold sentP; rw [List.getElem?_map, hu]; rfl
      have HM1 : Hid (putM 3 [] ((sentP x L).take (q + 1)) = insM 3 (putM 3 [] ((sentP x L).take q)) (e1, y)) := Lib.hid (by rw [take_at hm1, putM_snoc])
      have hlen : (putM 3 [] ((sentP x L).take q)).length < 1000000 := by
        have h1 := putM_len 3 ((sentP x L).take q) []
        have h2 : ((sentP x L).take q).length ≤ q := by rw [List.length_take]; omega
        simp at h1; omega
      have HLEN := Lib.hid hlen
      have HY := Lib.hid hy
      clear hu hm1 hlen hy
      go_upto_region 14 with fail
      have f0 := cell_regrown j0; have f1 := cell_regrown j1; have f2 := cell_regrown j2; have f3 := cell_regrown j3; have f4 := cell_regrown j4
      have z0 := cell_regrown c0; have z1 := cell_regrown c1; have z2 := cell_regrown c2
      have HC := Lib.hid (regr fun W (_ : Below wr.heap.size wr W) => rgived_q x e0 e1 e2 y HY W)
      clear j0 j1 j2 j3 j4 c0 c1 c2
      refine Tl.region_tail_below 14 mixed (by kernel_rfl) ?_
      simp only [List.take_succ_cons, List.take_zero, List.drop_succ_cons, List.drop_zero]
      repeat (go_big_quiet_step ((with_reducible exact HC.out _ _)))
      refine wpQuiet_nil ?_
      intro _ hw'
      obtain ⟨⟨dq, osq⟩, hw''⟩ := hw'
      subst hw''
      obtain ⟨W3, hW3⟩ : ∃ W3, W3 = Sort.grow (redrawn wr dq) osq := ⟨_, rfl⟩
      have hb3 : Below wr.heap.size wr W3 := by rw [hW3]; exact below_regrown wr dq osq
      rw [← hW3]
      have HO3 := Lib.hid (HO.out.below hb3)
      have HS3 := Lib.hid (HSq.out.step hb3)
      clear hW3 hb3 HO HSq f0 f1 f2 f3 f4 z0 z1 z2 HC
      go_wp2_with fail
      refine (radd_any 3 st so dm ep _ _ w.heap.size e1 y _ HO3.out HS3.out.1.size HLEN.out).mono ?_
      rintro e w4 ⟨r4, rfl, HO4, hb4⟩
      have HS4 := Lib.hid (HS3.out.step hb4.out)
      clear hb4
      obtain ⟨j0, _, _, _, _, _⟩ := job_cells HS4.out.2
      go_wp2
      go_roundg (gk - 1)
      case measure => omega
      case rel => exact ⟨q + 1, by omega, by go_num, Lib.hid (by rw [HM1.out]; exact HO4.out), HS4⟩
    · have HE : Hid ((sentP x L).take q = sentP x L) := Lib.hid (List.take_of_length_le (by unfold sentP; rw [List.length_map, ← HNL.out]; omega))
      go_wp2
      go_ret
      refine ⟨_, rfl, Lib.hid ?_, Lib.hid HSq.out.1⟩
      have := HO.out
      rw [HE.out] at this
      rw [HSM.out]
      exact this
set_option maxRecDepth 100000 in
set_option maxHeartbeats 4000000 in
theorem rsend_f2 (st so dm ep v x : Int) (A C : Option Addr) (c d : Nat) (L M : List Ed) (w : World) (hL : EAt w A L) (_hM : EAt w C M) (hl : L.length ≤ 1000) (_hm : M.length ≤ 1000) (_hx0 : -9223372036854775808 ≤ x) (_hx1 : x ≤ 9223372036854775807) :
    Calls Tryz.prog 61 #[.agg #[.int .u8 2, .int .i64 st, .int .i64 so, .int .i64 dm, .int .i64 ep], .int .i64 v, .int .i64 x, .bool false, .slice A L.length c, .slice C M.length d] w fun e w' => ∃ r, e = .returned r ∧ Hid (MOwn w' w.heap.size r (sendM (2) v x false L M)) ∧ Hid (Below w.heap.size w w') := by
  have HSM : Hid (sendM 2 v x false L M = []) := Lib.hid (by rw [sendM_two]; rfl)
  obtain ⟨W1, hW1⟩ : ∃ W1, W1 = w.alloc (.cells #[.int .u8 2, .int .i64 st, .int .i64 so, .int .i64 dm, .int .i64 ep] 26) := ⟨_, rfl⟩
  have hb1 : Below w.heap.size w W1 := by rw [hW1]; exact (Below.refl _ w).alloc (Nat.le_refl _) _
  have x0 : W1.heap[w.heap.size]? = some (.cells #[.int .u8 2, .int .i64 st, .int .i64 so, .int .i64 dm, .int .i64 ep] 26 (0, 0)) := by rw [hW1]; exact heap_alloc_new w _
  obtain ⟨b, e0⟩ : ∃ b, b = w.heap.size := ⟨_, rfl⟩
  rw [← e0] at x0
  have HS : Hid (Sn w b (2) st so dm ep W1) := Lib.hid ⟨hb1, x0⟩
  have HL := Lib.hid hL
  obtain ⟨n, hn⟩ : ∃ n, n = L.length := ⟨_, rfl⟩
  obtain ⟨m, hmm⟩ : ∃ m, m = M.length := ⟨_, rfl⟩
  rw [← hn] at hl ⊢
  have HNL := Lib.hid hn
  obtain ⟨j0, j1, j2, j3, j4, _⟩ := job_cells x0
  go_enter Tryz.func61, Tryz.ntmps61
  go_upto_region 1 with fail
  rw [← hW1, show w.heap.size = b from e0.symm]
  clear hW1 e0 hb1 x0 hn
  go_wp2_with fail
  clear j0 j1 j2 j3 j4
  have HSB := HS
  go_loopg [13, 16] n (fun gk v i wr => v = .slice none 0 0 ∧ ∃ q : Nat, q + gk = n ∧ i = .int .i64 (q : Int) ∧ Hid (Below W1.heap.size W1 wr))
  case atStart => exact ⟨rfl, 0, by omega, rfl, Lib.hid (Below.refl _ _)⟩
  case round =>
    obtain ⟨rfl, q, hq, rfl, HBq⟩ := hrel
    obtain ⟨j0, j1, j2, j3, j4, _⟩ := job_cells (HSB.out.step HBq.out).2
    by_cases hlt : q < n
    · go_wp2
      go_roundg (gk - 1)
      case measure => omega
      case rel => exact ⟨rfl, q + 1, by omega, by go_num, HBq⟩
    · go_wp2
      go_ret
      exact ⟨_, rfl, Lib.hid (by rw [HSM.out]; exact (MOwn.none_ W1 w.heap.size).below HBq.out), Lib.hid (step_below HSB.out.1 HSB.out.1.size HBq.out)⟩
set_option maxRecDepth 100000 in
set_option maxHeartbeats 4000000 in
theorem rsend_f3 (st so dm ep v x : Int) (A C : Option Addr) (c d : Nat) (L M : List Ed) (w : World) (hL : EAt w A L) (_hM : EAt w C M) (hl : L.length ≤ 1000) (_hm : M.length ≤ 1000) (_hx0 : -9223372036854775808 ≤ x) (_hx1 : x ≤ 9223372036854775807) :
    Calls Tryz.prog 61 #[.agg #[.int .u8 3, .int .i64 st, .int .i64 so, .int .i64 dm, .int .i64 ep], .int .i64 v, .int .i64 x, .bool false, .slice A L.length c, .slice C M.length d] w fun e w' => ∃ r, e = .returned r ∧ Hid (MOwn w' w.heap.size r (sendM (3) v x false L M)) ∧ Hid (Below w.heap.size w w') := by
  have HSM : Hid (sendM 3 v x false L M = []) := Lib.hid (by rw [sendM_three]; rfl)
  obtain ⟨W1, hW1⟩ : ∃ W1, W1 = w.alloc (.cells #[.int .u8 3, .int .i64 st, .int .i64 so, .int .i64 dm, .int .i64 ep] 26) := ⟨_, rfl⟩
  have hb1 : Below w.heap.size w W1 := by rw [hW1]; exact (Below.refl _ w).alloc (Nat.le_refl _) _
  have x0 : W1.heap[w.heap.size]? = some (.cells #[.int .u8 3, .int .i64 st, .int .i64 so, .int .i64 dm, .int .i64 ep] 26 (0, 0)) := by rw [hW1]; exact heap_alloc_new w _
  obtain ⟨b, e0⟩ : ∃ b, b = w.heap.size := ⟨_, rfl⟩
  rw [← e0] at x0
  have HS : Hid (Sn w b (3) st so dm ep W1) := Lib.hid ⟨hb1, x0⟩
  have HL := Lib.hid hL
  obtain ⟨n, hn⟩ : ∃ n, n = L.length := ⟨_, rfl⟩
  obtain ⟨m, hmm⟩ : ∃ m, m = M.length := ⟨_, rfl⟩
  rw [← hn] at hl ⊢
  have HNL := Lib.hid hn
  obtain ⟨j0, j1, j2, j3, j4, _⟩ := job_cells x0
  go_enter Tryz.func61, Tryz.ntmps61
  go_upto_region 1 with fail
  rw [← hW1, show w.heap.size = b from e0.symm]
  clear hW1 e0 hb1 x0 hn
  go_wp2_with fail
  clear j0 j1 j2 j3 j4
  have HSB := HS
  go_loopg [13, 16] n (fun gk v i wr => v = .slice none 0 0 ∧ ∃ q : Nat, q + gk = n ∧ i = .int .i64 (q : Int) ∧ Hid (Below W1.heap.size W1 wr))
  case atStart => exact ⟨rfl, 0, by omega, rfl, Lib.hid (Below.refl _ _)⟩
  case round =>
    obtain ⟨rfl, q, hq, rfl, HBq⟩ := hrel
    obtain ⟨j0, j1, j2, j3, j4, _⟩ := job_cells (HSB.out.step HBq.out).2
    by_cases hlt : q < n
    · go_wp2
      go_roundg (gk - 1)
      case measure => omega
      case rel => exact ⟨rfl, q + 1, by omega, by go_num, HBq⟩
    · go_wp2
      go_ret
      exact ⟨_, rfl, Lib.hid (by rw [HSM.out]; exact (MOwn.none_ W1 w.heap.size).below HBq.out), Lib.hid (step_below HSB.out.1 HSB.out.1.size HBq.out)⟩
set_option maxRecDepth 100000 in
set_option maxHeartbeats 4000000 in
theorem rsend_no (k st so dm ep v x : Int) (ch : Bool) (A C : Option Addr) (c d : Nat) (L M : List Ed) (w : World) (hL : EAt w A L) (_hM : EAt w C M) (hl : L.length ≤ 1000) (_hm : M.length ≤ 1000) (_hx0 : -9223372036854775808 ≤ x) (_hx1 : x ≤ 9223372036854775807) (h1 : ¬ k = 1) (h2 : ¬ k = 2) (h3 : ¬ k = 3) :
    Calls Tryz.prog 61 #[.agg #[.int .u8 k, .int .i64 st, .int .i64 so, .int .i64 dm, .int .i64 ep], .int .i64 v, .int .i64 x, .bool ch, .slice A L.length c, .slice C M.length d] w fun e w' => ∃ r, e = .returned r ∧ Hid (MOwn w' w.heap.size r (sendM (k) v x ch L M)) ∧ Hid (Below w.heap.size w w') := by
  have HSM : Hid (sendM k v x ch L M = []) := Lib.hid (sendM_no k v x ch L M h1 h2 h3)
  obtain ⟨W1, hW1⟩ : ∃ W1, W1 = w.alloc (.cells #[.int .u8 k, .int .i64 st, .int .i64 so, .int .i64 dm, .int .i64 ep] 26) := ⟨_, rfl⟩
  have hb1 : Below w.heap.size w W1 := by rw [hW1]; exact (Below.refl _ w).alloc (Nat.le_refl _) _
  have x0 : W1.heap[w.heap.size]? = some (.cells #[.int .u8 k, .int .i64 st, .int .i64 so, .int .i64 dm, .int .i64 ep] 26 (0, 0)) := by rw [hW1]; exact heap_alloc_new w _
  obtain ⟨b, e0⟩ : ∃ b, b = w.heap.size := ⟨_, rfl⟩
  rw [← e0] at x0
  have HS : Hid (Sn w b (k) st so dm ep W1) := Lib.hid ⟨hb1, x0⟩
  have HL := Lib.hid hL
  obtain ⟨n, hn⟩ : ∃ n, n = L.length := ⟨_, rfl⟩
  obtain ⟨m, hmm⟩ : ∃ m, m = M.length := ⟨_, rfl⟩
  rw [← hn] at hl ⊢
  have HNL := Lib.hid hn
  obtain ⟨j0, j1, j2, j3, j4, _⟩ := job_cells x0
  have g1 : (k == 1) = false := by simp [h1]
  have g2 : (k == 2) = false := by simp [h2]
  have g3 : (k == 3) = false := by simp [h3]
  go_enter Tryz.func61, Tryz.ntmps61
  go_upto_region 1 with fail
  rw [← hW1, show w.heap.size = b from e0.symm]
  clear hW1 e0 hb1 x0 hn
  go_wp2_with fail
  clear j0 j1 j2 j3 j4
  have HSB := HS
  go_loopg [13, 16] n (fun gk v i wr => v = .slice none 0 0 ∧ ∃ q : Nat, q + gk = n ∧ i = .int .i64 (q : Int) ∧ Hid (Below W1.heap.size W1 wr))
  case atStart => exact ⟨rfl, 0, by omega, rfl, Lib.hid (Below.refl _ _)⟩
  case round =>
    obtain ⟨rfl, q, hq, rfl, HBq⟩ := hrel
    obtain ⟨j0, j1, j2, j3, j4, _⟩ := job_cells (HSB.out.step HBq.out).2
    by_cases hlt : q < n
    · go_wp2
      go_roundg (gk - 1)
      case measure => omega
      case rel => exact ⟨rfl, q + 1, by omega, by go_num, HBq⟩
    · go_wp2
      go_ret
      exact ⟨_, rfl, Lib.hid (by rw [HSM.out]; exact (MOwn.none_ W1 w.heap.size).below HBq.out), Lib.hid (step_below HSB.out.1 HSB.out.1.size HBq.out)⟩
theorem near_up (v : Int) (L M : List Ed) : Up (nearL v L M) := putAll_up _ _ (by simp [Up])
theorem sendM_near (v x : Int) (L M : List Ed) : sendM 2 v x true L M = sentL x (nearL v L M) := by
  rw [sendM_two, if_pos rfl, putM_up 2 _ [] (by simpa using sentL_up x (near_up v L M))]; rfl
set_option maxRecDepth 100000 in
set_option maxHeartbeats 4000000 in
theorem rsend_2 (st so dm ep v x : Int) (A C : Option Addr) (c d : Nat) (L M : List Ed) (w : World) (hL : EAt w A L) (hM : EAt w C M) (hl : L.length ≤ 1000) (hm : M.length ≤ 1000) (_hx0 : -9223372036854775808 ≤ x) (_hx1 : x ≤ 9223372036854775807) :
    Calls Tryz.prog 61 #[.agg #[.int .u8 2, .int .i64 st, .int .i64 so, .int .i64 dm, .int .i64 ep], .int .i64 v, .int .i64 x, .bool true, .slice A L.length c, .slice C M.length d] w fun e w' => ∃ r, e = .returned r ∧ Hid (MOwn w' w.heap.size r (sendM (2) v x true L M)) ∧ Hid (Below w.heap.size w w') := by
  have HSM : Hid (sendM 2 v x true L M = sentL x (nearL v L M)) := Lib.hid (sendM_near v x L M)
  obtain ⟨W1, hW1⟩ : ∃ W1, W1 = w.alloc (.cells #[.int .u8 2, .int .i64 st, .int .i64 so, .int .i64 dm, .int .i64 ep] 26) := ⟨_, rfl⟩
  have hb1 : Below w.heap.size w W1 := by rw [hW1]; exact (Below.refl _ w).alloc (Nat.le_refl _) _
  have x0 : W1.heap[w.heap.size]? = some (.cells #[.int .u8 2, .int .i64 st, .int .i64 so, .int .i64 dm, .int .i64 ep] 26 (0, 0)) := by rw [hW1]; exact heap_alloc_new w _
  obtain ⟨b, e0⟩ : ∃ b, b = w.heap.size := ⟨_, rfl⟩
  rw [← e0] at x0
  have HS : Hid (Sn w b (2) st so dm ep W1) := Lib.hid ⟨hb1, x0⟩
  have HL := Lib.hid hL
  obtain ⟨n, hn⟩ : ∃ n, n = L.length := ⟨_, rfl⟩
  obtain ⟨m, hmm⟩ : ∃ m, m = M.length := ⟨_, rfl⟩
  rw [← hn] at hl ⊢
  have HNL := Lib.hid hn
  obtain ⟨j0, j1, j2, j3, j4, _⟩ := job_cells x0
  have HN := Lib.hid (rnear_any v A C c d L M W1 (hL.below hb1) (hM.below hb1) (by omega) (by omega))
  rw [← hn] at HN
  go_enter Tryz.func61, Tryz.ntmps61
  go_upto_region 1 with fail
  rw [← hW1, show w.heap.size = b from e0.symm]
  clear hW1 e0 hb1 x0 hn
  go_wp2_with fail
  clear j0 j1 j2 j3 j4
  refine HN.out.mono ?_
  rintro e w2 ⟨r, rfl, HR, HB2⟩
  obtain ⟨N, hN⟩ : ∃ N, N = nearL v L M := ⟨_, rfl⟩
  rw [← hN] at HR HSM
  obtain ⟨A2, c2, rfl, hat⟩ := HR.out.form
  have HS2 := Lib.hid (HS.out.step HB2.out)
  obtain ⟨nn, hnn⟩ : ∃ nn, nn = N.length := ⟨_, rfl⟩
  have hn2 : nn ≤ 2000 := by
    have := near_length v L M
    rw [hnn, hN]; have := HNL.out; omega
  rw [← hnn]
  have HNN := Lib.hid hnn; have HAT := Lib.hid hat
  clear hN hnn hat HR HB2 HN
  go_wp2_with fail
  go_loopg [13, 15] nn (fun gk v i wr => SdRel w2 (sentL x N) nn gk v i wr)
  case atStart => exact ⟨0, by omega, rfl, Lib.hid (MOwn.none_ _ _), Lib.hid (Below.refl _ _)⟩
  case round =>
    obtain ⟨q, hq, rfl, HO, HBq⟩ := hrel
    by_cases hlt : q < nn
    · obtain ⟨u, hu⟩ := at_lt N q (by rw [← HNN.out]; exact hlt)
      obtain ⟨bk, o, rfl, c0⟩ := (HAT.out.below HBq.out) q u hu
      have hm1 : (sentL x N)[q]? = some (u, x) := by unfold sentL; rw [List.getElem?_map, hu]; rfl
      have HM1 := Lib.hid (take_at hm1)
      have hlen : ((sentL x N).take q).length < 1000000000 := by simp; omega
      have HO1 := Lib.hid (HO.out.alloc (.cells #[.int .i64 u, .int .i64 x] 126))
      have HN1 := Lib.hid (msg_new wr u x)
      have HB1 := Lib.hid (HBq.out.alloc HBq.out.size (.cells #[.int .i64 u, .int .i64 x] 126))
      have HLEN := Lib.hid hlen
      clear hu hm1 hlen
      go_wp2_with (at_builtin; refine app_m rfl (.tmp 33) (.tmp 40) rfl w2.heap.size _ ((sentL x N).take q) u x rfl HO1.out _ rfl HN1.out HLEN.out HB1.out.size ?_)
      intro v3 w3 ho3 hg3
      have HB4 := Lib.hid (grown_own HB1.out HB1.out.size HO1.out hg3)
      have HO3 := Lib.hid ho3
      clear ho3 hg3
      go_wp2
      go_roundg (gk - 1)
      case measure => omega
      case rel => exact ⟨q + 1, by omega, by go_num, Lib.hid (by rw [HM1.out]; exact HO3.out), HB4⟩
    · have HE : Hid ((sentL x N).take q = sentL x N) := Lib.hid (List.take_of_length_le (by unfold sentL; rw [List.length_map, ← HNN.out]; omega))
      obtain ⟨G, rfl⟩ : ∃ G : Nat, G = gk := ⟨_, rfl⟩
      obtain ⟨wo, rfl⟩ : ∃ wo : World, wo = wr := ⟨_, rfl⟩
      have HSB := Lib.hid (HS2.out.step HBq.out)
      have HOF : Hid (MOwn wo w.heap.size u13 (sentL x N)) := Lib.hid (by have h := HO.out; rw [HE.out] at h; exact h.mono HS2.out.1.size)
      clear HE HO
      go_wp2_with fail
      go_loopg [13, 16] n (fun gk v i wr => v = u13 ∧ ∃ q : Nat, q + gk = n ∧ i = .int .i64 (q : Int) ∧ Hid (Below wo.heap.size wo wr))
      case atStart => exact ⟨rfl, 0, by omega, rfl, Lib.hid (Below.refl _ _)⟩
      case round =>
        obtain ⟨rfl, q, hq, rfl, HBq⟩ := hrel
        obtain ⟨j0, j1, j2, j3, j4, _⟩ := job_cells (HSB.out.step HBq.out).2
        by_cases hlt : q < n
        · go_wp2
          go_roundg (gk - 1)
          case measure => omega
          case rel => exact ⟨rfl, q + 1, by omega, by go_num, HBq⟩
        · go_wp2
          go_ret
          exact ⟨_, rfl, Lib.hid (by rw [HSM.out]; exact (HOF.out).below HBq.out), Lib.hid (step_below HSB.out.1 HSB.out.1.size HBq.out)⟩
theorem rsend_any (k st so dm ep v x : Int) (ch : Bool) (A C : Option Addr) (c d : Nat) (L M : List Ed) (w : World) (hL : EAt w A L) (hM : EAt w C M) (hl : L.length ≤ 1000) (hm : M.length ≤ 1000) (hx0 : -9223372036854775808 ≤ x) (hx1 : x ≤ 9223372036854775807) :
    Calls Tryz.prog 61 #[.agg #[.int .u8 k, .int .i64 st, .int .i64 so, .int .i64 dm, .int .i64 ep], .int .i64 v, .int .i64 x, .bool ch, .slice A L.length c, .slice C M.length d] w fun e w' => ∃ r, e = .returned r ∧ Hid (MOwn w' w.heap.size r (sendM k v x ch L M)) ∧ Hid (Below w.heap.size w w') := by
  by_cases h1 : k = 1
  · subst h1; exact rsend_1 st so dm ep v x ch A C c d L M w hL hM hl hm hx0 hx1
  · by_cases h2 : k = 2
    · subst h2
      cases ch
      · exact rsend_f2 st so dm ep v x A C c d L M w hL hM hl hm hx0 hx1
      · exact rsend_2 st so dm ep v x A C c d L M w hL hM hl hm hx0 hx1
    · by_cases h3 : k = 3
      · subst h3
        cases ch
        · exact rsend_f3 st so dm ep v x A C c d L M w hL hM hl hm hx0 hx1
        · exact rsend_3 st so dm ep v x A C c d L M w hL hM hl hm hx0 hx1
      · exact rsend_no k st so dm ep v x ch A C c d L M w hL hM hl hm hx0 hx1 h1 h2 h3

end Go.Proofs.YtbbmgandkmlojaaGreat.Al

/-
  What is proved here: contracts of algos.Start, Compute, Done, Check, Part, Join of the document. Conditions: numbers fit an int.
-/
namespace Go.Proofs.YtbbmgandkmlojaaGreat.Al
open Go.RowKit Gr Wd Ws Fx Rk Lb

set_option maxRecDepth 100000 in
theorem rstart_any (k st so dm ep V v : Int) (hV0 : -9223372036854775808 ≤ V) (hV1 : V ≤ 9223372036854775807) (hv0 : -9223372036854775808 ≤ v) (hv1 : v ≤ 9223372036854775807) (w : World) : Calls Tryz.prog 37 #[.agg #[.int .u8 k, .int .i64 st, .int .i64 so, .int .i64 dm, .int .i64 ep], .int .i64 V, .int .i64 v] w fun e w' => e = .returned (.tuple #[.int .i64 (sttM k V v so), .bool (sttB k v so)]) ∧ Below w.heap.size w w' := by
  have HB1 := fun (k : Int) => Lib.hid ((Below.refl _ w).alloc (Nat.le_refl _) (.cells #[.int .u8 k, .int .i64 st, .int .i64 so, .int .i64 dm, .int .i64 ep] 26))
  by_cases h1 : k = 1
  · subst h1
    obtain ⟨g, hg⟩ : ∃ g, giveI 4294967296 V = g := ⟨_, rfl⟩
    have HG := Lib.hid hg
    clear hg
    go_enter Tryz.func37, Tryz.ntmps37
    go_wp2_with fail
    refine (Rk.rstart_any V g _ HG hV0 hV1).mono ?_
    rintro e w2 ⟨rfl, rfl⟩
    go_wp2
    go_ret2
    exact ⟨ret_tb (by rw [← HG.out]; unfold sttM; simp) (by unfold sttB; simp), (HB1 1).out⟩
  have b1 : (k == 1) = false := by simp [h1]
  by_cases h2 : k = 2
  · subst h2
    have hw : IntKind.i64.wrap v = v := by rw [IntKind.wrap_i64]; omega
    go_enter Tryz.func37, Tryz.ntmps37
    go_wp2
    go_ret2
    exact ⟨ret_tb (by unfold sttM; simp) (by unfold sttB; simp), (HB1 2).out⟩
  have b2 : (k == 2) = false := by simp [h2]
  by_cases h3 : k = 3
  · subst h3
    obtain ⟨W1, hW1⟩ : ∃ W1, W1 = w.alloc (.cells #[.int .u8 3, .int .i64 st, .int .i64 so, .int .i64 dm, .int .i64 ep] 26) := ⟨_, rfl⟩
    have HB : Hid (Below w.heap.size w W1) := Lib.hid (by rw [hW1]; exact (HB1 3).out)
    have x0 : W1.heap[w.heap.size]? = some (.cells #[.int .u8 3, .int .i64 st, .int .i64 so, .int .i64 dm, .int .i64 ep] 26 (0, 0)) := by rw [hW1]; exact heap_alloc_new w _
    obtain ⟨b0, e0⟩ : ∃ b0, b0 = w.heap.size := ⟨_, rfl⟩
    rw [← e0] at x0
    obtain ⟨j0, j1, j2, j3, j4, _⟩ := jb_cells x0
    have q2 := cell_regrown j2
    have C1 := Lib.hid (regr fun W (_ : Below W1.heap.size W1 W) => ((Pa.rstart_any v so W).mono fun _ _ k => ⟨k.1, k.2 ▸ Below.refl _ _⟩ : Calls Tryz.prog 59 #[.int .i64 v, .int .i64 so] W fun e w' => e = .returned (.int .i64 (Pa.stt v so)) ∧ Below W.heap.size W w'))
    have mixed := mixedO
    clear x0 j1 j2 j3 j4
    go_enter Tryz.func37, Tryz.ntmps37
    go_upto_region 1 with fail
    rw [← hW1]
    rw [show w.heap.size = b0 from e0.symm]
    clear hW1 e0
    go_wp2_with fail
    refine wp_region_quiet_below mixed (by kernel_rfl) ?_
    repeat (go_big_quiet_step ((with_reducible exact C1.out _ _)))
    refine wpQuiet_nil ?_
    intro _ hw'
    obtain ⟨⟨dq, osq⟩, hw''⟩ := hw'
    subst hw''
    have HB2 := Lib.hid (step_below HB.out HB.out.size (below_regrown W1 dq osq))
    go_wp2
    go_ret2
    exact ⟨ret_tb (by unfold sttM; simp) (by unfold sttB; by_cases h : v = so <;> simp [h]), HB2.out⟩
  have b3 : (k == 3) = false := by simp [h3]
  go_enter Tryz.func37, Tryz.ntmps37
  go_wp2
  go_ret2
  exact ⟨ret_tb (by unfold sttM; rw [if_neg h1, if_neg h2, if_neg h3]) (by unfold sttB; rw [if_neg h1, if_neg h2, if_neg h3]), (HB1 k).out⟩
set_option maxRecDepth 100000 in
theorem rdone_any (k st so dm ep s m : Int) (w : World) : Calls Tryz.prog 43 #[.agg #[.int .u8 k, .int .i64 st, .int .i64 so, .int .i64 dm, .int .i64 ep], .int .i64 s, .int .i64 m] w fun e w' => e = .returned (.bool (donB k st ep s m)) ∧ Below w.heap.size w w' := by
  have HB1 := fun (k : Int) => Lib.hid ((Below.refl _ w).alloc (Nat.le_refl _) (.cells #[.int .u8 k, .int .i64 st, .int .i64 so, .int .i64 dm, .int .i64 ep] 26))
  by_cases h1 : k = 1
  · subst h1
    by_cases g0 : st ≤ s
    · go_enter Tryz.func43, Tryz.ntmps43
      go_wp2
      all_goals (go_ret; exact ⟨ret_b (by simp [donB, *]; try omega), (HB1 _).out⟩)
    · by_cases g1 : 1 ≤ s
      · by_cases g2 : m ≤ ep
        · go_enter Tryz.func43, Tryz.ntmps43
          go_wp2
          all_goals (go_ret; exact ⟨ret_b (by simp [donB, *]; try omega), (HB1 _).out⟩)
        · go_enter Tryz.func43, Tryz.ntmps43
          go_wp2
          all_goals (go_ret; exact ⟨ret_b (by simp [donB, *]; try omega), (HB1 _).out⟩)
      · go_enter Tryz.func43, Tryz.ntmps43
        go_wp2
        all_goals (go_ret; exact ⟨ret_b (by simp [donB, *]; try omega), (HB1 _).out⟩)
  have b1 : (k == 1) = false := by simp [h1]
  by_cases h2 : k = 2
  · subst h2
    by_cases g0 : st ≤ s
    · go_enter Tryz.func43, Tryz.ntmps43
      go_wp2
      all_goals (go_ret; exact ⟨ret_b (by simp [donB, *]; try omega), (HB1 _).out⟩)
    · by_cases g1 : 1 ≤ s
      · by_cases g2 : m ≤ 0
        · go_enter Tryz.func43, Tryz.ntmps43
          go_wp2
          all_goals (go_ret; exact ⟨ret_b (by simp [donB, *]; try omega), (HB1 _).out⟩)
        · go_enter Tryz.func43, Tryz.ntmps43
          go_wp2
          all_goals (go_ret; exact ⟨ret_b (by simp [donB, *]; try omega), (HB1 _).out⟩)
      · go_enter Tryz.func43, Tryz.ntmps43
        go_wp2
        all_goals (go_ret; exact ⟨ret_b (by simp [donB, *]; try omega), (HB1 _).out⟩)
  have b2 : (k == 2) = false := by simp [h2]
  by_cases h3 : k = 3
  · subst h3
    by_cases g0 : st ≤ s
    · go_enter Tryz.func43, Tryz.ntmps43
      go_wp2
      all_goals (go_ret; exact ⟨ret_b (by simp [donB, *]; try omega), (HB1 _).out⟩)
    · by_cases g1 : 1 ≤ s
      · by_cases g2 : m ≤ 0
        · go_enter Tryz.func43, Tryz.ntmps43
          go_wp2
          all_goals (go_ret; exact ⟨ret_b (by simp [donB, *]; try omega), (HB1 _).out⟩)
        · go_enter Tryz.func43, Tryz.ntmps43
          go_wp2
          all_goals (go_ret; exact ⟨ret_b (by simp [donB, *]; try omega), (HB1 _).out⟩)
      · go_enter Tryz.func43, Tryz.ntmps43
        go_wp2
        all_goals (go_ret; exact ⟨ret_b (by simp [donB, *]; try omega), (HB1 _).out⟩)
  have b3 : (k == 3) = false := by simp [h3]
  go_enter Tryz.func43, Tryz.ntmps43
  go_wp2
  go_ret
  exact ⟨ret_b (by unfold donB; rw [if_neg h1, if_neg (by omega)]), (HB1 k).out⟩
end Go.Proofs.YtbbmgandkmlojaaGreat.Al

/-
  What is proved here: contracts of algos.Compute, Part, Join of the document. Conditions: numbers fit an int.
-/
namespace Go.Proofs.YtbbmgandkmlojaaGreat.Al
open Go.RowKit Gr Wd Ws Fx Rk Lb

theorem rtaker_q (V d m s g : Int) (hg : Hid (takeI V d m s = g)) (hV0 : -9223372036854775808 ≤ V) (hV1 : V ≤ 9223372036854775807) (hd0 : -9223372036854775808 ≤ d) (hd1 : d ≤ 9223372036854775807) (hm0 : -9223372036854775808 ≤ m) (hm1 : m ≤ 9223372036854775807) (hs0 : -9223372036854775808 ≤ s) (hs1 : s ≤ 9223372036854775807) (w : World) : Calls Tryz.prog 94 #[.int .i64 V, .int .i64 d, .int .i64 m, .int .i64 s] w fun e w' => e = .returned (.int .i64 g) ∧ Below w.heap.size w w' :=
  (Rk.rtake_any V d m s g w hg hV0 hV1 hd0 hd1 hm0 hm1 hs0 hs1).mono fun _ _ k => ⟨k.1, k.2.out⟩
set_option maxRecDepth 100000 in
set_option maxHeartbeats 1000000 in
theorem rcompute_any (k st so dm ep V x m s : Int) (h : Bool) (hV0 : -9223372036854775808 ≤ V) (hV1 : V ≤ 9223372036854775807) (hdm0 : -9223372036854775808 ≤ dm) (hdm1 : dm ≤ 9223372036854775807) (_hm0 : -9223372036854775808 ≤ m) (hm1 : m ≤ 9223372036854775807) (hs0 : -9223372036854775808 ≤ s) (hs1 : s ≤ 9223372036854775807) (w : World) : Calls Tryz.prog 71 #[.agg #[.int .u8 k, .int .i64 st, .int .i64 so, .int .i64 dm, .int .i64 ep], .int .i64 V, .int .i64 x, .agg #[.bool h, .int .i64 m], .int .i64 s] w fun e w' => e = .returned (.tuple #[.int .i64 (cmpM k V dm x h m s), .bool (cmpB k V dm x h m s)]) ∧ Below w.heap.size w w' := by
  by_cases h1 : k = 1
  · subst h1
    cases h with
    | false =>
      obtain ⟨r, hr⟩ : ∃ r, takeI V dm (gotI false m) s = r := ⟨_, rfl⟩
      have HR := Lib.hid hr
      have HC := Lib.hid (fun W => rtaker_q V dm 0 s r (Lib.hid (by rw [← hr]; rfl)) hV0 hV1 hdm0 hdm1 (by decide) (by decide) hs0 hs1 W)
      clear hr
      obtain ⟨W1, hW1⟩ : ∃ W1, W1 = (w.alloc (.cells #[.int .u8 1, .int .i64 st, .int .i64 so, .int .i64 dm, .int .i64 ep] 26)).alloc (.cells #[.bool false, .int .i64 m] 78) := ⟨_, rfl⟩
      have hal := al2 w (.cells #[.int .u8 1, .int .i64 st, .int .i64 so, .int .i64 dm, .int .i64 ep] 26) (.cells #[.bool false, .int .i64 m] 78)
      rw [← hW1] at hal
      obtain ⟨b0, e0⟩ : ∃ b0, b0 = w.heap.size := ⟨_, rfl⟩
      obtain ⟨b1, e1⟩ : ∃ b1, b1 = w.heap.size + 1 := ⟨_, rfl⟩
      obtain ⟨x0, x1, hb⟩ := hal
      rw [← e0] at x0; rw [← e1] at x1
      have X0 := Lib.hid x0; have X1 := Lib.hid x1; have HB := Lib.hid hb
      clear x0 x1 hb
      go_enter Tryz.func71, Tryz.ntmps71
      go_upto_region 1 with fail
      rw [← hW1]
      rw [show w.heap.size + 1 = b1 from e1.symm, show w.heap.size = b0 from e0.symm]
      clear hW1 e0 e1
      obtain ⟨j0, j1, j2, j3, j4, _⟩ := jb_cells X0.out
      have m0 : W1.cell? ⟨b1, 0, none⟩ = some (.bool false) := by rw [Lib.cell_of_heap X1.out]; rfl
      have m1 : W1.cell? ⟨b1, 1, none⟩ = some (.int .i64 m) := by rw [Lib.cell_of_heap X1.out]; rfl
      go_wp2_with fail
      refine (HC.out _).mono ?_
      rintro e w3 ⟨rfl, hb3⟩
      have HB3 := Lib.hid (step_below HB.out HB.out.size hb3)
      clear hb3 m0 m1 j0 j1 j2 j3 j4
      go_wp2
      go_ret2
      exact ⟨ret_tb (by rw [← HR.out]; unfold cmpM; simp) (by unfold cmpB; rw [if_pos rfl, HR.out]; by_cases g : r = x <;> simp [g, bne]), HB3.out⟩
    | true =>
      obtain ⟨r, hr⟩ : ∃ r, takeI V dm (gotI true m) s = r := ⟨_, rfl⟩
      have HR := Lib.hid hr
      have HC := Lib.hid (fun W => rtaker_q V dm (max m 0) s r (Lib.hid (by rw [← hr]; rfl)) hV0 hV1 hdm0 hdm1 (by omega) (by omega) hs0 hs1 W)
      clear hr
      obtain ⟨W1, hW1⟩ : ∃ W1, W1 = (w.alloc (.cells #[.int .u8 1, .int .i64 st, .int .i64 so, .int .i64 dm, .int .i64 ep] 26)).alloc (.cells #[.bool true, .int .i64 m] 78) := ⟨_, rfl⟩
      have hal := al2 w (.cells #[.int .u8 1, .int .i64 st, .int .i64 so, .int .i64 dm, .int .i64 ep] 26) (.cells #[.bool true, .int .i64 m] 78)
      rw [← hW1] at hal
      obtain ⟨b0, e0⟩ : ∃ b0, b0 = w.heap.size := ⟨_, rfl⟩
      obtain ⟨b1, e1⟩ : ∃ b1, b1 = w.heap.size + 1 := ⟨_, rfl⟩
      obtain ⟨x0, x1, hb⟩ := hal
      rw [← e0] at x0; rw [← e1] at x1
      have X0 := Lib.hid x0; have X1 := Lib.hid x1; have HB := Lib.hid hb
      clear x0 x1 hb
      go_enter Tryz.func71, Tryz.ntmps71
      go_upto_region 1 with fail
      rw [← hW1]
      rw [show w.heap.size + 1 = b1 from e1.symm, show w.heap.size = b0 from e0.symm]
      clear hW1 e0 e1
      obtain ⟨j0, j1, j2, j3, j4, _⟩ := jb_cells X0.out
      have m0 : W1.cell? ⟨b1, 0, none⟩ = some (.bool true) := by rw [Lib.cell_of_heap X1.out]; rfl
      have m1 : W1.cell? ⟨b1, 1, none⟩ = some (.int .i64 m) := by rw [Lib.cell_of_heap X1.out]; rfl
      go_wp2_with fail
      refine (HC.out _).mono ?_
      rintro e w3 ⟨rfl, hb3⟩
      have HB3 := Lib.hid (step_below HB.out HB.out.size hb3)
      clear hb3 m0 m1 j0 j1 j2 j3 j4
      go_wp2
      go_ret2
      exact ⟨ret_tb (by rw [← HR.out]; unfold cmpM; simp) (by unfold cmpB; rw [if_pos rfl, HR.out]; by_cases g : r = x <;> simp [g, bne]), HB3.out⟩
  have g1 : (k == 1) = false := by simp [h1]
  by_cases h2 : k = 2
  · subst h2
    obtain ⟨W1, hW1⟩ : ∃ W1, W1 = (w.alloc (.cells #[.int .u8 2, .int .i64 st, .int .i64 so, .int .i64 dm, .int .i64 ep] 26)).alloc (.cells #[.bool h, .int .i64 m] 78) := ⟨_, rfl⟩
    have hal := al2 w (.cells #[.int .u8 2, .int .i64 st, .int .i64 so, .int .i64 dm, .int .i64 ep] 26) (.cells #[.bool h, .int .i64 m] 78)
    rw [← hW1] at hal
    obtain ⟨b0, e0⟩ : ∃ b0, b0 = w.heap.size := ⟨_, rfl⟩
    obtain ⟨b1, e1⟩ : ∃ b1, b1 = w.heap.size + 1 := ⟨_, rfl⟩
    obtain ⟨x0, x1, hb⟩ := hal
    rw [← e0] at x0; rw [← e1] at x1
    have X0 := Lib.hid x0; have X1 := Lib.hid x1; have HB := Lib.hid hb
    clear x0 x1 hb
    go_enter Tryz.func71, Tryz.ntmps71
    go_upto_region 1 with fail
    rw [← hW1]
    rw [show w.heap.size + 1 = b1 from e1.symm, show w.heap.size = b0 from e0.symm]
    clear hW1 e0 e1
    obtain ⟨j0, j1, j2, j3, j4, _⟩ := jb_cells X0.out
    have m0 : W1.cell? ⟨b1, 0, none⟩ = some (.bool h) := by rw [Lib.cell_of_heap X1.out]; rfl
    have m1 : W1.cell? ⟨b1, 1, none⟩ = some (.int .i64 m) := by rw [Lib.cell_of_heap X1.out]; rfl
    go_wp2_with fail
    refine (Lb.rtake_any x m h _).mono ?_
    rintro e w3 ⟨rfl, hb3⟩
    have HB3 := Lib.hid (step_below HB.out HB.out.size hb3)
    clear hb3 m0 m1 j0 j1 j2 j3 j4
    go_wp2
    go_ret2
    exact ⟨ret_tb (by unfold cmpM; simp) (by unfold cmpB; simp), HB3.out⟩
  have g2 : (k == 2) = false := by simp [h2]
  by_cases h3 : k = 3
  · subst h3
    obtain ⟨W1, hW1⟩ : ∃ W1, W1 = (w.alloc (.cells #[.int .u8 3, .int .i64 st, .int .i64 so, .int .i64 dm, .int .i64 ep] 26)).alloc (.cells #[.bool h, .int .i64 m] 78) := ⟨_, rfl⟩
    have hal := al2 w (.cells #[.int .u8 3, .int .i64 st, .int .i64 so, .int .i64 dm, .int .i64 ep] 26) (.cells #[.bool h, .int .i64 m] 78)
    rw [← hW1] at hal
    obtain ⟨b0, e0⟩ : ∃ b0, b0 = w.heap.size := ⟨_, rfl⟩
    obtain ⟨b1, e1⟩ : ∃ b1, b1 = w.heap.size + 1 := ⟨_, rfl⟩
    obtain ⟨x0, x1, hb⟩ := hal
    rw [← e0] at x0; rw [← e1] at x1
    have X0 := Lib.hid x0; have X1 := Lib.hid x1; have HB := Lib.hid hb
    clear x0 x1 hb
    go_enter Tryz.func71, Tryz.ntmps71
    go_upto_region 1 with fail
    rw [← hW1]
    rw [show w.heap.size + 1 = b1 from e1.symm, show w.heap.size = b0 from e0.symm]
    clear hW1 e0 e1
    obtain ⟨j0, j1, j2, j3, j4, _⟩ := jb_cells X0.out
    have m0 : W1.cell? ⟨b1, 0, none⟩ = some (.bool h) := by rw [Lib.cell_of_heap X1.out]; rfl
    have m1 : W1.cell? ⟨b1, 1, none⟩ = some (.int .i64 m) := by rw [Lib.cell_of_heap X1.out]; rfl
    go_wp2_with fail
    refine (Pa.rtake_any x m h _).mono ?_
    rintro e w3 ⟨rfl, hb3⟩
    have HB3 := Lib.hid (step_below HB.out HB.out.size hb3)
    clear hb3 m0 m1 j0 j1 j2 j3 j4
    go_wp2
    go_ret2
    exact ⟨ret_tb (by unfold cmpM; simp) (by unfold cmpB; simp), HB3.out⟩
  have g3 : (k == 3) = false := by simp [h3]
  obtain ⟨W1, hW1⟩ : ∃ W1, W1 = (w.alloc (.cells #[.int .u8 k, .int .i64 st, .int .i64 so, .int .i64 dm, .int .i64 ep] 26)).alloc (.cells #[.bool h, .int .i64 m] 78) := ⟨_, rfl⟩
  have hal := al2 w (.cells #[.int .u8 k, .int .i64 st, .int .i64 so, .int .i64 dm, .int .i64 ep] 26) (.cells #[.bool h, .int .i64 m] 78)
  rw [← hW1] at hal
  obtain ⟨b0, e0⟩ : ∃ b0, b0 = w.heap.size := ⟨_, rfl⟩
  obtain ⟨b1, e1⟩ : ∃ b1, b1 = w.heap.size + 1 := ⟨_, rfl⟩
  obtain ⟨x0, x1, hb⟩ := hal
  rw [← e0] at x0; rw [← e1] at x1
  have X0 := Lib.hid x0; have X1 := Lib.hid x1; have HB := Lib.hid hb
  clear x0 x1 hb
  go_enter Tryz.func71, Tryz.ntmps71
  go_upto_region 1 with fail
  rw [← hW1]
  rw [show w.heap.size + 1 = b1 from e1.symm, show w.heap.size = b0 from e0.symm]
  clear hW1 e0 e1
  obtain ⟨j0, j1, j2, j3, j4, _⟩ := jb_cells X0.out
  go_wp2
  go_ret2
  exact ⟨ret_tb (by unfold cmpM; rw [if_neg h1, if_neg h2, if_neg h3]) (by unfold cmpB; rw [if_neg h1, if_neg h2, if_neg h3]), HB.out⟩
theorem rapart_q (a b : Int) (w : World) (ha0 : -9223372036854775808 ≤ a) (ha1 : a ≤ 9223372036854775807) (hb0 : -9223372036854775808 ≤ b) (hb1 : b ≤ 9223372036854775807) : Calls Tryz.prog 89 #[.int .i64 a, .int .i64 b] w fun e w' => e = .returned (.int .i64 (apt a b)) ∧ w = w' := Fx.rapart_any a b w ha0 ha1 hb0 hb1
set_option maxRecDepth 100000 in
set_option maxHeartbeats 1000000 in
theorem rpart_any (k st so dm ep a v : Int) (c : Bool) (A : Option Addr) (n cc : Nat) (ha0 : -9223372036854775808 ≤ a) (ha1 : a ≤ 9223372036854775807) (hv0 : -9223372036854775808 ≤ v) (hv1 : v ≤ 9223372036854775807) (w : World) : Calls Tryz.prog 64 #[.agg #[.int .u8 k, .int .i64 st, .int .i64 so, .int .i64 dm, .int .i64 ep], .int .i64 a, .int .i64 v, .bool c, .slice A n cc] w fun e w' => e = .returned (.agg #[.int .i64 (prtS k v n), .int .i64 (prtM k a v c)]) ∧ Below w.heap.size w w' := by
  by_cases h1 : k = 1
  · subst h1
    by_cases hn : 0 < n
    · obtain ⟨W1, hW1⟩ : ∃ W1, W1 = (w.alloc (.cells #[.int .u8 1, .int .i64 st, .int .i64 so, .int .i64 dm, .int .i64 ep] 26)).alloc (.cells #[.int .i64 0, .int .i64 0] 96) := ⟨_, rfl⟩
      have hal := al2 w (.cells #[.int .u8 1, .int .i64 st, .int .i64 so, .int .i64 dm, .int .i64 ep] 26) (.cells #[.int .i64 0, .int .i64 0] 96)
      rw [← hW1] at hal
      obtain ⟨b0, e0⟩ : ∃ b0, b0 = w.heap.size := ⟨_, rfl⟩
      obtain ⟨b1, e1⟩ : ∃ b1, b1 = w.heap.size + 1 := ⟨_, rfl⟩
      obtain ⟨x0, x1, hb⟩ := hal
      rw [← e0] at x0; rw [← e1] at x1
      have X0 := Lib.hid x0; have X1 := Lib.hid x1; have HB := Lib.hid hb
      have HGE : Hid (w.heap.size ≤ b1) := Lib.hid (by omega)
      clear x0 x1 hb
      go_enter Tryz.func64, Tryz.ntmps64
      go_upto_region 1 with fail
      rw [← hW1]
      rw [show w.heap.size + 1 = b1 from e1.symm, show w.heap.size = b0 from e0.symm]
      clear hW1 e0 e1
      obtain ⟨j0, j1, j2, j3, j4, _⟩ := jb_cells X0.out
      go_wp2_with fail
      refine (rapart_q a v _ ha0 ha1 hv0 hv1).mono ?_
      rintro e w3 ⟨rfl, rfl⟩
      obtain ⟨q, hq⟩ : ∃ q, apt a v = q := ⟨_, rfl⟩
      rw [hq]
      have HQ := Lib.hid hq
      obtain ⟨W4, hW4⟩ : ∃ W4, W4 = W1.alloc (.cells #[.int .i64 0, .int .i64 q] 96) := ⟨_, rfl⟩
      have hb4 : Below W1.heap.size W1 W4 := by rw [hW4]; exact (Below.refl _ W1).alloc (Nat.le_refl _) _
      have Z4 : Hid (W4.heap[W1.heap.size]? = some (.cells #[.int .i64 0, .int .i64 q] 96 (0, 0))) := Lib.hid (by rw [hW4]; exact heap_alloc_new W1 _)
      have Y4 := Lib.hid (keep X1.out hb4); have HB4 := Lib.hid (step_below HB.out HB.out.size hb4)
      obtain ⟨b4, e4⟩ : ∃ b4, b4 = W1.heap.size := ⟨_, rfl⟩
      rw [← e4] at Z4
      have HG4 : Hid (w.heap.size ≤ b4) := Lib.hid (by rw [e4]; exact HB.out.size)
      have HNE : Hid (¬ b1 = b4) := Lib.hid (by have := lt_of_block X1.out; omega)
      go_upto_region 4 with fail
      rw [← hW4]
      rw [show W1.heap.size = b4 from e4.symm]
      clear hW4 hb4 e4 hq j0 j1 j2 j3 j4
      obtain ⟨z0, z1, zf⟩ := tot_cells Z4.out
      obtain ⟨y0, y1, yf⟩ := tot_cells Y4.out
      go_wp2_with fail
      have hp := put_tot Y4.out (0) (q)
      obtain ⟨k0, k1, _⟩ := tot_cells hp
      have hB5 : Below w.heap.size w ((W4.setCell ⟨b1, 0, none⟩ (.int .i64 (0))).setCell ⟨b1, 1, none⟩ (.int .i64 (q))) := (HB4.out.setCell (p := ⟨b1, 0, none⟩) HGE.out _).setCell (p := ⟨b1, 1, none⟩) HGE.out _
      refine bodyPost_ret (v := .agg #[.int .i64 (0), .int .i64 (q)]) (by simp [results, Tryz.results64, go_sem, k0, k1]) rfl ⟨?_, hB5⟩
      exact ret_ag (by unfold prtS; rw [if_pos rfl, if_neg (by omega)]) (by rw [← HQ.out]; unfold prtM; simp)
    · have hn0 : n = 0 := by omega
      subst hn0
      obtain ⟨W1, hW1⟩ : ∃ W1, W1 = (w.alloc (.cells #[.int .u8 1, .int .i64 st, .int .i64 so, .int .i64 dm, .int .i64 ep] 26)).alloc (.cells #[.int .i64 0, .int .i64 0] 96) := ⟨_, rfl⟩
      have hal := al2 w (.cells #[.int .u8 1, .int .i64 st, .int .i64 so, .int .i64 dm, .int .i64 ep] 26) (.cells #[.int .i64 0, .int .i64 0] 96)
      rw [← hW1] at hal
      obtain ⟨b0, e0⟩ : ∃ b0, b0 = w.heap.size := ⟨_, rfl⟩
      obtain ⟨b1, e1⟩ : ∃ b1, b1 = w.heap.size + 1 := ⟨_, rfl⟩
      obtain ⟨x0, x1, hb⟩ := hal
      rw [← e0] at x0; rw [← e1] at x1
      have X0 := Lib.hid x0; have X1 := Lib.hid x1; have HB := Lib.hid hb
      have HGE : Hid (w.heap.size ≤ b1) := Lib.hid (by omega)
      clear x0 x1 hb
      go_enter Tryz.func64, Tryz.ntmps64
      go_upto_region 1 with fail
      rw [← hW1]
      rw [show w.heap.size + 1 = b1 from e1.symm, show w.heap.size = b0 from e0.symm]
      clear hW1 e0 e1
      obtain ⟨j0, j1, j2, j3, j4, _⟩ := jb_cells X0.out
      go_wp2_with fail
      refine (rapart_q a v _ ha0 ha1 hv0 hv1).mono ?_
      rintro e w3 ⟨rfl, rfl⟩
      obtain ⟨q, hq⟩ : ∃ q, apt a v = q := ⟨_, rfl⟩
      rw [hq]
      have HQ := Lib.hid hq
      obtain ⟨W4, hW4⟩ : ∃ W4, W4 = W1.alloc (.cells #[.int .i64 0, .int .i64 q] 96) := ⟨_, rfl⟩
      have hb4 : Below W1.heap.size W1 W4 := by rw [hW4]; exact (Below.refl _ W1).alloc (Nat.le_refl _) _
      have Z4 : Hid (W4.heap[W1.heap.size]? = some (.cells #[.int .i64 0, .int .i64 q] 96 (0, 0))) := Lib.hid (by rw [hW4]; exact heap_alloc_new W1 _)
      have Y4 := Lib.hid (keep X1.out hb4); have HB4 := Lib.hid (step_below HB.out HB.out.size hb4)
      obtain ⟨b4, e4⟩ : ∃ b4, b4 = W1.heap.size := ⟨_, rfl⟩
      rw [← e4] at Z4
      have HG4 : Hid (w.heap.size ≤ b4) := Lib.hid (by rw [e4]; exact HB.out.size)
      have HNE : Hid (¬ b1 = b4) := Lib.hid (by have := lt_of_block X1.out; omega)
      go_upto_region 4 with fail
      rw [← hW4]
      rw [show W1.heap.size = b4 from e4.symm]
      clear hW4 hb4 e4 hq j0 j1 j2 j3 j4
      obtain ⟨z0, z1, zf⟩ := tot_cells Z4.out
      obtain ⟨W6, hW6⟩ : ∃ W6, W6 = W4.setCell ⟨b4, 0, none⟩ (.int .i64 (max v 0)) := ⟨_, rfl⟩
      have Z6 : Hid (W6.heap[b4]? = some (.cells #[.int .i64 (max v 0), .int .i64 q] 96 (0, 0))) := Lib.hid (by rw [hW6]; exact heap_setCell_same W4 b4 0 _ _ _ Z4.out)
      have Y6 : Hid (W6.heap[b1]? = some (.cells #[.int .i64 0, .int .i64 0] 96 (0, 0))) := Lib.hid (by rw [hW6]; exact (heap_setCell_other W4 ⟨b4, 0, none⟩ b1 _ HNE.out).trans Y4.out)
      have HBZ : Hid (Below w.heap.size w W6) := Lib.hid (by rw [hW6]; exact HB4.out.setCell (p := ⟨b4, 0, none⟩) HG4.out _)
      go_upto_region 6 with fail
      rw [← hW6]
      clear hW6 z0 z1 zf
      obtain ⟨z0, z1, zf⟩ := tot_cells Z6.out
      obtain ⟨y0, y1, yf⟩ := tot_cells Y6.out
      go_wp2_with fail
      have hp := put_tot Y6.out (max v 0) (q)
      obtain ⟨k0, k1, _⟩ := tot_cells hp
      have hB5 : Below w.heap.size w ((W6.setCell ⟨b1, 0, none⟩ (.int .i64 (max v 0))).setCell ⟨b1, 1, none⟩ (.int .i64 (q))) := (HBZ.out.setCell (p := ⟨b1, 0, none⟩) HGE.out _).setCell (p := ⟨b1, 1, none⟩) HGE.out _
      refine bodyPost_ret (v := .agg #[.int .i64 (max v 0), .int .i64 (q)]) (by simp [results, Tryz.results64, go_sem, k0, k1]) rfl ⟨?_, hB5⟩
      exact ret_ag (by unfold prtS; simp) (by rw [← HQ.out]; unfold prtM; simp)
  have g1 : (k == 1) = false := by simp [h1]
  by_cases h2 : k = 2
  · subst h2
    cases c with
    | false =>
      obtain ⟨W1, hW1⟩ : ∃ W1, W1 = (w.alloc (.cells #[.int .u8 2, .int .i64 st, .int .i64 so, .int .i64 dm, .int .i64 ep] 26)).alloc (.cells #[.int .i64 0, .int .i64 0] 96) := ⟨_, rfl⟩
      have hal := al2 w (.cells #[.int .u8 2, .int .i64 st, .int .i64 so, .int .i64 dm, .int .i64 ep] 26) (.cells #[.int .i64 0, .int .i64 0] 96)
      rw [← hW1] at hal
      obtain ⟨b0, e0⟩ : ∃ b0, b0 = w.heap.size := ⟨_, rfl⟩
      obtain ⟨b1, e1⟩ : ∃ b1, b1 = w.heap.size + 1 := ⟨_, rfl⟩
      obtain ⟨x0, x1, hb⟩ := hal
      rw [← e0] at x0; rw [← e1] at x1
      have X0 := Lib.hid x0; have X1 := Lib.hid x1; have HB := Lib.hid hb
      have HGE : Hid (w.heap.size ≤ b1) := Lib.hid (by omega)
      clear x0 x1 hb
      go_enter Tryz.func64, Tryz.ntmps64
      go_upto_region 1 with fail
      rw [← hW1]
      rw [show w.heap.size + 1 = b1 from e1.symm, show w.heap.size = b0 from e0.symm]
      clear hW1 e0 e1
      obtain ⟨j0, j1, j2, j3, j4, _⟩ := jb_cells X0.out
      obtain ⟨y0, y1, yf⟩ := tot_cells X1.out
      go_wp2_with fail
      have hp := put_tot X1.out (0) (0)
      obtain ⟨k0, k1, _⟩ := tot_cells hp
      have hB5 : Below w.heap.size w ((W1.setCell ⟨b1, 0, none⟩ (.int .i64 (0))).setCell ⟨b1, 1, none⟩ (.int .i64 (0))) := (HB.out.setCell (p := ⟨b1, 0, none⟩) HGE.out _).setCell (p := ⟨b1, 1, none⟩) HGE.out _
      refine bodyPost_ret (v := .agg #[.int .i64 (0), .int .i64 (0)]) (by simp [results, Tryz.results64, go_sem, k0, k1]) rfl ⟨?_, hB5⟩
      exact ret_ag (by unfold prtS; simp) (by unfold prtM; simp)
    | true =>
      obtain ⟨W1, hW1⟩ : ∃ W1, W1 = (w.alloc (.cells #[.int .u8 2, .int .i64 st, .int .i64 so, .int .i64 dm, .int .i64 ep] 26)).alloc (.cells #[.int .i64 0, .int .i64 0] 96) := ⟨_, rfl⟩
      have hal := al2 w (.cells #[.int .u8 2, .int .i64 st, .int .i64 so, .int .i64 dm, .int .i64 ep] 26) (.cells #[.int .i64 0, .int .i64 0] 96)
      rw [← hW1] at hal
      obtain ⟨b0, e0⟩ : ∃ b0, b0 = w.heap.size := ⟨_, rfl⟩
      obtain ⟨b1, e1⟩ : ∃ b1, b1 = w.heap.size + 1 := ⟨_, rfl⟩
      obtain ⟨x0, x1, hb⟩ := hal
      rw [← e0] at x0; rw [← e1] at x1
      have X0 := Lib.hid x0; have X1 := Lib.hid x1; have HB := Lib.hid hb
      have HGE : Hid (w.heap.size ≤ b1) := Lib.hid (by omega)
      clear x0 x1 hb
      go_enter Tryz.func64, Tryz.ntmps64
      go_upto_region 1 with fail
      rw [← hW1]
      rw [show w.heap.size + 1 = b1 from e1.symm, show w.heap.size = b0 from e0.symm]
      clear hW1 e0 e1
      obtain ⟨j0, j1, j2, j3, j4, _⟩ := jb_cells X0.out
      obtain ⟨y0, y1, yf⟩ := tot_cells X1.out
      go_wp2_with fail
      have hp := put_tot X1.out (0) (1)
      obtain ⟨k0, k1, _⟩ := tot_cells hp
      have hB5 : Below w.heap.size w ((W1.setCell ⟨b1, 0, none⟩ (.int .i64 (0))).setCell ⟨b1, 1, none⟩ (.int .i64 (1))) := (HB.out.setCell (p := ⟨b1, 0, none⟩) HGE.out _).setCell (p := ⟨b1, 1, none⟩) HGE.out _
      refine bodyPost_ret (v := .agg #[.int .i64 (0), .int .i64 (1)]) (by simp [results, Tryz.results64, go_sem, k0, k1]) rfl ⟨?_, hB5⟩
      exact ret_ag (by unfold prtS; simp) (by unfold prtM; simp)
  have g2 : (k == 2) = false := by simp [h2]
  by_cases h3 : k = 3
  · subst h3
    cases c with
    | false =>
      obtain ⟨W1, hW1⟩ : ∃ W1, W1 = (w.alloc (.cells #[.int .u8 3, .int .i64 st, .int .i64 so, .int .i64 dm, .int .i64 ep] 26)).alloc (.cells #[.int .i64 0, .int .i64 0] 96) := ⟨_, rfl⟩
      have hal := al2 w (.cells #[.int .u8 3, .int .i64 st, .int .i64 so, .int .i64 dm, .int .i64 ep] 26) (.cells #[.int .i64 0, .int .i64 0] 96)
      rw [← hW1] at hal
      obtain ⟨b0, e0⟩ : ∃ b0, b0 = w.heap.size := ⟨_, rfl⟩
      obtain ⟨b1, e1⟩ : ∃ b1, b1 = w.heap.size + 1 := ⟨_, rfl⟩
      obtain ⟨x0, x1, hb⟩ := hal
      rw [← e0] at x0; rw [← e1] at x1
      have X0 := Lib.hid x0; have X1 := Lib.hid x1; have HB := Lib.hid hb
      have HGE : Hid (w.heap.size ≤ b1) := Lib.hid (by omega)
      clear x0 x1 hb
      go_enter Tryz.func64, Tryz.ntmps64
      go_upto_region 1 with fail
      rw [← hW1]
      rw [show w.heap.size + 1 = b1 from e1.symm, show w.heap.size = b0 from e0.symm]
      clear hW1 e0 e1
      obtain ⟨j0, j1, j2, j3, j4, _⟩ := jb_cells X0.out
      obtain ⟨y0, y1, yf⟩ := tot_cells X1.out
      go_wp2_with fail
      have hp := put_tot X1.out (0) (0)
      obtain ⟨k0, k1, _⟩ := tot_cells hp
      have hB5 : Below w.heap.size w ((W1.setCell ⟨b1, 0, none⟩ (.int .i64 (0))).setCell ⟨b1, 1, none⟩ (.int .i64 (0))) := (HB.out.setCell (p := ⟨b1, 0, none⟩) HGE.out _).setCell (p := ⟨b1, 1, none⟩) HGE.out _
      refine bodyPost_ret (v := .agg #[.int .i64 (0), .int .i64 (0)]) (by simp [results, Tryz.results64, go_sem, k0, k1]) rfl ⟨?_, hB5⟩
      exact ret_ag (by unfold prtS; simp) (by unfold prtM; simp)
    | true =>
      obtain ⟨W1, hW1⟩ : ∃ W1, W1 = (w.alloc (.cells #[.int .u8 3, .int .i64 st, .int .i64 so, .int .i64 dm, .int .i64 ep] 26)).alloc (.cells #[.int .i64 0, .int .i64 0] 96) := ⟨_, rfl⟩
      have hal := al2 w (.cells #[.int .u8 3, .int .i64 st, .int .i64 so, .int .i64 dm, .int .i64 ep] 26) (.cells #[.int .i64 0, .int .i64 0] 96)
      rw [← hW1] at hal
      obtain ⟨b0, e0⟩ : ∃ b0, b0 = w.heap.size := ⟨_, rfl⟩
      obtain ⟨b1, e1⟩ : ∃ b1, b1 = w.heap.size + 1 := ⟨_, rfl⟩
      obtain ⟨x0, x1, hb⟩ := hal
      rw [← e0] at x0; rw [← e1] at x1
      have X0 := Lib.hid x0; have X1 := Lib.hid x1; have HB := Lib.hid hb
      have HGE : Hid (w.heap.size ≤ b1) := Lib.hid (by omega)
      clear x0 x1 hb
      go_enter Tryz.func64, Tryz.ntmps64
      go_upto_region 1 with fail
      rw [← hW1]
      rw [show w.heap.size + 1 = b1 from e1.symm, show w.heap.size = b0 from e0.symm]
      clear hW1 e0 e1
      obtain ⟨j0, j1, j2, j3, j4, _⟩ := jb_cells X0.out
      obtain ⟨y0, y1, yf⟩ := tot_cells X1.out
      go_wp2_with fail
      have hp := put_tot X1.out (0) (1)
      obtain ⟨k0, k1, _⟩ := tot_cells hp
      have hB5 : Below w.heap.size w ((W1.setCell ⟨b1, 0, none⟩ (.int .i64 (0))).setCell ⟨b1, 1, none⟩ (.int .i64 (1))) := (HB.out.setCell (p := ⟨b1, 0, none⟩) HGE.out _).setCell (p := ⟨b1, 1, none⟩) HGE.out _
      refine bodyPost_ret (v := .agg #[.int .i64 (0), .int .i64 (1)]) (by simp [results, Tryz.results64, go_sem, k0, k1]) rfl ⟨?_, hB5⟩
      exact ret_ag (by unfold prtS; simp) (by unfold prtM; simp)
  have g3 : (k == 3) = false := by simp [h3]
  obtain ⟨W1, hW1⟩ : ∃ W1, W1 = (w.alloc (.cells #[.int .u8 k, .int .i64 st, .int .i64 so, .int .i64 dm, .int .i64 ep] 26)).alloc (.cells #[.int .i64 0, .int .i64 0] 96) := ⟨_, rfl⟩
  have hal := al2 w (.cells #[.int .u8 k, .int .i64 st, .int .i64 so, .int .i64 dm, .int .i64 ep] 26) (.cells #[.int .i64 0, .int .i64 0] 96)
  rw [← hW1] at hal
  obtain ⟨b0, e0⟩ : ∃ b0, b0 = w.heap.size := ⟨_, rfl⟩
  obtain ⟨b1, e1⟩ : ∃ b1, b1 = w.heap.size + 1 := ⟨_, rfl⟩
  obtain ⟨x0, x1, hb⟩ := hal
  rw [← e0] at x0; rw [← e1] at x1
  have X0 := Lib.hid x0; have X1 := Lib.hid x1; have HB := Lib.hid hb
  have HGE : Hid (w.heap.size ≤ b1) := Lib.hid (by omega)
  clear x0 x1 hb
  go_enter Tryz.func64, Tryz.ntmps64
  go_upto_region 1 with fail
  rw [← hW1]
  rw [show w.heap.size + 1 = b1 from e1.symm, show w.heap.size = b0 from e0.symm]
  clear hW1 e0 e1
  obtain ⟨j0, j1, j2, j3, j4, _⟩ := jb_cells X0.out
  obtain ⟨y0, y1, yf⟩ := tot_cells X1.out
  go_wp2_with fail
  have hp := put_tot X1.out (0) (0)
  obtain ⟨k0, k1, _⟩ := tot_cells hp
  have hB5 : Below w.heap.size w ((W1.setCell ⟨b1, 0, none⟩ (.int .i64 (0))).setCell ⟨b1, 1, none⟩ (.int .i64 (0))) := (HB.out.setCell (p := ⟨b1, 0, none⟩) HGE.out _).setCell (p := ⟨b1, 1, none⟩) HGE.out _
  refine bodyPost_ret (v := .agg #[.int .i64 (0), .int .i64 (0)]) (by simp [results, Tryz.results64, go_sem, k0, k1]) rfl ⟨?_, hB5⟩
  exact ret_ag (by unfold prtS; rw [if_neg h1]) (by unfold prtM; rw [if_neg h1, if_neg (by omega)])
end Go.Proofs.YtbbmgandkmlojaaGreat.Al

/-
  What is proved here: contracts of algos.Join, Check of the document, and plain. Conditions: numbers fit an int.
-/
namespace Go.Proofs.YtbbmgandkmlojaaGreat.Al
open Go.RowKit Gr Wd Ws Fx Rk Lb

set_option maxRecDepth 100000 in
set_option maxHeartbeats 2000000 in
theorem rjoin_any (k st so dm ep a b c d : Int) (w : World) : Calls Tryz.prog 63 #[.agg #[.int .u8 k, .int .i64 st, .int .i64 so, .int .i64 dm, .int .i64 ep], .agg #[.int .i64 a, .int .i64 b], .agg #[.int .i64 c, .int .i64 d]] w fun e w' => e = .returned (.agg #[.int .i64 (jonS k a c), .int .i64 (jonM k b d)]) ∧ Below w.heap.size w w' := by
  have mixed := mixedO
  by_cases h1 : k = 1
  · subst h1
    obtain ⟨W1, hW1⟩ : ∃ W1, W1 = (((w.alloc (.cells #[.int .u8 1, .int .i64 st, .int .i64 so, .int .i64 dm, .int .i64 ep] 26)).alloc (.cells #[.int .i64 a, .int .i64 b] 96)).alloc (.cells #[.int .i64 c, .int .i64 d] 96)).alloc (.cells #[.int .i64 0, .int .i64 0] 96) := ⟨_, rfl⟩
    have hal := al4 w (.cells #[.int .u8 1, .int .i64 st, .int .i64 so, .int .i64 dm, .int .i64 ep] 26) (.cells #[.int .i64 a, .int .i64 b] 96) (.cells #[.int .i64 c, .int .i64 d] 96) (.cells #[.int .i64 0, .int .i64 0] 96)
    rw [← hW1] at hal
    obtain ⟨b0, e0⟩ : ∃ b0, b0 = w.heap.size := ⟨_, rfl⟩
    obtain ⟨b2, e2⟩ : ∃ b2, b2 = w.heap.size + 1 := ⟨_, rfl⟩
    obtain ⟨b3, e3⟩ : ∃ b3, b3 = w.heap.size + 2 := ⟨_, rfl⟩
    obtain ⟨b1, e1⟩ : ∃ b1, b1 = w.heap.size + 3 := ⟨_, rfl⟩
    obtain ⟨x0, x2, x3, x1, hb⟩ := hal
    rw [← e0] at x0; rw [← e1] at x1; rw [← e2] at x2; rw [← e3] at x3
    have X1 := Lib.hid x1; have HB := Lib.hid hb
    have HGE : Hid (w.heap.size ≤ b1) := Lib.hid (by omega)
    obtain ⟨j0, _, _, _, _, _⟩ := jb_cells x0
    obtain ⟨y0, y1, _⟩ := tot_cells x2
    obtain ⟨z0, z1, _⟩ := tot_cells x3
    clear x0 x1 x2 x3 hb
    go_enter Tryz.func63, Tryz.ntmps63
    go_upto_region 1 with fail
    rw [← hW1]
    rw [show w.heap.size + 3 = b1 from e1.symm, show w.heap.size + 2 = b3 from e3.symm, show w.heap.size + 1 = b2 from e2.symm, show w.heap.size = b0 from e0.symm]
    clear hW1 e0 e1 e2 e3
    go_wp2_with fail
    have fy0 := cell_regrown y0; have fy1 := cell_regrown y1; have fz0 := cell_regrown z0; have fz1 := cell_regrown z1
    have C1 := Lib.hid (regr fun W (_ : Below W1.heap.size W1 W) => raddq a c W)
    clear y0 y1 z0 z1 j0
    refine Tl.region_tail_below 11 mixed (by kernel_rfl) ?_
    simp only [List.take_succ_cons, List.take_zero, List.drop_succ_cons, List.drop_zero]
    repeat (go_big_quiet_step ((with_reducible exact C1.out _ _)))
    refine wpQuiet_nil ?_
    intro _ hw'
    obtain ⟨⟨dq, osq⟩, hw''⟩ := hw'
    subst hw''
    obtain ⟨W4, hW4⟩ : ∃ W4, W4 = Sort.grow (redrawn W1 dq) osq := ⟨_, rfl⟩
    have hb4 : Below W1.heap.size W1 W4 := by rw [hW4]; exact below_regrown W1 dq osq
    rw [← hW4]
    have Z3 := Lib.hid (keep X1.out hb4)
    have HB4 := Lib.hid (step_below HB.out HB.out.size hb4)
    clear hW4 hb4 fy0 fy1 fz0 fz1 C1
    obtain ⟨u0, u1, u2⟩ := tot_cells Z3.out
    go_wp2_with fail
    have hp := put_tot Z3.out (addI a c) (max b d)
    obtain ⟨k0, k1, _⟩ := tot_cells hp
    have hB5 : Below w.heap.size w ((W4.setCell ⟨b1, 0, none⟩ (.int .i64 (addI a c))).setCell ⟨b1, 1, none⟩ (.int .i64 (max b d))) := (HB4.out.setCell (p := ⟨b1, 0, none⟩) HGE.out _).setCell (p := ⟨b1, 1, none⟩) HGE.out _
    refine bodyPost_ret (v := .agg #[.int .i64 (addI a c), .int .i64 (max b d)]) (by simp [results, Tryz.results63, go_sem, k0, k1]) rfl ⟨?_, hB5⟩
    exact ret_ag (by unfold jonS; simp) (by unfold jonM; simp)
  have g1 : (k == 1) = false := by simp [h1]
  by_cases h2 : k = 2
  · subst h2
    obtain ⟨W1, hW1⟩ : ∃ W1, W1 = (((w.alloc (.cells #[.int .u8 2, .int .i64 st, .int .i64 so, .int .i64 dm, .int .i64 ep] 26)).alloc (.cells #[.int .i64 a, .int .i64 b] 96)).alloc (.cells #[.int .i64 c, .int .i64 d] 96)).alloc (.cells #[.int .i64 0, .int .i64 0] 96) := ⟨_, rfl⟩
    have hal := al4 w (.cells #[.int .u8 2, .int .i64 st, .int .i64 so, .int .i64 dm, .int .i64 ep] 26) (.cells #[.int .i64 a, .int .i64 b] 96) (.cells #[.int .i64 c, .int .i64 d] 96) (.cells #[.int .i64 0, .int .i64 0] 96)
    rw [← hW1] at hal
    obtain ⟨b0, e0⟩ : ∃ b0, b0 = w.heap.size := ⟨_, rfl⟩
    obtain ⟨b2, e2⟩ : ∃ b2, b2 = w.heap.size + 1 := ⟨_, rfl⟩
    obtain ⟨b3, e3⟩ : ∃ b3, b3 = w.heap.size + 2 := ⟨_, rfl⟩
    obtain ⟨b1, e1⟩ : ∃ b1, b1 = w.heap.size + 3 := ⟨_, rfl⟩
    obtain ⟨x0, x2, x3, x1, hb⟩ := hal
    rw [← e0] at x0; rw [← e1] at x1; rw [← e2] at x2; rw [← e3] at x3
    have X1 := Lib.hid x1; have HB := Lib.hid hb
    have HGE : Hid (w.heap.size ≤ b1) := Lib.hid (by omega)
    obtain ⟨j0, _, _, _, _, _⟩ := jb_cells x0
    obtain ⟨y0, y1, _⟩ := tot_cells x2
    obtain ⟨z0, z1, _⟩ := tot_cells x3
    clear x0 x1 x2 x3 hb
    go_enter Tryz.func63, Tryz.ntmps63
    go_upto_region 1 with fail
    rw [← hW1]
    rw [show w.heap.size + 3 = b1 from e1.symm, show w.heap.size + 2 = b3 from e3.symm, show w.heap.size + 1 = b2 from e2.symm, show w.heap.size = b0 from e0.symm]
    clear hW1 e0 e1 e2 e3
    go_wp2_with fail
    have fy0 := cell_regrown y0; have fy1 := cell_regrown y1; have fz0 := cell_regrown z0; have fz1 := cell_regrown z1
    have C1 := Lib.hid (regr fun W (_ : Below W1.heap.size W1 W) => raddq a c W)
    have C2 := Lib.hid (regr fun W (_ : Below W1.heap.size W1 W) => raddq b d W)
    clear y0 y1 z0 z1 j0
    refine Tl.region_tail_below 11 mixed (by kernel_rfl) ?_
    simp only [List.take_succ_cons, List.take_zero, List.drop_succ_cons, List.drop_zero]
    repeat (go_big_quiet_step ((with_reducible first | exact C1.out _ _ | exact C2.out _ _)))
    refine wpQuiet_nil ?_
    intro _ hw'
    obtain ⟨⟨dq, osq⟩, hw''⟩ := hw'
    subst hw''
    obtain ⟨W4, hW4⟩ : ∃ W4, W4 = Sort.grow (redrawn W1 dq) osq := ⟨_, rfl⟩
    have hb4 : Below W1.heap.size W1 W4 := by rw [hW4]; exact below_regrown W1 dq osq
    rw [← hW4]
    have Z3 := Lib.hid (keep X1.out hb4)
    have HB4 := Lib.hid (step_below HB.out HB.out.size hb4)
    clear hW4 hb4 fy0 fy1 fz0 fz1 C1 C2
    obtain ⟨u0, u1, u2⟩ := tot_cells Z3.out
    go_wp2_with fail
    have hp := put_tot Z3.out (addI a c) (addI b d)
    obtain ⟨k0, k1, _⟩ := tot_cells hp
    have hB5 : Below w.heap.size w ((W4.setCell ⟨b1, 0, none⟩ (.int .i64 (addI a c))).setCell ⟨b1, 1, none⟩ (.int .i64 (addI b d))) := (HB4.out.setCell (p := ⟨b1, 0, none⟩) HGE.out _).setCell (p := ⟨b1, 1, none⟩) HGE.out _
    refine bodyPost_ret (v := .agg #[.int .i64 (addI a c), .int .i64 (addI b d)]) (by simp [results, Tryz.results63, go_sem, k0, k1]) rfl ⟨?_, hB5⟩
    exact ret_ag (by unfold jonS; simp) (by unfold jonM; simp)
  have g2 : (k == 2) = false := by simp [h2]
  by_cases h3 : k = 3
  · subst h3
    obtain ⟨W1, hW1⟩ : ∃ W1, W1 = (((w.alloc (.cells #[.int .u8 3, .int .i64 st, .int .i64 so, .int .i64 dm, .int .i64 ep] 26)).alloc (.cells #[.int .i64 a, .int .i64 b] 96)).alloc (.cells #[.int .i64 c, .int .i64 d] 96)).alloc (.cells #[.int .i64 0, .int .i64 0] 96) := ⟨_, rfl⟩
    have hal := al4 w (.cells #[.int .u8 3, .int .i64 st, .int .i64 so, .int .i64 dm, .int .i64 ep] 26) (.cells #[.int .i64 a, .int .i64 b] 96) (.cells #[.int .i64 c, .int .i64 d] 96) (.cells #[.int .i64 0, .int .i64 0] 96)
    rw [← hW1] at hal
    obtain ⟨b0, e0⟩ : ∃ b0, b0 = w.heap.size := ⟨_, rfl⟩
    obtain ⟨b2, e2⟩ : ∃ b2, b2 = w.heap.size + 1 := ⟨_, rfl⟩
    obtain ⟨b3, e3⟩ : ∃ b3, b3 = w.heap.size + 2 := ⟨_, rfl⟩
    obtain ⟨b1, e1⟩ : ∃ b1, b1 = w.heap.size + 3 := ⟨_, rfl⟩
    obtain ⟨x0, x2, x3, x1, hb⟩ := hal
    rw [← e0] at x0; rw [← e1] at x1; rw [← e2] at x2; rw [← e3] at x3
    have X1 := Lib.hid x1; have HB := Lib.hid hb
    have HGE : Hid (w.heap.size ≤ b1) := Lib.hid (by omega)
    obtain ⟨j0, _, _, _, _, _⟩ := jb_cells x0
    obtain ⟨y0, y1, _⟩ := tot_cells x2
    obtain ⟨z0, z1, _⟩ := tot_cells x3
    clear x0 x1 x2 x3 hb
    go_enter Tryz.func63, Tryz.ntmps63
    go_upto_region 1 with fail
    rw [← hW1]
    rw [show w.heap.size + 3 = b1 from e1.symm, show w.heap.size + 2 = b3 from e3.symm, show w.heap.size + 1 = b2 from e2.symm, show w.heap.size = b0 from e0.symm]
    clear hW1 e0 e1 e2 e3
    go_wp2_with fail
    have fy0 := cell_regrown y0; have fy1 := cell_regrown y1; have fz0 := cell_regrown z0; have fz1 := cell_regrown z1
    have C1 := Lib.hid (regr fun W (_ : Below W1.heap.size W1 W) => raddq a c W)
    have C2 := Lib.hid (regr fun W (_ : Below W1.heap.size W1 W) => raddq b d W)
    clear y0 y1 z0 z1 j0
    refine Tl.region_tail_below 11 mixed (by kernel_rfl) ?_
    simp only [List.take_succ_cons, List.take_zero, List.drop_succ_cons, List.drop_zero]
    repeat (go_big_quiet_step ((with_reducible first | exact C1.out _ _ | exact C2.out _ _)))
    refine wpQuiet_nil ?_
    intro _ hw'
    obtain ⟨⟨dq, osq⟩, hw''⟩ := hw'
    subst hw''
    obtain ⟨W4, hW4⟩ : ∃ W4, W4 = Sort.grow (redrawn W1 dq) osq := ⟨_, rfl⟩
    have hb4 : Below W1.heap.size W1 W4 := by rw [hW4]; exact below_regrown W1 dq osq
    rw [← hW4]
    have Z3 := Lib.hid (keep X1.out hb4)
    have HB4 := Lib.hid (step_below HB.out HB.out.size hb4)
    clear hW4 hb4 fy0 fy1 fz0 fz1 C1 C2
    obtain ⟨u0, u1, u2⟩ := tot_cells Z3.out
    go_wp2_with fail
    have hp := put_tot Z3.out (addI a c) (addI b d)
    obtain ⟨k0, k1, _⟩ := tot_cells hp
    have hB5 : Below w.heap.size w ((W4.setCell ⟨b1, 0, none⟩ (.int .i64 (addI a c))).setCell ⟨b1, 1, none⟩ (.int .i64 (addI b d))) := (HB4.out.setCell (p := ⟨b1, 0, none⟩) HGE.out _).setCell (p := ⟨b1, 1, none⟩) HGE.out _
    refine bodyPost_ret (v := .agg #[.int .i64 (addI a c), .int .i64 (addI b d)]) (by simp [results, Tryz.results63, go_sem, k0, k1]) rfl ⟨?_, hB5⟩
    exact ret_ag (by unfold jonS; simp) (by unfold jonM; simp)
  have g3 : (k == 3) = false := by simp [h3]
  obtain ⟨W1, hW1⟩ : ∃ W1, W1 = (((w.alloc (.cells #[.int .u8 k, .int .i64 st, .int .i64 so, .int .i64 dm, .int .i64 ep] 26)).alloc (.cells #[.int .i64 a, .int .i64 b] 96)).alloc (.cells #[.int .i64 c, .int .i64 d] 96)).alloc (.cells #[.int .i64 0, .int .i64 0] 96) := ⟨_, rfl⟩
  have hal := al4 w (.cells #[.int .u8 k, .int .i64 st, .int .i64 so, .int .i64 dm, .int .i64 ep] 26) (.cells #[.int .i64 a, .int .i64 b] 96) (.cells #[.int .i64 c, .int .i64 d] 96) (.cells #[.int .i64 0, .int .i64 0] 96)
  rw [← hW1] at hal
  obtain ⟨b0, e0⟩ : ∃ b0, b0 = w.heap.size := ⟨_, rfl⟩
  obtain ⟨b2, e2⟩ : ∃ b2, b2 = w.heap.size + 1 := ⟨_, rfl⟩
  obtain ⟨b3, e3⟩ : ∃ b3, b3 = w.heap.size + 2 := ⟨_, rfl⟩
  obtain ⟨b1, e1⟩ : ∃ b1, b1 = w.heap.size + 3 := ⟨_, rfl⟩
  obtain ⟨x0, x2, x3, x1, hb⟩ := hal
  rw [← e0] at x0; rw [← e1] at x1; rw [← e2] at x2; rw [← e3] at x3
  have X1 := Lib.hid x1; have HB := Lib.hid hb
  have HGE : Hid (w.heap.size ≤ b1) := Lib.hid (by omega)
  obtain ⟨j0, _, _, _, _, _⟩ := jb_cells x0
  obtain ⟨y0, y1, _⟩ := tot_cells x2
  obtain ⟨z0, z1, _⟩ := tot_cells x3
  clear x0 x1 x2 x3 hb
  go_enter Tryz.func63, Tryz.ntmps63
  go_upto_region 1 with fail
  rw [← hW1]
  rw [show w.heap.size + 3 = b1 from e1.symm, show w.heap.size + 2 = b3 from e3.symm, show w.heap.size + 1 = b2 from e2.symm, show w.heap.size = b0 from e0.symm]
  clear hW1 e0 e1 e2 e3
  obtain ⟨u0, u1, u2⟩ := tot_cells X1.out
  go_wp2_with fail
  have hp := put_tot X1.out (0) (0)
  obtain ⟨k0, k1, _⟩ := tot_cells hp
  have hB5 : Below w.heap.size w ((W1.setCell ⟨b1, 0, none⟩ (.int .i64 (0))).setCell ⟨b1, 1, none⟩ (.int .i64 (0))) := (HB.out.setCell (p := ⟨b1, 0, none⟩) HGE.out _).setCell (p := ⟨b1, 1, none⟩) HGE.out _
  refine bodyPost_ret (v := .agg #[.int .i64 (0), .int .i64 (0)]) (by simp [results, Tryz.results63, go_sem, k0, k1]) rfl ⟨?_, hB5⟩
  exact ret_ag (by unfold jonS; rw [if_neg (by omega)]) (by unfold jonM; rw [if_neg h1, if_neg (by omega)])
theorem eq_t (a0 a1 b0 b1 : Int) (r : Bool) (hr : Hid ((decide (a0 = b0) && decide (a1 = b1)) = r)) (w : World) :
    Sem.run Tryz.prog (binOp .eql 120 (.agg #[.int .i64 a0, .int .i64 a1]) (.agg #[.int .i64 b0, .int .i64 b1])) w = .ok (.bool r) w := by
  have u3 := Tryz.underlying2
  have a3 := Tryz.isAgg2
  have z3 := Tryz.sizeOf2
  have hS : Tryz.prog.underlying 120 = some (.struct (Tryz.prog.fieldsOf 120)) := by kernel_rfl
  have hp : Tryz.prog.stoodInHeld 120 = false := by kernel_rfl
  rw [run_eql_struct, show (10000 : Nat) = 9999 + 1 from rfl, run_equalIn_agg w 9999 120 _ _ hS hp]
  simp only [Program.fieldsOf, Tryz.underlying120]
  go_simp
  have hr' := hr.out
  by_cases h1 : a0 = b0 <;> by_cases h2 : a1 = b1 <;> subst hr' <;> simp [h1, h2]
theorem eq_r (a0 a1 b0 b1 : Int) (r : Bool) (hr : Hid ((decide (a0 = b0) && decide (a1 = b1)) = r)) (w : World) :
    Sem.run Tryz.prog (binOp .eql 96 (.agg #[.int .i64 a0, .int .i64 a1]) (.agg #[.int .i64 b0, .int .i64 b1])) w = .ok (.bool r) w := by
  have u3 := Tryz.underlying2
  have a3 := Tryz.isAgg2
  have z3 := Tryz.sizeOf2
  have hS : Tryz.prog.underlying 96 = some (.struct (Tryz.prog.fieldsOf 96)) := by kernel_rfl
  have hp : Tryz.prog.stoodInHeld 96 = false := by kernel_rfl
  rw [run_eql_struct, show (10000 : Nat) = 9999 + 1 from rfl, run_equalIn_agg w 9999 96 _ _ hS hp]
  simp only [Program.fieldsOf, Tryz.underlying96]
  go_simp
  have hr' := hr.out
  by_cases h1 : a0 = b0 <;> by_cases h2 : a1 = b1 <;> subst hr' <;> simp [h1, h2]
end Go.Proofs.YtbbmgandkmlojaaGreat.Al

/-
  What is proved here: contracts of algos.Check of the document. Conditions: numbers fit an int.
-/
namespace Go.Proofs.YtbbmgandkmlojaaGreat.Al
open Go.RowKit Gr Wd Ws Fx Rk Lb

set_option maxRecDepth 100000 in
set_option maxHeartbeats 4000000 in
theorem rchk_1 (st so dm ep V : Int) (A : Option Addr) (c : Nat) (L : List Ed) (w : World) (hL : EAt w A L) (hm : L.length ≤ 9223372036854775807) (hgz : chk V L = 0) :
    Calls Tryz.prog 36 #[.agg #[.int .i64 V, .slice A L.length c], .agg #[.int .u8 1, .int .i64 st, .int .i64 so, .int .i64 dm, .int .i64 ep]] w fun e w' => e = .returned (.int .i64 (chkJ 1 st so dm ep V L)) ∧ Below w.heap.size w w' := by
  by_cases s0 : 0 ≤ st
  · skip
    by_cases s1 : st ≤ 2000
    · skip
      by_cases s2 : 0 ≤ dm
      · skip
        by_cases s3 : dm ≤ 4294967296
        · skip
          by_cases s4 : 0 ≤ ep
          · skip
            by_cases s5 : ep ≤ 4294967296
            · skip
              by_cases s6 : so = 0
              · have S6 := Lib.hid s6
                clear s6
                obtain ⟨W1, hW1⟩ : ∃ W1, W1 = (w.alloc (.cells #[.int .i64 V, .slice A L.length c] 24)).alloc (.cells #[.int .u8 1, .int .i64 st, .int .i64 so, .int .i64 dm, .int .i64 ep] 26) := ⟨_, rfl⟩
                have hal := al2 w (.cells #[.int .i64 V, .slice A L.length c] 24) (.cells #[.int .u8 1, .int .i64 st, .int .i64 so, .int .i64 dm, .int .i64 ep] 26)
                rw [← hW1] at hal
                obtain ⟨b0, e0⟩ : ∃ b0, b0 = w.heap.size := ⟨_, rfl⟩
                obtain ⟨b1, e1⟩ : ∃ b1, b1 = w.heap.size + 1 := ⟨_, rfl⟩
                obtain ⟨x0, x1, hb⟩ := hal
                rw [← e0] at x0; rw [← e1] at x1
                have X0 := Lib.hid x0; have X1 := Lib.hid x1; have HB := Lib.hid hb
                have HCK := Lib.hid (rcheck_any V A c L W1 (hL.below hb) hm)
                obtain ⟨g, hg⟩ : ∃ g, chk V L = g := ⟨_, rfl⟩
                rw [hg] at HCK hgz
                have HG := Lib.hid hg
                obtain ⟨n, hn⟩ : ∃ n, n = L.length := ⟨_, rfl⟩
                rw [← hn] at HCK X0 hW1 ⊢
                clear x0 x1 hb hg hn hL hm
                go_enter Tryz.func36, Tryz.ntmps36
                go_upto_region 1 with fail
                rw [← hW1]
                rw [show w.heap.size + 1 = b1 from e1.symm, show w.heap.size = b0 from e0.symm]
                clear hW1 e0 e1
                obtain ⟨k0, k1, _⟩ := Bx.cells X0.out
                go_wp2_with fail
                refine HCK.out.mono ?_
                rintro e w2 ⟨rfl, hb2⟩
                have Y0 := Lib.hid (keep X0.out hb2); have Y1 := Lib.hid (keep X1.out hb2); have HB2 := Lib.hid (step_below HB.out HB.out.size hb2)
                clear hb2 X0 X1 k0 k1 HCK
                have hg0 : g = 0 := hgz
                subst hg0
                have s6 := S6.out
                obtain ⟨_, j1, j2, j3, j4, _⟩ := jb_cells Y1.out
                obtain ⟨j0, _, _, _, _, _⟩ := jb_cells Y1.out
                obtain ⟨k0, k1, _⟩ := Bx.cells Y0.out
                go_wp2
                all_goals (go_ret; exact ⟨Fx.ret_int (by unfold chkJ jobOk; rw [HG.out, if_pos rfl]; first | (simp [*]; done) | (simp [Int.not_le.2 (show st < 0 by omega)]; done) | (simp [Int.not_lt.2 (show V ≤ so by omega)]; done) | (simp [Int.not_le.2 (show so < 0 by omega)]; done) | (simp [*]; omega) | (simp; omega)), HB2.out⟩)
              · have q6 : (so == 0) = false := by simp [s6]
                obtain ⟨W1, hW1⟩ : ∃ W1, W1 = (w.alloc (.cells #[.int .i64 V, .slice A L.length c] 24)).alloc (.cells #[.int .u8 1, .int .i64 st, .int .i64 so, .int .i64 dm, .int .i64 ep] 26) := ⟨_, rfl⟩
                have hal := al2 w (.cells #[.int .i64 V, .slice A L.length c] 24) (.cells #[.int .u8 1, .int .i64 st, .int .i64 so, .int .i64 dm, .int .i64 ep] 26)
                rw [← hW1] at hal
                obtain ⟨b0, e0⟩ : ∃ b0, b0 = w.heap.size := ⟨_, rfl⟩
                obtain ⟨b1, e1⟩ : ∃ b1, b1 = w.heap.size + 1 := ⟨_, rfl⟩
                obtain ⟨x0, x1, hb⟩ := hal
                rw [← e0] at x0; rw [← e1] at x1
                have X0 := Lib.hid x0; have X1 := Lib.hid x1; have HB := Lib.hid hb
                have HCK := Lib.hid (rcheck_any V A c L W1 (hL.below hb) hm)
                obtain ⟨g, hg⟩ : ∃ g, chk V L = g := ⟨_, rfl⟩
                rw [hg] at HCK hgz
                have HG := Lib.hid hg
                obtain ⟨n, hn⟩ : ∃ n, n = L.length := ⟨_, rfl⟩
                rw [← hn] at HCK X0 hW1 ⊢
                clear x0 x1 hb hg hn hL hm
                go_enter Tryz.func36, Tryz.ntmps36
                go_upto_region 1 with fail
                rw [← hW1]
                rw [show w.heap.size + 1 = b1 from e1.symm, show w.heap.size = b0 from e0.symm]
                clear hW1 e0 e1
                obtain ⟨k0, k1, _⟩ := Bx.cells X0.out
                go_wp2_with fail
                refine HCK.out.mono ?_
                rintro e w2 ⟨rfl, hb2⟩
                have Y0 := Lib.hid (keep X0.out hb2); have Y1 := Lib.hid (keep X1.out hb2); have HB2 := Lib.hid (step_below HB.out HB.out.size hb2)
                clear hb2 X0 X1 k0 k1 HCK
                have hg0 : g = 0 := hgz
                subst hg0
                obtain ⟨_, j1, j2, j3, j4, _⟩ := jb_cells Y1.out
                obtain ⟨j0, _, _, _, _, _⟩ := jb_cells Y1.out
                obtain ⟨k0, k1, _⟩ := Bx.cells Y0.out
                go_wp2
                all_goals (go_ret; exact ⟨Fx.ret_int (by unfold chkJ jobOk; rw [HG.out, if_pos rfl]; first | (simp [*]; done) | (simp [Int.not_le.2 (show st < 0 by omega)]; done) | (simp [Int.not_lt.2 (show V ≤ so by omega)]; done) | (simp [Int.not_le.2 (show so < 0 by omega)]; done) | (simp [*]; omega) | (simp; omega)), HB2.out⟩)
            · obtain ⟨W1, hW1⟩ : ∃ W1, W1 = (w.alloc (.cells #[.int .i64 V, .slice A L.length c] 24)).alloc (.cells #[.int .u8 1, .int .i64 st, .int .i64 so, .int .i64 dm, .int .i64 ep] 26) := ⟨_, rfl⟩
              have hal := al2 w (.cells #[.int .i64 V, .slice A L.length c] 24) (.cells #[.int .u8 1, .int .i64 st, .int .i64 so, .int .i64 dm, .int .i64 ep] 26)
              rw [← hW1] at hal
              obtain ⟨b0, e0⟩ : ∃ b0, b0 = w.heap.size := ⟨_, rfl⟩
              obtain ⟨b1, e1⟩ : ∃ b1, b1 = w.heap.size + 1 := ⟨_, rfl⟩
              obtain ⟨x0, x1, hb⟩ := hal
              rw [← e0] at x0; rw [← e1] at x1
              have X0 := Lib.hid x0; have X1 := Lib.hid x1; have HB := Lib.hid hb
              have HCK := Lib.hid (rcheck_any V A c L W1 (hL.below hb) hm)
              obtain ⟨g, hg⟩ : ∃ g, chk V L = g := ⟨_, rfl⟩
              rw [hg] at HCK hgz
              have HG := Lib.hid hg
              obtain ⟨n, hn⟩ : ∃ n, n = L.length := ⟨_, rfl⟩
              rw [← hn] at HCK X0 hW1 ⊢
              clear x0 x1 hb hg hn hL hm
              go_enter Tryz.func36, Tryz.ntmps36
              go_upto_region 1 with fail
              rw [← hW1]
              rw [show w.heap.size + 1 = b1 from e1.symm, show w.heap.size = b0 from e0.symm]
              clear hW1 e0 e1
              obtain ⟨k0, k1, _⟩ := Bx.cells X0.out
              go_wp2_with fail
              refine HCK.out.mono ?_
              rintro e w2 ⟨rfl, hb2⟩
              have Y0 := Lib.hid (keep X0.out hb2); have Y1 := Lib.hid (keep X1.out hb2); have HB2 := Lib.hid (step_below HB.out HB.out.size hb2)
              clear hb2 X0 X1 k0 k1 HCK
              have hg0 : g = 0 := hgz
              subst hg0
              obtain ⟨_, j1, j2, j3, j4, _⟩ := jb_cells Y1.out
              obtain ⟨j0, _, _, _, _, _⟩ := jb_cells Y1.out
              obtain ⟨k0, k1, _⟩ := Bx.cells Y0.out
              go_wp2
              all_goals (go_ret; exact ⟨Fx.ret_int (by unfold chkJ jobOk; rw [HG.out, if_pos rfl]; first | (simp [*]; done) | (simp [Int.not_le.2 (show st < 0 by omega)]; done) | (simp [Int.not_lt.2 (show V ≤ so by omega)]; done) | (simp [Int.not_le.2 (show so < 0 by omega)]; done) | (simp [*]; omega) | (simp; omega)), HB2.out⟩)
          · obtain ⟨W1, hW1⟩ : ∃ W1, W1 = (w.alloc (.cells #[.int .i64 V, .slice A L.length c] 24)).alloc (.cells #[.int .u8 1, .int .i64 st, .int .i64 so, .int .i64 dm, .int .i64 ep] 26) := ⟨_, rfl⟩
            have hal := al2 w (.cells #[.int .i64 V, .slice A L.length c] 24) (.cells #[.int .u8 1, .int .i64 st, .int .i64 so, .int .i64 dm, .int .i64 ep] 26)
            rw [← hW1] at hal
            obtain ⟨b0, e0⟩ : ∃ b0, b0 = w.heap.size := ⟨_, rfl⟩
            obtain ⟨b1, e1⟩ : ∃ b1, b1 = w.heap.size + 1 := ⟨_, rfl⟩
            obtain ⟨x0, x1, hb⟩ := hal
            rw [← e0] at x0; rw [← e1] at x1
            have X0 := Lib.hid x0; have X1 := Lib.hid x1; have HB := Lib.hid hb
            have HCK := Lib.hid (rcheck_any V A c L W1 (hL.below hb) hm)
            obtain ⟨g, hg⟩ : ∃ g, chk V L = g := ⟨_, rfl⟩
            rw [hg] at HCK hgz
            have HG := Lib.hid hg
            obtain ⟨n, hn⟩ : ∃ n, n = L.length := ⟨_, rfl⟩
            rw [← hn] at HCK X0 hW1 ⊢
            clear x0 x1 hb hg hn hL hm
            go_enter Tryz.func36, Tryz.ntmps36
            go_upto_region 1 with fail
            rw [← hW1]
            rw [show w.heap.size + 1 = b1 from e1.symm, show w.heap.size = b0 from e0.symm]
            clear hW1 e0 e1
            obtain ⟨k0, k1, _⟩ := Bx.cells X0.out
            go_wp2_with fail
            refine HCK.out.mono ?_
            rintro e w2 ⟨rfl, hb2⟩
            have Y0 := Lib.hid (keep X0.out hb2); have Y1 := Lib.hid (keep X1.out hb2); have HB2 := Lib.hid (step_below HB.out HB.out.size hb2)
            clear hb2 X0 X1 k0 k1 HCK
            have hg0 : g = 0 := hgz
            subst hg0
            obtain ⟨_, j1, j2, j3, j4, _⟩ := jb_cells Y1.out
            obtain ⟨j0, _, _, _, _, _⟩ := jb_cells Y1.out
            obtain ⟨k0, k1, _⟩ := Bx.cells Y0.out
            go_wp2
            all_goals (go_ret; exact ⟨Fx.ret_int (by unfold chkJ jobOk; rw [HG.out, if_pos rfl]; first | (simp [*]; done) | (simp [Int.not_le.2 (show st < 0 by omega)]; done) | (simp [Int.not_lt.2 (show V ≤ so by omega)]; done) | (simp [Int.not_le.2 (show so < 0 by omega)]; done) | (simp [*]; omega) | (simp; omega)), HB2.out⟩)
        · obtain ⟨W1, hW1⟩ : ∃ W1, W1 = (w.alloc (.cells #[.int .i64 V, .slice A L.length c] 24)).alloc (.cells #[.int .u8 1, .int .i64 st, .int .i64 so, .int .i64 dm, .int .i64 ep] 26) := ⟨_, rfl⟩
          have hal := al2 w (.cells #[.int .i64 V, .slice A L.length c] 24) (.cells #[.int .u8 1, .int .i64 st, .int .i64 so, .int .i64 dm, .int .i64 ep] 26)
          rw [← hW1] at hal
          obtain ⟨b0, e0⟩ : ∃ b0, b0 = w.heap.size := ⟨_, rfl⟩
          obtain ⟨b1, e1⟩ : ∃ b1, b1 = w.heap.size + 1 := ⟨_, rfl⟩
          obtain ⟨x0, x1, hb⟩ := hal
          rw [← e0] at x0; rw [← e1] at x1
          have X0 := Lib.hid x0; have X1 := Lib.hid x1; have HB := Lib.hid hb
          have HCK := Lib.hid (rcheck_any V A c L W1 (hL.below hb) hm)
          obtain ⟨g, hg⟩ : ∃ g, chk V L = g := ⟨_, rfl⟩
          rw [hg] at HCK hgz
          have HG := Lib.hid hg
          obtain ⟨n, hn⟩ : ∃ n, n = L.length := ⟨_, rfl⟩
          rw [← hn] at HCK X0 hW1 ⊢
          clear x0 x1 hb hg hn hL hm
          go_enter Tryz.func36, Tryz.ntmps36
          go_upto_region 1 with fail
          rw [← hW1]
          rw [show w.heap.size + 1 = b1 from e1.symm, show w.heap.size = b0 from e0.symm]
          clear hW1 e0 e1
          obtain ⟨k0, k1, _⟩ := Bx.cells X0.out
          go_wp2_with fail
          refine HCK.out.mono ?_
          rintro e w2 ⟨rfl, hb2⟩
          have Y0 := Lib.hid (keep X0.out hb2); have Y1 := Lib.hid (keep X1.out hb2); have HB2 := Lib.hid (step_below HB.out HB.out.size hb2)
          clear hb2 X0 X1 k0 k1 HCK
          have hg0 : g = 0 := hgz
          subst hg0
          obtain ⟨_, j1, j2, j3, j4, _⟩ := jb_cells Y1.out
          obtain ⟨j0, _, _, _, _, _⟩ := jb_cells Y1.out
          obtain ⟨k0, k1, _⟩ := Bx.cells Y0.out
          go_wp2
          all_goals (go_ret; exact ⟨Fx.ret_int (by unfold chkJ jobOk; rw [HG.out, if_pos rfl]; first | (simp [*]; done) | (simp [Int.not_le.2 (show st < 0 by omega)]; done) | (simp [Int.not_lt.2 (show V ≤ so by omega)]; done) | (simp [Int.not_le.2 (show so < 0 by omega)]; done) | (simp [*]; omega) | (simp; omega)), HB2.out⟩)
      · obtain ⟨W1, hW1⟩ : ∃ W1, W1 = (w.alloc (.cells #[.int .i64 V, .slice A L.length c] 24)).alloc (.cells #[.int .u8 1, .int .i64 st, .int .i64 so, .int .i64 dm, .int .i64 ep] 26) := ⟨_, rfl⟩
        have hal := al2 w (.cells #[.int .i64 V, .slice A L.length c] 24) (.cells #[.int .u8 1, .int .i64 st, .int .i64 so, .int .i64 dm, .int .i64 ep] 26)
        rw [← hW1] at hal
        obtain ⟨b0, e0⟩ : ∃ b0, b0 = w.heap.size := ⟨_, rfl⟩
        obtain ⟨b1, e1⟩ : ∃ b1, b1 = w.heap.size + 1 := ⟨_, rfl⟩
        obtain ⟨x0, x1, hb⟩ := hal
        rw [← e0] at x0; rw [← e1] at x1
        have X0 := Lib.hid x0; have X1 := Lib.hid x1; have HB := Lib.hid hb
        have HCK := Lib.hid (rcheck_any V A c L W1 (hL.below hb) hm)
        obtain ⟨g, hg⟩ : ∃ g, chk V L = g := ⟨_, rfl⟩
        rw [hg] at HCK hgz
        have HG := Lib.hid hg
        obtain ⟨n, hn⟩ : ∃ n, n = L.length := ⟨_, rfl⟩
        rw [← hn] at HCK X0 hW1 ⊢
        clear x0 x1 hb hg hn hL hm
        go_enter Tryz.func36, Tryz.ntmps36
        go_upto_region 1 with fail
        rw [← hW1]
        rw [show w.heap.size + 1 = b1 from e1.symm, show w.heap.size = b0 from e0.symm]
        clear hW1 e0 e1
        obtain ⟨k0, k1, _⟩ := Bx.cells X0.out
        go_wp2_with fail
        refine HCK.out.mono ?_
        rintro e w2 ⟨rfl, hb2⟩
        have Y0 := Lib.hid (keep X0.out hb2); have Y1 := Lib.hid (keep X1.out hb2); have HB2 := Lib.hid (step_below HB.out HB.out.size hb2)
        clear hb2 X0 X1 k0 k1 HCK
        have hg0 : g = 0 := hgz
        subst hg0
        obtain ⟨_, j1, j2, j3, j4, _⟩ := jb_cells Y1.out
        obtain ⟨j0, _, _, _, _, _⟩ := jb_cells Y1.out
        obtain ⟨k0, k1, _⟩ := Bx.cells Y0.out
        go_wp2
        all_goals (go_ret; exact ⟨Fx.ret_int (by unfold chkJ jobOk; rw [HG.out, if_pos rfl]; first | (simp [*]; done) | (simp [Int.not_le.2 (show st < 0 by omega)]; done) | (simp [Int.not_lt.2 (show V ≤ so by omega)]; done) | (simp [Int.not_le.2 (show so < 0 by omega)]; done) | (simp [*]; omega) | (simp; omega)), HB2.out⟩)
    · obtain ⟨W1, hW1⟩ : ∃ W1, W1 = (w.alloc (.cells #[.int .i64 V, .slice A L.length c] 24)).alloc (.cells #[.int .u8 1, .int .i64 st, .int .i64 so, .int .i64 dm, .int .i64 ep] 26) := ⟨_, rfl⟩
      have hal := al2 w (.cells #[.int .i64 V, .slice A L.length c] 24) (.cells #[.int .u8 1, .int .i64 st, .int .i64 so, .int .i64 dm, .int .i64 ep] 26)
      rw [← hW1] at hal
      obtain ⟨b0, e0⟩ : ∃ b0, b0 = w.heap.size := ⟨_, rfl⟩
      obtain ⟨b1, e1⟩ : ∃ b1, b1 = w.heap.size + 1 := ⟨_, rfl⟩
      obtain ⟨x0, x1, hb⟩ := hal
      rw [← e0] at x0; rw [← e1] at x1
      have X0 := Lib.hid x0; have X1 := Lib.hid x1; have HB := Lib.hid hb
      have HCK := Lib.hid (rcheck_any V A c L W1 (hL.below hb) hm)
      obtain ⟨g, hg⟩ : ∃ g, chk V L = g := ⟨_, rfl⟩
      rw [hg] at HCK hgz
      have HG := Lib.hid hg
      obtain ⟨n, hn⟩ : ∃ n, n = L.length := ⟨_, rfl⟩
      rw [← hn] at HCK X0 hW1 ⊢
      clear x0 x1 hb hg hn hL hm
      go_enter Tryz.func36, Tryz.ntmps36
      go_upto_region 1 with fail
      rw [← hW1]
      rw [show w.heap.size + 1 = b1 from e1.symm, show w.heap.size = b0 from e0.symm]
      clear hW1 e0 e1
      obtain ⟨k0, k1, _⟩ := Bx.cells X0.out
      go_wp2_with fail
      refine HCK.out.mono ?_
      rintro e w2 ⟨rfl, hb2⟩
      have Y0 := Lib.hid (keep X0.out hb2); have Y1 := Lib.hid (keep X1.out hb2); have HB2 := Lib.hid (step_below HB.out HB.out.size hb2)
      clear hb2 X0 X1 k0 k1 HCK
      have hg0 : g = 0 := hgz
      subst hg0
      obtain ⟨_, j1, j2, j3, j4, _⟩ := jb_cells Y1.out
      obtain ⟨j0, _, _, _, _, _⟩ := jb_cells Y1.out
      obtain ⟨k0, k1, _⟩ := Bx.cells Y0.out
      go_wp2
      all_goals (go_ret; exact ⟨Fx.ret_int (by unfold chkJ jobOk; rw [HG.out, if_pos rfl]; first | (simp [*]; done) | (simp [Int.not_le.2 (show st < 0 by omega)]; done) | (simp [Int.not_lt.2 (show V ≤ so by omega)]; done) | (simp [Int.not_le.2 (show so < 0 by omega)]; done) | (simp [*]; omega) | (simp; omega)), HB2.out⟩)
  · obtain ⟨W1, hW1⟩ : ∃ W1, W1 = (w.alloc (.cells #[.int .i64 V, .slice A L.length c] 24)).alloc (.cells #[.int .u8 1, .int .i64 st, .int .i64 so, .int .i64 dm, .int .i64 ep] 26) := ⟨_, rfl⟩
    have hal := al2 w (.cells #[.int .i64 V, .slice A L.length c] 24) (.cells #[.int .u8 1, .int .i64 st, .int .i64 so, .int .i64 dm, .int .i64 ep] 26)
    rw [← hW1] at hal
    obtain ⟨b0, e0⟩ : ∃ b0, b0 = w.heap.size := ⟨_, rfl⟩
    obtain ⟨b1, e1⟩ : ∃ b1, b1 = w.heap.size + 1 := ⟨_, rfl⟩
    obtain ⟨x0, x1, hb⟩ := hal
    rw [← e0] at x0; rw [← e1] at x1
    have X0 := Lib.hid x0; have X1 := Lib.hid x1; have HB := Lib.hid hb
    have HCK := Lib.hid (rcheck_any V A c L W1 (hL.below hb) hm)
    obtain ⟨g, hg⟩ : ∃ g, chk V L = g := ⟨_, rfl⟩
    rw [hg] at HCK hgz
    have HG := Lib.hid hg
    obtain ⟨n, hn⟩ : ∃ n, n = L.length := ⟨_, rfl⟩
    rw [← hn] at HCK X0 hW1 ⊢
    clear x0 x1 hb hg hn hL hm
    go_enter Tryz.func36, Tryz.ntmps36
    go_upto_region 1 with fail
    rw [← hW1]
    rw [show w.heap.size + 1 = b1 from e1.symm, show w.heap.size = b0 from e0.symm]
    clear hW1 e0 e1
    obtain ⟨k0, k1, _⟩ := Bx.cells X0.out
    go_wp2_with fail
    refine HCK.out.mono ?_
    rintro e w2 ⟨rfl, hb2⟩
    have Y0 := Lib.hid (keep X0.out hb2); have Y1 := Lib.hid (keep X1.out hb2); have HB2 := Lib.hid (step_below HB.out HB.out.size hb2)
    clear hb2 X0 X1 k0 k1 HCK
    have hg0 : g = 0 := hgz
    subst hg0
    obtain ⟨_, j1, j2, j3, j4, _⟩ := jb_cells Y1.out
    obtain ⟨j0, _, _, _, _, _⟩ := jb_cells Y1.out
    obtain ⟨k0, k1, _⟩ := Bx.cells Y0.out
    go_wp2
    all_goals (go_ret; exact ⟨Fx.ret_int (by unfold chkJ jobOk; rw [HG.out, if_pos rfl]; first | (simp [*]; done) | (simp [Int.not_le.2 (show st < 0 by omega)]; done) | (simp [Int.not_lt.2 (show V ≤ so by omega)]; done) | (simp [Int.not_le.2 (show so < 0 by omega)]; done) | (simp [*]; omega) | (simp; omega)), HB2.out⟩)
set_option maxRecDepth 100000 in
set_option maxHeartbeats 4000000 in
theorem rchk_2 (st so dm ep V : Int) (A : Option Addr) (c : Nat) (L : List Ed) (w : World) (hL : EAt w A L) (hm : L.length ≤ 9223372036854775807) (hgz : chk V L = 0) :
    Calls Tryz.prog 36 #[.agg #[.int .i64 V, .slice A L.length c], .agg #[.int .u8 2, .int .i64 st, .int .i64 so, .int .i64 dm, .int .i64 ep]] w fun e w' => e = .returned (.int .i64 (chkJ 2 st so dm ep V L)) ∧ Below w.heap.size w w' := by
  by_cases s0 : 0 ≤ st
  · skip
    by_cases s1 : st ≤ 2000
    · skip
      by_cases s2 : dm = 0
      · have S2 := Lib.hid s2
        clear s2
        by_cases s3 : ep = 0
        · have S3 := Lib.hid s3
          clear s3
          by_cases s4 : so = 0
          · have S4 := Lib.hid s4
            clear s4
            obtain ⟨W1, hW1⟩ : ∃ W1, W1 = (w.alloc (.cells #[.int .i64 V, .slice A L.length c] 24)).alloc (.cells #[.int .u8 2, .int .i64 st, .int .i64 so, .int .i64 dm, .int .i64 ep] 26) := ⟨_, rfl⟩
            have hal := al2 w (.cells #[.int .i64 V, .slice A L.length c] 24) (.cells #[.int .u8 2, .int .i64 st, .int .i64 so, .int .i64 dm, .int .i64 ep] 26)
            rw [← hW1] at hal
            obtain ⟨b0, e0⟩ : ∃ b0, b0 = w.heap.size := ⟨_, rfl⟩
            obtain ⟨b1, e1⟩ : ∃ b1, b1 = w.heap.size + 1 := ⟨_, rfl⟩
            obtain ⟨x0, x1, hb⟩ := hal
            rw [← e0] at x0; rw [← e1] at x1
            have X0 := Lib.hid x0; have X1 := Lib.hid x1; have HB := Lib.hid hb
            have HCK := Lib.hid (rcheck_any V A c L W1 (hL.below hb) hm)
            obtain ⟨g, hg⟩ : ∃ g, chk V L = g := ⟨_, rfl⟩
            rw [hg] at HCK hgz
            have HG := Lib.hid hg
            obtain ⟨n, hn⟩ : ∃ n, n = L.length := ⟨_, rfl⟩
            rw [← hn] at HCK X0 hW1 ⊢
            clear x0 x1 hb hg hn hL hm
            go_enter Tryz.func36, Tryz.ntmps36
            go_upto_region 1 with fail
            rw [← hW1]
            rw [show w.heap.size + 1 = b1 from e1.symm, show w.heap.size = b0 from e0.symm]
            clear hW1 e0 e1
            obtain ⟨k0, k1, _⟩ := Bx.cells X0.out
            go_wp2_with fail
            refine HCK.out.mono ?_
            rintro e w2 ⟨rfl, hb2⟩
            have Y0 := Lib.hid (keep X0.out hb2); have Y1 := Lib.hid (keep X1.out hb2); have HB2 := Lib.hid (step_below HB.out HB.out.size hb2)
            clear hb2 X0 X1 k0 k1 HCK
            have hg0 : g = 0 := hgz
            subst hg0
            have s2 := S2.out
            have s3 := S3.out
            have s4 := S4.out
            obtain ⟨_, j1, j2, j3, j4, _⟩ := jb_cells Y1.out
            obtain ⟨j0, _, _, _, _, _⟩ := jb_cells Y1.out
            obtain ⟨k0, k1, _⟩ := Bx.cells Y0.out
            go_wp2
            all_goals (go_ret; exact ⟨Fx.ret_int (by unfold chkJ jobOk; rw [HG.out, if_pos rfl]; first | (simp [*]; done) | (simp [Int.not_le.2 (show st < 0 by omega)]; done) | (simp [Int.not_lt.2 (show V ≤ so by omega)]; done) | (simp [Int.not_le.2 (show so < 0 by omega)]; done) | (simp [*]; omega) | (simp; omega)), HB2.out⟩)
          · have q4 : (so == 0) = false := by simp [s4]
            obtain ⟨W1, hW1⟩ : ∃ W1, W1 = (w.alloc (.cells #[.int .i64 V, .slice A L.length c] 24)).alloc (.cells #[.int .u8 2, .int .i64 st, .int .i64 so, .int .i64 dm, .int .i64 ep] 26) := ⟨_, rfl⟩
            have hal := al2 w (.cells #[.int .i64 V, .slice A L.length c] 24) (.cells #[.int .u8 2, .int .i64 st, .int .i64 so, .int .i64 dm, .int .i64 ep] 26)
            rw [← hW1] at hal
            obtain ⟨b0, e0⟩ : ∃ b0, b0 = w.heap.size := ⟨_, rfl⟩
            obtain ⟨b1, e1⟩ : ∃ b1, b1 = w.heap.size + 1 := ⟨_, rfl⟩
            obtain ⟨x0, x1, hb⟩ := hal
            rw [← e0] at x0; rw [← e1] at x1
            have X0 := Lib.hid x0; have X1 := Lib.hid x1; have HB := Lib.hid hb
            have HCK := Lib.hid (rcheck_any V A c L W1 (hL.below hb) hm)
            obtain ⟨g, hg⟩ : ∃ g, chk V L = g := ⟨_, rfl⟩
            rw [hg] at HCK hgz
            have HG := Lib.hid hg
            obtain ⟨n, hn⟩ : ∃ n, n = L.length := ⟨_, rfl⟩
            rw [← hn] at HCK X0 hW1 ⊢
            clear x0 x1 hb hg hn hL hm
            go_enter Tryz.func36, Tryz.ntmps36
            go_upto_region 1 with fail
            rw [← hW1]
            rw [show w.heap.size + 1 = b1 from e1.symm, show w.heap.size = b0 from e0.symm]
            clear hW1 e0 e1
            obtain ⟨k0, k1, _⟩ := Bx.cells X0.out
            go_wp2_with fail
            refine HCK.out.mono ?_
            rintro e w2 ⟨rfl, hb2⟩
            have Y0 := Lib.hid (keep X0.out hb2); have Y1 := Lib.hid (keep X1.out hb2); have HB2 := Lib.hid (step_below HB.out HB.out.size hb2)
            clear hb2 X0 X1 k0 k1 HCK
            have hg0 : g = 0 := hgz
            subst hg0
            have s2 := S2.out
            have s3 := S3.out
            obtain ⟨_, j1, j2, j3, j4, _⟩ := jb_cells Y1.out
            obtain ⟨j0, _, _, _, _, _⟩ := jb_cells Y1.out
            obtain ⟨k0, k1, _⟩ := Bx.cells Y0.out
            go_wp2
            all_goals (go_ret; exact ⟨Fx.ret_int (by unfold chkJ jobOk; rw [HG.out, if_pos rfl]; first | (simp [*]; done) | (simp [Int.not_le.2 (show st < 0 by omega)]; done) | (simp [Int.not_lt.2 (show V ≤ so by omega)]; done) | (simp [Int.not_le.2 (show so < 0 by omega)]; done) | (simp [*]; omega) | (simp; omega)), HB2.out⟩)
        · have q3 : (ep == 0) = false := by simp [s3]
          obtain ⟨W1, hW1⟩ : ∃ W1, W1 = (w.alloc (.cells #[.int .i64 V, .slice A L.length c] 24)).alloc (.cells #[.int .u8 2, .int .i64 st, .int .i64 so, .int .i64 dm, .int .i64 ep] 26) := ⟨_, rfl⟩
          have hal := al2 w (.cells #[.int .i64 V, .slice A L.length c] 24) (.cells #[.int .u8 2, .int .i64 st, .int .i64 so, .int .i64 dm, .int .i64 ep] 26)
          rw [← hW1] at hal
          obtain ⟨b0, e0⟩ : ∃ b0, b0 = w.heap.size := ⟨_, rfl⟩
          obtain ⟨b1, e1⟩ : ∃ b1, b1 = w.heap.size + 1 := ⟨_, rfl⟩
          obtain ⟨x0, x1, hb⟩ := hal
          rw [← e0] at x0; rw [← e1] at x1
          have X0 := Lib.hid x0; have X1 := Lib.hid x1; have HB := Lib.hid hb
          have HCK := Lib.hid (rcheck_any V A c L W1 (hL.below hb) hm)
          obtain ⟨g, hg⟩ : ∃ g, chk V L = g := ⟨_, rfl⟩
          rw [hg] at HCK hgz
          have HG := Lib.hid hg
          obtain ⟨n, hn⟩ : ∃ n, n = L.length := ⟨_, rfl⟩
          rw [← hn] at HCK X0 hW1 ⊢
          clear x0 x1 hb hg hn hL hm
          go_enter Tryz.func36, Tryz.ntmps36
          go_upto_region 1 with fail
          rw [← hW1]
          rw [show w.heap.size + 1 = b1 from e1.symm, show w.heap.size = b0 from e0.symm]
          clear hW1 e0 e1
          obtain ⟨k0, k1, _⟩ := Bx.cells X0.out
          go_wp2_with fail
          refine HCK.out.mono ?_
          rintro e w2 ⟨rfl, hb2⟩
          have Y0 := Lib.hid (keep X0.out hb2); have Y1 := Lib.hid (keep X1.out hb2); have HB2 := Lib.hid (step_below HB.out HB.out.size hb2)
          clear hb2 X0 X1 k0 k1 HCK
          have hg0 : g = 0 := hgz
          subst hg0
          have s2 := S2.out
          obtain ⟨_, j1, j2, j3, j4, _⟩ := jb_cells Y1.out
          obtain ⟨j0, _, _, _, _, _⟩ := jb_cells Y1.out
          obtain ⟨k0, k1, _⟩ := Bx.cells Y0.out
          go_wp2
          all_goals (go_ret; exact ⟨Fx.ret_int (by unfold chkJ jobOk; rw [HG.out, if_pos rfl]; first | (simp [*]; done) | (simp [Int.not_le.2 (show st < 0 by omega)]; done) | (simp [Int.not_lt.2 (show V ≤ so by omega)]; done) | (simp [Int.not_le.2 (show so < 0 by omega)]; done) | (simp [*]; omega) | (simp; omega)), HB2.out⟩)
      · have q2 : (dm == 0) = false := by simp [s2]
        obtain ⟨W1, hW1⟩ : ∃ W1, W1 = (w.alloc (.cells #[.int .i64 V, .slice A L.length c] 24)).alloc (.cells #[.int .u8 2, .int .i64 st, .int .i64 so, .int .i64 dm, .int .i64 ep] 26) := ⟨_, rfl⟩
        have hal := al2 w (.cells #[.int .i64 V, .slice A L.length c] 24) (.cells #[.int .u8 2, .int .i64 st, .int .i64 so, .int .i64 dm, .int .i64 ep] 26)
        rw [← hW1] at hal
        obtain ⟨b0, e0⟩ : ∃ b0, b0 = w.heap.size := ⟨_, rfl⟩
        obtain ⟨b1, e1⟩ : ∃ b1, b1 = w.heap.size + 1 := ⟨_, rfl⟩
        obtain ⟨x0, x1, hb⟩ := hal
        rw [← e0] at x0; rw [← e1] at x1
        have X0 := Lib.hid x0; have X1 := Lib.hid x1; have HB := Lib.hid hb
        have HCK := Lib.hid (rcheck_any V A c L W1 (hL.below hb) hm)
        obtain ⟨g, hg⟩ : ∃ g, chk V L = g := ⟨_, rfl⟩
        rw [hg] at HCK hgz
        have HG := Lib.hid hg
        obtain ⟨n, hn⟩ : ∃ n, n = L.length := ⟨_, rfl⟩
        rw [← hn] at HCK X0 hW1 ⊢
        clear x0 x1 hb hg hn hL hm
        go_enter Tryz.func36, Tryz.ntmps36
        go_upto_region 1 with fail
        rw [← hW1]
        rw [show w.heap.size + 1 = b1 from e1.symm, show w.heap.size = b0 from e0.symm]
        clear hW1 e0 e1
        obtain ⟨k0, k1, _⟩ := Bx.cells X0.out
        go_wp2_with fail
        refine HCK.out.mono ?_
        rintro e w2 ⟨rfl, hb2⟩
        have Y0 := Lib.hid (keep X0.out hb2); have Y1 := Lib.hid (keep X1.out hb2); have HB2 := Lib.hid (step_below HB.out HB.out.size hb2)
        clear hb2 X0 X1 k0 k1 HCK
        have hg0 : g = 0 := hgz
        subst hg0
        obtain ⟨_, j1, j2, j3, j4, _⟩ := jb_cells Y1.out
        obtain ⟨j0, _, _, _, _, _⟩ := jb_cells Y1.out
        obtain ⟨k0, k1, _⟩ := Bx.cells Y0.out
        go_wp2
        all_goals (go_ret; exact ⟨Fx.ret_int (by unfold chkJ jobOk; rw [HG.out, if_pos rfl]; first | (simp [*]; done) | (simp [Int.not_le.2 (show st < 0 by omega)]; done) | (simp [Int.not_lt.2 (show V ≤ so by omega)]; done) | (simp [Int.not_le.2 (show so < 0 by omega)]; done) | (simp [*]; omega) | (simp; omega)), HB2.out⟩)
    · obtain ⟨W1, hW1⟩ : ∃ W1, W1 = (w.alloc (.cells #[.int .i64 V, .slice A L.length c] 24)).alloc (.cells #[.int .u8 2, .int .i64 st, .int .i64 so, .int .i64 dm, .int .i64 ep] 26) := ⟨_, rfl⟩
      have hal := al2 w (.cells #[.int .i64 V, .slice A L.length c] 24) (.cells #[.int .u8 2, .int .i64 st, .int .i64 so, .int .i64 dm, .int .i64 ep] 26)
      rw [← hW1] at hal
      obtain ⟨b0, e0⟩ : ∃ b0, b0 = w.heap.size := ⟨_, rfl⟩
      obtain ⟨b1, e1⟩ : ∃ b1, b1 = w.heap.size + 1 := ⟨_, rfl⟩
      obtain ⟨x0, x1, hb⟩ := hal
      rw [← e0] at x0; rw [← e1] at x1
      have X0 := Lib.hid x0; have X1 := Lib.hid x1; have HB := Lib.hid hb
      have HCK := Lib.hid (rcheck_any V A c L W1 (hL.below hb) hm)
      obtain ⟨g, hg⟩ : ∃ g, chk V L = g := ⟨_, rfl⟩
      rw [hg] at HCK hgz
      have HG := Lib.hid hg
      obtain ⟨n, hn⟩ : ∃ n, n = L.length := ⟨_, rfl⟩
      rw [← hn] at HCK X0 hW1 ⊢
      clear x0 x1 hb hg hn hL hm
      go_enter Tryz.func36, Tryz.ntmps36
      go_upto_region 1 with fail
      rw [← hW1]
      rw [show w.heap.size + 1 = b1 from e1.symm, show w.heap.size = b0 from e0.symm]
      clear hW1 e0 e1
      obtain ⟨k0, k1, _⟩ := Bx.cells X0.out
      go_wp2_with fail
      refine HCK.out.mono ?_
      rintro e w2 ⟨rfl, hb2⟩
      have Y0 := Lib.hid (keep X0.out hb2); have Y1 := Lib.hid (keep X1.out hb2); have HB2 := Lib.hid (step_below HB.out HB.out.size hb2)
      clear hb2 X0 X1 k0 k1 HCK
      have hg0 : g = 0 := hgz
      subst hg0
      obtain ⟨_, j1, j2, j3, j4, _⟩ := jb_cells Y1.out
      obtain ⟨j0, _, _, _, _, _⟩ := jb_cells Y1.out
      obtain ⟨k0, k1, _⟩ := Bx.cells Y0.out
      go_wp2
      all_goals (go_ret; exact ⟨Fx.ret_int (by unfold chkJ jobOk; rw [HG.out, if_pos rfl]; first | (simp [*]; done) | (simp [Int.not_le.2 (show st < 0 by omega)]; done) | (simp [Int.not_lt.2 (show V ≤ so by omega)]; done) | (simp [Int.not_le.2 (show so < 0 by omega)]; done) | (simp [*]; omega) | (simp; omega)), HB2.out⟩)
  · obtain ⟨W1, hW1⟩ : ∃ W1, W1 = (w.alloc (.cells #[.int .i64 V, .slice A L.length c] 24)).alloc (.cells #[.int .u8 2, .int .i64 st, .int .i64 so, .int .i64 dm, .int .i64 ep] 26) := ⟨_, rfl⟩
    have hal := al2 w (.cells #[.int .i64 V, .slice A L.length c] 24) (.cells #[.int .u8 2, .int .i64 st, .int .i64 so, .int .i64 dm, .int .i64 ep] 26)
    rw [← hW1] at hal
    obtain ⟨b0, e0⟩ : ∃ b0, b0 = w.heap.size := ⟨_, rfl⟩
    obtain ⟨b1, e1⟩ : ∃ b1, b1 = w.heap.size + 1 := ⟨_, rfl⟩
    obtain ⟨x0, x1, hb⟩ := hal
    rw [← e0] at x0; rw [← e1] at x1
    have X0 := Lib.hid x0; have X1 := Lib.hid x1; have HB := Lib.hid hb
    have HCK := Lib.hid (rcheck_any V A c L W1 (hL.below hb) hm)
    obtain ⟨g, hg⟩ : ∃ g, chk V L = g := ⟨_, rfl⟩
    rw [hg] at HCK hgz
    have HG := Lib.hid hg
    obtain ⟨n, hn⟩ : ∃ n, n = L.length := ⟨_, rfl⟩
    rw [← hn] at HCK X0 hW1 ⊢
    clear x0 x1 hb hg hn hL hm
    go_enter Tryz.func36, Tryz.ntmps36
    go_upto_region 1 with fail
    rw [← hW1]
    rw [show w.heap.size + 1 = b1 from e1.symm, show w.heap.size = b0 from e0.symm]
    clear hW1 e0 e1
    obtain ⟨k0, k1, _⟩ := Bx.cells X0.out
    go_wp2_with fail
    refine HCK.out.mono ?_
    rintro e w2 ⟨rfl, hb2⟩
    have Y0 := Lib.hid (keep X0.out hb2); have Y1 := Lib.hid (keep X1.out hb2); have HB2 := Lib.hid (step_below HB.out HB.out.size hb2)
    clear hb2 X0 X1 k0 k1 HCK
    have hg0 : g = 0 := hgz
    subst hg0
    obtain ⟨_, j1, j2, j3, j4, _⟩ := jb_cells Y1.out
    obtain ⟨j0, _, _, _, _, _⟩ := jb_cells Y1.out
    obtain ⟨k0, k1, _⟩ := Bx.cells Y0.out
    go_wp2
    all_goals (go_ret; exact ⟨Fx.ret_int (by unfold chkJ jobOk; rw [HG.out, if_pos rfl]; first | (simp [*]; done) | (simp [Int.not_le.2 (show st < 0 by omega)]; done) | (simp [Int.not_lt.2 (show V ≤ so by omega)]; done) | (simp [Int.not_le.2 (show so < 0 by omega)]; done) | (simp [*]; omega) | (simp; omega)), HB2.out⟩)
set_option maxRecDepth 100000 in
set_option maxHeartbeats 4000000 in
theorem rchk_3 (st so dm ep V : Int) (A : Option Addr) (c : Nat) (L : List Ed) (w : World) (hL : EAt w A L) (hm : L.length ≤ 9223372036854775807) (hgz : chk V L = 0) :
    Calls Tryz.prog 36 #[.agg #[.int .i64 V, .slice A L.length c], .agg #[.int .u8 3, .int .i64 st, .int .i64 so, .int .i64 dm, .int .i64 ep]] w fun e w' => e = .returned (.int .i64 (chkJ 3 st so dm ep V L)) ∧ Below w.heap.size w w' := by
  by_cases s0 : 0 ≤ st
  · skip
    by_cases s1 : st ≤ 2000
    · skip
      by_cases s2 : dm = 0
      · have S2 := Lib.hid s2
        clear s2
        by_cases s3 : ep = 0
        · have S3 := Lib.hid s3
          clear s3
          by_cases s4 : 0 ≤ so
          · skip
            by_cases s5 : so < V
            · skip
              obtain ⟨W1, hW1⟩ : ∃ W1, W1 = (w.alloc (.cells #[.int .i64 V, .slice A L.length c] 24)).alloc (.cells #[.int .u8 3, .int .i64 st, .int .i64 so, .int .i64 dm, .int .i64 ep] 26) := ⟨_, rfl⟩
              have hal := al2 w (.cells #[.int .i64 V, .slice A L.length c] 24) (.cells #[.int .u8 3, .int .i64 st, .int .i64 so, .int .i64 dm, .int .i64 ep] 26)
              rw [← hW1] at hal
              obtain ⟨b0, e0⟩ : ∃ b0, b0 = w.heap.size := ⟨_, rfl⟩
              obtain ⟨b1, e1⟩ : ∃ b1, b1 = w.heap.size + 1 := ⟨_, rfl⟩
              obtain ⟨x0, x1, hb⟩ := hal
              rw [← e0] at x0; rw [← e1] at x1
              have X0 := Lib.hid x0; have X1 := Lib.hid x1; have HB := Lib.hid hb
              have HCK := Lib.hid (rcheck_any V A c L W1 (hL.below hb) hm)
              obtain ⟨g, hg⟩ : ∃ g, chk V L = g := ⟨_, rfl⟩
              rw [hg] at HCK hgz
              have HG := Lib.hid hg
              obtain ⟨n, hn⟩ : ∃ n, n = L.length := ⟨_, rfl⟩
              rw [← hn] at HCK X0 hW1 ⊢
              clear x0 x1 hb hg hn hL hm
              go_enter Tryz.func36, Tryz.ntmps36
              go_upto_region 1 with fail
              rw [← hW1]
              rw [show w.heap.size + 1 = b1 from e1.symm, show w.heap.size = b0 from e0.symm]
              clear hW1 e0 e1
              obtain ⟨k0, k1, _⟩ := Bx.cells X0.out
              go_wp2_with fail
              refine HCK.out.mono ?_
              rintro e w2 ⟨rfl, hb2⟩
              have Y0 := Lib.hid (keep X0.out hb2); have Y1 := Lib.hid (keep X1.out hb2); have HB2 := Lib.hid (step_below HB.out HB.out.size hb2)
              clear hb2 X0 X1 k0 k1 HCK
              have hg0 : g = 0 := hgz
              subst hg0
              have s2 := S2.out
              have s3 := S3.out
              obtain ⟨_, j1, j2, j3, j4, _⟩ := jb_cells Y1.out
              obtain ⟨j0, _, _, _, _, _⟩ := jb_cells Y1.out
              obtain ⟨k0, k1, _⟩ := Bx.cells Y0.out
              go_wp2
              all_goals (go_ret; exact ⟨Fx.ret_int (by unfold chkJ jobOk; rw [HG.out, if_pos rfl]; first | (simp [*]; done) | (simp [Int.not_le.2 (show st < 0 by omega)]; done) | (simp [Int.not_lt.2 (show V ≤ so by omega)]; done) | (simp [Int.not_le.2 (show so < 0 by omega)]; done) | (simp [*]; omega) | (simp; omega)), HB2.out⟩)
            · have q5 : decide (so < V) = false := decide_eq_false s5
              obtain ⟨W1, hW1⟩ : ∃ W1, W1 = (w.alloc (.cells #[.int .i64 V, .slice A L.length c] 24)).alloc (.cells #[.int .u8 3, .int .i64 st, .int .i64 so, .int .i64 dm, .int .i64 ep] 26) := ⟨_, rfl⟩
              have hal := al2 w (.cells #[.int .i64 V, .slice A L.length c] 24) (.cells #[.int .u8 3, .int .i64 st, .int .i64 so, .int .i64 dm, .int .i64 ep] 26)
              rw [← hW1] at hal
              obtain ⟨b0, e0⟩ : ∃ b0, b0 = w.heap.size := ⟨_, rfl⟩
              obtain ⟨b1, e1⟩ : ∃ b1, b1 = w.heap.size + 1 := ⟨_, rfl⟩
              obtain ⟨x0, x1, hb⟩ := hal
              rw [← e0] at x0; rw [← e1] at x1
              have X0 := Lib.hid x0; have X1 := Lib.hid x1; have HB := Lib.hid hb
              have HCK := Lib.hid (rcheck_any V A c L W1 (hL.below hb) hm)
              obtain ⟨g, hg⟩ : ∃ g, chk V L = g := ⟨_, rfl⟩
              rw [hg] at HCK hgz
              have HG := Lib.hid hg
              obtain ⟨n, hn⟩ : ∃ n, n = L.length := ⟨_, rfl⟩
              rw [← hn] at HCK X0 hW1 ⊢
              clear x0 x1 hb hg hn hL hm
              go_enter Tryz.func36, Tryz.ntmps36
              go_upto_region 1 with fail
              rw [← hW1]
              rw [show w.heap.size + 1 = b1 from e1.symm, show w.heap.size = b0 from e0.symm]
              clear hW1 e0 e1
              obtain ⟨k0, k1, _⟩ := Bx.cells X0.out
              go_wp2_with fail
              refine HCK.out.mono ?_
              rintro e w2 ⟨rfl, hb2⟩
              have Y0 := Lib.hid (keep X0.out hb2); have Y1 := Lib.hid (keep X1.out hb2); have HB2 := Lib.hid (step_below HB.out HB.out.size hb2)
              clear hb2 X0 X1 k0 k1 HCK
              have hg0 : g = 0 := hgz
              subst hg0
              have s2 := S2.out
              have s3 := S3.out
              obtain ⟨_, j1, j2, j3, j4, _⟩ := jb_cells Y1.out
              obtain ⟨j0, _, _, _, _, _⟩ := jb_cells Y1.out
              obtain ⟨k0, k1, _⟩ := Bx.cells Y0.out
              go_wp2
              all_goals (go_ret; exact ⟨Fx.ret_int (by unfold chkJ jobOk; rw [HG.out, if_pos rfl]; first | (simp [*]; done) | (simp [Int.not_le.2 (show st < 0 by omega)]; done) | (simp [Int.not_lt.2 (show V ≤ so by omega)]; done) | (simp [Int.not_le.2 (show so < 0 by omega)]; done) | (simp [*]; omega) | (simp; omega)), HB2.out⟩)
          · obtain ⟨W1, hW1⟩ : ∃ W1, W1 = (w.alloc (.cells #[.int .i64 V, .slice A L.length c] 24)).alloc (.cells #[.int .u8 3, .int .i64 st, .int .i64 so, .int .i64 dm, .int .i64 ep] 26) := ⟨_, rfl⟩
            have hal := al2 w (.cells #[.int .i64 V, .slice A L.length c] 24) (.cells #[.int .u8 3, .int .i64 st, .int .i64 so, .int .i64 dm, .int .i64 ep] 26)
            rw [← hW1] at hal
            obtain ⟨b0, e0⟩ : ∃ b0, b0 = w.heap.size := ⟨_, rfl⟩
            obtain ⟨b1, e1⟩ : ∃ b1, b1 = w.heap.size + 1 := ⟨_, rfl⟩
            obtain ⟨x0, x1, hb⟩ := hal
            rw [← e0] at x0; rw [← e1] at x1
            have X0 := Lib.hid x0; have X1 := Lib.hid x1; have HB := Lib.hid hb
            have HCK := Lib.hid (rcheck_any V A c L W1 (hL.below hb) hm)
            obtain ⟨g, hg⟩ : ∃ g, chk V L = g := ⟨_, rfl⟩
            rw [hg] at HCK hgz
            have HG := Lib.hid hg
            obtain ⟨n, hn⟩ : ∃ n, n = L.length := ⟨_, rfl⟩
            rw [← hn] at HCK X0 hW1 ⊢
            clear x0 x1 hb hg hn hL hm
            go_enter Tryz.func36, Tryz.ntmps36
            go_upto_region 1 with fail
            rw [← hW1]
            rw [show w.heap.size + 1 = b1 from e1.symm, show w.heap.size = b0 from e0.symm]
            clear hW1 e0 e1
            obtain ⟨k0, k1, _⟩ := Bx.cells X0.out
            go_wp2_with fail
            refine HCK.out.mono ?_
            rintro e w2 ⟨rfl, hb2⟩
            have Y0 := Lib.hid (keep X0.out hb2); have Y1 := Lib.hid (keep X1.out hb2); have HB2 := Lib.hid (step_below HB.out HB.out.size hb2)
            clear hb2 X0 X1 k0 k1 HCK
            have hg0 : g = 0 := hgz
            subst hg0
            have s2 := S2.out
            have s3 := S3.out
            obtain ⟨_, j1, j2, j3, j4, _⟩ := jb_cells Y1.out
            obtain ⟨j0, _, _, _, _, _⟩ := jb_cells Y1.out
            obtain ⟨k0, k1, _⟩ := Bx.cells Y0.out
            go_wp2
            all_goals (go_ret; exact ⟨Fx.ret_int (by unfold chkJ jobOk; rw [HG.out, if_pos rfl]; first | (simp [*]; done) | (simp [Int.not_le.2 (show st < 0 by omega)]; done) | (simp [Int.not_lt.2 (show V ≤ so by omega)]; done) | (simp [Int.not_le.2 (show so < 0 by omega)]; done) | (simp [*]; omega) | (simp; omega)), HB2.out⟩)
        · have q3 : (ep == 0) = false := by simp [s3]
          obtain ⟨W1, hW1⟩ : ∃ W1, W1 = (w.alloc (.cells #[.int .i64 V, .slice A L.length c] 24)).alloc (.cells #[.int .u8 3, .int .i64 st, .int .i64 so, .int .i64 dm, .int .i64 ep] 26) := ⟨_, rfl⟩
          have hal := al2 w (.cells #[.int .i64 V, .slice A L.length c] 24) (.cells #[.int .u8 3, .int .i64 st, .int .i64 so, .int .i64 dm, .int .i64 ep] 26)
          rw [← hW1] at hal
          obtain ⟨b0, e0⟩ : ∃ b0, b0 = w.heap.size := ⟨_, rfl⟩
          obtain ⟨b1, e1⟩ : ∃ b1, b1 = w.heap.size + 1 := ⟨_, rfl⟩
          obtain ⟨x0, x1, hb⟩ := hal
          rw [← e0] at x0; rw [← e1] at x1
          have X0 := Lib.hid x0; have X1 := Lib.hid x1; have HB := Lib.hid hb
          have HCK := Lib.hid (rcheck_any V A c L W1 (hL.below hb) hm)
          obtain ⟨g, hg⟩ : ∃ g, chk V L = g := ⟨_, rfl⟩
          rw [hg] at HCK hgz
          have HG := Lib.hid hg
          obtain ⟨n, hn⟩ : ∃ n, n = L.length := ⟨_, rfl⟩
          rw [← hn] at HCK X0 hW1 ⊢
          clear x0 x1 hb hg hn hL hm
          go_enter Tryz.func36, Tryz.ntmps36
          go_upto_region 1 with fail
          rw [← hW1]
          rw [show w.heap.size + 1 = b1 from e1.symm, show w.heap.size = b0 from e0.symm]
          clear hW1 e0 e1
          obtain ⟨k0, k1, _⟩ := Bx.cells X0.out
          go_wp2_with fail
          refine HCK.out.mono ?_
          rintro e w2 ⟨rfl, hb2⟩
          have Y0 := Lib.hid (keep X0.out hb2); have Y1 := Lib.hid (keep X1.out hb2); have HB2 := Lib.hid (step_below HB.out HB.out.size hb2)
          clear hb2 X0 X1 k0 k1 HCK
          have hg0 : g = 0 := hgz
          subst hg0
          have s2 := S2.out
          obtain ⟨_, j1, j2, j3, j4, _⟩ := jb_cells Y1.out
          obtain ⟨j0, _, _, _, _, _⟩ := jb_cells Y1.out
          obtain ⟨k0, k1, _⟩ := Bx.cells Y0.out
          go_wp2
          all_goals (go_ret; exact ⟨Fx.ret_int (by unfold chkJ jobOk; rw [HG.out, if_pos rfl]; first | (simp [*]; done) | (simp [Int.not_le.2 (show st < 0 by omega)]; done) | (simp [Int.not_lt.2 (show V ≤ so by omega)]; done) | (simp [Int.not_le.2 (show so < 0 by omega)]; done) | (simp [*]; omega) | (simp; omega)), HB2.out⟩)
      · have q2 : (dm == 0) = false := by simp [s2]
        obtain ⟨W1, hW1⟩ : ∃ W1, W1 = (w.alloc (.cells #[.int .i64 V, .slice A L.length c] 24)).alloc (.cells #[.int .u8 3, .int .i64 st, .int .i64 so, .int .i64 dm, .int .i64 ep] 26) := ⟨_, rfl⟩
        have hal := al2 w (.cells #[.int .i64 V, .slice A L.length c] 24) (.cells #[.int .u8 3, .int .i64 st, .int .i64 so, .int .i64 dm, .int .i64 ep] 26)
        rw [← hW1] at hal
        obtain ⟨b0, e0⟩ : ∃ b0, b0 = w.heap.size := ⟨_, rfl⟩
        obtain ⟨b1, e1⟩ : ∃ b1, b1 = w.heap.size + 1 := ⟨_, rfl⟩
        obtain ⟨x0, x1, hb⟩ := hal
        rw [← e0] at x0; rw [← e1] at x1
        have X0 := Lib.hid x0; have X1 := Lib.hid x1; have HB := Lib.hid hb
        have HCK := Lib.hid (rcheck_any V A c L W1 (hL.below hb) hm)
        obtain ⟨g, hg⟩ : ∃ g, chk V L = g := ⟨_, rfl⟩
        rw [hg] at HCK hgz
        have HG := Lib.hid hg
        obtain ⟨n, hn⟩ : ∃ n, n = L.length := ⟨_, rfl⟩
        rw [← hn] at HCK X0 hW1 ⊢
        clear x0 x1 hb hg hn hL hm
        go_enter Tryz.func36, Tryz.ntmps36
        go_upto_region 1 with fail
        rw [← hW1]
        rw [show w.heap.size + 1 = b1 from e1.symm, show w.heap.size = b0 from e0.symm]
        clear hW1 e0 e1
        obtain ⟨k0, k1, _⟩ := Bx.cells X0.out
        go_wp2_with fail
        refine HCK.out.mono ?_
        rintro e w2 ⟨rfl, hb2⟩
        have Y0 := Lib.hid (keep X0.out hb2); have Y1 := Lib.hid (keep X1.out hb2); have HB2 := Lib.hid (step_below HB.out HB.out.size hb2)
        clear hb2 X0 X1 k0 k1 HCK
        have hg0 : g = 0 := hgz
        subst hg0
        obtain ⟨_, j1, j2, j3, j4, _⟩ := jb_cells Y1.out
        obtain ⟨j0, _, _, _, _, _⟩ := jb_cells Y1.out
        obtain ⟨k0, k1, _⟩ := Bx.cells Y0.out
        go_wp2
        all_goals (go_ret; exact ⟨Fx.ret_int (by unfold chkJ jobOk; rw [HG.out, if_pos rfl]; first | (simp [*]; done) | (simp [Int.not_le.2 (show st < 0 by omega)]; done) | (simp [Int.not_lt.2 (show V ≤ so by omega)]; done) | (simp [Int.not_le.2 (show so < 0 by omega)]; done) | (simp [*]; omega) | (simp; omega)), HB2.out⟩)
    · obtain ⟨W1, hW1⟩ : ∃ W1, W1 = (w.alloc (.cells #[.int .i64 V, .slice A L.length c] 24)).alloc (.cells #[.int .u8 3, .int .i64 st, .int .i64 so, .int .i64 dm, .int .i64 ep] 26) := ⟨_, rfl⟩
      have hal := al2 w (.cells #[.int .i64 V, .slice A L.length c] 24) (.cells #[.int .u8 3, .int .i64 st, .int .i64 so, .int .i64 dm, .int .i64 ep] 26)
      rw [← hW1] at hal
      obtain ⟨b0, e0⟩ : ∃ b0, b0 = w.heap.size := ⟨_, rfl⟩
      obtain ⟨b1, e1⟩ : ∃ b1, b1 = w.heap.size + 1 := ⟨_, rfl⟩
      obtain ⟨x0, x1, hb⟩ := hal
      rw [← e0] at x0; rw [← e1] at x1
      have X0 := Lib.hid x0; have X1 := Lib.hid x1; have HB := Lib.hid hb
      have HCK := Lib.hid (rcheck_any V A c L W1 (hL.below hb) hm)
      obtain ⟨g, hg⟩ : ∃ g, chk V L = g := ⟨_, rfl⟩
      rw [hg] at HCK hgz
      have HG := Lib.hid hg
      obtain ⟨n, hn⟩ : ∃ n, n = L.length := ⟨_, rfl⟩
      rw [← hn] at HCK X0 hW1 ⊢
      clear x0 x1 hb hg hn hL hm
      go_enter Tryz.func36, Tryz.ntmps36
      go_upto_region 1 with fail
      rw [← hW1]
      rw [show w.heap.size + 1 = b1 from e1.symm, show w.heap.size = b0 from e0.symm]
      clear hW1 e0 e1
      obtain ⟨k0, k1, _⟩ := Bx.cells X0.out
      go_wp2_with fail
      refine HCK.out.mono ?_
      rintro e w2 ⟨rfl, hb2⟩
      have Y0 := Lib.hid (keep X0.out hb2); have Y1 := Lib.hid (keep X1.out hb2); have HB2 := Lib.hid (step_below HB.out HB.out.size hb2)
      clear hb2 X0 X1 k0 k1 HCK
      have hg0 : g = 0 := hgz
      subst hg0
      obtain ⟨_, j1, j2, j3, j4, _⟩ := jb_cells Y1.out
      obtain ⟨j0, _, _, _, _, _⟩ := jb_cells Y1.out
      obtain ⟨k0, k1, _⟩ := Bx.cells Y0.out
      go_wp2
      all_goals (go_ret; exact ⟨Fx.ret_int (by unfold chkJ jobOk; rw [HG.out, if_pos rfl]; first | (simp [*]; done) | (simp [Int.not_le.2 (show st < 0 by omega)]; done) | (simp [Int.not_lt.2 (show V ≤ so by omega)]; done) | (simp [Int.not_le.2 (show so < 0 by omega)]; done) | (simp [*]; omega) | (simp; omega)), HB2.out⟩)
  · obtain ⟨W1, hW1⟩ : ∃ W1, W1 = (w.alloc (.cells #[.int .i64 V, .slice A L.length c] 24)).alloc (.cells #[.int .u8 3, .int .i64 st, .int .i64 so, .int .i64 dm, .int .i64 ep] 26) := ⟨_, rfl⟩
    have hal := al2 w (.cells #[.int .i64 V, .slice A L.length c] 24) (.cells #[.int .u8 3, .int .i64 st, .int .i64 so, .int .i64 dm, .int .i64 ep] 26)
    rw [← hW1] at hal
    obtain ⟨b0, e0⟩ : ∃ b0, b0 = w.heap.size := ⟨_, rfl⟩
    obtain ⟨b1, e1⟩ : ∃ b1, b1 = w.heap.size + 1 := ⟨_, rfl⟩
    obtain ⟨x0, x1, hb⟩ := hal
    rw [← e0] at x0; rw [← e1] at x1
    have X0 := Lib.hid x0; have X1 := Lib.hid x1; have HB := Lib.hid hb
    have HCK := Lib.hid (rcheck_any V A c L W1 (hL.below hb) hm)
    obtain ⟨g, hg⟩ : ∃ g, chk V L = g := ⟨_, rfl⟩
    rw [hg] at HCK hgz
    have HG := Lib.hid hg
    obtain ⟨n, hn⟩ : ∃ n, n = L.length := ⟨_, rfl⟩
    rw [← hn] at HCK X0 hW1 ⊢
    clear x0 x1 hb hg hn hL hm
    go_enter Tryz.func36, Tryz.ntmps36
    go_upto_region 1 with fail
    rw [← hW1]
    rw [show w.heap.size + 1 = b1 from e1.symm, show w.heap.size = b0 from e0.symm]
    clear hW1 e0 e1
    obtain ⟨k0, k1, _⟩ := Bx.cells X0.out
    go_wp2_with fail
    refine HCK.out.mono ?_
    rintro e w2 ⟨rfl, hb2⟩
    have Y0 := Lib.hid (keep X0.out hb2); have Y1 := Lib.hid (keep X1.out hb2); have HB2 := Lib.hid (step_below HB.out HB.out.size hb2)
    clear hb2 X0 X1 k0 k1 HCK
    have hg0 : g = 0 := hgz
    subst hg0
    obtain ⟨_, j1, j2, j3, j4, _⟩ := jb_cells Y1.out
    obtain ⟨j0, _, _, _, _, _⟩ := jb_cells Y1.out
    obtain ⟨k0, k1, _⟩ := Bx.cells Y0.out
    go_wp2
    all_goals (go_ret; exact ⟨Fx.ret_int (by unfold chkJ jobOk; rw [HG.out, if_pos rfl]; first | (simp [*]; done) | (simp [Int.not_le.2 (show st < 0 by omega)]; done) | (simp [Int.not_lt.2 (show V ≤ so by omega)]; done) | (simp [Int.not_le.2 (show so < 0 by omega)]; done) | (simp [*]; omega) | (simp; omega)), HB2.out⟩)
set_option maxRecDepth 100000 in
set_option maxHeartbeats 4000000 in
theorem rchk_no (k st so dm ep V : Int) (A : Option Addr) (c : Nat) (L : List Ed) (w : World) (hL : EAt w A L) (hm : L.length ≤ 9223372036854775807) (hgz : chk V L = 0) (h1 : ¬ k = 1) (h2 : ¬ k = 2) (h3 : ¬ k = 3) :
    Calls Tryz.prog 36 #[.agg #[.int .i64 V, .slice A L.length c], .agg #[.int .u8 k, .int .i64 st, .int .i64 so, .int .i64 dm, .int .i64 ep]] w fun e w' => e = .returned (.int .i64 (chkJ k st so dm ep V L)) ∧ Below w.heap.size w w' := by
  have g1 : (k == 1) = false := by simp [h1]
  have g2 : (k == 2) = false := by simp [h2]
  have g3 : (k == 3) = false := by simp [h3]
  by_cases s0 : 0 ≤ st
  · skip
    by_cases s1 : st ≤ 2000
    · skip
      obtain ⟨W1, hW1⟩ : ∃ W1, W1 = (w.alloc (.cells #[.int .i64 V, .slice A L.length c] 24)).alloc (.cells #[.int .u8 k, .int .i64 st, .int .i64 so, .int .i64 dm, .int .i64 ep] 26) := ⟨_, rfl⟩
      have hal := al2 w (.cells #[.int .i64 V, .slice A L.length c] 24) (.cells #[.int .u8 k, .int .i64 st, .int .i64 so, .int .i64 dm, .int .i64 ep] 26)
      rw [← hW1] at hal
      obtain ⟨b0, e0⟩ : ∃ b0, b0 = w.heap.size := ⟨_, rfl⟩
      obtain ⟨b1, e1⟩ : ∃ b1, b1 = w.heap.size + 1 := ⟨_, rfl⟩
      obtain ⟨x0, x1, hb⟩ := hal
      rw [← e0] at x0; rw [← e1] at x1
      have X0 := Lib.hid x0; have X1 := Lib.hid x1; have HB := Lib.hid hb
      have HCK := Lib.hid (rcheck_any V A c L W1 (hL.below hb) hm)
      obtain ⟨g, hg⟩ : ∃ g, chk V L = g := ⟨_, rfl⟩
      rw [hg] at HCK hgz
      have HG := Lib.hid hg
      obtain ⟨n, hn⟩ : ∃ n, n = L.length := ⟨_, rfl⟩
      rw [← hn] at HCK X0 hW1 ⊢
      clear x0 x1 hb hg hn hL hm
      go_enter Tryz.func36, Tryz.ntmps36
      go_upto_region 1 with fail
      rw [← hW1]
      rw [show w.heap.size + 1 = b1 from e1.symm, show w.heap.size = b0 from e0.symm]
      clear hW1 e0 e1
      obtain ⟨k0, k1, _⟩ := Bx.cells X0.out
      go_wp2_with fail
      refine HCK.out.mono ?_
      rintro e w2 ⟨rfl, hb2⟩
      have Y0 := Lib.hid (keep X0.out hb2); have Y1 := Lib.hid (keep X1.out hb2); have HB2 := Lib.hid (step_below HB.out HB.out.size hb2)
      clear hb2 X0 X1 k0 k1 HCK
      have hg0 : g = 0 := hgz
      subst hg0
      obtain ⟨_, j1, j2, j3, j4, _⟩ := jb_cells Y1.out
      obtain ⟨j0, _, _, _, _, _⟩ := jb_cells Y1.out
      obtain ⟨k0, k1, _⟩ := Bx.cells Y0.out
      go_wp2
      all_goals (go_ret; exact ⟨Fx.ret_int (by unfold chkJ jobOk; rw [HG.out, if_pos rfl]; first | (simp [*]; done) | (simp [Int.not_le.2 (show st < 0 by omega)]; done) | (simp [Int.not_lt.2 (show V ≤ so by omega)]; done) | (simp [Int.not_le.2 (show so < 0 by omega)]; done) | (simp [*]; omega) | (simp; omega)), HB2.out⟩)
    · obtain ⟨W1, hW1⟩ : ∃ W1, W1 = (w.alloc (.cells #[.int .i64 V, .slice A L.length c] 24)).alloc (.cells #[.int .u8 k, .int .i64 st, .int .i64 so, .int .i64 dm, .int .i64 ep] 26) := ⟨_, rfl⟩
      have hal := al2 w (.cells #[.int .i64 V, .slice A L.length c] 24) (.cells #[.int .u8 k, .int .i64 st, .int .i64 so, .int .i64 dm, .int .i64 ep] 26)
      rw [← hW1] at hal
      obtain ⟨b0, e0⟩ : ∃ b0, b0 = w.heap.size := ⟨_, rfl⟩
      obtain ⟨b1, e1⟩ : ∃ b1, b1 = w.heap.size + 1 := ⟨_, rfl⟩
      obtain ⟨x0, x1, hb⟩ := hal
      rw [← e0] at x0; rw [← e1] at x1
      have X0 := Lib.hid x0; have X1 := Lib.hid x1; have HB := Lib.hid hb
      have HCK := Lib.hid (rcheck_any V A c L W1 (hL.below hb) hm)
      obtain ⟨g, hg⟩ : ∃ g, chk V L = g := ⟨_, rfl⟩
      rw [hg] at HCK hgz
      have HG := Lib.hid hg
      obtain ⟨n, hn⟩ : ∃ n, n = L.length := ⟨_, rfl⟩
      rw [← hn] at HCK X0 hW1 ⊢
      clear x0 x1 hb hg hn hL hm
      go_enter Tryz.func36, Tryz.ntmps36
      go_upto_region 1 with fail
      rw [← hW1]
      rw [show w.heap.size + 1 = b1 from e1.symm, show w.heap.size = b0 from e0.symm]
      clear hW1 e0 e1
      obtain ⟨k0, k1, _⟩ := Bx.cells X0.out
      go_wp2_with fail
      refine HCK.out.mono ?_
      rintro e w2 ⟨rfl, hb2⟩
      have Y0 := Lib.hid (keep X0.out hb2); have Y1 := Lib.hid (keep X1.out hb2); have HB2 := Lib.hid (step_below HB.out HB.out.size hb2)
      clear hb2 X0 X1 k0 k1 HCK
      have hg0 : g = 0 := hgz
      subst hg0
      obtain ⟨_, j1, j2, j3, j4, _⟩ := jb_cells Y1.out
      obtain ⟨j0, _, _, _, _, _⟩ := jb_cells Y1.out
      obtain ⟨k0, k1, _⟩ := Bx.cells Y0.out
      go_wp2
      all_goals (go_ret; exact ⟨Fx.ret_int (by unfold chkJ jobOk; rw [HG.out, if_pos rfl]; first | (simp [*]; done) | (simp [Int.not_le.2 (show st < 0 by omega)]; done) | (simp [Int.not_lt.2 (show V ≤ so by omega)]; done) | (simp [Int.not_le.2 (show so < 0 by omega)]; done) | (simp [*]; omega) | (simp; omega)), HB2.out⟩)
  · obtain ⟨W1, hW1⟩ : ∃ W1, W1 = (w.alloc (.cells #[.int .i64 V, .slice A L.length c] 24)).alloc (.cells #[.int .u8 k, .int .i64 st, .int .i64 so, .int .i64 dm, .int .i64 ep] 26) := ⟨_, rfl⟩
    have hal := al2 w (.cells #[.int .i64 V, .slice A L.length c] 24) (.cells #[.int .u8 k, .int .i64 st, .int .i64 so, .int .i64 dm, .int .i64 ep] 26)
    rw [← hW1] at hal
    obtain ⟨b0, e0⟩ : ∃ b0, b0 = w.heap.size := ⟨_, rfl⟩
    obtain ⟨b1, e1⟩ : ∃ b1, b1 = w.heap.size + 1 := ⟨_, rfl⟩
    obtain ⟨x0, x1, hb⟩ := hal
    rw [← e0] at x0; rw [← e1] at x1
    have X0 := Lib.hid x0; have X1 := Lib.hid x1; have HB := Lib.hid hb
    have HCK := Lib.hid (rcheck_any V A c L W1 (hL.below hb) hm)
    obtain ⟨g, hg⟩ : ∃ g, chk V L = g := ⟨_, rfl⟩
    rw [hg] at HCK hgz
    have HG := Lib.hid hg
    obtain ⟨n, hn⟩ : ∃ n, n = L.length := ⟨_, rfl⟩
    rw [← hn] at HCK X0 hW1 ⊢
    clear x0 x1 hb hg hn hL hm
    go_enter Tryz.func36, Tryz.ntmps36
    go_upto_region 1 with fail
    rw [← hW1]
    rw [show w.heap.size + 1 = b1 from e1.symm, show w.heap.size = b0 from e0.symm]
    clear hW1 e0 e1
    obtain ⟨k0, k1, _⟩ := Bx.cells X0.out
    go_wp2_with fail
    refine HCK.out.mono ?_
    rintro e w2 ⟨rfl, hb2⟩
    have Y0 := Lib.hid (keep X0.out hb2); have Y1 := Lib.hid (keep X1.out hb2); have HB2 := Lib.hid (step_below HB.out HB.out.size hb2)
    clear hb2 X0 X1 k0 k1 HCK
    have hg0 : g = 0 := hgz
    subst hg0
    obtain ⟨_, j1, j2, j3, j4, _⟩ := jb_cells Y1.out
    obtain ⟨j0, _, _, _, _, _⟩ := jb_cells Y1.out
    obtain ⟨k0, k1, _⟩ := Bx.cells Y0.out
    go_wp2
    all_goals (go_ret; exact ⟨Fx.ret_int (by unfold chkJ jobOk; rw [HG.out, if_pos rfl]; first | (simp [*]; done) | (simp [Int.not_le.2 (show st < 0 by omega)]; done) | (simp [Int.not_lt.2 (show V ≤ so by omega)]; done) | (simp [Int.not_le.2 (show so < 0 by omega)]; done) | (simp [*]; omega) | (simp; omega)), HB2.out⟩)
set_option maxRecDepth 100000 in
theorem rcheckj_any (k st so dm ep V : Int) (A : Option Addr) (c : Nat) (L : List Ed) (w : World) (hL : EAt w A L) (hm : L.length ≤ 9223372036854775807) :
    Calls Tryz.prog 36 #[.agg #[.int .i64 V, .slice A L.length c], .agg #[.int .u8 k, .int .i64 st, .int .i64 so, .int .i64 dm, .int .i64 ep]] w fun e w' => e = .returned (.int .i64 (chkJ k st so dm ep V L)) ∧ Below w.heap.size w w' := by
  by_cases hgz : chk V L = 0
  · by_cases h1 : k = 1
    · subst h1; exact rchk_1 st so dm ep V A c L w hL hm hgz
    · by_cases h2 : k = 2
      · subst h2; exact rchk_2 st so dm ep V A c L w hL hm hgz
      · by_cases h3 : k = 3
        · subst h3; exact rchk_3 st so dm ep V A c L w hL hm hgz
        · exact rchk_no k st so dm ep V A c L w hL hm hgz h1 h2 h3
  · obtain ⟨W1, hW1⟩ : ∃ W1, W1 = (w.alloc (.cells #[.int .i64 V, .slice A L.length c] 24)).alloc (.cells #[.int .u8 k, .int .i64 st, .int .i64 so, .int .i64 dm, .int .i64 ep] 26) := ⟨_, rfl⟩
    have hal := al2 w (.cells #[.int .i64 V, .slice A L.length c] 24) (.cells #[.int .u8 k, .int .i64 st, .int .i64 so, .int .i64 dm, .int .i64 ep] 26)
    rw [← hW1] at hal
    obtain ⟨b0, e0⟩ : ∃ b0, b0 = w.heap.size := ⟨_, rfl⟩
    obtain ⟨b1, e1⟩ : ∃ b1, b1 = w.heap.size + 1 := ⟨_, rfl⟩
    obtain ⟨x0, x1, hb⟩ := hal
    rw [← e0] at x0; rw [← e1] at x1
    have X0 := Lib.hid x0; have X1 := Lib.hid x1; have HB := Lib.hid hb
    have HCK := Lib.hid (rcheck_any V A c L W1 (hL.below hb) hm)
    obtain ⟨g, hg⟩ : ∃ g, chk V L = g := ⟨_, rfl⟩
    rw [hg] at HCK hgz
    have HG := Lib.hid hg
    obtain ⟨n, hn⟩ : ∃ n, n = L.length := ⟨_, rfl⟩
    rw [← hn] at HCK X0 hW1 ⊢
    clear x0 x1 hb hg hn hL hm
    go_enter Tryz.func36, Tryz.ntmps36
    go_upto_region 1 with fail
    rw [← hW1]
    rw [show w.heap.size + 1 = b1 from e1.symm, show w.heap.size = b0 from e0.symm]
    clear hW1 e0 e1
    obtain ⟨k0, k1, _⟩ := Bx.cells X0.out
    go_wp2_with fail
    refine HCK.out.mono ?_
    rintro e w2 ⟨rfl, hb2⟩
    have Y0 := Lib.hid (keep X0.out hb2); have Y1 := Lib.hid (keep X1.out hb2); have HB2 := Lib.hid (step_below HB.out HB.out.size hb2)
    clear hb2 X0 X1 k0 k1 HCK
    have hg0 : ¬ g = 0 := hgz
    go_wp2
    go_ret
    exact ⟨Fx.ret_int (by unfold chkJ; rw [HG.out, if_neg hgz]), HB2.out⟩
end Go.Proofs.YtbbmgandkmlojaaGreat.Al

