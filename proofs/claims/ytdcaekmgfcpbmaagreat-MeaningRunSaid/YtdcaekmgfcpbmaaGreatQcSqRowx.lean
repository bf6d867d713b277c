/-
  What is proved here: words for mail in memory: a slice of mail that can be read, and one that the call made; append of one. No condition. What is proved here: contracts of inbox.sameMail, of slices.EqualFunc over it, of inbox.Same, and of the document's own Same: which mail is the same. Condition: lengths fit an int. What is proved here: contracts of the document's own Fold, mail and Same. Conditions: lengths fit an int; fewer than 1000000 messages. What is proved here: a contract of the document's own mail: what comes to a vertex out of rows. Conditions: lengths fit an int. What is proved here: a contract of inbox.Fold: to each vertex what all messages to it come to. Conditions: vertices fit an int, fewer than 1000000 messages. What is proved here: a contract of inbox.Merge: the mail of vertices. Conditions: vertices fit an int, fewer than 10^9 messages, fewer than 1000000 vertices asked for. What is proved here: a contract of the document's own Merge. Conditions: fewer than 10^9 messages, fewer than 1000000 vertices asked for. What is proved here: plain facts on what all vertices send: to vertices of the graph, and not too many. No program.
-/
import Derived.Test.YtdcaekmgfcpbmaaGreatQcInTx
import Derived.Maps.AppendAt
import Derived.Test.YtdcaekmgfcpbmaaGreatQcPaTail
import Derived.Test.YtdcaekmgfcpbmaaGreatQcSqMath
namespace Go.Proofs.YtdcaekmgfcpbmaaGreat.In
open Go.RowKit Go.Sort Gr Wd Ws Lb Al
def kc (m : Ml) : List Value := [.bool m.1, .int .i64 m.2]
theorem kc_len (m : Ml) : (kc m).length = 2 := rfl
def kcs (L : List Ml) : List Value := L.flatMap kc
theorem kcs_append (a b : List Ml) : kcs (a ++ b) = kcs a ++ kcs b := by simp [kcs]
theorem kcs_at : ∀ (L : List Ml) (k : Nat) (e : Ml), L[k]? = some e → (kcs L)[k * 2]? = some (.bool e.1) ∧ (kcs L)[k * 2 + 1]? = some (.int .i64 e.2)
  | [], k, e, h => by simp at h
  | x :: L, 0, e, h => by
    simp at h; subst h
    exact ⟨rfl, rfl⟩
  | x :: L, k + 1, e, h => by
    have h' : L[k]? = some e := by simpa using h
    obtain ⟨h0, h1⟩ := kcs_at L k e h'
    have key : ∀ j, (kcs (x :: L))[j + 2]? = (kcs L)[j]? := fun j => by
      show (kc x ++ kcs L)[j + 2]? = _
      rw [List.getElem?_append_right (by rw [kc_len]; omega), kc_len]; congr 1
    refine ⟨?_, ?_⟩
    · rw [show (k + 1) * 2 = k * 2 + 2 by omega, key]; exact h0
    · rw [show (k + 1) * 2 + 1 = k * 2 + 1 + 2 by omega, key]; exact h1
def KAt (w : World) (A : Option Addr) (L : List Ml) : Prop := ∀ (k : Nat) (e : Ml), L[k]? = some e → ∃ bk o, A = some ⟨bk, o, none⟩ ∧
  w.cell? ⟨bk, o + k * 2, none⟩ = some (.bool e.1) ∧ w.cell? ⟨bk, o + k * 2 + 1, none⟩ = some (.int .i64 e.2)
theorem KAt.below {w w' : World} {A : Option Addr} {L : List Ml} (h : KAt w A L) (hb : Below w.heap.size w w') : KAt w' A L := by
  intro k e hx
  obtain ⟨bk, o, hA, c0, c1⟩ := h k e hx
  exact ⟨bk, o, hA, (hb.cell (block_lt_of_cell c0)).trans c0, (hb.cell (block_lt_of_cell c1)).trans c1⟩
theorem KAt.nil (w : World) (A : Option Addr) : KAt w A [] := fun k e h => by simp at h
theorem KAt.take {w : World} {A : Option Addr} {L : List Ml} (h : KAt w A L) (k : Nat) : KAt w A (L.take k) := fun i e hi => h i e (by
  rw [List.getElem?_take] at hi; split at hi
  · exact hi
  · cases hi)
theorem KAt.drop {w : World} {g o : Nat} {L : List Ml} (h : KAt w (some ⟨g, o, none⟩) L) (k : Nat) : KAt w (some ⟨g, o + k * 2, none⟩) (L.drop k) := fun i e hi => by
  rw [List.getElem?_drop] at hi
  obtain ⟨bk, o', e1, c0, c1⟩ := h (k + i) e hi
  cases e1
  rw [Nat.add_mul, ← Nat.add_assoc] at c0 c1
  exact ⟨g, o + k * 2, rfl, c0, c1⟩
def KOwn (w : World) (B : Nat) (v : Value) (L : List Ml) : Prop := w.ownsRow B 114 2 v L.length (kcs L)
theorem KOwn.none_ (w : World) (B : Nat) : KOwn w B (.slice none 0 0) [] := World.ownsRow_nil _ _ _ _
theorem KOwn.below {w w' : World} {B : Nat} {v : Value} {L : List Ml} (h : KOwn w B v L) (hb : Below w.heap.size w w') : KOwn w' B v L := own_below h hb
theorem KOwn.alloc {w : World} {B : Nat} {v : Value} {L : List Ml} (h : KOwn w B v L) (o : Obj) : KOwn (w.alloc o) B v L := World.ownsRow.alloc h o
theorem KOwn.mono {w : World} {B B' : Nat} {v : Value} {L : List Ml} (h : KOwn w B v L) (hb : B' ≤ B) : KOwn w B' v L := own_mono h hb
theorem KOwn.room {w : World} {B : Nat} {v : Value} {L : List Ml} (h : KOwn w B v L) : ∃ A c, v = .slice A L.length c ∧ KAt w A L ∧ L.length ≤ c ∧ c ≤ maxLen ∧ ((A = none ∧ c = 0) ∨ ∃ g, A = some ⟨g, 0, none⟩ ∧ B ≤ g ∧ g < w.heap.size ∧ ∀ j, w.frozen? ⟨g, j, none⟩ = false) := by
  obtain ⟨h0, h1 | ⟨g, cap, cur, h1, h2, h3, h4, h5, h6, h7⟩⟩ := h
  · have : L = [] := List.eq_nil_of_length_eq_zero h1.2
    subst this
    exact ⟨none, 0, h1.1, KAt.nil _ _, Nat.le_refl _, Nat.zero_le _, Or.inl ⟨rfl, rfl⟩⟩
  · refine ⟨some ⟨g, 0, none⟩, cap, h1, fun k e hx => ?_, h4, h5, Or.inr ⟨g, rfl, h2, lt_of_block h3, fun j => Lib.frozen_of_heap h3 j⟩⟩
    have hk := lt_at hx
    have key : ∀ j, j < L.length * 2 → w.cell? ⟨g, 0 + j, none⟩ = (kcs L)[j]? := fun j hj => by
      rw [Nat.zero_add, cell_of_row w g j _ 114 (0, 0) h3]
      have e1 : cur[j]? = (cur.toList.take (L.length * 2))[j]? := by
        rw [List.getElem?_take, if_pos hj, Array.getElem?_toList]
      rw [e1, h7]
    obtain ⟨a0, a1⟩ := kcs_at L k e hx
    refine ⟨g, 0, rfl, ?_, ?_⟩
    · rw [key _ (by omega)]; exact a0
    · rw [Nat.add_assoc, key _ (by omega)]; exact a1
theorem KOwn.lt {w : World} {B : Nat} {v : Value} {L : List Ml} (h : KOwn w B v L) (j : Nat) (e : v.ownBlock = some j) : B ≤ j := (own_lt h j e).1
theorem infoK : (Tryz.prog.info? 114).map (fun i => (i.zero, i.size, i.bytes)) = some (some (.agg #[.bool false, .int .i64 0]), 2, 16) := by kernel_rfl
theorem app_k {w : World} {ops : Array Oper} {rest : List Oper} {o : Oper} {a : Act} {Q : Exit → Act → World → Prop} (hgd : o.guard = none) (s x : Operand)
    (ho : o.op = .call { callee := .builtin .append, args := #[s, x], argTypes := #[43, 43] }) (B : Nat) (v : Value) (L : List Ml) (e0 : Bool) (e1 : Int) (hs : a.eval s = v) (hown : KOwn w B v L)
    (g : Nat) (hx : a.eval x = .slice (some ⟨g, 0, none⟩) 1 1) (hg : w.heap[g]? = some (.cells #[.bool e0, .int .i64 e1] 114 (0, 0))) (hn : L.length < 1000000000) (hB : B ≤ w.heap.size)
    (h : ∀ v' w', KOwn w' B v' (L ++ [(e0, e1)]) → w.grownBy w' v.ownBlock → wpList Tryz.prog ops Q rest (a.put o.dst v') w') : wpList Tryz.prog ops Q (o :: rest) a w := by
  obtain ⟨i0, hi, hz0, hz1, hz2⟩ := info_parts infoK
  refine wpList_append_own w hgd s x 43 ho B 114 i0 _ 2 16 Tryz.underlying43 hi hz0 hz1 hz2 rfl (by decide) v L.length (kcs L) hs hown ⟨g, 0, none⟩ 1 1 (kc (e0, e1)) hx rfl ?_ ?_ ?_ ?_ hB ?_
  · intro j u hu
    rw [add_plain, Lib.cell_of_heap hg]
    rcases j with _ | _ | j
    · simpa [kc] using hu
    · simpa [kc] using hu
    · simp [kc] at hu
  · intro u hu
    simp only [kc, List.mem_cons, List.not_mem_nil, or_false] at hu
    rcases hu with rfl | rfl <;> rfl
  · unfold maxLen; omega
  · omega
  · intro v' w' h1 h2 _
    refine h v' w' ?_ h2
    unfold KOwn
    rw [kcs_append, List.length_append]
    have : kcs [(e0, e1)] = kc (e0, e1) := by simp [kcs]
    rw [this]; exact h1
end Go.Proofs.YtdcaekmgfcpbmaaGreat.In
namespace Go.Proofs.YtdcaekmgfcpbmaaGreat.In
open Go.RowKit Go.Maps Gr Wd Ws Fx Rk Lb Al
def eqM (a b : Ml) : Bool := a.1 == b.1 && (!a.1 || a.2 == b.2)
theorem sameB_cons (x y : Ml) (a b : List Ml) : sameB (x :: a) (y :: b) = (eqM x y && sameB a b) := by
  unfold sameB eqM
  simp only [List.length_cons, List.zip_cons_cons, List.all_cons]
  cases h : (a.length == b.length) <;> simp at h <;> simp [h]
theorem sameB_len {a b : List Ml} (h : a.length ≠ b.length) : sameB a b = false := by
  unfold sameB
  rw [show (a.length == b.length) = false by simpa using h]; rfl
set_option maxRecDepth 100000 in
theorem sameMail_any (p : Bool) (x : Int) (q : Bool) (y : Int) (w : World) : Calls Tryz.prog 84 #[.agg #[.bool p, .int .i64 x], .agg #[.bool q, .int .i64 y]] w fun e w' => e = .returned (.bool (eqM (p, x) (q, y))) ∧ Below w.heap.size w w' := by
  obtain ⟨r, hr⟩ : ∃ r, eqM (p, x) (q, y) = r := ⟨_, rfl⟩
  rw [hr]
  have HR := Lib.hid hr; clear hr
  have hal := al2 w (.cells #[.bool p, .int .i64 x] 114) (.cells #[.bool q, .int .i64 y] 114)
  obtain ⟨W1, hW1⟩ : ∃ W1, W1 = (w.alloc (.cells #[.bool p, .int .i64 x] 114)).alloc (.cells #[.bool q, .int .i64 y] 114) := ⟨_, rfl⟩
  rw [← hW1] at hal
  obtain ⟨b0, e0⟩ : ∃ b0, b0 = w.heap.size := ⟨_, rfl⟩
  obtain ⟨b1, e1⟩ : ∃ b1, b1 = w.heap.size + 1 := ⟨_, rfl⟩
  obtain ⟨x0, x1, hb⟩ := hal
  rw [← e0] at x0; rw [← e1] at x1
  have HB := Lib.hid hb
  obtain ⟨m0, m1, _⟩ := ml_cells x0
  obtain ⟨n0, n1, _⟩ := ml_cells x1
  clear hb x0 x1
  cases p <;> cases q
  · have e3 : r = true := HR.out.symm
    subst e3
    go_enter Tryz.func84, Tryz.ntmps84
    go_upto_region 1 with fail
    rw [← hW1, show w.heap.size + 1 = b1 from e1.symm, show w.heap.size = b0 from e0.symm]
    clear hW1 e0 e1
    go_wp2
    go_ret
    exact ⟨rfl, HB.out⟩
  · have e3 : r = false := HR.out.symm
    subst e3
    go_enter Tryz.func84, Tryz.ntmps84
    go_upto_region 1 with fail
    rw [← hW1, show w.heap.size + 1 = b1 from e1.symm, show w.heap.size = b0 from e0.symm]
    clear hW1 e0 e1
    go_wp2
    go_ret
    exact ⟨rfl, HB.out⟩
  · have e3 : r = false := HR.out.symm
    subst e3
    go_enter Tryz.func84, Tryz.ntmps84
    go_upto_region 1 with fail
    rw [← hW1, show w.heap.size + 1 = b1 from e1.symm, show w.heap.size = b0 from e0.symm]
    clear hW1 e0 e1
    go_wp2
    go_ret
    exact ⟨rfl, HB.out⟩
  · by_cases hxy : x = y
    · have e3 : r = true := by rw [← HR.out]; unfold eqM; simp [hxy]
      subst e3
      subst hxy
      go_enter Tryz.func84, Tryz.ntmps84
      go_upto_region 1 with fail
      rw [← hW1, show w.heap.size + 1 = b1 from e1.symm, show w.heap.size = b0 from e0.symm]
      clear hW1 e0 e1
      go_wp2
      go_ret
      exact ⟨rfl, HB.out⟩
    · have e3 : r = false := by rw [← HR.out]; unfold eqM; simp [hxy]
      subst e3
      have hq : (x == y) = false := by simpa using hxy
      go_enter Tryz.func84, Tryz.ntmps84
      go_upto_region 1 with fail
      rw [← hW1, show w.heap.size + 1 = b1 from e1.symm, show w.heap.size = b0 from e0.symm]
      clear hW1 e0 e1
      go_wp2
      go_ret
      exact ⟨rfl, HB.out⟩
def EqRel (w : World) (a b : List Ml) (gk : Nat) (i : Value) (wr : World) : Prop :=
  ∃ q : Nat, q + gk = a.length ∧ i = .int .i64 (q : Int) ∧ Hid (Below w.heap.size w wr) ∧ Hid (sameB a b = sameB (a.drop q) (b.drop q))
set_option maxRecDepth 100000 in
set_option maxHeartbeats 4000000 in
theorem equalFunc_any (A B : Option Addr) (n m c d : Nat) (a b : List Ml) (w : World) (hA : KAt w A a) (hB : KAt w B b) (hn : a.length = n) (hm : b.length = m) (hn2 : n ≤ 9223372036854775807) (hm2 : m ≤ 9223372036854775807) :
    Calls Tryz.prog 83 #[.slice A n c, .slice B m d, .func (.func 84) #[] #[]] w fun e w' => e = .returned (.bool (sameB a b)) ∧ Hid (Below w.heap.size w w') := by
  have HA := Lib.hid hA; have HBb := Lib.hid hB; have HN := Lib.hid hn; have HM := Lib.hid hm
  clear hA hB hn hm
  obtain ⟨r, hr⟩ : ∃ r, sameB a b = r := ⟨_, rfl⟩
  rw [hr]
  have HR := Lib.hid hr; clear hr
  by_cases hnm : n = m
  · subst hnm
    go_enter Tryz.func83, Tryz.ntmps83
    go_wp2
    go_loopg [17] n (fun gk i wr => EqRel w a b gk i wr)
    case atStart => exact ⟨0, by have := HN.out; omega, rfl, Lib.hid (Below.refl _ w), Lib.hid rfl⟩
    case round =>
      obtain ⟨q, hq, rfl, HB, HD⟩ := hrel
      rw [HN.out] at hq
      by_cases hlt : q < n
      · obtain ⟨⟨p, x⟩, hp⟩ := at_lt a q (by rw [HN.out]; exact hlt)
        obtain ⟨⟨s, y⟩, hs⟩ := at_lt b q (by rw [HM.out]; exact hlt)
        obtain ⟨bk, o, rfl, c0, c1⟩ := (HA.out.below HB.out) q _ hp
        obtain ⟨bk', o', rfl, d0, d1⟩ := (HBb.out.below HB.out) q _ hs
        simp only at c0 c1 d0 d1
        have HD2 : Hid (sameB a b = (eqM (p, x) (s, y) && sameB (a.drop (q + 1)) (b.drop (q + 1)))) := Lib.hid (by rw [HD.out, drop_at hp, drop_at hs, sameB_cons])
        obtain ⟨t, ht⟩ : ∃ t, eqM (p, x) (s, y) = t := ⟨_, rfl⟩
        have HC := Lib.hid (fun W => sameMail_any p x s y W)
        rw [ht] at HC HD2
        clear hp hs ht HD
        go_upto_region 6 with fail
        obtain ⟨W1, hW1⟩ : ∃ W1, W1 = wr.alloc (.cells #[.bool p, .int .i64 x] 114) := ⟨_, rfl⟩
        have x0 : W1.heap[wr.heap.size]? = some (.cells #[.bool p, .int .i64 x] 114 (0, 0)) := by rw [hW1]; exact heap_alloc_new wr _
        have hb1 : Below wr.heap.size wr W1 := by rw [hW1]; exact (Below.refl _ wr).alloc (Nat.le_refl _) _
        rw [← hW1]
        have d0' := (hb1.cell (block_lt_of_cell d0)).trans d0
        have d1' := (hb1.cell (block_lt_of_cell d1)).trans d1
        obtain ⟨b0, e0⟩ : ∃ b0, b0 = wr.heap.size := ⟨_, rfl⟩
        rw [← e0] at x0 ⊢
        have HB1 := Lib.hid (step_below HB.out HB.out.size hb1)
        clear c0 c1 d0 d1 hW1 e0 hb1
        go_upto_region 7 with fail
        obtain ⟨W2, hW2⟩ : ∃ W2, W2 = W1.alloc (.cells #[.bool s, .int .i64 y] 114) := ⟨_, rfl⟩
        have x1 : W2.heap[W1.heap.size]? = some (.cells #[.bool s, .int .i64 y] 114 (0, 0)) := by rw [hW2]; exact heap_alloc_new W1 _
        have hb2 : Below W1.heap.size W1 W2 := by rw [hW2]; exact (Below.refl _ W1).alloc (Nat.le_refl _) _
        rw [← hW2]
        have x0' := keep x0 hb2
        obtain ⟨b1, e1⟩ : ∃ b1, b1 = W1.heap.size := ⟨_, rfl⟩
        rw [← e1] at x1 ⊢
        have HB2 := Lib.hid (step_below HB1.out HB1.out.size hb2)
        obtain ⟨m0, m1, _⟩ := ml_cells x0'
        obtain ⟨n0, n1, _⟩ := ml_cells x1
        clear x0 x0' x1 hW2 e1 hb2 d0' d1'
        go_wp2_with fail
        refine (HC.out _).mono ?_
        rintro e w3 ⟨rfl, hb3⟩
        have HB3 := Lib.hid (step_below HB2.out HB2.out.size hb3)
        clear hb3 m0 m1 n0 n1
        cases t with
        | true =>
          have HD3 : Hid (sameB a b = sameB (a.drop (q + 1)) (b.drop (q + 1))) := Lib.hid (by rw [HD2.out]; rfl)
          go_wp2
          go_roundg (gk - 1)
          case measure => omega
          case rel => exact ⟨q + 1, by have := HN.out; omega, by go_num, HB3, HD3⟩
        | false =>
          have e3 : r = false := by rw [← HR.out, HD2.out]; rfl
          subst e3
          go_wp2
          go_ret
          exact ⟨rfl, HB3⟩
      · have e3 : r = true := by
          rw [← HR.out, HD.out, List.drop_eq_nil_of_le (by rw [HN.out]; omega), List.drop_eq_nil_of_le (by rw [HM.out]; omega)]; rfl
        subst e3
        go_wp2
        go_ret
        exact ⟨rfl, HB⟩
  · have e3 : r = false := by rw [← HR.out]; exact sameB_len (by rw [HN.out, HM.out]; exact hnm)
    subst e3
    go_enter Tryz.func83, Tryz.ntmps83
    go_wp2
    go_ret
    exact ⟨rfl, Lib.hid (Below.refl _ w)⟩
set_option maxRecDepth 100000 in
theorem same_any (A B : Option Addr) (n m c d : Nat) (a b : List Ml) (w : World) (hA : KAt w A a) (hB : KAt w B b) (hn : a.length = n) (hm : b.length = m) (hn2 : n ≤ 9223372036854775807) (hm2 : m ≤ 9223372036854775807) :
    Calls Tryz.prog 63 #[.slice A n c, .slice B m d] w fun e w' => e = .returned (.bool (sameB a b)) ∧ Hid (Below w.heap.size w w') := by
  have HC := Lib.hid (fun W (h : Below w.heap.size w W) => equalFunc_any A B n m c d a b W (hA.below h) (hB.below h) hn hm hn2 hm2)
  obtain ⟨r, hr⟩ : ∃ r, sameB a b = r := ⟨_, rfl⟩
  rw [hr] at HC ⊢
  clear hA hB hn hm hr
  go_enter Tryz.func63, Tryz.ntmps63
  go_wp2_with fail
  refine (HC.out _ (Below.refl _ w)).mono ?_
  rintro e w' ⟨rfl, hb⟩
  go_wp2
  go_ret
  exact ⟨rfl, hb⟩
end Go.Proofs.YtdcaekmgfcpbmaaGreat.In
namespace Go.Proofs.YtdcaekmgfcpbmaaGreat.In
open Go.RowKit Go.Maps Gr Wd Ws Fx Rk Lb Al
structure RfH (w wr : World) (b : Nat) (k st so dm ep : Int) (v : Value) (L : List Ms) : Prop where
  below : Below w.heap.size w wr
  box : wr.heap[b]? = some (.cells #[.int .u8 k, .int .i64 st, .int .i64 so, .int .i64 dm, .int .i64 ep] 40 (0, 0))
  row : MOwn wr w.heap.size v (putM k [] L)
end Go.Proofs.YtdcaekmgfcpbmaaGreat.In
namespace Go.Proofs.YtdcaekmgfcpbmaaGreat.In
open Go.RowKit Go.Maps Gr Wd Ws Fx Rk Lb Al
structure RmH (w wr : World) (b0 b1 b2 : Nat) (k st so dm ep : Int) (m : Ml) : Prop where
  below : Below w.heap.size w wr
  box : wr.heap[b0]? = some (.cells #[.int .u8 k, .int .i64 st, .int .i64 so, .int .i64 dm, .int .i64 ep] 40 (0, 0))
  res : wr.heap[b1]? = some (.cells #[.bool false, .int .i64 0] 114 (0, 0))
  ml : wr.heap[b2]? = some (.cells #[.bool m.1, .int .i64 m.2] 114 (0, 0))
theorem RmH.step {w w1 w2 : World} {b0 b1 b2 : Nat} {k st so dm ep : Int} {m : Ml} (h : RmH w w1 b0 b1 b2 k st so dm ep m) (hb : Below w1.heap.size w1 w2) : RmH w w2 b0 b1 b2 k st so dm ep m :=
  ⟨step_below h.below h.below.size hb, keep h.box hb, keep h.res hb, keep h.ml hb⟩
theorem set_off {W : World} {b c : Nat} {o : Obj} (h : W.heap[b]? = some o) (hn : b ≠ c) (i : Nat) (u : Value) : (W.setCell ⟨c, i, none⟩ u).heap[b]? = some o := by
  rw [heap_setCell_other W ⟨c, i, none⟩ b u hn]; exact h
theorem RmH.put {w w1 : World} {b0 b1 b2 : Nat} {k st so dm ep : Int} {m : Ml} (h : RmH w w1 b0 b1 b2 k st so dm ep m) (hw : w.heap.size ≤ b2) (h0 : b0 ≠ b2) (h1 : b1 ≠ b2) (p : Bool) (y : Int) :
    RmH w ((w1.setCell ⟨b2, 0, none⟩ (.bool p)).setCell ⟨b2, 1, none⟩ (.int .i64 y)) b0 b1 b2 k st so dm ep (p, y) :=
  ⟨(h.below.setCell (p := ⟨b2, 0, none⟩) hw _).setCell (p := ⟨b2, 1, none⟩) hw _, set_off (set_off h.box h0 _ _) h0 _ _, set_off (set_off h.res h1 _ _) h1 _ _, put_ml h.ml p y⟩
end Go.Proofs.YtdcaekmgfcpbmaaGreat.In
namespace Go.Proofs.YtdcaekmgfcpbmaaGreat.In
open Go.RowKit Go.Maps Gr Wd Ws Fx Rk Lb Al
def Off (A : Option Addr) (r : Option Nat) : Prop := ∀ a, A = some a → some a.block ≠ r
theorem IAt.grown {w w' : World} {A : Option Addr} {l : List Int} {r : Option Nat} (h : IAt w A l) (hg : w.grownBy w' r) (ho : Off A r) : IAt w' A l := by
  intro k x hx
  obtain ⟨bk, o, hA, c⟩ := h k x hx
  refine ⟨bk, o, hA, ?_⟩
  have := hg.block bk (block_lt_of_cell c) (ho _ hA)
  unfold World.cell? at c ⊢
  simp only at c ⊢
  rw [this]; exact c
theorem MAt.grown {w w' : World} {A : Option Addr} {l : List Ms} {r : Option Nat} (h : MAt w A l) (hg : w.grownBy w' r) (ho : Off A r) : MAt w' A l := by
  intro k x hx
  obtain ⟨bk, o, hA, c, d⟩ := h k x hx
  have := hg.block bk (block_lt_of_cell c) (ho _ hA)
  refine ⟨bk, o, hA, ?_, ?_⟩
  · unfold World.cell? at c ⊢; simp only at c ⊢; rw [this]; exact c
  · unfold World.cell? at d ⊢; simp only at d ⊢; rw [this]; exact d
theorem CM.len {w : World} {M : Nat} {k : Int} {L : List Ms} (h : CM w M k L) : ∃ n : Nat, n ≤ L.length ∧ ∀ ty, (Builtin.len_ #[150] ty #[.map (some M)]).run Tryz.prog w = .ok (.int .i64 (n : Int)) w := by
  obtain ⟨D, h1, h2⟩ := h
  exact ⟨Maps.size D, h1.size_le, fun ty => h1.len Tryz.underlying150 ty⟩
theorem CM.grown {w w' : World} {M : Nat} {k : Int} {L : List Ms} {r : Option Nat} (h : CM w M k L) (hg : w.grownBy w' r) (hr : some M ≠ r) : CM w' M k L := h.kept (hg.block M h.lt hr)
end Go.Proofs.YtdcaekmgfcpbmaaGreat.In
namespace Go.Proofs.YtdcaekmgfcpbmaaGreat.In
open Go.RowKit Go.Maps Gr Wd Ws Fx Rk Lb Al
def OwnIn (l : List Int) : Prop := ∀ x ∈ l, -9223372036854775808 ≤ x ∧ x ≤ 9223372036854775807
theorem mergeM_take {k : Int} {own : List Int} {rows : List (List Ms)} {q : Nat} {x : Int} (h : own[q]? = some x) : mergeM k (own.take q) rows ++ [mlOf (mailM k x rows.flatten)] = mergeM k (own.take (q + 1)) rows := by
  rw [take_at h]; unfold mergeM; rw [List.map_append]; rfl
structure MgH (w wr : World) (M B : Nat) (k : Int) (Ls : List (List Ms)) (own : List Int) (v : Value) (q : Nat) : Prop where
  below : Below w.heap.size w wr
  map : CM wr M k Ls.flatten
  row : KOwn wr B v (mergeM k (own.take q) Ls)
def MgRel (w : World) (M B : Nat) (k : Int) (Ls : List (List Ms)) (own : List Int) (gk : Nat) (v i : Value) (wr : World) : Prop :=
  ∃ q : Nat, q + gk = own.length ∧ i = .int .i64 (q : Int) ∧ Hid (MgH w wr M B k Ls own v q)
theorem kb_alloc (w : World) (p : Bool) (y : Int) : (w.alloc (.cells #[.bool p, .int .i64 y] 114)).heap[w.heap.size]? = some (.cells #[.bool p, .int .i64 y] 114 (0, 0)) := heap_alloc_new w _
set_option maxRecDepth 100000 in
set_option maxHeartbeats 4000000 in
theorem merge_any (k st so dm ep : Int) (Ao A : Option Addr) (no co n c : Nat) (own : List Int) (Ls : List (List Ms)) (w : World) (hO : IAt w Ao own) (hno : own.length = no) (hR : RMs w A Ls) (hn : Ls.length = n) (hT : ToIn Ls.flatten) (hOI : OwnIn own) (hno2 : no < 1000000) (hn2 : n ≤ 1000000) (hF : Ls.flatten.length < 1000000000) :
    Calls Tryz.prog 82 #[.agg #[.int .u8 k, .int .i64 st, .int .i64 so, .int .i64 dm, .int .i64 ep], .slice Ao no co, .slice A n c] w fun e w' => ∃ v, e = .returned v ∧ Hid (KOwn w' w.heap.size v (mergeM k own Ls)) ∧ Hid (Below w.heap.size w w') := by
  have mixed := mixedI
  have HO := Lib.hid hO; have HNO := Lib.hid hno; have HOI := Lib.hid hOI
  have HR := Lib.hid hR; have HN := Lib.hid hn; have HT := Lib.hid hT; have HF := Lib.hid hF
  clear hO hno hOI hR hn hT hF
  obtain ⟨W1, hW1⟩ : ∃ W1, W1 = w.alloc (.cells #[.int .u8 k, .int .i64 st, .int .i64 so, .int .i64 dm, .int .i64 ep] 40) := ⟨_, rfl⟩
  have x0 : W1.heap[w.heap.size]? = some (.cells #[.int .u8 k, .int .i64 st, .int .i64 so, .int .i64 dm, .int .i64 ep] 40 (0, 0)) := by rw [hW1]; exact heap_alloc_new w _
  have hb1 : Below w.heap.size w W1 := by rw [hW1]; exact (Below.refl _ w).alloc (Nat.le_refl _) _
  have HC : Hid (Calls Tryz.prog 91 #[.agg #[.int .u8 k, .int .i64 st, .int .i64 so, .int .i64 dm, .int .i64 ep], .slice A n c] W1 fun e w' => (∃ M, e = .returned (.map (some M)) ∧ Hid (W1.heap.size ≤ M) ∧ Hid (CM w' M k Ls.flatten)) ∧ Hid (Below W1.heap.size W1 w')) := Lib.hid (by
    have := together_any k st so dm ep A c Ls W1 (HR.out.below hb1) HT.out (by rw [HN.out]; omega) HF.out
    rwa [HN.out] at this)
  have HB1 := Lib.hid hb1
  obtain ⟨j0, j1, j2, j3, j4, _⟩ := jb_cells x0
  clear x0 hb1
  go_enter Tryz.func82, Tryz.ntmps82
  go_upto_region 1 with fail
  rw [← hW1]
  clear hW1
  go_wp2_with fail
  refine (HC.out).mono ?_
  rintro e w2 ⟨⟨M, rfl, hMge, HM⟩, hb2⟩
  have HB2 := Lib.hid (step_below HB1.out HB1.out.size hb2.out)
  clear HC j0 j1 j2 j3 j4 hMge hb2 HB1
  obtain ⟨i0, hi, hz0, hz1, hz2⟩ := info_parts infoK
  obtain ⟨w3, hmk, hown3, hg3⟩ := run_make_own (P := Tryz.prog) (w := w2) w2.heap.size 43 114 i0 _ 2 Tryz.underlying43 hi hz0 hz1 .i64 .i64 no (by rw [hz2]; omega) (by unfold maxLen; omega) (Nat.le_refl _)
  have hb3 : Below w2.heap.size w2 w3 := ⟨hg3.os, hg3.tape, hg3.output, hg3.size, fun i hi => hg3.block i hi nofun⟩
  obtain ⟨B, hB⟩ : ∃ B, B = w2.heap.size := ⟨_, rfl⟩
  have HH : Hid (MgH w w3 M B k Ls own (.slice (some ⟨w2.heap.size, 0, none⟩) 0 no) 0) := Lib.hid ⟨step_below HB2.out HB2.out.size hb3, HM.out.below hb3, by rw [hB]; exact hown3⟩
  have HMB : Hid (M < B) := Lib.hid (by rw [hB]; exact HM.out.lt)
  have HBS : Hid (B ≤ w3.heap.size) := Lib.hid (by rw [hB]; exact hb3.size)
  have HBW : Hid (w.heap.size ≤ B) := Lib.hid (by rw [hB]; exact HB2.out.size)
  clear hown3 hg3 hb3 hi hz0 hz1 hz2 HM HB2 hB
  go_wp2_with fail
  go_loopg [8, 19] no (fun gk v i wr => MgRel w M B k Ls own gk v i wr ∧ Hid (B ≤ wr.heap.size))
  case atStart => exact ⟨⟨0, by have := HNO.out; omega, rfl, HH⟩, HBS⟩
  case round =>
    clear HH HBS
    obtain ⟨⟨q, hq, rfl, HH⟩, HBS⟩ := hrel
    rw [HNO.out] at hq
    by_cases hlt : q < no
    · obtain ⟨x, hx⟩ := at_lt own q (by rw [HNO.out]; exact hlt)
      obtain ⟨bk, o, rfl, c0⟩ := (HO.out.below HH.out.below) q x hx
      obtain ⟨⟨p, y⟩, hpy⟩ : ∃ m : Ml, mlOf (mailM k x Ls.flatten) = m := ⟨_, rfl⟩
      have hlk : (Instr.lookup 150 (.map (some M)) (.int .i64 x) false).run Tryz.prog wr = .ok (.agg #[.bool p, .int .i64 y]) wr := by
        have := HH.out.map.look (HOI.out x (List.mem_of_getElem? hx))
        rw [hpy] at this; exact this
      have HNX : Hid (mergeM k (own.take q) Ls ++ [(p, y)] = mergeM k (own.take (q + 1)) Ls) := Lib.hid (by rw [← mergeM_take hx, hpy])
      have HO1 := Lib.hid (HH.out.row.alloc (.cells #[.bool p, .int .i64 y] 114))
      have HN1 := Lib.hid (kb_alloc wr p y)
      have hb1 : Below wr.heap.size wr (wr.alloc (.cells #[.bool p, .int .i64 y] 114)) := (Below.refl _ wr).alloc (Nat.le_refl _) _
      have HB1 := Lib.hid (step_below HH.out.below HH.out.below.size hb1)
      have HM1 := Lib.hid (HH.out.map.below hb1)
      have HS1 : Hid (B ≤ (wr.alloc (.cells #[.bool p, .int .i64 y] 114)).heap.size) := Lib.hid (Nat.le_trans HBS.out hb1.size)
      have HSX : Hid ((mergeM k (own.take q) Ls).length < 1000000000) := Lib.hid (by rw [mergeM_len, List.length_take]; omega)
      clear hx hpy hb1
      go_wp2_with (at_builtin; refine app_k rfl (.tmp 23) (.tmp 27) rfl B _ _ p y rfl HO1.out _ rfl HN1.out HSX.out HS1.out ?_)
      intro v2 w2' ho2 hg2
      have HH2 : Hid (MgH w w2' M B k Ls own v2 (q + 1)) := Lib.hid
        ⟨Below.grown HB1.out hg2 HB1.out.size (fun j e => by have := (own_lt HO1.out j e).1; have := HBW.out; omega), HM1.out.grown hg2 (fun e => by have := (own_lt HO1.out M e.symm).1; have := HMB.out; omega), by rw [← HNX.out]; exact ho2⟩
      have HS2 : Hid (B ≤ w2'.heap.size) := Lib.hid (Nat.le_trans HS1.out hg2.size)
      clear ho2 hg2 HO1 HN1 HB1 HM1 HSX HS1 hlk c0 HNX HH HBS
      go_wp2
      go_roundg (gk - 1)
      case measure => omega
      case rel => exact ⟨⟨q + 1, by have := HNO.out; omega, by go_num, HH2⟩, HS2⟩
    · have HO9 := HH.out.row
      rw [show q = own.length by have := HNO.out; omega, List.take_length] at HO9
      have HO8 := Lib.hid (HO9.mono HBW.out)
      clear HO9
      go_wp2
      go_ret
      exact ⟨_, rfl, HO8, Lib.hid HH.out.below⟩
end Go.Proofs.YtdcaekmgfcpbmaaGreat.In
namespace Go.Proofs.YtdcaekmgfcpbmaaGreat.In
open Go.RowKit Go.Maps Gr Wd Ws Fx Rk Lb Al
structure RgH (w wr : World) (b : Nat) (k st so dm ep : Int) (Ls : List (List Ms)) (own : List Int) (v : Value) (q : Nat) : Prop where
  below : Below w.heap.size w wr
  box : wr.heap[b]? = some (.cells #[.int .u8 k, .int .i64 st, .int .i64 so, .int .i64 dm, .int .i64 ep] 40 (0, 0))
  row : KOwn wr (b + 1) v (mergeM k (own.take q) Ls)
  size : b + 1 ≤ wr.heap.size
end Go.Proofs.YtdcaekmgfcpbmaaGreat.In
namespace Go.Proofs.YtdcaekmgfcpbmaaGreat.Sq
open Gr Fx Rk Lb Al In
open Pa (vl bt)
theorem mem_putM {k : Int} {y : Ms} : ∀ (xs l : List Ms), y ∈ putM k l xs → (∃ x ∈ xs, y.1 = x.1) ∨ y ∈ l
  | [], l, h => Or.inr h
  | x :: xs, l, h => by
    rcases mem_putM xs (insM k l x) h with ⟨z, hz, e⟩ | h
    · exact Or.inl ⟨z, List.mem_cons_of_mem _ hz, e⟩
    · rcases mem_insM h with e | h
      · exact Or.inl ⟨x, List.mem_cons_self, e⟩
      · exact Or.inr h
theorem raw_to {V : Nat} {L : List Ed} (hf : ∀ e ∈ L, fitE (V : Int) e = true) (k v x : Int) (ch : Bool) : ∀ m ∈ rawM k v x ch (outE L v) (bckE L v), 0 ≤ m.1 ∧ m.1 < (V : Int) := by
  intro m hm
  have h1 : ∀ e ∈ outE L v, 0 ≤ e.2.1 ∧ e.2.1 < (V : Int) := fun e he => by have := (fitE_iff _ _).1 (hf e (List.mem_filter.1 he).1); omega
  have h2 : ∀ e ∈ bckE L v, 0 ≤ e.1 ∧ e.1 < (V : Int) := fun e he => by have := (fitE_iff _ _).1 (hf e (List.mem_filter.1 he).1); omega
  unfold rawM at hm
  split at hm
  · obtain ⟨e, he, rfl⟩ := List.mem_map.1 hm; exact h1 e he
  · split at hm
    · split at hm
      · obtain ⟨u, hu, rfl⟩ := List.mem_map.1 hm
        unfold nearL at hu
        rcases (mem_putAll _ _).1 hu with hu | hu
        · simp at hu
        · rcases List.mem_append.1 hu with hu | hu
          · obtain ⟨e, he, rfl⟩ := List.mem_map.1 (List.mem_filter.1 hu).1; exact h1 e he
          · obtain ⟨e, he, rfl⟩ := List.mem_map.1 (List.mem_filter.1 hu).1; exact h2 e he
      · split at hm
        · obtain ⟨e, he, rfl⟩ := List.mem_map.1 hm; exact h1 e he
        · simp at hm
    · simp at hm
theorem rows_toin {k : Int} {V : Nat} {L : List Ed} {vals : List Int} {chg : List Bool} (hf : ∀ e ∈ L, fitE (V : Int) e = true) (hV : V ≤ 512) : ToIn (rowsS k V L vals chg).flatten := by
  intro m hm
  obtain ⟨r, hr, hm⟩ := List.mem_flatten.1 hm
  obtain ⟨v, _, rfl⟩ := List.mem_map.1 hr
  rcases mem_putM _ _ hm with ⟨x, hx, e⟩ | h
  · have := raw_to hf _ _ _ _ x hx
    omega
  · simp at h
theorem own_in (V : Nat) (hV : V ≤ 512) : OwnIn ((List.range V).map fun (v : Nat) => (v : Int)) := by
  intro x hx
  obtain ⟨v, hv, rfl⟩ := List.mem_map.1 hx
  have := List.mem_range.1 hv
  omega
theorem flat_len (m : Nat) : ∀ l : List (List Ms), (∀ r ∈ l, r.length ≤ m) → l.flatten.length ≤ l.length * m
  | [], _ => by simp
  | r :: l, h => by
    have h1 := h r List.mem_cons_self
    have h2 := flat_len m l fun s hs => h s (List.mem_cons_of_mem _ hs)
    rw [List.flatten_cons, List.length_append, List.length_cons, Nat.add_mul]
    omega
theorem send_len (k v x : Int) (ch : Bool) (L M : List Ed) : (sendM k v x ch L M).length ≤ L.length + M.length := by
  have h := putM_len k (rawM k v x ch L M) []
  have h2 : (rawM k v x ch L M).length ≤ L.length + M.length := by
    unfold rawM
    split
    · simp [sentR]
    · split
      · split
        · have h3 := putAll_len (tos v L ++ froms v M) []
          have h4 := tos_len v L
          have h5 := froms_len v M
          simp only [sentL, List.length_map]
          unfold nearL
          simp only [List.length_append, List.length_nil] at h3
          omega
        · split <;> simp [sentP]
      · simp
  unfold sendM
  simp only [List.length_nil] at h
  omega
theorem rows_few (k : Int) (V : Nat) (L : List Ed) (vals : List Int) (chg : List Bool) (hV : V ≤ 512) (hL : L.length ≤ 1000) : (rowsS k V L vals chg).flatten.length < 1000000000 := by
  have h := flat_len 2000 (rowsS k V L vals chg) fun r hr => by
    obtain ⟨v, _, rfl⟩ := List.mem_map.1 hr
    have h1 := send_len k (v : Int) (vl vals v) (bt chg v) (outE L (v : Int)) (bckE L (v : Int))
    have h2 : (outE L (v : Int)).length ≤ L.length := List.length_filter_le _ _
    have h3 : (bckE L (v : Int)).length ≤ L.length := List.length_filter_le _ _
    omega
  have hl : (rowsS k V L vals chg).length = V := by simp [rowsS]
  rw [hl] at h
  omega
end Go.Proofs.YtdcaekmgfcpbmaaGreat.Sq
