/-
  What is proved here: contracts of inbox.with and of inbox.together: what came to whom. Conditions: vertices fit an int, fewer than 10^9 messages. What is proved here: contracts of inbox.sameMail, of slices.EqualFunc over it, of inbox.Same, and of the document's own Same: which mail is the same. Condition: lengths fit an int. What is proved here: a contract of inbox.together: what came to whom of rows of messages. Conditions: vertices fit an int, fewer than 10^9 messages.
-/
import Derived.Test.YtfbfckdabbaocaaQbInKx
import Derived.Test.YtfbfckdabbaocaaRows
import Derived.StillTail
import Derived.Deep.QuietTactic
import Derived.BigQuiet
import Derived.Lib.QuietBelow
import Derived.Carry
namespace Go.Proofs.Ytfbfckdabbaocaa.In
open Go.RowKit Go.Maps Gr Wd Ws Fx Rk Lb Al
theorem mixedI : Try.prog.follows .mixedOrders = true := by kernel_rfl
theorem ml_cells {W : World} {b : Nat} {p : Bool} {x : Int} (h : W.heap[b]? = some (.cells #[.bool p, .int .i64 x] 61 (0, 0))) : W.cell? ⟨b, 0, none⟩ = some (.bool p) ∧ W.cell? ⟨b, 1, none⟩ = some (.int .i64 x) ∧ (∀ j, W.frozen? ⟨b, j, none⟩ = false) ∧ b < W.heap.size :=
  ⟨by rw [Lib.cell_of_heap h]; rfl, by rw [Lib.cell_of_heap h]; rfl, fun j => Lib.frozen_of_heap h j, lt_of_block h⟩
theorem put_ml {W : World} {b : Nat} {p : Bool} {x : Int} (h : W.heap[b]? = some (.cells #[.bool p, .int .i64 x] 61 (0, 0))) (q : Bool) (y : Int) :
    ((W.setCell ⟨b, 0, none⟩ (.bool q)).setCell ⟨b, 1, none⟩ (.int .i64 y)).heap[b]? = some (.cells #[.bool q, .int .i64 y] 61 (0, 0)) := by
  have h1 := heap_setCell_same W b 0 _ 61 (.bool q) h
  have h2 := heap_setCell_same _ b 1 _ 61 (.int .i64 y) h1
  exact h2
end Go.Proofs.Ytfbfckdabbaocaa.In
namespace Go.Proofs.Ytfbfckdabbaocaa.In
open Go.RowKit Go.Maps Gr Wd Ws Fx Rk Lb Al
def eqM (a b : Ml) : Bool := a.1 == b.1 && (!a.1 || a.2 == b.2)
theorem sameB_cons (x y : Ml) (a b : List Ml) : sameB (x :: a) (y :: b) = (eqM x y && sameB a b) := by
  unfold sameB eqM
  simp only [List.length_cons, List.zip_cons_cons, List.all_cons]
  cases h : (a.length == b.length) <;> simp at h <;> simp [h]
theorem sameB_len {a b : List Ml} (h : a.length ≠ b.length) : sameB a b = false := by
  unfold sameB
  rw [show (a.length == b.length) = false by simpa using h]; rfl
set_option maxRecDepth 100000 in
theorem sameMail_any (p : Bool) (x : Int) (q : Bool) (y : Int) (w : World) : Calls Try.prog 71 #[.agg #[.bool p, .int .i64 x], .agg #[.bool q, .int .i64 y]] w fun e w' => e = .returned (.bool (eqM (p, x) (q, y))) ∧ Below w.heap.size w w' := by
  obtain ⟨r, hr⟩ : ∃ r, eqM (p, x) (q, y) = r := ⟨_, rfl⟩
  rw [hr]
  have HR := Lib.hid hr; clear hr
  have hal := al2 w (.cells #[.bool p, .int .i64 x] 61) (.cells #[.bool q, .int .i64 y] 61)
  obtain ⟨W1, hW1⟩ : ∃ W1, W1 = (w.alloc (.cells #[.bool p, .int .i64 x] 61)).alloc (.cells #[.bool q, .int .i64 y] 61) := ⟨_, rfl⟩
  rw [← hW1] at hal
  obtain ⟨b0, e0⟩ : ∃ b0, b0 = w.heap.size := ⟨_, rfl⟩
  obtain ⟨b1, e1⟩ : ∃ b1, b1 = w.heap.size + 1 := ⟨_, rfl⟩
  obtain ⟨x0, x1, hb⟩ := hal
  rw [← e0] at x0; rw [← e1] at x1
  have HB := Lib.hid hb
  obtain ⟨m0, m1, _⟩ := ml_cells x0
  obtain ⟨n0, n1, _⟩ := ml_cells x1
  clear hb x0 x1
  cases p <;> cases q
  · have e3 : r = true := HR.out.symm
    subst e3
    go_enter Try.func71, Try.ntmps71
    go_upto_region 1 with fail
    rw [← hW1, show w.heap.size + 1 = b1 from e1.symm, show w.heap.size = b0 from e0.symm]
    clear hW1 e0 e1
    go_wp2
    go_ret
    exact ⟨rfl, HB.out⟩
  · have e3 : r = false := HR.out.symm
    subst e3
    go_enter Try.func71, Try.ntmps71
    go_upto_region 1 with fail
    rw [← hW1, show w.heap.size + 1 = b1 from e1.symm, show w.heap.size = b0 from e0.symm]
    clear hW1 e0 e1
    go_wp2
    go_ret
    exact ⟨rfl, HB.out⟩
  · have e3 : r = false := HR.out.symm
    subst e3
    go_enter Try.func71, Try.ntmps71
    go_upto_region 1 with fail
    rw [← hW1, show w.heap.size + 1 = b1 from e1.symm, show w.heap.size = b0 from e0.symm]
    clear hW1 e0 e1
    go_wp2
    go_ret
    exact ⟨rfl, HB.out⟩
  · by_cases hxy : x = y
    · have e3 : r = true := by rw [← HR.out]; unfold eqM; simp [hxy]
      subst e3
      subst hxy
      go_enter Try.func71, Try.ntmps71
      go_upto_region 1 with fail
      rw [← hW1, show w.heap.size + 1 = b1 from e1.symm, show w.heap.size = b0 from e0.symm]
      clear hW1 e0 e1
      go_wp2
      go_ret
      exact ⟨rfl, HB.out⟩
    · have e3 : r = false := by rw [← HR.out]; unfold eqM; simp [hxy]
      subst e3
      have hq : (x == y) = false := by simpa using hxy
      go_enter Try.func71, Try.ntmps71
      go_upto_region 1 with fail
      rw [← hW1, show w.heap.size + 1 = b1 from e1.symm, show w.heap.size = b0 from e0.symm]
      clear hW1 e0 e1
      go_wp2
      go_ret
      exact ⟨rfl, HB.out⟩
def EqRel (w : World) (a b : List Ml) (gk : Nat) (i : Value) (wr : World) : Prop :=
  ∃ q : Nat, q + gk = a.length ∧ i = .int .i64 (q : Int) ∧ Hid (Below w.heap.size w wr) ∧ Hid (sameB a b = sameB (a.drop q) (b.drop q))
set_option maxRecDepth 100000 in
set_option maxHeartbeats 4000000 in
theorem equalFunc_any (A B : Option Addr) (n m c d : Nat) (a b : List Ml) (w : World) (hA : KAt w A a) (hB : KAt w B b) (hn : a.length = n) (hm : b.length = m) (hn2 : n ≤ 9223372036854775807) (hm2 : m ≤ 9223372036854775807) :
    Calls Try.prog 70 #[.slice A n c, .slice B m d, .func (.func 71) #[] #[]] w fun e w' => e = .returned (.bool (sameB a b)) ∧ Hid (Below w.heap.size w w') := by
  have HA := Lib.hid hA; have HBb := Lib.hid hB; have HN := Lib.hid hn; have HM := Lib.hid hm
  clear hA hB hn hm
  obtain ⟨r, hr⟩ : ∃ r, sameB a b = r := ⟨_, rfl⟩
  rw [hr]
  have HR := Lib.hid hr; clear hr
  by_cases hnm : n = m
  · subst hnm
    go_enter Try.func70, Try.ntmps70
    go_wp2
    go_loopg [17] n (fun gk i wr => EqRel w a b gk i wr)
    case atStart => exact ⟨0, by have := HN.out; omega, rfl, Lib.hid (Below.refl _ w), Lib.hid rfl⟩
    case round =>
      obtain ⟨q, hq, rfl, HB, HD⟩ := hrel
      rw [HN.out] at hq
      by_cases hlt : q < n
      · obtain ⟨⟨p, x⟩, hp⟩ := at_lt a q (by rw [HN.out]; exact hlt)
        obtain ⟨⟨s, y⟩, hs⟩ := at_lt b q (by rw [HM.out]; exact hlt)
        obtain ⟨bk, o, rfl, c0, c1⟩ := (HA.out.below HB.out) q _ hp
        obtain ⟨bk', o', rfl, d0, d1⟩ := (HBb.out.below HB.out) q _ hs
        simp only at c0 c1 d0 d1
        have HD2 : Hid (sameB a b = (eqM (p, x) (s, y) && sameB (a.drop (q + 1)) (b.drop (q + 1)))) := Lib.hid (by rw [HD.out, drop_at hp, drop_at hs, sameB_cons])
        obtain ⟨t, ht⟩ : ∃ t, eqM (p, x) (s, y) = t := ⟨_, rfl⟩
        have HC := Lib.hid (fun W => sameMail_any p x s y W)
        rw [ht] at HC HD2
        clear hp hs ht HD
        go_upto_region 6 with fail
        obtain ⟨W1, hW1⟩ : ∃ W1, W1 = wr.alloc (.cells #[.bool p, .int .i64 x] 61) := ⟨_, rfl⟩
        have x0 : W1.heap[wr.heap.size]? = some (.cells #[.bool p, .int .i64 x] 61 (0, 0)) := by rw [hW1]; exact heap_alloc_new wr _
        have hb1 : Below wr.heap.size wr W1 := by rw [hW1]; exact (Below.refl _ wr).alloc (Nat.le_refl _) _
        rw [← hW1]
        have d0' := (hb1.cell (block_lt_of_cell d0)).trans d0
        have d1' := (hb1.cell (block_lt_of_cell d1)).trans d1
        obtain ⟨b0, e0⟩ : ∃ b0, b0 = wr.heap.size := ⟨_, rfl⟩
        rw [← e0] at x0 ⊢
        have HB1 := Lib.hid (step_below HB.out HB.out.size hb1)
        clear c0 c1 d0 d1 hW1 e0 hb1
        go_upto_region 7 with fail
        obtain ⟨W2, hW2⟩ : ∃ W2, W2 = W1.alloc (.cells #[.bool s, .int .i64 y] 61) := ⟨_, rfl⟩
        have x1 : W2.heap[W1.heap.size]? = some (.cells #[.bool s, .int .i64 y] 61 (0, 0)) := by rw [hW2]; exact heap_alloc_new W1 _
        have hb2 : Below W1.heap.size W1 W2 := by rw [hW2]; exact (Below.refl _ W1).alloc (Nat.le_refl _) _
        rw [← hW2]
        have x0' := keep x0 hb2
        obtain ⟨b1, e1⟩ : ∃ b1, b1 = W1.heap.size := ⟨_, rfl⟩
        rw [← e1] at x1 ⊢
        have HB2 := Lib.hid (step_below HB1.out HB1.out.size hb2)
        obtain ⟨m0, m1, _⟩ := ml_cells x0'
        obtain ⟨n0, n1, _⟩ := ml_cells x1
        clear x0 x0' x1 hW2 e1 hb2 d0' d1'
        go_wp2_with fail
        refine (HC.out _).mono ?_
        rintro e w3 ⟨rfl, hb3⟩
        have HB3 := Lib.hid (step_below HB2.out HB2.out.size hb3)
        clear hb3 m0 m1 n0 n1
        cases t with
        | true =>
          have HD3 : Hid (sameB a b = sameB (a.drop (q + 1)) (b.drop (q + 1))) := Lib.hid (by rw [HD2.out]; rfl)
          go_wp2
          go_roundg (gk - 1)
          case measure => omega
          case rel => exact ⟨q + 1, by have := HN.out; omega, by go_num, HB3, HD3⟩
        | false =>
          have e3 : r = false := by rw [← HR.out, HD2.out]; rfl
          subst e3
          go_wp2
          go_ret
          exact ⟨rfl, HB3⟩
      · have e3 : r = true := by
          rw [← HR.out, HD.out, List.drop_eq_nil_of_le (by rw [HN.out]; omega), List.drop_eq_nil_of_le (by rw [HM.out]; omega)]; rfl
        subst e3
        go_wp2
        go_ret
        exact ⟨rfl, HB⟩
  · have e3 : r = false := by rw [← HR.out]; exact sameB_len (by rw [HN.out, HM.out]; exact hnm)
    subst e3
    go_enter Try.func70, Try.ntmps70
    go_wp2
    go_ret
    exact ⟨rfl, Lib.hid (Below.refl _ w)⟩
set_option maxRecDepth 100000 in
theorem same_any (A B : Option Addr) (n m c d : Nat) (a b : List Ml) (w : World) (hA : KAt w A a) (hB : KAt w B b) (hn : a.length = n) (hm : b.length = m) (hn2 : n ≤ 9223372036854775807) (hm2 : m ≤ 9223372036854775807) :
    Calls Try.prog 52 #[.slice A n c, .slice B m d] w fun e w' => e = .returned (.bool (sameB a b)) ∧ Hid (Below w.heap.size w w') := by
  have HC := Lib.hid (fun W (h : Below w.heap.size w W) => equalFunc_any A B n m c d a b W (hA.below h) (hB.below h) hn hm hn2 hm2)
  obtain ⟨r, hr⟩ : ∃ r, sameB a b = r := ⟨_, rfl⟩
  rw [hr] at HC ⊢
  clear hA hB hn hm hr
  go_enter Try.func52, Try.ntmps52
  go_wp2_with fail
  refine (HC.out _ (Below.refl _ w)).mono ?_
  rintro e w' ⟨rfl, hb⟩
  go_wp2
  go_ret
  exact ⟨rfl, hb⟩
end Go.Proofs.Ytfbfckdabbaocaa.In
namespace Go.Proofs.Ytfbfckdabbaocaa.In
open Go.RowKit Go.Maps Gr Wd Ws Fx Rk Lb Al
def RMs (w : World) (A : Option Addr) (Ls : List (List Ms)) : Prop := ∀ (k : Nat) (L : List Ms), Ls[k]? = some L → ∃ bk o A' c, A = some ⟨bk, o, none⟩ ∧ w.cell? ⟨bk, o + k, none⟩ = some (.slice A' L.length c) ∧ MAt w A' L
theorem RMs.below {w w' : World} {A : Option Addr} {Ls : List (List Ms)} (h : RMs w A Ls) (hb : Below w.heap.size w w') : RMs w' A Ls := fun k L hk => by
  obtain ⟨bk, o, A', c, e, c0, hm⟩ := h k L hk
  exact ⟨bk, o, A', c, e, (hb.cell (block_lt_of_cell c0)).trans c0, hm.below hb⟩
end Go.Proofs.Ytfbfckdabbaocaa.In
