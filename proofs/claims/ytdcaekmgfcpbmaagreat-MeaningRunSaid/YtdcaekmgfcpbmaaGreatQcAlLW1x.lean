/-
  What is proved here: what the library's sort and compact do to a row of numbers that the call has made. Condition: fewer than 10^9 numbers. What is proved here: contracts of label.withOther and label.Near, and of the document's own put and Near: a vertex's neighbours. Conditions: at most 100000 edges each way.
-/
import Derived.Test.YtdcaekmgfcpbmaaGreatQcMnMkx
import Derived.Test.YtdcaekmgfcpbmaaGreatQcLbShelf
import Derived.Sort.OwnSortedInts
import Derived.Lib.RowBridge
import Derived.Laws.CopyOwn
namespace Go.Proofs.YtdcaekmgfcpbmaaGreat.Lb
open Go.RowKit Go.Sort Gr Wd Ws
theorem below_own {w w' : World} {B : Nat} {g : Nat} (hg : B ≤ g) (h : w.grownBy w' (some g)) (hB : B ≤ w.heap.size) : Below B w w' :=
  ⟨h.os, h.tape, h.output, h.size, fun k hk => h.block k (by omega) (fun e => by injection e with e; omega)⟩
set_option maxRecDepth 100000 in
theorem sort_own (w : World) (B : Nat) (v : Value) (l : List Int) (h : IOwn w B v l) (hB : B ≤ w.heap.size) (hn : l.length < 1000000000) :
    Calls Tryz.prog 179 #[v] w fun e w' => e = .returned (.tuple #[]) ∧ Hid (IOwn w' B v (srt l)) ∧ Hid (Below B w w') := by
  obtain ⟨h0, ⟨rfl, hz⟩ | ⟨g, cap, cur, rfl, h2, h3, h4, h5, h6, h7⟩⟩ := h
  · obtain rfl : l = [] := List.eq_nil_of_length_eq_zero hz
    refine (Any.slices_Sort_int_none Tryz.lays189 none 0 w).mono fun e w' ⟨he, hw⟩ => ⟨he, ?_, ?_⟩
    · subst hw; rw [show srt [] = [] by simp [srt]]; exact Lib.hid (IOwn.none_ _ _)
    · subst hw; exact Lib.hid (Below.refl _ _)
  · have h7' : cur.toList.take l.length = l.map (Value.int .i64) := by rw [Nat.mul_one] at h7; exact h7
    refine (Any.slices_Sort_int Tryz.lays189 g 0 cap l w (holds_of_blockI h3 h7') (lt_of_block h3) (by omega)).mono fun e w' ⟨he, n, os, hw⟩ => ⟨he, ?_, ?_⟩
    · subst hw
      refine Lib.hid ?_
      unfold IOwn
      rw [srt_len]
      exact ownsRow_sortedI (srt_len l) h2 h3 h4 h5 h6
    · subst hw
      exact Lib.hid (below_own h2 (grownBy_sortedI _) hB)
set_option maxRecDepth 100000 in
theorem compact_own (w : World) (B : Nat) (v : Value) (l : List Int) (h : IOwn w B v l) (hB : B ≤ w.heap.size) (hn : l.length < 1000000000) :
    Calls Tryz.prog 180 #[v] w fun e w' => ∃ r, e = .returned r ∧ Hid (IOwn w' B r (Lib.compact l)) ∧ Hid (Below B w w') := by
  obtain ⟨h0, ⟨rfl, hz⟩ | ⟨g, cap, cur, rfl, h2, h3, h4, h5, h6, h7⟩⟩ := h
  · obtain rfl : l = [] := List.eq_nil_of_length_eq_zero hz
    refine (Any.slices_Compact_int_empty Tryz.lays2n20 none 0 w).mono fun e w' ⟨he, hw⟩ => ⟨_, he, ?_, ?_⟩
    · subst hw; exact Lib.hid (IOwn.none_ _ _)
    · subst hw; exact Lib.hid (Below.refl _ _)
  · have h7' : cur.toList.take l.length = l.map (Value.int .i64) := by rw [Nat.mul_one] at h7; exact h7
    have hcl := Lib.compact_length_le l
    refine (Any.slices_Compact_int Tryz.lays2n20 g 0 cap l w (holds_of_blockI h3 h7') (by omega) h4).mono fun e w' ⟨he, q, hw⟩ => ⟨_, he, ?_, ?_⟩
    · obtain ⟨ts, hts⟩ : ∃ ts, ts = Lib.compact l ++ List.replicate (l.length - (Lib.compact l).length) 0 := ⟨_, rfl⟩
      have htl : ts.length = l.length := by rw [hts]; simp; omega
      have hpre : ts.take (Lib.compact l).length = Lib.compact l := by rw [hts, List.take_left]
      rw [← hts] at hw
      subst hw
      refine Lib.hid ⟨by simp [ints], .inr ⟨g, cap, putCells (Value.int .i64) 0 ts.toArray cur, rfl, h2, ?_, by omega, h5, ?_, ?_⟩⟩
      · have := heap_sortedI (w := w) (n := q) (os := #[]) ts.toArray h3
        rw [Sort.grow_empty] at this
        exact this
      · simp [putCells, h6]
      · have := take_putCellsI cur ts (by omega)
        rw [Nat.mul_one]
        have e1 : (putCells (Value.int .i64) 0 ts.toArray cur).toList.take (Lib.compact l).length = ((putCells (Value.int .i64) 0 ts.toArray cur).toList.take ts.length).take (Lib.compact l).length := by
          rw [List.take_take, Nat.min_eq_left (by omega)]
        rw [e1, this, ← List.map_take, hpre]; rfl
    · subst hw
      have := grownBy_sortedI (w := w) (g := g) (n := q) (os := #[]) (Lib.compact l ++ List.replicate (l.length - (Lib.compact l).length) 0).toArray
      rw [Sort.grow_empty] at this
      exact Lib.hid (below_own h2 this hB)
end Go.Proofs.YtdcaekmgfcpbmaaGreat.Lb
namespace Go.Proofs.YtdcaekmgfcpbmaaGreat.Lb
open Go.RowKit Gr Wd Ws
theorem own_lt_i {w : World} {B : Nat} {v : Value} {l : List Int} (h : IOwn w B v l) (j : Nat) (e : v.ownBlock = some j) : B ≤ j := (own_lt h j e).1
set_option maxRecDepth 100000 in
theorem other_any (x : Value) (l : List Int) (B : Nat) (v o : Int) (w : World) (h : IOwn w B x l) (hB : B ≤ w.heap.size) (hn : l.length < 1000000) :
    Calls Tryz.prog 178 #[x, .int .i64 v, .int .i64 o] w fun e w' => ∃ r, e = .returned r ∧ Hid (IOwn w' B r (if o = v then l else l ++ [o])) ∧ Hid (Below B w w') := by
  obtain ⟨A, c, rfl, hA⟩ := h.form
  have HO := Lib.hid h; clear h hA
  by_cases hov : o = v
  · rw [if_pos hov]; subst hov
    go_enter Tryz.func178, Tryz.ntmps178
    go_wp2
    go_ret
    exact ⟨_, rfl, HO, Lib.hid (Below.refl _ _)⟩
  · rw [if_neg hov]
    have hnew := heap_alloc_new w (.cells #[.int .i64 o] 3)
    have HN := Lib.hid hnew; clear hnew
    have HO1 := Lib.hid (HO.out.alloc (.cells #[.int .i64 o] 3))
    have HB1 := Lib.hid ((Below.refl B w).alloc hB (.cells #[.int .i64 o] 3))
    go_enter Tryz.func178, Tryz.ntmps178
    go_wp2_with (at_builtin; refine app_i rfl (.tmp 11) (.tmp 13) rfl B _ l o rfl HO1.out _ rfl HN.out ?c1 ?c2 ?_)
    case c1 => omega
    case c2 => have := HB1.out.size; omega
    intro v' w2 ho2 hg2
    have HB3 := Lib.hid (Below.grown HB1.out hg2 (by have := HB1.out.size; omega) fun j e => own_lt_i HO1.out j e)
    have HO3 := Lib.hid ho2; clear ho2 hg2
    go_wp2
    go_ret
    exact ⟨_, rfl, HO3, HB3⟩
def N1Rel (w : World) (v : Int) (L : List Ed) (g : Nat) (x i : Value) (wr : World) : Prop :=
  ∃ k : Nat, k + g = L.length ∧ i = .int .i64 (k : Int) ∧ IOwn wr w.heap.size x (tos v (L.take k)) ∧ Below w.heap.size w wr
def N2Rel (w : World) (v : Int) (L M : List Ed) (g : Nat) (x i : Value) (wr : World) : Prop :=
  ∃ k : Nat, k + g = M.length ∧ i = .int .i64 (k : Int) ∧ IOwn wr w.heap.size x (tos v L ++ froms v (M.take k)) ∧ Below w.heap.size w wr
theorem take_len {α : Type} (L : List α) (k : Nat) : (L.take k).length ≤ L.length := by rw [List.length_take]; omega
set_option maxRecDepth 100000 in
set_option maxHeartbeats 1000000 in
theorem near_any (v : Int) (A B : Option Addr) (c d : Nat) (L M : List Ed) (w : World) (hL : EAt w A L) (hM : EAt w B M) (hl : L.length ≤ 100000) (hm : M.length ≤ 100000) :
    Calls Tryz.prog 177 #[.int .i64 v, .slice A L.length c, .slice B M.length d] w fun e w' => ∃ r, e = .returned r ∧ Hid (IOwn w' w.heap.size r (nearL v L M)) ∧ Hid (Below w.heap.size w w') := by
  have HL := Lib.hid hL; have HM := Lib.hid hM; clear hL hM
  go_enter Tryz.func177, Tryz.ntmps177
  go_wp2
  go_loopg [7, 14] L.length (fun g x i wr => N1Rel w v L g x i wr)
  case atStart => exact ⟨0, by omega, rfl, IOwn.none_ _ _, Below.refl _ w⟩
  case round =>
    obtain ⟨k, hk, rfl, ho, hb⟩ := hrel
    by_cases hlt : k < L.length
    · obtain ⟨e, he⟩ := at_lt L k hlt
      obtain ⟨bk, o, rfl, c0, c1, c2⟩ := (HL.out.below hb) k e he
      obtain ⟨e0, e1, e2⟩ := e
      have hb1 : Below w.heap.size w (wr.alloc (.cells #[.int .i64 e0, .int .i64 e1, .int .i64 e2] 33)) := hb.alloc hb.size _
      have hlen : (tos v (L.take k)).length < 1000000 := by have h1 := tos_len v (L.take k); have h2 := take_len L k; omega
      have HC := Lib.hid (other_any _ _ w.heap.size v e1 _ (ho.alloc (.cells #[.int .i64 e0, .int .i64 e1, .int .i64 e2] 33)) hb1.size hlen)
      have HE := Lib.hid he; have HB := Lib.hid hb1
      obtain ⟨y0, y1, y2, _⟩ := eb_cells (heap_alloc_new wr (.cells #[.int .i64 e0, .int .i64 e1, .int .i64 e2] 33))
      clear hb hb1 ho he hlen
      go_wp2_with fail
      refine HC.out.mono ?_
      rintro er w1 ⟨r, rfl, hO, hb2⟩
      go_wp2
      go_roundg (gk - 1)
      case measure => omega
      case rel =>
        refine ⟨k + 1, by omega, by go_num, ?_, HB.out.trans hb2.out⟩
        rw [take_at HE.out, tos_snoc]; exact hO.out
    · have HK : Hid (k = L.length) := Lib.hid (by omega)
      have hfull := ho; rw [HK.out, List.take_length] at hfull
      have HO := Lib.hid hfull; have HB := Lib.hid hb; clear ho hb hfull
      obtain ⟨G, rfl⟩ : ∃ G : Nat, G = gk := ⟨_, rfl⟩
      clear HK
      go_wp2
      go_loopg [7, 26] M.length (fun g x i wr => N2Rel w v L M g x i wr)
      case atStart => exact ⟨0, by omega, rfl, by simpa [froms] using HO.out, HB.out⟩
      case round =>
        obtain ⟨k2, hk2, rfl, ho, hb⟩ := hrel
        clear HO HB
        by_cases hlt2 : k2 < M.length
        · obtain ⟨e, he⟩ := at_lt M k2 hlt2
          obtain ⟨bk, o, rfl, c0, c1, c2⟩ := (HM.out.below hb) k2 e he
          obtain ⟨e0, e1, e2⟩ := e
          have hb1 : Below w.heap.size w (wr.alloc (.cells #[.int .i64 e0, .int .i64 e1, .int .i64 e2] 33)) := hb.alloc hb.size _
          have hlen : (tos v L ++ froms v (M.take k2)).length < 1000000 := by have h1 := tos_len v L; have h2 := froms_len v (M.take k2); have h3 := take_len M k2; rw [List.length_append]; omega
          have HC := Lib.hid (other_any _ _ w.heap.size v e0 _ (ho.alloc (.cells #[.int .i64 e0, .int .i64 e1, .int .i64 e2] 33)) hb1.size hlen)
          have HE := Lib.hid he; have HB := Lib.hid hb1
          obtain ⟨y0, y1, y2, _⟩ := eb_cells (heap_alloc_new wr (.cells #[.int .i64 e0, .int .i64 e1, .int .i64 e2] 33))
          clear hb hb1 ho he hlen
          go_wp2_with fail
          refine HC.out.mono ?_
          rintro er w1 ⟨r, rfl, hO, hb2⟩
          go_wp2
          go_roundg (gk - 1)
          case measure => omega
          case rel =>
            refine ⟨k2 + 1, by omega, by go_num, ?_, HB.out.trans hb2.out⟩
            have h9 := hO.out
            rw [take_at HE.out, froms_snoc]
            by_cases h0 : e0 = v
            · rw [if_pos h0] at h9 ⊢; exact h9
            · rw [if_neg h0] at h9 ⊢; rw [← List.append_assoc]; exact h9
        · have HK2 : Hid (k2 = M.length) := Lib.hid (by omega)
          have hfull := ho; rw [HK2.out, List.take_length] at hfull
          have hlen : (tos v L ++ froms v M).length < 1000000000 := by have h1 := tos_len v L; have h2 := froms_len v M; rw [List.length_append]; omega
          have HC := Lib.hid (sort_own wr w.heap.size _ _ hfull hb.size hlen)
          have HLN := Lib.hid hlen
          have HB := Lib.hid hb; clear ho hb hfull hlen
          go_wp2_with fail
          refine HC.out.mono ?_
          rintro er w1 ⟨rfl, hO, hb2⟩
          have hb3 := HB.out.trans hb2.out
          have HD := Lib.hid (compact_own w1 w.heap.size _ _ hO.out (by have := hb3.size; omega) (by rw [srt_len]; exact HLN.out))
          have HB3 := Lib.hid hb3; clear hb3 hb2 HC
          go_wp2_with fail
          refine HD.out.mono ?_
          rintro er w2 ⟨r, rfl, hO2, hb4⟩
          go_wp2
          go_ret
          refine ⟨_, rfl, Lib.hid ?_, Lib.hid (HB3.out.trans hb4.out)⟩
          have := hO2.out
          rw [comp_srt] at this
          exact this
end Go.Proofs.YtdcaekmgfcpbmaaGreat.Lb
