/-
  What is proved here: contracts of graph.Out and graph.Back, and of the document's own Out and Back: the edges from, and to, a vertex. Conditions: at most 100000 edges.
-/
import Derived.Test.YtjcgejbggmpikaaPtG5
namespace Go.Proofs.Ytjcgejbggmpikaa.Gr
open Go.RowKit Wd Ws

set_option maxRecDepth 100000 in
theorem out_any (V v : Int) (A : Option Addr) (c : Nat) (L : List Ed) (w : World) (hL : EAt w A L) (hm : L.length ≤ 100000) :
    Calls Try.prog 48 #[.agg #[.int .i64 V, .slice A L.length c], .int .i64 v] w fun e w' => ∃ x, e = .returned x ∧ EOwn w' w.heap.size x (L.filter fun e => decide (e.1 = v)) ∧ Below w.heap.size w w' := by
  have hz := two_boxes w (.cells #[.int .i64 V, .slice A L.length c] 30) (.cells #[.int .i64 v] 3)
  have HC := Lib.hid (chosen_any A c L 57 #[.pointer (some ⟨w.heap.size + 1, 0, none⟩)] (fun e => decide (e.1 = v)) _ (enters_of Try.func57 (by kernel_rfl) rfl) (hL.below hz) hm
    (out_closure (w.heap.size + 1) v ((w.alloc (.cells #[.int .i64 V, .slice A L.length c] 30)).alloc (.cells #[.int .i64 v] 3)) (by simp)))
  have HZ := Lib.hid hz; clear hz hL
  go_enter Try.func48, Try.ntmps48
  go_wp2_with fail
  refine HC.out.mono ?_
  rintro e w' ⟨x, rfl, ho, hb⟩
  have HO := Lib.hid ho; have HB := Lib.hid hb; clear ho hb HC
  go_wp2_with fail
  go_ret
  exact ⟨x, rfl, own_mono HO.out (by simp; omega), HZ.out.trans (HB.out.mono (by simp; omega))⟩
set_option maxRecDepth 100000 in
theorem back_any (V v : Int) (A : Option Addr) (c : Nat) (L : List Ed) (w : World) (hL : EAt w A L) (hm : L.length ≤ 100000) :
    Calls Try.prog 50 #[.agg #[.int .i64 V, .slice A L.length c], .int .i64 v] w fun e w' => ∃ x, e = .returned x ∧ EOwn w' w.heap.size x (L.filter fun e => decide (e.2.1 = v)) ∧ Below w.heap.size w w' := by
  have hz := two_boxes w (.cells #[.int .i64 V, .slice A L.length c] 30) (.cells #[.int .i64 v] 3)
  have HC := Lib.hid (chosen_any A c L 58 #[.pointer (some ⟨w.heap.size + 1, 0, none⟩)] (fun e => decide (e.2.1 = v)) _ (enters_of Try.func58 (by kernel_rfl) rfl) (hL.below hz) hm
    (back_closure (w.heap.size + 1) v ((w.alloc (.cells #[.int .i64 V, .slice A L.length c] 30)).alloc (.cells #[.int .i64 v] 3)) (by simp)))
  have HZ := Lib.hid hz; clear hz hL
  go_enter Try.func50, Try.ntmps50
  go_wp2_with fail
  refine HC.out.mono ?_
  rintro e w' ⟨x, rfl, ho, hb⟩
  have HO := Lib.hid ho; have HB := Lib.hid hb; clear ho hb HC
  go_wp2_with fail
  go_ret
  exact ⟨x, rfl, own_mono HO.out (by simp; omega), HZ.out.trans (HB.out.mono (by simp; omega))⟩

def RoRel (w : World) (V : Int) (A : Option Addr) (c : Nat) (L : List Ed) (p : Ed → Bool) (g : Nat) (v i : Value) (wr : World) : Prop :=
  ∃ k : Nat, k + g = L.length ∧ i = .int .i64 (k : Int) ∧ EOwn wr w.heap.size v ((L.take k).filter p) ∧ Below w.heap.size w wr ∧ wr.heap[w.heap.size]? = some (.cells #[.int .i64 V, .slice A L.length c] 30 (0, 0)) ∧ v.ownBlock ≠ some w.heap.size

set_option maxRecDepth 100000 in
set_option maxHeartbeats 600000 in
theorem rout_any (V v : Int) (A : Option Addr) (c : Nat) (L : List Ed) (w : World) (hL : EAt w A L) (hm : L.length ≤ 100000) :
    Calls Try.prog 33 #[.agg #[.int .i64 V, .slice A L.length c], .int .i64 v] w fun e w' => ∃ x, e = .returned x ∧ EOwn w' w.heap.size x (L.filter fun e => decide (e.1 = v)) ∧ Below w.heap.size w w' := by
  have HL := Lib.hid hL; clear hL
  go_enter Try.func33, Try.ntmps33
  go_wp2
  go_loopg [5, 6] L.length (fun g x i wr => RoRel w V A c L (fun e => decide (e.1 = v)) g x i wr)
  case atStart => exact ⟨0, by omega, rfl, EOwn.none_ _ _, (Below.refl _ w).alloc (Nat.le_refl _) _, heap_alloc_new w _, by simp [Value.ownBlock]⟩
  case round =>
    obtain ⟨k, hk, rfl, ho, hb, hbx, hne⟩ := hrel
    obtain ⟨x0, x1, hsz⟩ := Bx.cells hbx
    by_cases hlt : k < L.length
    · obtain ⟨e, he⟩ := at_lt L k hlt
      obtain ⟨bk, o, rfl, c0, c1, c2⟩ := (HL.out.below hb) k e he
      obtain ⟨e0, e1, e2⟩ := e
      have hlen := filter_len L (fun e => decide (e.1 = v)) k
      by_cases hq : e0 = v
      · subst hq
        have hnew := heap_alloc_new wr (.cells #[.int .i64 e0, .int .i64 e1, .int .i64 e2] 44)
        have HN := Lib.hid hnew; clear hnew
        have HO2 := Lib.hid (ho.alloc (.cells #[.int .i64 e0, .int .i64 e1, .int .i64 e2] 44))
        have HB2 := Lib.hid (hb.alloc hb.size (.cells #[.int .i64 e0, .int .i64 e1, .int .i64 e2] 44))
        have HX2 := Lib.hid ((Lib.alloc_old wr (.cells #[.int .i64 e0, .int .i64 e1, .int .i64 e2] 44) _ hsz).trans hbx)
        have HE := Lib.hid he; have HNE := Lib.hid hne
        clear ho hb hbx he hne
        go_wp2_with (at_builtin; refine app_e rfl (.tmp 22) (.tmp 28) rfl w.heap.size _ _ e0 e1 e2 rfl HO2.out _ rfl HN.out ?c1 ?c2 ?_)
        case c1 => omega
        case c2 => have := HB2.out.size; simpa using this
        intro v' w2 ho2 hg2
        have HB3 := Lib.hid (Below.grown HB2.out hg2 HB2.out.size fun j e => (own_lt HO2.out j e).1)
        have HX3 := Lib.hid ((hg2.block _ (lt_of_block HX2.out) (fun h => HNE.out h.symm)).trans HX2.out)
        have HNE3 : Hid (v'.ownBlock ≠ some w.heap.size) := Lib.hid (fun h => by
          obtain ⟨_, cc, hcc⟩ := own_lt ho2 _ h
          have := HX3.out
          rw [hcc] at this; simp at this)
        have HO3 := Lib.hid ho2; clear ho2 hg2
        go_wp2
        go_roundg (gk - 1)
        case measure => omega
        case rel => exact ⟨k + 1, by omega, by go_num, by rw [filter_yes HE.out (by simp)]; exact HO3.out, HB3.out, HX3.out, HNE3.out⟩
      · have HE := Lib.hid he; have HNE := Lib.hid hne; have HO := Lib.hid ho; have HB := Lib.hid hb; have HX := Lib.hid hbx
        clear ho hb hbx he hne
        go_wp2
        go_roundg (gk - 1)
        case measure => omega
        case rel => exact ⟨k + 1, by omega, by go_num, by rw [filter_no HE.out (by simp [hq])]; exact HO.out, HB.out, HX.out, HNE.out⟩
    · have HK : Hid (k = L.length) := Lib.hid (by omega)
      have HO := Lib.hid ho; have HB := Lib.hid hb; clear ho hb hbx hne
      go_wp2
      go_ret
      refine ⟨_, rfl, ?_, HB.out⟩
      have := HO.out
      rw [HK.out, List.take_length] at this
      exact this
set_option maxRecDepth 100000 in
set_option maxHeartbeats 600000 in
theorem rback_any (V v : Int) (A : Option Addr) (c : Nat) (L : List Ed) (w : World) (hL : EAt w A L) (hm : L.length ≤ 100000) :
    Calls Try.prog 34 #[.agg #[.int .i64 V, .slice A L.length c], .int .i64 v] w fun e w' => ∃ x, e = .returned x ∧ EOwn w' w.heap.size x (L.filter fun e => decide (e.2.1 = v)) ∧ Below w.heap.size w w' := by
  have HL := Lib.hid hL; clear hL
  go_enter Try.func34, Try.ntmps34
  go_wp2
  go_loopg [5, 6] L.length (fun g x i wr => RoRel w V A c L (fun e => decide (e.2.1 = v)) g x i wr)
  case atStart => exact ⟨0, by omega, rfl, EOwn.none_ _ _, (Below.refl _ w).alloc (Nat.le_refl _) _, heap_alloc_new w _, by simp [Value.ownBlock]⟩
  case round =>
    obtain ⟨k, hk, rfl, ho, hb, hbx, hne⟩ := hrel
    obtain ⟨x0, x1, hsz⟩ := Bx.cells hbx
    by_cases hlt : k < L.length
    · obtain ⟨e, he⟩ := at_lt L k hlt
      obtain ⟨bk, o, rfl, c0, c1, c2⟩ := (HL.out.below hb) k e he
      obtain ⟨e0, e1, e2⟩ := e
      have hlen := filter_len L (fun e => decide (e.2.1 = v)) k
      by_cases hq : e1 = v
      · subst hq
        have hnew := heap_alloc_new wr (.cells #[.int .i64 e0, .int .i64 e1, .int .i64 e2] 44)
        have HN := Lib.hid hnew; clear hnew
        have HO2 := Lib.hid (ho.alloc (.cells #[.int .i64 e0, .int .i64 e1, .int .i64 e2] 44))
        have HB2 := Lib.hid (hb.alloc hb.size (.cells #[.int .i64 e0, .int .i64 e1, .int .i64 e2] 44))
        have HX2 := Lib.hid ((Lib.alloc_old wr (.cells #[.int .i64 e0, .int .i64 e1, .int .i64 e2] 44) _ hsz).trans hbx)
        have HE := Lib.hid he; have HNE := Lib.hid hne
        clear ho hb hbx he hne
        go_wp2_with (at_builtin; refine app_e rfl (.tmp 22) (.tmp 28) rfl w.heap.size _ _ e0 e1 e2 rfl HO2.out _ rfl HN.out ?c1 ?c2 ?_)
        case c1 => omega
        case c2 => have := HB2.out.size; simpa using this
        intro v' w2 ho2 hg2
        have HB3 := Lib.hid (Below.grown HB2.out hg2 HB2.out.size fun j e => (own_lt HO2.out j e).1)
        have HX3 := Lib.hid ((hg2.block _ (lt_of_block HX2.out) (fun h => HNE.out h.symm)).trans HX2.out)
        have HNE3 : Hid (v'.ownBlock ≠ some w.heap.size) := Lib.hid (fun h => by
          obtain ⟨_, cc, hcc⟩ := own_lt ho2 _ h
          have := HX3.out
          rw [hcc] at this; simp at this)
        have HO3 := Lib.hid ho2; clear ho2 hg2
        go_wp2
        go_roundg (gk - 1)
        case measure => omega
        case rel => exact ⟨k + 1, by omega, by go_num, by rw [filter_yes HE.out (by simp)]; exact HO3.out, HB3.out, HX3.out, HNE3.out⟩
      · have HE := Lib.hid he; have HNE := Lib.hid hne; have HO := Lib.hid ho; have HB := Lib.hid hb; have HX := Lib.hid hbx
        clear ho hb hbx he hne
        go_wp2
        go_roundg (gk - 1)
        case measure => omega
        case rel => exact ⟨k + 1, by omega, by go_num, by rw [filter_no HE.out (by simp [hq])]; exact HO.out, HB.out, HX.out, HNE.out⟩
    · have HK : Hid (k = L.length) := Lib.hid (by omega)
      have HO := Lib.hid ho; have HB := Lib.hid hb; clear ho hb hbx hne
      go_wp2
      go_ret
      refine ⟨_, rfl, ?_, HB.out⟩
      have := HO.out
      rw [HK.out, List.take_length] at this
      exact this

end Go.Proofs.Ytjcgejbggmpikaa.Gr
