/-
  What is proved here: contracts of graph.Out and graph.Back (and of the closures that choose), and of the document's own Out and Back: the edges from, and to, a vertex. Conditions: at most 100000 edges.
-/
import Derived.Test.YtkbmmlombigkmaaGreatQbPtG2
namespace Go.Proofs.YtkbmmlombigkmaaGreat.Gr
open Go.RowKit Wd Ws
def Chooses (g : Nat) (lb : Array Value) (p : Ed → Bool) (w : World) : Prop :=
  ∀ (W : World) (a b c : Int), Below w.heap.size w W → Calls Tryz.prog g (#[.agg #[.int .i64 a, .int .i64 b, .int .i64 c]] ++ lb) W fun e w' => e = .returned (.bool (p (a, b, c))) ∧ Below W.heap.size W w'
theorem Chooses.below {g : Nat} {lb : Array Value} {p : Ed → Bool} {w w' : World} (h : Chooses g lb p w) (hb : Below w.heap.size w w') : Chooses g lb p w' :=
  fun W a b c k => h W a b c (step_below hb hb.size k)
theorem out_closure (B : Nat) (v : Int) (w : World) (hB : w.cell? ⟨B, 0, none⟩ = some (.int .i64 v)) : Chooses 74 #[.pointer (some ⟨B, 0, none⟩)] (fun e => decide (e.1 = v)) w := by
  intro W a b c hb
  have hc := (hb.cell (block_lt_of_cell hB)).trans hB
  have hl := block_lt_of_cell hc
  show Calls Tryz.prog 74 #[.agg #[.int .i64 a, .int .i64 b, .int .i64 c], .pointer (some ⟨B, 0, none⟩)] W _
  clear hb hB
  have hc2 : (W.alloc (.cells #[.int .i64 a, .int .i64 b, .int .i64 c] 33)).cell? ⟨B, 0, none⟩ = some (.int .i64 v) := by
    rw [Sort.alloc_eq_grow, Sort.cell?_grow _ _ _ hl]; exact hc
  go_enter Tryz.func74, Tryz.ntmps74
  go_wp2
  go_ret
  exact ⟨rfl, ((Grw.refl W).alloc _).below⟩
def CsRel (w : World) (L : List Ed) (p : Ed → Bool) (g : Nat) (v i : Value) (wr : World) : Prop :=
  ∃ k : Nat, k + g = L.length ∧ i = .int .i64 (k : Int) ∧ EOwn wr w.heap.size v ((L.take k).filter p) ∧ Below w.heap.size w wr
theorem filter_len (L : List Ed) (p : Ed → Bool) (k : Nat) : ((L.take k).filter p).length ≤ L.length := by
  have h1 := List.length_filter_le p (L.take k)
  have h2 : (L.take k).length ≤ L.length := by rw [List.length_take]; omega
  omega
theorem filter_yes {L : List Ed} {p : Ed → Bool} {k : Nat} {e : Ed} (h : L[k]? = some e) (hp : p e = true) : (L.take (k + 1)).filter p = (L.take k).filter p ++ [e] := by
  rw [take_at h, List.filter_append]; simp [hp]
theorem filter_no {L : List Ed} {p : Ed → Bool} {k : Nat} {e : Ed} (h : L[k]? = some e) (hp : p e = false) : (L.take (k + 1)).filter p = (L.take k).filter p := by
  rw [take_at h, List.filter_append]; simp [hp]
set_option maxRecDepth 100000 in
set_option maxHeartbeats 600000 in
theorem chosen_any (A : Option Addr) (c : Nat) (L : List Ed) (g : Nat) (lb : Array Value) (p : Ed → Bool) (w : World) (eg : ∀ args w, (callFunc g args).run Tryz.prog w = .ok (.enter g args) w) (hL : EAt w A L) (hm : L.length ≤ 100000) (hp : Chooses g lb p w) :
    Calls Tryz.prog 73 #[.slice A L.length c, .func (.func g) #[] lb] w fun e w' => ∃ v, e = .returned v ∧ EOwn w' w.heap.size v (L.filter p) ∧ Below w.heap.size w w' := by
  have HL := Lib.hid hL; have HP := Lib.hid hp; clear hL hp
  go_enter Tryz.func73, Tryz.ntmps73
  go_wp2
  go_loopg [5, 10] L.length (fun g v i wr => CsRel w L p g v i wr)
  case atStart => exact ⟨0, by omega, rfl, EOwn.none_ _ _, Below.refl _ w⟩
  case round =>
    obtain ⟨k, hk, rfl, ho, hb⟩ := hrel
    by_cases hlt : k < L.length
    · obtain ⟨e, he⟩ := at_lt L k hlt
      obtain ⟨bk, o, rfl, c0, c1, c2⟩ := (HL.out.below hb) k e he
      obtain ⟨e0, e1, e2⟩ := e
      have hb1 : Below w.heap.size w (wr.alloc (.cells #[.int .i64 e0, .int .i64 e1, .int .i64 e2] 33)) := hb.alloc hb.size _
      have ho1 := ho.alloc (.cells #[.int .i64 e0, .int .i64 e1, .int .i64 e2] 33)
      have HC := Lib.hid (HP.out _ e0 e1 e2 hb1)
      have HY := Lib.hid (heap_alloc_new wr (.cells #[.int .i64 e0, .int .i64 e1, .int .i64 e2] 33))
      have hlen := filter_len L p k
      have HB := Lib.hid hb1; have HO := Lib.hid ho1; have HE := Lib.hid he
      clear hb hb1 ho ho1 he
      go_wp2_with fail
      refine HC.out.mono ?_
      rintro er w1 ⟨rfl, hb2⟩
      clear HC c0 c1 c2
      have HY1 := Lib.hid ((hb2.block _ (lt_of_block HY.out)).trans HY.out)
      have HO1 := Lib.hid (HO.out.below hb2)
      have HB1 := Lib.hid (step_below HB.out (by have := HB.out.size; omega) hb2)
      clear hb2 HY HO HB
      obtain ⟨y0, y1, y2, hs1⟩ := eb_cells HY1.out
      cases hq : p (e0, e1, e2) with
      | true =>
        have HQ := Lib.hid hq; clear hq
        have hnew := heap_alloc_new w1 (.cells #[.int .i64 e0, .int .i64 e1, .int .i64 e2] 33)
        have HN := Lib.hid hnew; clear hnew
        have HO2 := Lib.hid (HO1.out.alloc (.cells #[.int .i64 e0, .int .i64 e1, .int .i64 e2] 33))
        have HB2 := Lib.hid (HB1.out.alloc HB1.out.size (.cells #[.int .i64 e0, .int .i64 e1, .int .i64 e2] 33))
        go_wp2_with (at_builtin; refine app_e rfl (.tmp 17) (.tmp 19) rfl w.heap.size _ _ e0 e1 e2 rfl HO2.out _ rfl HN.out ?c1 ?c2 ?_)
        case c1 => omega
        case c2 => exact HB2.out.size
        intro v' w2 ho2 hg2
        have HB3 := Lib.hid (Below.grown HB2.out hg2 HB2.out.size fun j e => (own_lt HO2.out j e).1)
        have HO3 := Lib.hid ho2; clear ho2 hg2
        go_wp2
        go_roundg (gk - 1)
        case measure => omega
        case rel => exact ⟨k + 1, by omega, by go_num, by rw [filter_yes HE.out HQ.out]; exact HO3.out, HB3.out⟩
      | false =>
        have HQ := Lib.hid hq; clear hq
        go_wp2
        go_roundg (gk - 1)
        case measure => omega
        case rel => exact ⟨k + 1, by omega, by go_num, by rw [filter_no HE.out HQ.out]; exact HO1.out, HB1.out⟩
    · have HK : Hid (k = L.length) := Lib.hid (by omega)
      have HO := Lib.hid ho; have HB := Lib.hid hb; clear ho hb
      go_wp2
      go_ret
      refine ⟨_, rfl, ?_, HB.out⟩
      have := HO.out
      rw [HK.out, List.take_length] at this
      exact this
end Go.Proofs.YtkbmmlombigkmaaGreat.Gr
