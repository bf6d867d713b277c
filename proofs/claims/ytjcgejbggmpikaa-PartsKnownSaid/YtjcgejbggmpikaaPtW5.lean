/-
  What is proved here: contracts of parts.rows, of the closures that make rows, of parts.cut and parts.Cut. Conditions: at most 100000 edges.
-/
import Derived.Test.YtjcgejbggmpikaaPtW4
import Derived.Test.YtjcgejbggmpikaaPtG6
import Derived.Laws.MakeOwn
import Derived.Deep.RegionWith
namespace Go.Proofs.Ytjcgejbggmpikaa.Pt
open Go.RowKit Gr Wd Ws

/- What a closure makes of a vertex, in every world behind w. -/
def Rower (g : Nat) (lb : Array Value) (f : Int → List Ed) (w : World) : Prop :=
  ∀ (W : World) (v : Int), Below w.heap.size w W → Calls Try.prog g (#[.int .i64 v] ++ lb) W fun e w' => ∃ x, e = .returned x ∧ EOwn w' W.heap.size x (f v) ∧ Below W.heap.size W w'
theorem Rower.below {g : Nat} {lb : Array Value} {f : Int → List Ed} {w w' : World} (h : Rower g lb f w) (hb : Below w.heap.size w w') : Rower g lb f w' :=
  fun W v k => h W v (step_below hb hb.size k)
theorem eown_mono {w : World} {B C : Nat} {v : Value} {L : List Ed} (h : EOwn w B v L) (hc : C ≤ B) : EOwn w C v L := own_mono h hc

def RwRel (w : World) (l : List Int) (f : Int → List Ed) (g : Nat) (v i : Value) (wr : World) : Prop :=
  ∃ k : Nat, k + g = l.length ∧ i = .int .i64 (k : Int) ∧ Hid (ROwn wr w.heap.size v ((l.take k).map f)) ∧ Hid (Below w.heap.size w wr)

set_option maxRecDepth 100000 in
set_option maxHeartbeats 1000000 in
theorem rows_any (A : Option Addr) (c : Nat) (l : List Int) (g : Nat) (lb : Array Value) (f : Int → List Ed) (w : World) (eg : ∀ args w, (callFunc g args).run Try.prog w = .ok (.enter g args) w) (hA : IAt w A l) (hm : l.length ≤ 100000) (hp : Rower g lb f w) :
    Calls Try.prog 46 #[.slice A l.length c, .func (.func g) #[] lb] w fun e w' => ∃ v, e = .returned v ∧ ROwn w' w.heap.size v (l.map f) ∧ Below w.heap.size w w' := by
  have HA := Lib.hid hA; have HP := Lib.hid hp; clear hA hp
  obtain ⟨i0, hi, hz0, hz1, hz2⟩ := info_parts infoR
  obtain ⟨n, hn⟩ : ∃ n, n = l.length := ⟨_, rfl⟩
  rw [← hn] at hm ⊢
  have HN := Lib.hid hn; clear hn
  obtain ⟨w4, hmk, hown4, hg4⟩ := run_make_own (P := Try.prog) (w := w) w.heap.size 32 28 i0 _ 1 Try.underlying32 hi hz0 hz1 .i64 .i64 n (by rw [hz2]; omega) (by unfold maxLen; omega) (by omega)
  have HO4 : Hid (ROwn w4 w.heap.size (.slice (some ⟨w.heap.size, 0, none⟩) 0 n) []) := Lib.hid ⟨[], hown4, Each.nil _ _⟩
  have HB4 : Hid (Below w.heap.size w w4) := Lib.hid ⟨hg4.os, hg4.tape, hg4.output, hg4.size, fun i hi => hg4.block i hi nofun⟩
  clear hown4 hg4 hi hz0 hz1 hz2
  go_enter Try.func46, Try.ntmps46
  go_wp2_with fail
  clear hmk
  go_loopg [5, 13] n (fun g v i wr => RwRel w l f g v i wr)
  case atStart => exact ⟨0, by have := HN.out; omega, rfl, HO4, HB4⟩
  case round =>
    obtain ⟨k, hk, rfl, HO, HB⟩ := hrel
    rw [← HN.out] at hk
    by_cases hlt : k < n
    · obtain ⟨v, hv⟩ := at_lt l k (by rw [← HN.out]; exact hlt)
      obtain ⟨bk, o, rfl, c0⟩ := (HA.out.below HB.out) k v hv
      have HC := Lib.hid (HP.out wr v HB.out)
      have HV := Lib.hid hv; clear hv
      obtain ⟨A5, n5, c5, rfl⟩ : ∃ A n c, u5 = .slice A n c := by obtain ⟨A, c, h, _⟩ := HO.out.form; exact ⟨_, _, _, h⟩
      go_wp2_with fail
      refine HC.out.mono ?_
      rintro e w5 ⟨x, rfl, hx, hb5⟩
      obtain ⟨X, cx, rfl, _, _, _⟩ := hx.form
      have hs5 := hb5.size
      have hs := HB.out.size
      have hb6 := (Below.refl w5.heap.size w5).alloc (Nat.le_refl _) (.cells #[.slice X (f v).length cx] 28)
      have HX := Lib.hid ((eown_mono hx hs).alloc (.cells #[.slice X (f v).length cx] 28))
      have HO6 := Lib.hid ((HO.out.below hb5).below hb6)
      have HB6 := Lib.hid ((HB.out.trans (hb5.mono hs)).trans (hb6.mono (by omega)))
      have HN6 := Lib.hid (heap_alloc_new w5 (.cells #[.slice X (f v).length cx] 28))
      clear hx hb5 hb6 HC c0
      obtain ⟨m, hm6⟩ : ∃ m, (f v).length = m := ⟨_, rfl⟩
      rw [hm6] at HX HO6 HB6 HN6 ⊢
      go_wp2_with (at_builtin; refine app_r rfl (.tmp 17) (.tmp 21) rfl w.heap.size _ _ _ (f v) rfl HO6.out _ rfl HN6.out HX.out ?c1 ?c2 ?_)
      case c1 => rw [List.length_map, List.length_take]; omega
      case c2 => exact HB6.out.size
      intro v' w7 ho7 hg7
      have HB7 := Lib.hid (Below.grown HB6.out hg7 HB6.out.size fun j e => by obtain ⟨xs, h, _⟩ := HO6.out; exact (own_lt h j e).1)
      have HO7 : Hid (ROwn w7 w.heap.size v' ((l.take (k + 1)).map f)) := Lib.hid (by rw [take_at HV.out, List.map_append, List.map_take]; exact ho7)
      clear ho7 hg7
      go_wp2
      go_roundg (gk - 1)
      case measure => omega
      case rel => exact ⟨k + 1, by have := HN.out; omega, by go_num, HO7, HB7⟩
    · have HK : Hid (k = n) := Lib.hid (by omega)
      go_wp2
      go_ret
      refine ⟨_, rfl, ?_, HB.out⟩
      have := HO.out
      rw [HK.out, HN.out, List.take_length] at this
      exact this

/- The two closures of cut: the graph lies in block B. -/
def GBox (w : World) (B : Nat) (V : Int) (A : Option Addr) (c : Nat) (L : List Ed) : Prop := w.heap[B]? = some (.cells #[.int .i64 V, .slice A L.length c] 30 (0, 0)) ∧ EAt w A L
theorem GBox.below {w w' : World} {B : Nat} {V : Int} {A : Option Addr} {c : Nat} {L : List Ed} (h : GBox w B V A c L) (hb : Below w.heap.size w w') : GBox w' B V A c L :=
  ⟨(hb.block _ (lt_of_block h.1)).trans h.1, h.2.below hb⟩
set_option maxRecDepth 100000 in
theorem frm_closure (B : Nat) (V : Int) (A : Option Addr) (c : Nat) (L : List Ed) (w : World) (h : GBox w B V A c L) (hm : L.length ≤ 100000) : Rower 47 #[.pointer (some ⟨B, 0, none⟩)] (frm L) w := by
  intro W v hb
  have hg := h.below hb
  have HC := Lib.hid (out_any V v A c L W hg.2 hm)
  obtain ⟨x0, x1, hsz⟩ := Bx.cells hg.1
  show Calls Try.prog 47 #[.int .i64 v, .pointer (some ⟨B, 0, none⟩)] W _
  clear hb h hg
  go_enter Try.func47, Try.ntmps47
  go_wp2_with fail
  refine HC.out.mono ?_
  rintro e w' ⟨x, rfl, h1, h2⟩
  have H1 := Lib.hid h1; have H2 := Lib.hid h2; clear h1 h2
  go_wp2
  go_ret
  exact ⟨_, rfl, H1.out, H2.out⟩
set_option maxRecDepth 100000 in
theorem tow_closure (B : Nat) (V : Int) (A : Option Addr) (c : Nat) (L : List Ed) (w : World) (h : GBox w B V A c L) (hm : L.length ≤ 100000) : Rower 49 #[.pointer (some ⟨B, 0, none⟩)] (tow L) w := by
  intro W v hb
  have hg := h.below hb
  have HC := Lib.hid (back_any V v A c L W hg.2 hm)
  obtain ⟨x0, x1, hsz⟩ := Bx.cells hg.1
  show Calls Try.prog 49 #[.int .i64 v, .pointer (some ⟨B, 0, none⟩)] W _
  clear hb h hg
  go_enter Try.func49, Try.ntmps49
  go_wp2_with fail
  refine HC.out.mono ?_
  rintro e w' ⟨x, rfl, h1, h2⟩
  have H1 := Lib.hid h1; have H2 := Lib.hid h2; clear h1 h2
  go_wp2
  go_ret
  exact ⟨_, rfl, H1.out, H2.out⟩

end Go.Proofs.Ytjcgejbggmpikaa.Pt
