/-
  What is proved here: contracts of graph's (*draft).edgeOf and takeVertices: the edge, and the number of vertices, that a line's numbers are. Conditions: numbers fit an int.
-/
import Derived.Test.YtmcmpjcijbeilaaGreatDoorGrW10
import Derived.Test.YtmcmpjcijbeilaaGreatDoorGrKey
import Derived.Test.YtmcmpjcijbeilaaGreatDoorGrW2
namespace Go.Proofs.YtmcmpjcijbeilaaGreatDoor.Gr
open Go.RowKit Wd Ws

def NAt (w : World) (A : Option Addr) (ns : List Nat) : Prop := ∀ (k m : Nat), ns[k]? = some m → ∃ g, A = some ⟨g, 0, none⟩ ∧ w.cell? ⟨g, k, none⟩ = some (.int .i64 (m : Int))
theorem NAt.below {w w' : World} {A : Option Addr} {ns : List Nat} (h : NAt w A ns) (hb : Below w.heap.size w w') : NAt w' A ns := fun k m hm => by
  obtain ⟨g, h1, h2⟩ := h k m hm
  exact ⟨g, h1, (hb.cell (block_lt_of_cell h2)).trans h2⟩
theorem NOwn.nat {w : World} {B : Nat} {v : Value} {ns : List Nat} (h : NOwn w B v ns) : ∃ (A : Option Addr) (c : Nat), v = .slice A ns.length c ∧ NAt w A ns := by
  obtain ⟨A, c, h1, h2⟩ := h.form
  exact ⟨A, c, h1, fun k m hm => by obtain ⟨g, a1, _, _, a4⟩ := h2 k m hm; exact ⟨g, a1, a4⟩⟩
def EdgeRes (e : Ending) : Option Ed → Prop
  | none => e = .returned (.tuple #[.agg #[.int .i64 0, .int .i64 0, .int .i64 0], .bool false])
  | some (a, b, c) => e = .returned (.tuple #[.agg #[.int .i64 a, .int .i64 b, .int .i64 c], .bool true])
theorem zbox (w : World) : Below w.heap.size w (w.alloc (.cells #[.int .i64 0, .int .i64 0, .int .i64 0] 42)) := (Below.refl _ w).alloc (Nat.le_refl _) _

theorem alloc_cell {w : World} {o : Obj} {a : Addr} {v : Value} (h : w.cell? a = some v) : (w.alloc o).cell? a = some v := by
  rw [Sort.alloc_eq_grow, Sort.cell?_grow _ _ _ (block_lt_of_cell h)]; exact h

theorem edgeP_two (V : Int) (a b : Nat) (r : Bool) (h : fitE V ((a : Int), (b : Int), 1) = r) : edgeP V [a, b] = if r then some ((a : Int), (b : Int), 1) else none := by
  show (if fitE V ((a : Int), (b : Int), 1) then _ else _) = _
  rw [h]
theorem edgeP_three (V : Int) (a b c : Nat) (r : Bool) (h : fitE V ((a : Int), (b : Int), (c : Int)) = r) : edgeP V [a, b, c] = if r then some ((a : Int), (b : Int), (c : Int)) else none := by
  show (if fitE V ((a : Int), (b : Int), (c : Int)) then _ else _) = _
  rw [h]
theorem edgeP_few (V : Int) (ns : List Nat) (h : ns.length < 2 ∨ 3 < ns.length) : edgeP V ns = none := by
  rcases ns with _ | ⟨a, _ | ⟨b, _ | ⟨c, _ | ⟨d, t⟩⟩⟩⟩
  · rfl
  · rfl
  · simp at h
  · simp at h
  · rfl

set_option maxRecDepth 100000 in
set_option maxHeartbeats 400000 in
theorem edgeOf_two (D : Nat) (V : Int) (A : Option Addr) (c : Nat) (a b : Nat) (w : World) (hD : w.cell? ⟨D, 0, none⟩ = some (.int .i64 V)) (hA : NAt w A [a, b]) :
    Calls Tryz.prog 78 #[.pointer (some ⟨D, 0, none⟩), .slice A 2 c] w fun e w' => EdgeRes e (edgeP V [a, b]) ∧ Below w.heap.size w w' := by
  obtain ⟨g, rfl, c0⟩ := hA 0 a rfl
  obtain ⟨g', hg, c1⟩ := hA 1 b rfl
  obtain rfl : g = g' := by simpa using hg
  obtain ⟨r, hr⟩ : ∃ r, fitE V ((a : Int), (b : Int), 1) = r := ⟨_, rfl⟩
  rw [edgeP_two V a b r hr]
  have HR := Lib.hid hr; clear hr hA hg
  have d0 := alloc_cell (o := .cells #[.int .i64 0, .int .i64 0, .int .i64 0] 42) hD
  have e0 := alloc_cell (o := .cells #[.int .i64 0, .int .i64 0, .int .i64 0] 42) c0
  have e1 := alloc_cell (o := .cells #[.int .i64 0, .int .i64 0, .int .i64 0] 42) c1
  have HZ := Lib.hid (zbox w)
  clear hD c0 c1
  go_enter Tryz.func78, Tryz.ntmps78
  go_wp2
  go_quiet (fail)
  go_wp2_with fail
  refine (edgeMayBe_at _ _ _ _ _ _ HR).mono ?_
  rintro e w1 ⟨rfl, rfl⟩
  cases r with
  | true =>
    go_wp2
    refine bodyPost_ret (v := .tuple #[.agg #[.int .i64 (a : Int), .int .i64 (b : Int), .int .i64 1], .bool true]) (by simp [results, Tryz.results78, go_sem]) rfl ⟨rfl, ?_⟩
    exact (((below_drewN HZ.out _).setCell (p := ⟨w.heap.size, 0, none⟩) (Nat.le_refl _) _).setCell (p := ⟨w.heap.size, 1, none⟩) (Nat.le_refl _) _).setCell (p := ⟨w.heap.size, 2, none⟩) (Nat.le_refl _) _
  | false =>
    go_wp2
    refine bodyPost_ret (v := .tuple #[.agg #[.int .i64 0, .int .i64 0, .int .i64 0], .bool false]) (by simp [results, Tryz.results78, go_sem]) rfl ⟨rfl, ?_⟩
    exact (((below_drewN HZ.out _).setCell (p := ⟨w.heap.size, 0, none⟩) (Nat.le_refl _) _).setCell (p := ⟨w.heap.size, 1, none⟩) (Nat.le_refl _) _).setCell (p := ⟨w.heap.size, 2, none⟩) (Nat.le_refl _) _

set_option maxRecDepth 100000 in
set_option maxHeartbeats 400000 in
theorem edgeOf_three (D : Nat) (V : Int) (A : Option Addr) (c : Nat) (a b d : Nat) (w : World) (hD : w.cell? ⟨D, 0, none⟩ = some (.int .i64 V)) (hA : NAt w A [a, b, d]) :
    Calls Tryz.prog 78 #[.pointer (some ⟨D, 0, none⟩), .slice A 3 c] w fun e w' => EdgeRes e (edgeP V [a, b, d]) ∧ Below w.heap.size w w' := by
  obtain ⟨g, rfl, c0⟩ := hA 0 a rfl
  obtain ⟨g', hg, c1⟩ := hA 1 b rfl
  obtain rfl : g = g' := by simpa using hg
  obtain ⟨g2, hg2, c2⟩ := hA 2 d rfl
  obtain rfl : g = g2 := by simpa using hg2
  clear hg2
  obtain ⟨r, hr⟩ : ∃ r, fitE V ((a : Int), (b : Int), (d : Int)) = r := ⟨_, rfl⟩
  rw [edgeP_three V a b d r hr]
  have HR := Lib.hid hr; clear hr hA hg
  have d0 := alloc_cell (o := .cells #[.int .i64 0, .int .i64 0, .int .i64 0] 42) hD
  have e0 := alloc_cell (o := .cells #[.int .i64 0, .int .i64 0, .int .i64 0] 42) c0
  have e1 := alloc_cell (o := .cells #[.int .i64 0, .int .i64 0, .int .i64 0] 42) c1
  have HZ := Lib.hid (zbox w)
  have e2 := alloc_cell (o := .cells #[.int .i64 0, .int .i64 0, .int .i64 0] 42) c2
  clear hD c0 c1 c2
  go_enter Tryz.func78, Tryz.ntmps78
  go_wp2
  go_quiet (fail)
  go_wp2_with fail
  refine (edgeMayBe_at _ _ _ _ _ _ HR).mono ?_
  rintro e w1 ⟨rfl, rfl⟩
  cases r with
  | true =>
    go_wp2
    refine bodyPost_ret (v := .tuple #[.agg #[.int .i64 (a : Int), .int .i64 (b : Int), .int .i64 (d : Int)], .bool true]) (by simp [results, Tryz.results78, go_sem]) rfl ⟨rfl, ?_⟩
    exact (((below_drewN HZ.out _).setCell (p := ⟨w.heap.size, 0, none⟩) (Nat.le_refl _) _).setCell (p := ⟨w.heap.size, 1, none⟩) (Nat.le_refl _) _).setCell (p := ⟨w.heap.size, 2, none⟩) (Nat.le_refl _) _
  | false =>
    go_wp2
    refine bodyPost_ret (v := .tuple #[.agg #[.int .i64 0, .int .i64 0, .int .i64 0], .bool false]) (by simp [results, Tryz.results78, go_sem]) rfl ⟨rfl, ?_⟩
    exact (((below_drewN HZ.out _).setCell (p := ⟨w.heap.size, 0, none⟩) (Nat.le_refl _) _).setCell (p := ⟨w.heap.size, 1, none⟩) (Nat.le_refl _) _).setCell (p := ⟨w.heap.size, 2, none⟩) (Nat.le_refl _) _

set_option maxRecDepth 100000 in
set_option maxHeartbeats 400000 in
theorem edgeOf_few (D : Nat) (A : Option Addr) (c n : Nat) (w : World) (hn : n < 2 ∨ 3 < n) :
    Calls Tryz.prog 78 #[.pointer (some ⟨D, 0, none⟩), .slice A n c] w fun e w' => e = .returned (.tuple #[.agg #[.int .i64 0, .int .i64 0, .int .i64 0], .bool false]) ∧ Below w.heap.size w w' := by
  have HZ := Lib.hid (zbox w)
  by_cases h2 : n < 2
  · go_enter Tryz.func78, Tryz.ntmps78
    go_wp2
    refine bodyPost_ret (v := .tuple #[.agg #[.int .i64 0, .int .i64 0, .int .i64 0], .bool false]) (by simp [results, Tryz.results78, go_sem]) rfl ⟨rfl, ?_⟩
    exact HZ.out
  · have h3 : 3 < n := by omega
    clear hn
    go_enter Tryz.func78, Tryz.ntmps78
    go_wp2
    refine bodyPost_ret (v := .tuple #[.agg #[.int .i64 0, .int .i64 0, .int .i64 0], .bool false]) (by simp [results, Tryz.results78, go_sem]) rfl ⟨rfl, ?_⟩
    exact HZ.out

theorem edgeOf_any (D : Nat) (V : Int) (A : Option Addr) (c n : Nat) (ns : List Nat) (w : World) (hn : ns.length = n) (hD : w.cell? ⟨D, 0, none⟩ = some (.int .i64 V)) (hA : Hid (NAt w A ns)) (r : Option Ed) (hr : Hid (edgeP V ns = r)) :
    Calls Tryz.prog 78 #[.pointer (some ⟨D, 0, none⟩), .slice A n c] w fun e w' => EdgeRes e r ∧ Hid (Below w.heap.size w w') := by
  subst hn
  rw [← hr.out]
  by_cases hf : ns.length < 2 ∨ 3 < ns.length
  · rw [edgeP_few V ns hf]
    exact (edgeOf_few D A c _ w hf).mono fun e w' ⟨h1, h2⟩ => ⟨h1, Lib.hid h2⟩
  · rcases ns with _ | ⟨a, _ | ⟨b, _ | ⟨d, _ | ⟨x, t⟩⟩⟩⟩
    · simp at hf
    · simp at hf
    · exact (edgeOf_two D V A c a b w hD hA.out).mono fun e w' ⟨h1, h2⟩ => ⟨h1, Lib.hid h2⟩
    · exact (edgeOf_three D V A c a b d w hD hA.out).mono fun e w' ⟨h1, h2⟩ => ⟨h1, Lib.hid h2⟩
    · simp at hf

end Go.Proofs.YtmcmpjcijbeilaaGreatDoor.Gr
