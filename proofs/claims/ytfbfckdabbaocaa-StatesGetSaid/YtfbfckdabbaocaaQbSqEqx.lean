/-
  What is proved here: contracts of what tells whether a state may be: the program's and the document's. Conditions: counts fit an int. What is proved here: boxes of six cells: what they read, what they hold behind a store of all six, and as a function's result. No condition. What is proved here: contracts of what tells whether two rows, and two states, are the same. Conditions: counts fit an int.
-/
import Derived.Test.YtfbfckdabbaocaaQbSqMem
namespace Go.Proofs.Ytfbfckdabbaocaa.Sq
open Go.RowKit Gr Wd Ws Fx Rk Lb Al In
def AyRel (w : World) {α : Type} (p : α → Bool) (l : List α) (gk : Nat) (i : Value) (wr : World) : Prop :=
  ∃ q : Nat, q + gk = l.length ∧ i = .int .i64 (q : Int) ∧ Hid (Below w.heap.size w wr) ∧ Hid (l.any p = (l.drop q).any p)
end Go.Proofs.Ytfbfckdabbaocaa.Sq
namespace Go.Proofs.Ytfbfckdabbaocaa.Sq
open Go.RowKit Gr Wd Ws Fx Rk Lb Al In
theorem six {w : World} {b : Nat} {T : TypeId} {a0 a1 a2 a3 a4 a5 : Value} (h : w.heap[b]? = some (.cells #[a0, a1, a2, a3, a4, a5] T (0, 0))) :
    w.cell? ⟨b, 0, none⟩ = some a0 ∧ w.cell? ⟨b, 1, none⟩ = some a1 ∧ w.cell? ⟨b, 2, none⟩ = some a2 ∧ w.cell? ⟨b, 3, none⟩ = some a3 ∧ w.cell? ⟨b, 4, none⟩ = some a4 ∧ w.cell? ⟨b, 5, none⟩ = some a5 ∧ b < w.heap.size :=
  ⟨by rw [Lib.cell_of_heap h]; rfl, by rw [Lib.cell_of_heap h]; rfl, by rw [Lib.cell_of_heap h]; rfl, by rw [Lib.cell_of_heap h]; rfl, by rw [Lib.cell_of_heap h]; rfl, by rw [Lib.cell_of_heap h]; rfl, lt_of_block h⟩
theorem set_other (w : World) (b i k : Nat) (u : Value) (hk : k ≠ b) : (w.setCell ⟨b, i, none⟩ u).heap[k]? = w.heap[k]? := Below.heap_setCell w ⟨b, i, none⟩ u k hk
theorem own_moved {w w' : World} {b B n s : Nat} {T : TypeId} {v : Value} {xs : List Value} {c : Array Value} {T' : TypeId} (h : w.ownsRow B T s v n xs) (hb : w.heap[b]? = some (.cells c T' (0, 0))) (hT : T ≠ T') (ho : ∀ k, k ≠ b → w'.heap[k]? = w.heap[k]?) : w'.ownsRow B T s v n xs :=
  own_kept h fun g c' fz _ hc => ho g fun e => by
    subst e; rw [hb] at hc; injection hc with hc; injection hc with _ hc _
    exact hT hc.symm
end Go.Proofs.Ytfbfckdabbaocaa.Sq
namespace Go.Proofs.Ytfbfckdabbaocaa.Sq
open Go.RowKit Gr Wd Ws Fx Rk Lb Al In
def SqRel (w : World) (L M : List Int) (g : Nat) (i : Value) (wr : World) : Prop :=
  ∃ k : Nat, k + g = L.length ∧ i = .int .i64 (k : Int) ∧ Below w.heap.size w wr ∧ decide (L = M) = decide (L.drop k = M.drop k)
def SbRel (w : World) (L M : List Bool) (g : Nat) (i : Value) (wr : World) : Prop :=
  ∃ k : Nat, k + g = L.length ∧ i = .int .i64 (k : Int) ∧ Below w.heap.size w wr ∧ decide (L = M) = decide (L.drop k = M.drop k)
set_option maxRecDepth 100000 in
set_option maxHeartbeats 600000 in
theorem equalQ_any (A B : Option Addr) (n m c d : Nat) (L M : List Int) (w : World) (hL : IAt w A L) (hM : IAt w B M) (hn : L.length = n) (hm : M.length = m) (hl : n ≤ 9223372036854775807) (_hm2 : m ≤ 9223372036854775807) :
    Calls Try.prog 50 #[.slice A n c, .slice B m d] w fun e w' => e = .returned (.bool (decide (L = M))) ∧ Below w.heap.size w w' := by
  have mixed := mixedI
  have HL := Lib.hid hL; have HM := Lib.hid hM; have HLn := Lib.hid hn; have HMm := Lib.hid hm; clear hL hM hn hm
  obtain ⟨R, hR⟩ : ∃ R, decide (L = M) = R := ⟨_, rfl⟩
  rw [hR]
  have HR := Lib.hid hR; clear hR
  by_cases hlm : n = m
  · subst hlm
    go_enter Try.func50, Try.ntmps50
    go_wp2
    go_loopg [13] n (fun g i wr => SqRel w L M g i wr)
    case atStart => exact ⟨0, by have := HLn.out; omega, rfl, Below.refl _ w, rfl⟩
    case round =>
      obtain ⟨k, hk, rfl, hb, hd⟩ := hrel
      rw [HLn.out] at hk
      by_cases hlt : k < n
      · obtain ⟨e, he⟩ := at_lt L k (by rw [HLn.out]; exact hlt)
        obtain ⟨f, hf⟩ := at_lt M k (by rw [HMm.out]; exact hlt)
        obtain ⟨bk, o, rfl, c0⟩ := (HL.out.below hb) k e he
        obtain ⟨bk', o', rfl, d0⟩ := (HM.out.below hb) k f hf
        rw [drop_at he, drop_at hf] at hd
        have HB := Lib.hid hb; have HD := Lib.hid hd
        clear hb hd he hf
        by_cases hef : e = f
        · subst hef
          go_wp2
          go_quiet (fail)
          go_wp2
          go_roundg (gk - 1)
          case measure => omega
          case rel =>
            refine ⟨k + 1, by have := HLn.out; omega, by go_num, Ws.below_drewN HB.out _, ?_⟩
            rw [HD.out]; simp
        · go_wp2
          go_quiet (fail)
          go_wp2
          go_ret
          refine ⟨ret_b ?_, Ws.below_drewN HB.out _⟩
          rw [← HR.out, HD.out]
          simp only [List.cons.injEq, hef, false_and, decide_false]
      · have HB := Lib.hid hb; have HD := Lib.hid hd
        have HK : Hid (k = n) := Lib.hid (by omega)
        clear hb hd
        go_wp2
        go_ret
        refine ⟨ret_b ?_, HB.out⟩
        rw [← HR.out, HD.out, HK.out]
        rw [List.drop_eq_nil_of_le (by rw [HLn.out]; exact Nat.le_refl _), List.drop_eq_nil_of_le (by rw [HMm.out]; exact Nat.le_refl _)]; simp
  · have hne : R = false := by
      rw [← HR.out]
      exact decide_eq_false fun h => hlm (by rw [← HLn.out, ← HMm.out, h])
    subst hne
    go_enter Try.func50, Try.ntmps50
    go_wp2
    go_ret
    exact ⟨rfl, Below.refl _ w⟩
set_option maxRecDepth 100000 in
set_option maxHeartbeats 600000 in
theorem equalB_any (A B : Option Addr) (n m c d : Nat) (L M : List Bool) (w : World) (hL : BAt w A L) (hM : BAt w B M) (hn : L.length = n) (hm : M.length = m) (hl : n ≤ 9223372036854775807) (_hm2 : m ≤ 9223372036854775807) :
    Calls Try.prog 51 #[.slice A n c, .slice B m d] w fun e w' => e = .returned (.bool (decide (L = M))) ∧ Below w.heap.size w w' := by
  have mixed := mixedI
  have HL := Lib.hid hL; have HM := Lib.hid hM; have HLn := Lib.hid hn; have HMm := Lib.hid hm; clear hL hM hn hm
  obtain ⟨R, hR⟩ : ∃ R, decide (L = M) = R := ⟨_, rfl⟩
  rw [hR]
  have HR := Lib.hid hR; clear hR
  by_cases hlm : n = m
  · subst hlm
    go_enter Try.func51, Try.ntmps51
    go_wp2
    go_loopg [13] n (fun g i wr => SbRel w L M g i wr)
    case atStart => exact ⟨0, by have := HLn.out; omega, rfl, Below.refl _ w, rfl⟩
    case round =>
      obtain ⟨k, hk, rfl, hb, hd⟩ := hrel
      rw [HLn.out] at hk
      by_cases hlt : k < n
      · obtain ⟨e, he⟩ := at_lt L k (by rw [HLn.out]; exact hlt)
        obtain ⟨f, hf⟩ := at_lt M k (by rw [HMm.out]; exact hlt)
        obtain ⟨bk, o, rfl, c0⟩ := (HL.out.below hb) k e he
        obtain ⟨bk', o', rfl, d0⟩ := (HM.out.below hb) k f hf
        rw [drop_at he, drop_at hf] at hd
        have HB := Lib.hid hb; have HD := Lib.hid hd
        clear hb hd he hf
        rcases e with _ | _ <;> rcases f with _ | _
        · go_wp2
          go_quiet (fail)
          go_wp2
          go_roundg (gk - 1)
          case measure => omega
          case rel =>
            refine ⟨k + 1, by have := HLn.out; omega, by go_num, Ws.below_drewN HB.out _, ?_⟩
            rw [HD.out]; simp
        · go_wp2
          go_quiet (fail)
          go_wp2
          go_ret
          refine ⟨ret_b ?_, Ws.below_drewN HB.out _⟩
          rw [← HR.out, HD.out]
          simp
        · go_wp2
          go_quiet (fail)
          go_wp2
          go_ret
          refine ⟨ret_b ?_, Ws.below_drewN HB.out _⟩
          rw [← HR.out, HD.out]
          simp
        · go_wp2
          go_quiet (fail)
          go_wp2
          go_roundg (gk - 1)
          case measure => omega
          case rel =>
            refine ⟨k + 1, by have := HLn.out; omega, by go_num, Ws.below_drewN HB.out _, ?_⟩
            rw [HD.out]; simp
      · have HB := Lib.hid hb; have HD := Lib.hid hd
        have HK : Hid (k = n) := Lib.hid (by omega)
        clear hb hd
        go_wp2
        go_ret
        refine ⟨ret_b ?_, HB.out⟩
        rw [← HR.out, HD.out, HK.out]
        rw [List.drop_eq_nil_of_le (by rw [HLn.out]; exact Nat.le_refl _), List.drop_eq_nil_of_le (by rw [HMm.out]; exact Nat.le_refl _)]; simp
  · have hne : R = false := by
      rw [← HR.out]
      exact decide_eq_false fun h => hlm (by rw [← HLn.out, ← HMm.out, h])
    subst hne
    go_enter Try.func51, Try.ntmps51
    go_wp2
    go_ret
    exact ⟨rfl, Below.refl _ w⟩
def sameS (p q : Int) (a b : Sq) : Bool := decide (p = q) && (decide (a.sum = b.sum) && (decide (a.most = b.most) && (decide (a.vals = b.vals) && (decide (a.chg = b.chg) && sameB a.inb b.inb))))
structure SAt (w : World) (Av Ac Ai : Option Addr) (nv nc ni : Nat) (s : Sq) : Prop where
  v : IAt w Av s.vals
  c : BAt w Ac s.chg
  i : KAt w Ai s.inb
  nv : s.vals.length = nv
  nc : s.chg.length = nc
  ni : s.inb.length = ni
theorem SAt.below {w w' : World} {Av Ac Ai : Option Addr} {nv nc ni : Nat} {s : Sq} (h : SAt w Av Ac Ai nv nc ni s) (hb : Below w.heap.size w w') : SAt w' Av Ac Ai nv nc ni s := ⟨h.v.below hb, h.c.below hb, h.i.below hb, h.nv, h.nc, h.ni⟩
end Go.Proofs.Ytfbfckdabbaocaa.Sq
