/-
  What is proved here: words for a state that is being made: its box, its two rows, and boxes that stay. No condition. What is proved here: contracts of what tells whether two rows, and two states, are the same. Conditions: counts fit an int.
-/
import Derived.Test.YtkbmmlombigkmaaGreatQbSqTmx
namespace Go.Proofs.YtkbmmlombigkmaaGreat.Sq
open Go.RowKit Go.Shelf Gr Wd Ws Fx Rk Lb Al In
abbrev Fxd := List (Nat × Array Value × TypeId)
structure NxH (w W : World) (bo B : Nat) (fx : Fxd) (a0 a3 a4 a5 : Value) (l1 : List Int) (l2 : List Bool) (va ua vb ub : Value) : Prop where
  below : Below w.heap.size w W
  fixed : ∀ p ∈ fx, W.heap[p.1]? = some (.cells p.2.1 p.2.2 (0, 0))
  ob : W.heap[bo]? = some (.cells #[a0, va, vb, a3, a4, a5] 45 (0, 0))
  qo : QOwn W B ua l1
  mo : BOwn W B ub l2
  apart : ∀ p ∈ fx, p.1 ≠ bo ∧ 2 ≠ p.2.2 ∧ 4 ≠ p.2.2
  lo : w.heap.size ≤ bo ∧ w.heap.size ≤ B
section
variable {w W W' : World} {bo B : Nat} {fx : Fxd} {a0 a3 a4 a5 : Value} {l1 l1' : List Int} {l2 l2' : List Bool} {va ua vb ub u : Value}
theorem NxH.step (h : NxH w W bo B fx a0 a3 a4 a5 l1 l2 va ua vb ub) (hb : Below W.heap.size W W') : NxH w W' bo B fx a0 a3 a4 a5 l1 l2 va ua vb ub :=
  ⟨step_below h.below h.below.size hb, fun p hp => keep (h.fixed p hp) hb, keep h.ob hb, h.qo.below hb, h.mo.below hb, h.apart, h.lo⟩
theorem NxH.kept (h : NxH w W bo B fx a0 a3 a4 a5 l1 l2 va ua vb ub) {row : Option Nat} (hg : W.grownBy W' row) (hr : ∀ r, row = some r → ∃ o, W.heap[r]? = some o ∧ o.isCells = false) (hn : ∀ r, row = some r → w.heap.size ≤ r) : NxH w W' bo B fx a0 a3 a4 a5 l1 l2 va ua vb ub :=
  ⟨Below.grown h.below hg h.below.size hn, fun p hp => obj_kept hg hr (h.fixed p hp), obj_kept hg hr h.ob, row_kept hg hr h.qo, row_kept hg hr h.mo, h.apart, h.lo⟩
end
def SOwn (w : World) (B : Nat) (x : Value) (st : Int) (s : Sq) : Prop := ∃ va vc vi, x = .agg #[.int .i64 st, va, vc, vi, .int .i64 s.sum, .int .i64 s.most] ∧ QOwn w B va s.vals ∧ BOwn w B vc s.chg ∧ KOwn w B vi s.inb
theorem SOwn.below {w w' : World} {B : Nat} {x : Value} {st : Int} {s : Sq} (h : SOwn w B x st s) (hb : Below w.heap.size w w') : SOwn w' B x st s := by
  obtain ⟨va, vc, vi, e, h1, h2, h3⟩ := h
  exact ⟨va, vc, vi, e, h1.below hb, h2.below hb, h3.below hb⟩
theorem SOwn.mono {w : World} {B B' : Nat} {x : Value} {st : Int} {s : Sq} (h : SOwn w B x st s) (hb : B' ≤ B) : SOwn w B' x st s := by
  obtain ⟨va, vc, vi, e, h1, h2, h3⟩ := h
  exact ⟨va, vc, vi, e, h1.mono hb, h2.mono hb, h3.mono hb⟩
theorem SOwn.form {w : World} {B : Nat} {x : Value} {st : Int} {s : Sq} (h : SOwn w B x st s) : ∃ Av cv Ac cc Ai ci, x = .agg #[.int .i64 st, .slice Av s.vals.length cv, .slice Ac s.chg.length cc, .slice Ai s.inb.length ci, .int .i64 s.sum, .int .i64 s.most] ∧ IAt w Av s.vals ∧ BAt w Ac s.chg ∧ KAt w Ai s.inb := by
  obtain ⟨va, vc, vi, e, h1, h2, h3⟩ := h
  obtain ⟨Av, cv, rfl, g1⟩ := h1.form
  obtain ⟨Ac, cc, rfl, g2⟩ := h2.form
  obtain ⟨Ai, ci, rfl, g3, _⟩ := h3.room
  exact ⟨Av, cv, Ac, cc, Ai, ci, e, g1, g2, g3⟩
end Go.Proofs.YtkbmmlombigkmaaGreat.Sq
namespace Go.Proofs.YtkbmmlombigkmaaGreat.Sq
open Go.RowKit Gr Wd Ws Fx Rk Lb Al In
def SqRel (w : World) (L M : List Int) (g : Nat) (i : Value) (wr : World) : Prop :=
  ∃ k : Nat, k + g = L.length ∧ i = .int .i64 (k : Int) ∧ Below w.heap.size w wr ∧ decide (L = M) = decide (L.drop k = M.drop k)
set_option maxRecDepth 100000 in
set_option maxHeartbeats 600000 in
theorem equalQ_any (A B : Option Addr) (n m c d : Nat) (L M : List Int) (w : World) (hL : IAt w A L) (hM : IAt w B M) (hn : L.length = n) (hm : M.length = m) (hl : n ≤ 9223372036854775807) (_hm2 : m ≤ 9223372036854775807) :
    Calls Tryz.prog 40 #[.slice A n c, .slice B m d] w fun e w' => e = .returned (.bool (decide (L = M))) ∧ Below w.heap.size w w' := by
  have mixed := mixedI
  have HL := Lib.hid hL; have HM := Lib.hid hM; have HLn := Lib.hid hn; have HMm := Lib.hid hm; clear hL hM hn hm
  obtain ⟨R, hR⟩ : ∃ R, decide (L = M) = R := ⟨_, rfl⟩
  rw [hR]
  have HR := Lib.hid hR; clear hR
  by_cases hlm : n = m
  · subst hlm
    go_enter Tryz.func40, Tryz.ntmps40
    go_wp2
    go_loopg [13] n (fun g i wr => SqRel w L M g i wr)
    case atStart => exact ⟨0, by have := HLn.out; omega, rfl, Below.refl _ w, rfl⟩
    case round =>
      obtain ⟨k, hk, rfl, hb, hd⟩ := hrel
      rw [HLn.out] at hk
      by_cases hlt : k < n
      · obtain ⟨e, he⟩ := at_lt L k (by rw [HLn.out]; exact hlt)
        obtain ⟨f, hf⟩ := at_lt M k (by rw [HMm.out]; exact hlt)
        obtain ⟨bk, o, rfl, c0⟩ := (HL.out.below hb) k e he
        obtain ⟨bk', o', rfl, d0⟩ := (HM.out.below hb) k f hf
        rw [drop_at he, drop_at hf] at hd
        have HB := Lib.hid hb; have HD := Lib.hid hd
        clear hb hd he hf
        by_cases hef : e = f
        · subst hef
          go_wp2
          go_quiet (fail)
          go_wp2
          go_roundg (gk - 1)
          case measure => omega
          case rel =>
            refine ⟨k + 1, by have := HLn.out; omega, by go_num, Ws.below_drewN HB.out _, ?_⟩
            rw [HD.out]; simp
        · go_wp2
          go_quiet (fail)
          go_wp2
          go_ret
          refine ⟨ret_b ?_, Ws.below_drewN HB.out _⟩
          rw [← HR.out, HD.out]
          simp only [List.cons.injEq, hef, false_and, decide_false]
      · have HB := Lib.hid hb; have HD := Lib.hid hd
        have HK : Hid (k = n) := Lib.hid (by omega)
        clear hb hd
        go_wp2
        go_ret
        refine ⟨ret_b ?_, HB.out⟩
        rw [← HR.out, HD.out, HK.out]
        rw [List.drop_eq_nil_of_le (by rw [HLn.out]; exact Nat.le_refl _), List.drop_eq_nil_of_le (by rw [HMm.out]; exact Nat.le_refl _)]; simp
  · have hne : R = false := by
      rw [← HR.out]
      exact decide_eq_false fun h => hlm (by rw [← HLn.out, ← HMm.out, h])
    subst hne
    go_enter Tryz.func40, Tryz.ntmps40
    go_wp2
    go_ret
    exact ⟨rfl, Below.refl _ w⟩
set_option maxRecDepth 100000 in
set_option maxHeartbeats 600000 in
theorem kitq_any (A B : Option Addr) (n m c d : Nat) (L M : List Int) (w : World) (hL : IAt w A L) (hM : IAt w B M) (hn : L.length = n) (hm : M.length = m) (hl : n ≤ 9223372036854775807) (_hm2 : m ≤ 9223372036854775807) :
    Calls Tryz.prog 11 #[.slice A n c, .slice B m d] w fun e w' => e = .returned (.bool (decide (L = M))) ∧ Below w.heap.size w w' := by
  have mixed := mixedI
  have HL := Lib.hid hL; have HM := Lib.hid hM; have HLn := Lib.hid hn; have HMm := Lib.hid hm; clear hL hM hn hm
  obtain ⟨R, hR⟩ : ∃ R, decide (L = M) = R := ⟨_, rfl⟩
  rw [hR]
  have HR := Lib.hid hR; clear hR
  by_cases hlm : n = m
  · subst hlm
    go_enter Tryz.func11, Tryz.ntmps11
    go_wp2
    go_loopg [5] n (fun g i wr => SqRel w L M g i wr)
    case atStart => exact ⟨0, by have := HLn.out; omega, rfl, Below.refl _ w, rfl⟩
    case round =>
      obtain ⟨k, hk, rfl, hb, hd⟩ := hrel
      rw [HLn.out] at hk
      by_cases hlt : k < n
      · obtain ⟨e, he⟩ := at_lt L k (by rw [HLn.out]; exact hlt)
        obtain ⟨f, hf⟩ := at_lt M k (by rw [HMm.out]; exact hlt)
        obtain ⟨bk, o, rfl, c0⟩ := (HL.out.below hb) k e he
        obtain ⟨bk', o', rfl, d0⟩ := (HM.out.below hb) k f hf
        rw [drop_at he, drop_at hf] at hd
        have HB := Lib.hid hb; have HD := Lib.hid hd
        clear hb hd he hf
        by_cases hef : e = f
        · subst hef
          go_wp2
          go_quiet (fail)
          go_wp2
          go_roundg (gk - 1)
          case measure => omega
          case rel =>
            refine ⟨k + 1, by have := HLn.out; omega, by go_num, Ws.below_drewN HB.out _, ?_⟩
            rw [HD.out]; simp
        · go_wp2
          go_quiet (fail)
          go_wp2
          go_ret
          refine ⟨ret_b ?_, Ws.below_drewN HB.out _⟩
          rw [← HR.out, HD.out]
          simp only [List.cons.injEq, hef, false_and, decide_false]
      · have HB := Lib.hid hb; have HD := Lib.hid hd
        have HK : Hid (k = n) := Lib.hid (by omega)
        clear hb hd
        go_wp2
        go_ret
        refine ⟨ret_b ?_, HB.out⟩
        rw [← HR.out, HD.out, HK.out]
        rw [List.drop_eq_nil_of_le (by rw [HLn.out]; exact Nat.le_refl _), List.drop_eq_nil_of_le (by rw [HMm.out]; exact Nat.le_refl _)]; simp
  · have hne : R = false := by
      rw [← HR.out]
      exact decide_eq_false fun h => hlm (by rw [← HLn.out, ← HMm.out, h])
    subst hne
    go_enter Tryz.func11, Tryz.ntmps11
    go_wp2
    go_ret
    exact ⟨rfl, Below.refl _ w⟩
structure SAt (w : World) (Av Ac Ai : Option Addr) (nv nc ni : Nat) (s : Sq) : Prop where
  v : IAt w Av s.vals
  c : BAt w Ac s.chg
  i : KAt w Ai s.inb
  nv : s.vals.length = nv
  nc : s.chg.length = nc
  ni : s.inb.length = ni
theorem SAt.below {w w' : World} {Av Ac Ai : Option Addr} {nv nc ni : Nat} {s : Sq} (h : SAt w Av Ac Ai nv nc ni s) (hb : Below w.heap.size w w') : SAt w' Av Ac Ai nv nc ni s := ⟨h.v.below hb, h.c.below hb, h.i.below hb, h.nv, h.nc, h.ni⟩
end Go.Proofs.YtkbmmlombigkmaaGreat.Sq
