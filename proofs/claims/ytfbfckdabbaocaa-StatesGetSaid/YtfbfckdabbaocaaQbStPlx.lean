/-
  What is proved here: contracts of the law's few and of the kit's Pick; the law's function StatesBack returns true: what is put is got, what is got is put, no beginning is a part. Condition: lengths fit an int. What is proved here: a contract of the law's plain; how calls and conversions stand in a region that draws. No condition.
-/
import Derived.Test.YtfbfckdabbaocaaQbStWk
import Derived.Test.YtfbfckdabbaocaaQbStR1
import Derived.Lib.QuietBelow
namespace Go.Proofs.Ytfbfckdabbaocaa.St
open Go.RowKit Gr Wd Ws Fx Rk Lb Al In
open Sq (BAt BOwn QOwn bls)
open Fld (dg num)
def Few (no nv nc ni : Nat) : Prop := no ≤ 60 ∧ nv ≤ 60 ∧ nc ≤ 60 ∧ ni ≤ 60
instance (no nv nc ni : Nat) : Decidable (Few no nv nc ni) := inferInstanceAs (Decidable (_ ∧ _))
end Go.Proofs.Ytfbfckdabbaocaa.St
namespace Go.Proofs.Ytfbfckdabbaocaa.St
open Go.RowKit Gr Wd Ws Fx Rk Lb Al In
open Sq (BAt BOwn QOwn bls)
open Fld (dg num)
theorem regS {P : Program} {f : FuncId} {args : Array Value} {w : World} {v : Value} (h : ∀ W, Below w.heap.size w W → Calls P f args W fun e w' => e = .returned v ∧ Hid (Below W.heap.size W w')) :
    ∀ (d : Nat) (os : Array Obj), Calls P f args (Sort.grow (redrawn w d) os) fun e w'' => e = .returned v ∧ ∃ p : Regrown, w'' = Sort.grow (redrawn w p.d) p.os :=
  fun d os => Calls.regrown_of (h _ (below_regrown w d os))
theorem conS {w : World} {A : Option Addr} {l : List Nat} {n c : Nat} {S : ByteArray} (h : Fd.At w A l) (hn : n = l.length) (hS : Fd.str l = S) :
    ∀ (d : Nat) (os : Array Obj), (convert 30 9 (.slice A n c)).run Try.prog (Sort.grow (redrawn w d) os) = .ok (.string S) (Sort.grow (redrawn w d) os) := by
  intro d os
  subst hn hS
  exact Fd.conv_at _ A l c (h.below (below_regrown w d os))
set_option maxRecDepth 100000 in
theorem plain_any (s : Int) (Ao Av Ac Ai : Option Addr) (no nv nc ni co cv cc ci : Nat) (w : World) :
    Calls Try.prog 13 #[.agg #[.int .i64 s, .slice Ao no co, .slice Av nv cv, .slice Ac nc cc, .slice Ai ni ci]] w fun e w' => e = .returned (.agg #[.int .i64 s, .slice Ao no co, .slice Av nv cv, .slice Ac nc cc, .slice Ai ni ci]) ∧ Hid (Below w.heap.size w w') := by
  have hal := al2 w (.cells #[.int .i64 s, .slice Ao no co, .slice Av nv cv, .slice Ac nc cc, .slice Ai ni ci] 27) (.cells #[.int .i64 0, .slice none 0 0, .slice none 0 0, .slice none 0 0, .slice none 0 0] 35)
  obtain ⟨W1, hW1⟩ : ∃ W1, W1 = (w.alloc (.cells #[.int .i64 s, .slice Ao no co, .slice Av nv cv, .slice Ac nc cc, .slice Ai ni ci] 27)).alloc (.cells #[.int .i64 0, .slice none 0 0, .slice none 0 0, .slice none 0 0, .slice none 0 0] 35) := ⟨_, rfl⟩
  rw [← hW1] at hal
  obtain ⟨b0, e0⟩ : ∃ b0, b0 = w.heap.size := ⟨_, rfl⟩
  obtain ⟨b1, e1⟩ : ∃ b1, b1 = w.heap.size + 1 := ⟨_, rfl⟩
  obtain ⟨y0, y1, hb1⟩ := hal
  rw [← e0] at y0; rw [← e1] at y1
  have HB1 := Lib.hid hb1
  have HPW : Hid ((put5 W1 b1 (.int .i64 s) (.slice Ao no co) (.slice Av nv cv) (.slice Ac nc cc) (.slice Ai ni ci)).heap[b1]? = some (.cells #[.int .i64 s, .slice Ao no co, .slice Av nv cv, .slice Ac nc cc, .slice Ai ni ci] 35 (0, 0)) ∧ Below w.heap.size w (put5 W1 b1 (.int .i64 s) (.slice Ao no co) (.slice Av nv cv) (.slice Ac nc cc) (.slice Ai ni ci))) := Lib.hid ⟨put5_heap y1 _ _ _ _ _, put5_below hb1 (by omega) _ _ _ _ _⟩
  obtain ⟨s0, s1, s2, s3, s4, _⟩ := five y0
  obtain ⟨p0, p1, p2, p3, p4, _⟩ := five y1
  have fz0 := Lib.frozen_of_heap y1 0
  have fz1 := Lib.frozen_of_heap y1 1
  have fz2 := Lib.frozen_of_heap y1 2
  have fz3 := Lib.frozen_of_heap y1 3
  have fz4 := Lib.frozen_of_heap y1 4
  clear y0 y1 hb1
  go_enter Try.func13, Try.ntmps13
  go_upto_region 1 with fail
  rw [← hW1, show w.heap.size + 1 = b1 from e1.symm, show w.heap.size = b0 from e0.symm]
  clear hW1 e0 e1
  go_wp2
  refine bodyPost_ret (v := .agg #[.int .i64 s, .slice Ao no co, .slice Av nv cv, .slice Ac nc cc, .slice Ai ni ci]) (res_r _ 2 _ _ b1 _ _ _ _ _ rfl rfl HPW.out.1) rfl ⟨rfl, Lib.hid HPW.out.2⟩
end Go.Proofs.Ytfbfckdabbaocaa.St
