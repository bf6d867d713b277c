/-
  What is proved here: what the law InboxKnown leans on: the laws at pieces of its messages, in whatever world behind the one at hand. No condition.
-/
import Derived.Test.YtgkmmjlhphinhaaInL1
import Derived.Test.YtgkmmjlhphinhaaInL3
namespace Go.Proofs.Ytgkmmjlhphinhaa.In
open Go.RowKit Go.Maps Gr Wd Ws Fx Rk Lb Al

def knL : List Ms := [(3, 7), (1, 4), (3, 5), (0, 9), (511, 1), (3, 7), (2, 0), (1, 4611686018427387904)]
def knO : List Ms := [(-1, 3), (512, 3), (3, -5), (1099511627776, 1)]
def knW : List Int := [0, 1, 2, 3, 511, 3, 5, -1, 512]
theorem knL_to : ToIn knL := by unfold ToIn; decide
theorem knO_to : ToIn (knO ++ knL) := by unfold ToIn; decide
theorem knW_in : OwnIn knW := by unfold OwnIn; decide
theorem mown_block {w : World} {g B n : Nat} {L : List Ms} (h : w.heap[g]? = some (.cells (mcs L).toArray 29 (0, 0))) (hB : B ≤ g) (hn : L.length = n) (hm : n ≤ 1000000) : MOwn w B (.slice (some ⟨g, 0, none⟩) n n) L := by
  subst hn
  refine ⟨mcs_len L, Or.inr ⟨g, L.length, (mcs L).toArray, rfl, hB, h, Nat.le_refl _, by unfold maxLen; omega, by simp [mcs_len], ?_⟩⟩
  rw [List.take_of_length_le (by simp [mcs_len])]
theorem kat_block {w : World} {g : Nat} {l : List Ml} (h : w.heap[g]? = some (.cells (kcs l).toArray 43 (0, 0))) : KAt w (some ⟨g, 0, none⟩) l := by
  intro k e hk
  obtain ⟨a0, a1⟩ := kcs_at l k e hk
  refine ⟨g, 0, rfl, ?_, ?_⟩
  · rw [Nat.zero_add, cell_of_row w g _ _ 43 (0, 0) h, List.getElem?_toArray]; exact a0
  · rw [Nat.zero_add, cell_of_row w g _ _ 43 (0, 0) h, List.getElem?_toArray]; exact a1
/- A call that returns true, in whatever world behind w0. -/
def Yes (w0 : World) (f : FuncId) (args : Array Value) : Prop := ∀ W, Hid (Below w0.heap.size w0 W) → Calls Try.prog f args W fun e w' => e = .returned (.bool true) ∧ Hid (Below w0.heap.size w0 w')
theorem yes_fold (k st so dm ep : Int) (A : Option Addr) (n c : Nat) (L : List Ms) (w0 : World) (hL : MAt w0 A L) (hn : L.length = n) (hT : ToIn L) (hn2 : n ≤ 1000000) : Hid (Yes w0 3 #[.agg #[.int .u8 k, .int .i64 st, .int .i64 so, .int .i64 dm, .int .i64 ep], .slice A n c]) := Lib.hid fun W hW => by
  refine (law_fold k st so dm ep A n c L W (Lib.hid (hL.below hW.out)) (Lib.hid hn) (Lib.hid hT) (by omega)).mono ?_
  rintro e w' ⟨he, hb⟩
  exact ⟨he, Lib.hid (step_below hW.out hW.out.size hb.out)⟩
theorem yes_split (x : Int) (A : Option Addr) (n c : Nat) (L : List Ms) (w0 : World) (hL : MAt w0 A L) (hn : L.length = n) (hn2 : n ≤ 1000000) : Hid (Yes w0 4 #[.slice A n c, .int .i64 x]) := Lib.hid fun W hW => by
  refine (law_split x A n c L W (Lib.hid (hL.below hW.out)) (Lib.hid hn) (by omega)).mono ?_
  rintro e w' ⟨he, hb⟩
  exact ⟨he, Lib.hid (step_below hW.out hW.out.size hb.out)⟩
theorem yes_order (k st so dm ep : Int) (Ao A : Option Addr) (no co n c : Nat) (own : List Int) (L : List Ms) (cut turn z : Int) (w0 : World) (hO : IAt w0 Ao own) (hno : own.length = no) (hL : MAt w0 A L) (hn : L.length = n) (hT : ToIn L) (hOI : OwnIn own) (hc : n ≤ c) (hno2 : no ≤ 1000000) (hn2 : n ≤ 1000000)
    (h0 : 0 ≤ cut) (h1 : cut ≤ 1000) (h2 : 0 ≤ turn) (h3 : turn ≤ 1000) (h4 : 0 ≤ z) (h5 : z ≤ 255) : Hid (Yes w0 6 #[.agg #[.int .u8 k, .int .i64 st, .int .i64 so, .int .i64 dm, .int .i64 ep], .slice Ao no co, .slice A n c, .int .i64 cut, .int .i64 turn, .int .u8 z]) := Lib.hid fun W hW => by
  refine (law_order k st so dm ep Ao A no co n c own L cut turn z W (Lib.hid (hO.below hW.out)) (Lib.hid hno) (Lib.hid (hL.below hW.out)) (Lib.hid hn) (Lib.hid hT) (Lib.hid hOI) (Lib.hid hc) (by omega) (by omega) ⟨by omega, by omega⟩ ⟨by omega, by omega⟩ ⟨h4, h5⟩).mono ?_
  rintro e w' ⟨he, hb⟩
  exact ⟨he, Lib.hid (step_below hW.out hW.out.size hb.out)⟩
theorem yes_works (w0 : World) : Hid (Yes w0 8 #[]) := wk_good w0
/- Of rows and mail that lie in blocks. -/
theorem yes_merge (k st so dm ep : Int) (Ao : Option Addr) (no co m me : Nat) (own : List Int) (vs : List Value) (Ls : List (List Ms)) (oth : List Ml) (w0 W : World) (hO : IAt w0 Ao own) (hno : own.length = no) (hV : RV w0 vs Ls) (hm : vs.length = m) (hT : ToIn Ls.flatten) (hOI : OwnIn own) (hl : ∀ L ∈ Ls, L.length ≤ 1000000) (hno2 : no ≤ 1000000) (hm2 : m ≤ 1000000) (hme : oth.length = me) (hme2 : me ≤ 1000000)
    (g1 g2 : Nat) (hW : Below w0.heap.size w0 W) (h1 : W.heap[g1]? = some (.cells vs.toArray 24 (0, 0))) (h2 : W.heap[g2]? = some (.cells (kcs oth).toArray 43 (0, 0))) :
    Calls Try.prog 5 #[.agg #[.int .u8 k, .int .i64 st, .int .i64 so, .int .i64 dm, .int .i64 ep], .slice Ao no co, .slice (some ⟨g1, 0, none⟩) m m, .slice (some ⟨g2, 0, none⟩) me me] W fun e w' => e = .returned (.bool true) ∧ Hid (Below w0.heap.size w0 w') := by
  refine (law_merge k st so dm ep Ao (some ⟨g1, 0, none⟩) (some ⟨g2, 0, none⟩) no co m m me me own Ls oth W (Lib.hid (hO.below hW)) (Lib.hid hno) (Lib.hid ((hV.below hW).rows h1)) (Lib.hid (by rw [← hV.1]; exact hm)) (Lib.hid (kat_block h2)) (Lib.hid hme) (Lib.hid hT) (Lib.hid hOI) (Lib.hid fun L hL => by have := hl L hL; omega) (by omega) (by omega) (by omega)).mono ?_
  rintro e w' ⟨he, hb⟩
  exact ⟨he, Lib.hid (step_below hW hW.size hb.out)⟩
theorem yes_merge1 (k st so dm ep : Int) (Ao : Option Addr) (no co m : Nat) (own : List Int) (vs : List Value) (Ls : List (List Ms)) (p : Bool) (y : Int) (w0 : World) (hO : IAt w0 Ao own) (hno : own.length = no) (hV : RV w0 vs Ls) (hm : vs.length = m) (hT : ToIn Ls.flatten) (hOI : OwnIn own) (hl : ∀ L ∈ Ls, L.length ≤ 1000000) (hno2 : no ≤ 1000000) (hm2 : m ≤ 1000000) :
    Hid (∀ W, Hid (Below w0.heap.size w0 W) → Calls Try.prog 5 #[.agg #[.int .u8 k, .int .i64 st, .int .i64 so, .int .i64 dm, .int .i64 ep], .slice Ao no co, .slice (some ⟨W.heap.size, 0, none⟩) m m, .slice (some ⟨W.heap.size + 1, 0, none⟩) 1 1] ((W.alloc (.cells vs.toArray 24)).alloc (.cells #[.bool p, .int .i64 y] 43)) fun e w' => e = .returned (.bool true) ∧ Hid (Below w0.heap.size w0 w')) := Lib.hid fun W hW => by
  obtain ⟨a1, a2, hb⟩ := al2 W (.cells vs.toArray 24) (.cells #[.bool p, .int .i64 y] 43)
  exact yes_merge k st so dm ep Ao no co m 1 own vs Ls [(p, y)] w0 _ hO hno hV hm hT hOI hl hno2 hm2 rfl (by omega) _ _ (step_below hW.out hW.out.size hb) a1 a2
theorem yes_merge2 (k st so dm ep : Int) (Ao : Option Addr) (no co m : Nat) (own : List Int) (vs : List Value) (Ls : List (List Ms)) (p : Bool) (y : Int) (w0 : World) (hO : IAt w0 Ao own) (hno : own.length = no) (hV : RV w0 vs Ls) (hm : vs.length = m) (hT : ToIn Ls.flatten) (hOI : OwnIn own) (hl : ∀ L ∈ Ls, L.length ≤ 1000000) (hno2 : no ≤ 1000000) (hm2 : m ≤ 1000000) :
    Hid (∀ W, Hid (Below w0.heap.size w0 W) → Calls Try.prog 5 #[.agg #[.int .u8 k, .int .i64 st, .int .i64 so, .int .i64 dm, .int .i64 ep], .slice Ao no co, .slice (some ⟨W.heap.size + 1, 0, none⟩) m m, .slice (some ⟨W.heap.size, 0, none⟩) 1 1] ((W.alloc (.cells #[.bool p, .int .i64 y] 43)).alloc (.cells vs.toArray 24)) fun e w' => e = .returned (.bool true) ∧ Hid (Below w0.heap.size w0 w')) := Lib.hid fun W hW => by
  obtain ⟨a1, a2, hb⟩ := al2 W (.cells #[.bool p, .int .i64 y] 43) (.cells vs.toArray 24)
  exact yes_merge k st so dm ep Ao no co m 1 own vs Ls [(p, y)] w0 _ hO hno hV hm hT hOI hl hno2 hm2 rfl (by omega) _ _ (step_below hW.out hW.out.size hb) a2 a1
end Go.Proofs.Ytgkmmjlhphinhaa.In
