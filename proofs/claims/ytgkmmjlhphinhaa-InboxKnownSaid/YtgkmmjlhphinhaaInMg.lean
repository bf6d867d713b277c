/-
  What is proved here: a contract of inbox.Merge: the mail of vertices. Conditions: vertices fit an int, fewer than 10^9 messages, fewer than 1000000 vertices asked for.
-/
import Derived.Test.YtgkmmjlhphinhaaInK
import Derived.Test.YtgkmmjlhphinhaaInF
namespace Go.Proofs.Ytgkmmjlhphinhaa.In
open Go.RowKit Go.Maps Gr Wd Ws Fx Rk Lb Al

def OwnIn (l : List Int) : Prop := ∀ x ∈ l, -9223372036854775808 ≤ x ∧ x ≤ 9223372036854775807
theorem mergeM_take {k : Int} {own : List Int} {rows : List (List Ms)} {q : Nat} {x : Int} (h : own[q]? = some x) : mergeM k (own.take q) rows ++ [mlOf (mailM k x rows.flatten)] = mergeM k (own.take (q + 1)) rows := by
  rw [take_at h]; unfold mergeM; rw [List.map_append]; rfl
structure MgH (w wr : World) (M B : Nat) (k : Int) (Ls : List (List Ms)) (own : List Int) (v : Value) (q : Nat) : Prop where
  below : Below w.heap.size w wr
  map : CM wr M k Ls.flatten
  row : KOwn wr B v (mergeM k (own.take q) Ls)
def MgRel (w : World) (M B : Nat) (k : Int) (Ls : List (List Ms)) (own : List Int) (gk : Nat) (v i : Value) (wr : World) : Prop :=
  ∃ q : Nat, q + gk = own.length ∧ i = .int .i64 (q : Int) ∧ Hid (MgH w wr M B k Ls own v q)
theorem kb_alloc (w : World) (p : Bool) (y : Int) : (w.alloc (.cells #[.bool p, .int .i64 y] 43)).heap[w.heap.size]? = some (.cells #[.bool p, .int .i64 y] 43 (0, 0)) := heap_alloc_new w _

set_option maxRecDepth 100000 in
set_option maxHeartbeats 4000000 in
theorem merge_any (k st so dm ep : Int) (Ao A : Option Addr) (no co n c : Nat) (own : List Int) (Ls : List (List Ms)) (w : World) (hO : IAt w Ao own) (hno : own.length = no) (hR : RMs w A Ls) (hn : Ls.length = n) (hT : ToIn Ls.flatten) (hOI : OwnIn own) (hno2 : no < 1000000) (hn2 : n ≤ 1000000) (hF : Ls.flatten.length < 1000000000) :
    Calls Try.prog 14 #[.agg #[.int .u8 k, .int .i64 st, .int .i64 so, .int .i64 dm, .int .i64 ep], .slice Ao no co, .slice A n c] w fun e w' => ∃ v, e = .returned v ∧ Hid (KOwn w' w.heap.size v (mergeM k own Ls)) ∧ Hid (Below w.heap.size w w') := by
  have mixed := mixedI
  have HO := Lib.hid hO; have HNO := Lib.hid hno; have HOI := Lib.hid hOI
  have HR := Lib.hid hR; have HN := Lib.hid hn; have HT := Lib.hid hT; have HF := Lib.hid hF
  clear hO hno hOI hR hn hT hF
  obtain ⟨W1, hW1⟩ : ∃ W1, W1 = w.alloc (.cells #[.int .u8 k, .int .i64 st, .int .i64 so, .int .i64 dm, .int .i64 ep] 23) := ⟨_, rfl⟩
  have x0 : W1.heap[w.heap.size]? = some (.cells #[.int .u8 k, .int .i64 st, .int .i64 so, .int .i64 dm, .int .i64 ep] 23 (0, 0)) := by rw [hW1]; exact heap_alloc_new w _
  have hb1 : Below w.heap.size w W1 := by rw [hW1]; exact (Below.refl _ w).alloc (Nat.le_refl _) _
  have HC : Hid (Calls Try.prog 19 #[.agg #[.int .u8 k, .int .i64 st, .int .i64 so, .int .i64 dm, .int .i64 ep], .slice A n c] W1 fun e w' => (∃ M, e = .returned (.map (some M)) ∧ Hid (W1.heap.size ≤ M) ∧ Hid (CM w' M k Ls.flatten)) ∧ Hid (Below W1.heap.size W1 w')) := Lib.hid (by
    have := together_any k st so dm ep A c Ls W1 (HR.out.below hb1) HT.out (by rw [HN.out]; omega) HF.out
    rwa [HN.out] at this)
  have HB1 := Lib.hid hb1
  obtain ⟨j0, j1, j2, j3, j4, _⟩ := jb_cells x0
  clear x0 hb1
  go_enter Try.func14, Try.ntmps14
  go_upto_region 1 with fail
  rw [← hW1]
  clear hW1
  go_wp2_with fail
  refine (HC.out).mono ?_
  rintro e w2 ⟨⟨M, rfl, hMge, HM⟩, hb2⟩
  have HB2 := Lib.hid (step_below HB1.out HB1.out.size hb2.out)
  clear HC j0 j1 j2 j3 j4 hMge hb2 HB1
  obtain ⟨i0, hi, hz0, hz1, hz2⟩ := info_parts infoK
  obtain ⟨w3, hmk, hown3, hg3⟩ := run_make_own (P := Try.prog) (w := w2) w2.heap.size 35 43 i0 _ 2 Try.underlying35 hi hz0 hz1 .i64 .i64 no (by rw [hz2]; omega) (by unfold maxLen; omega) (Nat.le_refl _)
  have hb3 : Below w2.heap.size w2 w3 := ⟨hg3.os, hg3.tape, hg3.output, hg3.size, fun i hi => hg3.block i hi nofun⟩
  obtain ⟨B, hB⟩ : ∃ B, B = w2.heap.size := ⟨_, rfl⟩
  have HH : Hid (MgH w w3 M B k Ls own (.slice (some ⟨w2.heap.size, 0, none⟩) 0 no) 0) := Lib.hid ⟨step_below HB2.out HB2.out.size hb3, HM.out.below hb3, by rw [hB]; exact hown3⟩
  have HMB : Hid (M < B) := Lib.hid (by rw [hB]; exact HM.out.lt)
  have HBS : Hid (B ≤ w3.heap.size) := Lib.hid (by rw [hB]; exact hb3.size)
  have HBW : Hid (w.heap.size ≤ B) := Lib.hid (by rw [hB]; exact HB2.out.size)
  clear hown3 hg3 hb3 hi hz0 hz1 hz2 HM HB2 hB
  go_wp2_with fail
  go_loopg [8, 19] no (fun gk v i wr => MgRel w M B k Ls own gk v i wr ∧ Hid (B ≤ wr.heap.size))
  case atStart => exact ⟨⟨0, by have := HNO.out; omega, rfl, HH⟩, HBS⟩
  case round =>
    clear HH HBS
    obtain ⟨⟨q, hq, rfl, HH⟩, HBS⟩ := hrel
    rw [HNO.out] at hq
    by_cases hlt : q < no
    · obtain ⟨x, hx⟩ := at_lt own q (by rw [HNO.out]; exact hlt)
      obtain ⟨bk, o, rfl, c0⟩ := (HO.out.below HH.out.below) q x hx
      obtain ⟨⟨p, y⟩, hpy⟩ : ∃ m : Ml, mlOf (mailM k x Ls.flatten) = m := ⟨_, rfl⟩
      have hlk : (Instr.lookup 44 (.map (some M)) (.int .i64 x) false).run Try.prog wr = .ok (.agg #[.bool p, .int .i64 y]) wr := by
        have := HH.out.map.look (HOI.out x (List.mem_of_getElem? hx))
        rw [hpy] at this; exact this
      have HNX : Hid (mergeM k (own.take q) Ls ++ [(p, y)] = mergeM k (own.take (q + 1)) Ls) := Lib.hid (by rw [← mergeM_take hx, hpy])
      have HO1 := Lib.hid (HH.out.row.alloc (.cells #[.bool p, .int .i64 y] 43))
      have HN1 := Lib.hid (kb_alloc wr p y)
      have hb1 : Below wr.heap.size wr (wr.alloc (.cells #[.bool p, .int .i64 y] 43)) := (Below.refl _ wr).alloc (Nat.le_refl _) _
      have HB1 := Lib.hid (step_below HH.out.below HH.out.below.size hb1)
      have HM1 := Lib.hid (HH.out.map.below hb1)
      have HS1 : Hid (B ≤ (wr.alloc (.cells #[.bool p, .int .i64 y] 43)).heap.size) := Lib.hid (Nat.le_trans HBS.out hb1.size)
      have HSX : Hid ((mergeM k (own.take q) Ls).length < 1000000000) := Lib.hid (by rw [mergeM_len, List.length_take]; omega)
      clear hx hpy hb1
      go_wp2_with (at_builtin; refine app_k rfl (.tmp 23) (.tmp 27) rfl B _ _ p y rfl HO1.out _ rfl HN1.out HSX.out HS1.out ?_)
      intro v2 w2' ho2 hg2
      have HH2 : Hid (MgH w w2' M B k Ls own v2 (q + 1)) := Lib.hid
        ⟨Below.grown HB1.out hg2 HB1.out.size (fun j e => by have := (own_lt HO1.out j e).1; have := HBW.out; omega), HM1.out.grown hg2 (fun e => by have := (own_lt HO1.out M e.symm).1; have := HMB.out; omega), by rw [← HNX.out]; exact ho2⟩
      have HS2 : Hid (B ≤ w2'.heap.size) := Lib.hid (Nat.le_trans HS1.out hg2.size)
      clear ho2 hg2 HO1 HN1 HB1 HM1 HSX HS1 hlk c0 HNX HH HBS
      go_wp2
      go_roundg (gk - 1)
      case measure => omega
      case rel => exact ⟨⟨q + 1, by have := HNO.out; omega, by go_num, HH2⟩, HS2⟩
    · have HO9 := HH.out.row
      rw [show q = own.length by have := HNO.out; omega, List.take_length] at HO9
      have HO8 := Lib.hid (HO9.mono HBW.out)
      clear HO9
      go_wp2
      go_ret
      exact ⟨_, rfl, HO8, Lib.hid HH.out.below⟩

end Go.Proofs.Ytgkmmjlhphinhaa.In
