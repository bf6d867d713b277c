/-
  What is proved here: a contract of the document's own Merge. Conditions: fewer than 10^9 messages, fewer than 1000000 vertices asked for.
-/
import Derived.Test.YtgkmmjlhphinhaaInR2
import Derived.Test.YtgkmmjlhphinhaaInMg
import Derived.Test.YtgkmmjlhphinhaaTlPre
namespace Go.Proofs.Ytgkmmjlhphinhaa.In
open Go.RowKit Go.Maps Gr Wd Ws Fx Rk Lb Al

structure RgH (w wr : World) (b : Nat) (k st so dm ep : Int) (Ls : List (List Ms)) (own : List Int) (v : Value) (q : Nat) : Prop where
  below : Below w.heap.size w wr
  box : wr.heap[b]? = some (.cells #[.int .u8 k, .int .i64 st, .int .i64 so, .int .i64 dm, .int .i64 ep] 23 (0, 0))
  row : KOwn wr (b + 1) v (mergeM k (own.take q) Ls)
  size : b + 1 ≤ wr.heap.size
def RgRel (w : World) (b : Nat) (k st so dm ep : Int) (Ls : List (List Ms)) (own : List Int) (gk : Nat) (v i : Value) (wr : World) : Prop :=
  ∃ q : Nat, q + gk = own.length ∧ i = .int .i64 (q : Int) ∧ Hid (RgH w wr b k st so dm ep Ls own v q)

set_option maxRecDepth 100000 in
set_option maxHeartbeats 4000000 in
theorem rmerge_any (k st so dm ep : Int) (Ao A : Option Addr) (no co n c : Nat) (own : List Int) (Ls : List (List Ms)) (w : World) (hO : IAt w Ao own) (hno : own.length = no) (hR : RMs w A Ls) (hn : Ls.length = n) (hno2 : no < 1000000) (hn2 : n ≤ 1000000) (hF : Ls.flatten.length < 1000000000) :
    Calls Try.prog 15 #[.agg #[.int .u8 k, .int .i64 st, .int .i64 so, .int .i64 dm, .int .i64 ep], .slice Ao no co, .slice A n c] w fun e w' => ∃ v, e = .returned v ∧ Hid (KOwn w' w.heap.size v (mergeM k own Ls)) ∧ Hid (Below w.heap.size w w') := by
  have mixed := mixedI
  have HO := Lib.hid hO; have HNO := Lib.hid hno
  have HR := Lib.hid hR; have HN := Lib.hid hn; have HF := Lib.hid hF
  clear hO hno hR hn hF
  obtain ⟨W1, hW1⟩ : ∃ W1, W1 = w.alloc (.cells #[.int .u8 k, .int .i64 st, .int .i64 so, .int .i64 dm, .int .i64 ep] 23) := ⟨_, rfl⟩
  have x0 : W1.heap[w.heap.size]? = some (.cells #[.int .u8 k, .int .i64 st, .int .i64 so, .int .i64 dm, .int .i64 ep] 23 (0, 0)) := by rw [hW1]; exact heap_alloc_new w _
  have hb1 : Below w.heap.size w W1 := by rw [hW1]; exact (Below.refl _ w).alloc (Nat.le_refl _) _
  have hs1 : w.heap.size + 1 ≤ W1.heap.size := lt_of_block x0
  have HH : Hid (RgH w W1 w.heap.size k st so dm ep Ls own (.slice none 0 0) 0) := Lib.hid ⟨hb1, x0, KOwn.none_ _ _, hs1⟩
  obtain ⟨b, eb⟩ : ∃ b, b = w.heap.size := ⟨_, rfl⟩
  rw [← eb] at HH
  have HBW : Hid (w.heap.size ≤ b + 1) := Lib.hid (by omega)
  have HBB : Hid (b = w.heap.size) := Lib.hid eb
  clear x0 hb1 hs1
  go_enter Try.func15, Try.ntmps15
  go_upto_region 1 with fail
  rw [← hW1, ← eb]
  clear hW1 eb
  go_wp2_with fail
  go_loopg [7, 8] no (fun gk v i wr => RgRel w b k st so dm ep Ls own gk v i wr)
  case atStart => exact ⟨0, by have := HNO.out; omega, rfl, HH⟩
  case round =>
    clear HH
    obtain ⟨q, hq, rfl, HH⟩ := hrel
    rw [HNO.out] at hq
    by_cases hlt : q < no
    · obtain ⟨x, hx⟩ := at_lt own q (by rw [HNO.out]; exact hlt)
      obtain ⟨bk, o, rfl, c0⟩ := (HO.out.below HH.out.below) q x hx
      obtain ⟨j0, j1, j2, j3, j4, _⟩ := jb_cells HH.out.box
      obtain ⟨⟨p, y⟩, hpy⟩ : ∃ m : Ml, mlOf (mailM k x Ls.flatten) = m := ⟨_, rfl⟩
      have HNX : Hid (mergeM k (own.take q) Ls ++ [(p, y)] = mergeM k (own.take (q + 1)) Ls) := Lib.hid (by rw [← mergeM_take hx, hpy])
      have HSX : Hid ((mergeM k (own.take q) Ls).length < 1000000000) := Lib.hid (by rw [mergeM_len, List.length_take]; omega)
      have HC : Hid (∀ W, Below wr.heap.size wr W → Calls Try.prog 25 #[.agg #[.int .u8 k, .int .i64 st, .int .i64 so, .int .i64 dm, .int .i64 ep], .int .i64 x, .slice A n c] W fun e w' => e = .returned (.agg #[.bool p, .int .i64 y]) ∧ Below W.heap.size W w') := Lib.hid (fun W hW => by
        refine (rmail_any k st so dm ep x A n c Ls W (HR.out.below (step_below HH.out.below HH.out.below.size hW)) HN.out hn2 HF.out).mono ?_
        rintro e w' ⟨⟨p', y', he, hp'⟩, hb⟩
        have := hp'.out
        rw [hpy] at this
        cases this
        exact ⟨he, hb.out⟩)
      clear hx hpy
      go_wp2_with fail
      have z0 := cell_regrown c0
      have y0 := cell_regrown j0; have y1 := cell_regrown j1; have y2 := cell_regrown j2; have y3 := cell_regrown j3; have y4 := cell_regrown j4
      refine Tl.region_move_tail_below 7 mixed rfl rfl (by kernel_rfl) (fun d _ _ _ _ h => by cases d <;> exact h) ?_
      simp only [List.take_succ_cons, List.take_zero, List.drop_succ_cons, List.drop_zero, Nat.reduceSub]
      go_simp
      repeat (go_big_quiet_step (fail))
      refine wpQuiet_nil ?_
      intro pp
      obtain ⟨dq, osq⟩ := pp
      dsimp only
      obtain ⟨W4, hW4⟩ : ∃ W4, W4 = Sort.grow (redrawn wr dq) osq := ⟨_, rfl⟩
      have hb4 : Below wr.heap.size wr W4 := by rw [hW4]; exact below_regrown wr dq osq
      rw [← hW4]
      have HB4 := Lib.hid hb4
      clear hW4 hb4 z0 y0 y1 y2 y3 y4 c0 j0 j1 j2 j3 j4
      go_wp2_with fail
      refine (HC.out W4 HB4.out).mono ?_
      rintro e w5 ⟨rfl, hb5⟩
      have hb45 : Below wr.heap.size wr w5 := step_below HB4.out HB4.out.size hb5
      have HO1 := Lib.hid ((HH.out.row.below hb45).alloc (.cells #[.bool p, .int .i64 y] 43))
      have HN1 := Lib.hid (kb_alloc w5 p y)
      have hb1 : Below wr.heap.size wr (w5.alloc (.cells #[.bool p, .int .i64 y] 43)) := hb45.alloc hb45.size _
      have HB1 := Lib.hid (step_below HH.out.below HH.out.below.size hb1)
      have HX1 := Lib.hid (keep HH.out.box hb1)
      have HS1 : Hid (b + 1 ≤ (w5.alloc (.cells #[.bool p, .int .i64 y] 43)).heap.size) := Lib.hid (Nat.le_trans HH.out.size hb1.size)
      clear hb45 hb5 hb1 HC HB4
      go_wp2_with (at_builtin; refine app_k rfl (.tmp 15) (.tmp 23) rfl (b + 1) _ _ p y rfl HO1.out _ rfl HN1.out HSX.out HS1.out ?_)
      intro v2 w2' ho2 hg2
      have HH2 : Hid (RgH w w2' b k st so dm ep Ls own v2 (q + 1)) := Lib.hid
        ⟨Below.grown HB1.out hg2 HB1.out.size (fun j e => by have := (own_lt HO1.out j e).1; have := HBW.out; omega), (hg2.block b (lt_of_block HX1.out) (fun e => by have := (own_lt HO1.out b e.symm).1; omega)).trans HX1.out, by rw [← HNX.out]; exact ho2, Nat.le_trans HS1.out hg2.size⟩
      clear ho2 hg2 HO1 HN1 HB1 HX1 HS1 HNX HSX HH
      go_wp2
      go_roundg (gk - 1)
      case measure => omega
      case rel => exact ⟨q + 1, by have := HNO.out; omega, by go_num, HH2⟩
    · have HO9 := HH.out.row
      rw [show q = own.length by have := HNO.out; omega, List.take_length] at HO9
      have HO8 := Lib.hid (HO9.mono HBW.out)
      clear HO9
      go_wp2
      go_ret
      exact ⟨_, rfl, HO8, Lib.hid HH.out.below⟩

end Go.Proofs.Ytgkmmjlhphinhaa.In
