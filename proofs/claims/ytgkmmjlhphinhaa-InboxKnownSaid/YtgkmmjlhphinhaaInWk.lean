/-
  What is proved here: a contract of the law's works(): the chapter's examples. No condition.
-/
import Derived.Test.YtgkmmjlhphinhaaInSp2
import Derived.Test.YtgkmmjlhphinhaaInR3
import Derived.Test.YtgkmmjlhphinhaaInSm
namespace Go.Proofs.Ytgkmmjlhphinhaa.In
open Go.RowKit Go.Maps Gr Wd Ws Fx Rk Lb Al Pt

/- A literal's block reads as a list. -/
theorem mat_block {w : World} {g : Nat} {L : List Ms} (h : w.heap[g]? = some (.cells (mcs L).toArray 29 (0, 0))) : MAt w (some ⟨g, 0, none⟩) L := by
  intro k e hk
  obtain ⟨a0, a1⟩ := mcs_at L k e hk
  refine ⟨g, 0, rfl, ?_, ?_⟩
  · rw [Nat.zero_add, cell_of_row w g _ _ 29 (0, 0) h, List.getElem?_toArray]; exact a0
  · rw [Nat.zero_add, cell_of_row w g _ _ 29 (0, 0) h, List.getElem?_toArray]; exact a1
theorem iat_block {w : World} {g : Nat} {l : List Int} (h : w.heap[g]? = some (.cells (Lb.ints l).toArray 3 (0, 0))) : Lb.IAt w (some ⟨g, 0, none⟩) l := by
  intro k x hk
  refine ⟨g, 0, rfl, ?_⟩
  rw [Nat.zero_add, cell_of_row w g _ _ 3 (0, 0) h, List.getElem?_toArray, Lb.ints_at, hk]; rfl
theorem two_rows {w : World} {g : Nat} {A B : Option Addr} {n m c d : Nat} {L M : List Ms} (hg : w.heap[g]? = some (.cells #[.slice A n c, .slice B m d] 24 (0, 0))) (hn : L.length = n) (hm : M.length = m) (hL : MAt w A L) (hM : MAt w B M) : RMs w (some ⟨g, 0, none⟩) [L, M] := by
  intro k N hk
  rcases k with _ | _ | k
  · simp at hk; subst hk
    exact ⟨g, 0, A, c, rfl, by rw [Lib.cell_of_heap hg, hn]; rfl, hL⟩
  · simp at hk; subst hk
    exact ⟨g, 0, B, d, rfl, by rw [Lib.cell_of_heap hg, hm]; rfl, hM⟩
  · simp at hk
theorem ks_at {w : World} {B : Nat} {v : Value} {l : List Ml} (h : KOwn w B v l) : ∃ A c, v = .slice A l.length c ∧ KAt w A l := by
  obtain ⟨A, c, h1, h2, _⟩ := h.room
  exact ⟨A, c, h1, h2⟩
theorem ms_at {w : World} {B : Nat} {v : Value} {l : List Ms} (h : MOwn w B v l) : ∃ A c, v = .slice A l.length c ∧ MAt w A l := by
  obtain ⟨A, c, h1, h2, _⟩ := h.room
  exact ⟨A, c, h1, h2⟩
def wkL : List Ms := [(3, 7), (1, 4), (3, 5)]
theorem wk_split : splitM [(0, 9), (1, 8), (3, 7)] 4 = [[(0, 9)], [], [(1, 8)], [(3, 7)]] := by decide +kernel
theorem wk_merge : mergeM 2 [1, 2] [[(1, 5)], [(3, 0), (1, 4)]] = [(true, 4), (false, 0)] := by decide +kernel
theorem wk_fold3 : putM 3 [] wkL = [(1, 4), (3, 5)] := by decide +kernel
theorem wk_fold1 : putM 1 [] wkL = [(1, 4), (3, 12)] := by decide +kernel
/- What the last step looks at. -/
theorem wk_rows {w : World} {v : Value} (h : SlR w v [[(0, 9)], [], [(1, 8)], [(3, 7)]]) : ∃ bk o c A0 c0 A1 c1 A2 c2 A3 c3, v = .slice (some ⟨bk, o, none⟩) 4 c ∧ w.cell? ⟨bk, o, none⟩ = some (.slice A0 1 c0) ∧ w.cell? ⟨bk, o + 1, none⟩ = some (.slice A1 0 c1) ∧ w.cell? ⟨bk, o + 2, none⟩ = some (.slice A2 1 c2) ∧ w.cell? ⟨bk, o + 3, none⟩ = some (.slice A3 1 c3) := by
  obtain ⟨A, m, c, h1, h2, h3⟩ := h
  obtain ⟨bk, o, A0, c0, e, d0, _⟩ := h3 0 _ rfl
  obtain ⟨bk1, o1, A1, c1, e1, d1, _⟩ := h3 1 _ rfl
  obtain ⟨bk2, o2, A2, c2, e2, d2, _⟩ := h3 2 _ rfl
  obtain ⟨bk3, o3, A3, c3, e3, d3, _⟩ := h3 3 _ rfl
  subst e
  cases e1; cases e2; cases e3
  exact ⟨bk, o, c, A0, c0, A1, c1, A2, c2, A3, c3, by rw [h1, ← h2]; rfl, d0, d1, d2, d3⟩
theorem wk_mail {w : World} {A : Option Addr} (h : KAt w A [(true, 4), (false, 0)]) : ∃ bk o, A = some ⟨bk, o, none⟩ ∧ w.cell? ⟨bk, o, none⟩ = some (.bool true) ∧ w.cell? ⟨bk, o + 1, none⟩ = some (.int .i64 4) ∧ w.cell? ⟨bk, o + 2, none⟩ = some (.bool false) := by
  obtain ⟨bk, o, e, c0, c1⟩ := h 0 _ rfl
  obtain ⟨bk1, o1, e1, d0, _⟩ := h 1 _ rfl
  subst e
  cases e1
  exact ⟨bk, o, rfl, c0, c1, d0⟩

theorem wk_m (w : World) : Calls Try.prog 14 #[.agg #[.int .u8 2, .int .i64 0, .int .i64 0, .int .i64 0, .int .i64 0], .slice (some ⟨w.heap.size, 0, none⟩) 2 2, .slice (some ⟨w.heap.size + 1 + 1 + 1, 0, none⟩) 2 2]
    ((((w.alloc (.cells #[.int .i64 1, .int .i64 2] 3)).alloc (.cells #[.int .i64 1, .int .i64 5] 29)).alloc (.cells #[.int .i64 3, .int .i64 0, .int .i64 1, .int .i64 4] 29)).alloc (.cells #[.slice (some ⟨w.heap.size + 1, 0, none⟩) 1 1, .slice (some ⟨w.heap.size + 1 + 1, 0, none⟩) 2 2] 24))
    fun e w' => ∃ A c, e = .returned (.slice A 2 c) ∧ Hid (KAt w' A [(true, 4), (false, 0)]) ∧ Hid (Below w.heap.size w w') := by
  obtain ⟨a0, a1, a2, a3, hb⟩ := al4 w (.cells #[.int .i64 1, .int .i64 2] 3) (.cells #[.int .i64 1, .int .i64 5] 29) (.cells #[.int .i64 3, .int .i64 0, .int .i64 1, .int .i64 4] 29) (.cells #[.slice (some ⟨w.heap.size + 1, 0, none⟩) 1 1, .slice (some ⟨w.heap.size + 1 + 1, 0, none⟩) 2 2] 24)
  obtain ⟨W, hW⟩ : ∃ W, W = ((((w.alloc (.cells #[.int .i64 1, .int .i64 2] 3)).alloc (.cells #[.int .i64 1, .int .i64 5] 29)).alloc (.cells #[.int .i64 3, .int .i64 0, .int .i64 1, .int .i64 4] 29)).alloc (.cells #[.slice (some ⟨w.heap.size + 1, 0, none⟩) 1 1, .slice (some ⟨w.heap.size + 1 + 1, 0, none⟩) 2 2] 24)) := ⟨_, rfl⟩
  rw [← hW] at a0 a1 a2 a3 hb ⊢
  have h0 : Lb.IAt W (some ⟨w.heap.size, 0, none⟩) [1, 2] := iat_block a0
  have h1 : MAt W (some ⟨w.heap.size + 1, 0, none⟩) [(1, 5)] := mat_block a1
  have h2 : MAt W (some ⟨w.heap.size + 1 + 1, 0, none⟩) [(3, 0), (1, 4)] := mat_block a2
  have h3 := two_rows (L := [(1, 5)]) (M := [(3, 0), (1, 4)]) a3 rfl rfl h1 h2
  refine (merge_any 2 0 0 0 0 (some ⟨w.heap.size, 0, none⟩) (some ⟨w.heap.size + 1 + 1 + 1, 0, none⟩) 2 2 2 2 [1, 2] [[(1, 5)], [(3, 0), (1, 4)]] W h0 rfl h3 rfl ?_ ?_ (by omega) (by omega) (by decide)).mono ?_
  · intro e he; simp at he; rcases he with rfl | rfl | rfl <;> simp
  · intro e he; simp at he; rcases he with rfl | rfl <;> simp
  · rintro e w' ⟨v, he, hk, hbk⟩
    have hk2 := hk.out
    rw [wk_merge] at hk2
    obtain ⟨A, c, hv, hat⟩ := ks_at hk2
    exact ⟨A, c, by rw [he, hv]; rfl, Lib.hid hat, Lib.hid (step_below hb hb.size hbk.out)⟩
theorem wk_f (k : Int) (A : Option Addr) (F : List Ms) (nf : Nat) (hF : putM k [] wkL = F) (hf : F.length = nf) (w W : World) (h : MAt w A wkL) (hb : Below w.heap.size w W) :
    Calls Try.prog 9 #[.agg #[.int .u8 k, .int .i64 0, .int .i64 0, .int .i64 0, .int .i64 0], .slice A 3 3] W fun e w' => ∃ A' c, e = .returned (.slice A' nf c) ∧ Hid (MAt w' A' F) ∧ Hid (Below W.heap.size W w') := by
  refine (fold_any k 0 0 0 0 A 3 3 wkL W (h.below hb) rfl ?_ (by omega)).mono ?_
  · intro e he; simp [wkL] at he; rcases he with rfl | rfl | rfl <;> simp
  · rintro e w' ⟨v, he, hm, hbm⟩
    have hm2 := hm.out
    rw [hF] at hm2
    obtain ⟨A', c, hv, hat⟩ := ms_at hm2
    exact ⟨A', c, by rw [he, hv, hf], Lib.hid hat, hbm⟩
theorem wk_s (A : Option Addr) (c : Nat) (a b x y : Int) (w : World) (h : MAt w A [(a, b), (x, y)]) :
    Calls Try.prog 10 #[.slice A 2 c, .slice (some ⟨w.heap.size, 0, none⟩) 2 2] (w.alloc (.cells #[.int .i64 a, .int .i64 b, .int .i64 x, .int .i64 y] 29)) fun e w' => e = .returned (.bool true) ∧ Hid (Below w.heap.size w w') := by
  have hb : Below w.heap.size w (w.alloc (.cells #[.int .i64 a, .int .i64 b, .int .i64 x, .int .i64 y] 29)) := (Below.refl _ w).alloc (Nat.le_refl _) _
  have h2 : MAt (w.alloc (.cells #[.int .i64 a, .int .i64 b, .int .i64 x, .int .i64 y] 29)) (some ⟨w.heap.size, 0, none⟩) [(a, b), (x, y)] := mat_block (heap_alloc_new w _)
  refine (samem_any A (some ⟨w.heap.size, 0, none⟩) c 2 [(a, b), (x, y)] [(a, b), (x, y)] _ (h.below hb) h2 (by simp) (by simp)).mono ?_
  rintro e w' ⟨he, hb2⟩
  exact ⟨by rw [he]; simp, Lib.hid (step_below hb hb.size hb2)⟩

set_option maxRecDepth 100000 in
set_option maxHeartbeats 8000000 in
theorem works_any (w : World) : Calls Try.prog 8 #[] w fun e w' => e = .returned (.bool true) ∧ Hid (Below w.heap.size w w') := by
  have mixed := mixedI
  -- the messages
  obtain ⟨W1, hW1⟩ : ∃ W1, W1 = w.alloc (.cells (mcs wkL).toArray 29) := ⟨_, rfl⟩
  have hb1 : Below w.heap.size w W1 := by rw [hW1]; exact (Below.refl _ w).alloc (Nat.le_refl _) _
  have hm1 : MAt W1 (some ⟨w.heap.size, 0, none⟩) wkL := mat_block (by rw [hW1]; exact heap_alloc_new w _)
  have HB1 := Lib.hid hb1; have HM1 := Lib.hid hm1
  have e1 : (mcs wkL).toArray = #[.int .i64 3, .int .i64 7, .int .i64 1, .int .i64 4, .int .i64 3, .int .i64 5] := rfl
  rw [e1] at hW1
  clear hb1 hm1 e1
  go_enter Try.func8, Try.ntmps8
  go_upto_region 2 with fail
  rw [← hW1]
  clear hW1
  -- split
  obtain ⟨W2, hW2⟩ : ∃ W2, W2 = W1.alloc (.cells (mcs [(0, 9), (1, 8), (3, 7)]).toArray 29) := ⟨_, rfl⟩
  have hb2 : Below W1.heap.size W1 W2 := by rw [hW2]; exact (Below.refl _ W1).alloc (Nat.le_refl _) _
  have hm2 : MAt W2 (some ⟨W1.heap.size, 0, none⟩) [(0, 9), (1, 8), (3, 7)] := mat_block (by rw [hW2]; exact heap_alloc_new W1 _)
  have hsp := split_any (some ⟨W1.heap.size, 0, none⟩) 3 3 [(0, 9), (1, 8), (3, 7)] 4 W2 hm2 rfl (by omega)
  rw [wk_split] at hsp
  have HSP := Lib.hid hsp
  have HB2 := Lib.hid (step_below HB1.out HB1.out.size hb2)
  have C2 := Lib.hid hb2
  have e1 : (mcs [(0, 9), (1, 8), (3, 7)]).toArray = #[.int .i64 0, .int .i64 9, .int .i64 1, .int .i64 8, .int .i64 3, .int .i64 7] := rfl
  rw [e1] at hW2
  clear hsp hb2 hm2 e1
  go_wp2_with fail
  rw [← hW2]
  clear hW2
  refine (HSP.out).mono ?_
  rintro e w3 ⟨v3, rfl, hs3, hb3⟩
  have HB3 := Lib.hid (step_below HB2.out HB2.out.size hb3.out)
  have C3 := Lib.hid (step_below C2.out C2.out.size hb3.out)
  obtain ⟨bk, o, cs, A0, c0, A1, c1, A2, c2, A3, c3, rfl, d0, d1, d2, d3⟩ := wk_rows hs3.out
  have HD := Lib.hid (And.intro d0 (And.intro d1 (And.intro d2 d3)))
  clear HSP hs3 hb3 d0 d1 d2 d3
  have HMg := Lib.hid (wk_m w3)
  go_wp2_with fail
  refine (HMg.out).mono ?_
  rintro e w4 ⟨A4, c4, rfl, hk4, hb4⟩
  have HB4 := Lib.hid (step_below HB3.out HB3.out.size hb4.out)
  obtain ⟨bm, om, rfl, _, _, _⟩ := wk_mail hk4.out
  have HK4 := hk4
  have E4 := hb4
  have C4 := Lib.hid (step_below C3.out C3.out.size hb4.out)
  clear HMg hb4 hk4
  have HF5 := Lib.hid (wk_f 3 _ _ 2 wk_fold3 rfl W1 w4 HM1.out C4.out)
  go_wp2_with fail
  refine (HF5.out).mono ?_
  rintro e w5 ⟨A5, c5, rfl, hm5, hb5⟩
  have HS6 := Lib.hid (wk_s A5 c5 1 4 3 5 w5 hm5.out)
  clear HF5
  go_wp2_with fail
  refine (HS6.out).mono ?_
  rintro e w6 ⟨rfl, hb6⟩
  have D6 := Lib.hid (step_below hb5.out hb5.out.size hb6.out)
  have C6 := Lib.hid (step_below C4.out C4.out.size D6.out)
  have HF7 := Lib.hid (wk_f 1 _ _ 2 wk_fold1 rfl W1 w6 HM1.out C6.out)
  clear HS6 hb5 hb6 hm5
  go_wp2_with fail
  refine (HF7.out).mono ?_
  rintro e w7 ⟨A7, c7, rfl, hm7, hb7⟩
  have HS8 := Lib.hid (wk_s A7 c7 1 4 3 12 w7 hm7.out)
  clear HF7
  go_wp2_with fail
  refine (HS8.out).mono ?_
  rintro e w8 ⟨rfl, hb8⟩
  have D8 := Lib.hid (step_below D6.out D6.out.size (step_below hb7.out hb7.out.size hb8.out))
  have E8 := Lib.hid (step_below E4.out E4.out.size D8.out)
  have C8 := Lib.hid (step_below HB4.out HB4.out.size D8.out)
  clear HS8 hb7 hb8 hm7
  obtain ⟨d0, d1, d2, d3⟩ := HD.out
  have d0 := (E8.out.cell (block_lt_of_cell d0)).trans d0
  have d1 := (E8.out.cell (block_lt_of_cell d1)).trans d1
  have d2 := (E8.out.cell (block_lt_of_cell d2)).trans d2
  have d3 := (E8.out.cell (block_lt_of_cell d3)).trans d3
  obtain ⟨_, _, e4, k0, k1, k2⟩ := wk_mail (HK4.out.below D8.out)
  cases e4
  go_wp2
  go_ret
  exact ⟨rfl, C8⟩

end Go.Proofs.Ytgkmmjlhphinhaa.In
