/-
  What is proved here: the texts GrKno1 GrKno2 GrKno3 GrKno4 GrKno5 of this seat, laid together (each says itself what it proves; no condition beyond theirs).
-/
import Derived.Test.YtmcmpjcijbeilaaGreatDoorGmU
import Derived.ScopeJumps
import Derived.WalkMore
/-
  What is proved here: plain facts on the biggest graph: it may be, its text is short enough, its lines say it, and one line more says nothing. No condition.
-/
namespace Go.Proofs.YtmcmpjcijbeilaaGreatDoor.Gr
open Wd Ws

def limE (i : Nat) : Ed := (((i / 32 : Nat) : Int), ((i % 32 : Nat) : Int), 0)
def limL (k : Nat) : List Ed := (List.range k).map limE
theorem limL_len (k : Nat) : (limL k).length = k := by simp [limL]
theorem limL_succ (k : Nat) : limL (k + 1) = limL k ++ [limE k] := by simp [limL, List.range_succ]
theorem limL_fit (k : Nat) (hk : k ≤ 8193) : ∀ e ∈ limL k, fitE 512 e = true := by
  intro e he
  obtain ⟨i, hi, rfl⟩ := List.mem_map.1 he
  rw [List.mem_range] at hi
  rw [fitE_iff]; simp only [limE]; omega
theorem limL_rise (k : Nat) : Rise (limL k) := by
  unfold limL Rise
  rw [List.pairwise_map]
  refine List.Pairwise.imp ?_ List.pairwise_lt_range
  intro a b h
  rw [ahd_iff]; simp only [limE]; omega
theorem limL_take : (limL 8193).take 8192 = limL 8192 := by
  rw [show (8193 : Nat) = 8192 + 1 from rfl, limL_succ, List.take_append_of_le_length (by rw [limL_len]; exact Nat.le_refl _), List.take_of_length_le (by rw [limL_len]; exact Nat.le_refl _)]
theorem chk_lim : chk 512 (limL 8192) = 0 := (chk_zero 512 (limL 8192)).2 ⟨by omega, by omega, by rw [limL_len]; exact Nat.le_refl _, limL_fit 8192 (by omega), limL_rise 8192⟩
theorem chk_over : chk 512 (limL 8193) = 3 := by
  unfold chk
  rw [if_pos (Or.inr (by rw [limL_len]; omega))]
theorem chk_513 : chk 513 [] = 3 := by
  unfold chk
  rw [if_pos (Or.inl (by omega))]
theorem through_eds2 {V : Int} (hV : V ≠ 0) (hV2 : V ≤ 512) (ys : List (List UInt8)) : ∀ (M L : List Ed) (k : Nat), Apart (L ++ M) → (L ++ M).length ≤ 8192 → (∀ e ∈ M, fitE V e = true) → through V L k (M.map edL ++ ys) = through V (L ++ M) (k + M.length) ys
  | [], L, k, _, _, _ => by
    simp
  | e :: M, L, k, ha, hl, hf => by
    have e1 : L ++ e :: M = (L ++ [e]) ++ M := by simp
    rw [e1] at ha hl
    have hl' : L.length < 8192 := by simp only [List.length_append, List.length_cons, List.length_nil] at hl; omega
    have hs := step_e1 hV hV2 (hf e List.mem_cons_self) (add_ok (List.pairwise_append.1 ha).1 hl')
    rw [List.map_cons, List.cons_append, through_cons, show step V L (edL e) = some (V, L ++ [e]) from hs]
    show through V (L ++ [e]) (k + 1) (M.map edL ++ ys) = _
    rw [through_eds2 hV hV2 ys M (L ++ [e]) (k + 1) ha hl fun x hx => hf x (List.mem_cons_of_mem _ hx), e1, List.length_cons]
    congr 1; omega
def moreB : List UInt8 := [101, 100, 103, 101, 32, 53, 49, 49, 32, 48]
theorem more_line : lineN edgeB [511, 0] = moreB := by decide +kernel
theorem step_more {L : List Ed} (hl : L.length = 8192) : step 512 L (lineN edgeB [511, 0]) = none := by
  rw [show step 512 L (lineN edgeB [511, 0]) = (if (wordsB (lineN edgeB [511, 0])).2 = 0 then stepW 512 L (wordsB (lineN edgeB [511, 0])).1 else none) from rfl, line_words (by simp), if_pos rfl]
  rw [stepW_cons, nums_pr _ (fun n hn => by
    simp only [List.mem_cons, List.not_mem_nil, or_false] at hn
    rcases hn with rfl | rfl <;> omega)]
  show stepN 512 L edgeB [511, 0] = _
  rw [stepN_edge 512 (by omega) L _ none (by
    show (match (if fitE 512 (((511 : Nat) : Int), ((0 : Nat) : Int), 1) then some (((511 : Nat) : Int), ((0 : Nat) : Int), (1 : Int)) else none) with | none => none | some e => addP L e) = _
    rw [if_pos (by decide)]
    show addP L _ = none
    unfold addP
    rw [if_pos (Or.inr (by omega))])]
  rfl
def limX : List (List UInt8) := lineN vertB [512] :: (limL 8192).map edL
theorem lim_text : textP 512 (limL 8192) = lns limX := text_lines 512 (limL 8192)
theorem more_text : textP 512 (limL 8192) ++ (moreB ++ [10]) = lns (limX ++ [lineN edgeB [511, 0]]) := by
  rw [lim_text, ← more_line]
  unfold lns
  rw [List.flatMap_append]
  simp
theorem all_lines : ∀ x ∈ limX ++ [lineN edgeB [511, 0]], (∀ b ∈ x, b ≠ 10 ∧ b ≠ 13) ∧ x.length ≤ 200 := by
  intro x hx
  have hp := pr_len' 512 (by omega)
  rcases List.mem_append.1 hx with h | h
  · rcases List.mem_cons.1 h with rfl | h
    · refine ⟨line_bytes (by simp) _, ?_⟩
      unfold lineN blnk vertB
      simp only [List.length_append, List.flatMap_cons, List.flatMap_nil, List.length_cons, List.length_nil]
      omega
    · obtain ⟨e, he, rfl⟩ := List.mem_map.1 h
      refine ⟨line_bytes (by simp) _, ?_⟩
      have := edgeT_len2 e (by omega : (512 : Int) ≤ 512) (limL_fit 8192 (by omega) e he)
      have h2 : edgeT e = edL e ++ [10] := rfl
      rw [h2, List.length_append] at this; omega
  · rw [List.mem_singleton] at h
    subst h
    refine ⟨line_bytes (by simp) _, ?_⟩
    rw [more_line]; decide
theorem lim_ln : ln [] (textP 512 (limL 8192)) = limX := by
  rw [lim_text, ln_back]
  · exact fun x hx b hb => ((all_lines x (List.mem_append_left _ hx)).1 b hb).1
  · exact fun x hx => trim_clean _ fun b hb => ((all_lines x (List.mem_append_left _ hx)).1 b hb).2
theorem more_ln : ln [] (textP 512 (limL 8192) ++ (moreB ++ [10])) = limX ++ [lineN edgeB [511, 0]] := by
  rw [more_text, ln_back]
  · exact fun x hx b hb => ((all_lines x hx).1 b hb).1
  · exact fun x hx => trim_clean _ fun b hb => ((all_lines x hx).1 b hb).2
theorem lim_lens : ∀ x ∈ ln [] (textP 512 (limL 8192)), x.length ≤ 100000 := by
  rw [lim_ln]; intro x hx
  have := (all_lines x (List.mem_append_left _ hx)).2; omega
theorem more_lens : ∀ x ∈ ln [] (textP 512 (limL 8192) ++ (moreB ++ [10])), x.length ≤ 100000 := by
  rw [more_ln]; intro x hx
  have := (all_lines x hx).2; omega
theorem lim_through : through 0 [] 0 (ln [] (textP 512 (limL 8192))) = (0, some (512, limL 8192)) := through_text (V := 512) (L := limL 8192) chk_lim
theorem more_through : through 0 [] 0 (ln [] (textP 512 (limL 8192) ++ (moreB ++ [10]))) = (8194, none) := by
  rw [more_ln]
  show through 0 [] 0 (lineN vertB [512] :: ((limL 8192).map edL ++ [lineN edgeB [511, 0]])) = _
  rw [through_cons, step_v 512 (by omega) (by omega)]
  show through 512 [] 1 ((limL 8192).map edL ++ [lineN edgeB [511, 0]]) = _
  rw [through_eds2 (by omega) (by omega) _ (limL 8192) [] 1 (by rw [List.nil_append]; exact rise_apart (limL_rise 8192)) (by rw [List.nil_append, limL_len]; exact Nat.le_refl _) (limL_fit 8192 (by omega)), List.nil_append, limL_len, through_cons, step_more (limL_len 8192)]
  rfl
theorem lim_size : (textP 512 (limL 8192)).length ≤ 204820 := by
  have := text_short chk_lim
  rw [limL_len] at this; omega
theorem more_size : (textP 512 (limL 8192) ++ (moreB ++ [10])).length ≤ 204831 := by
  have := lim_size
  rw [List.length_append]
  have h2 : (moreB ++ [10]).length = 11 := rfl
  omega
theorem lim_print : printB 512 (limL 8192) = textP 512 (limL 8192) := print_text chk_lim

end Go.Proofs.YtmcmpjcijbeilaaGreatDoor.Gr

/-
  What is proved here: contracts of graph.Parse of a text that is too long, and of the kit's Mill. No condition.
-/
namespace Go.Proofs.YtmcmpjcijbeilaaGreatDoor.Gr
open Go.RowKit Wd Ws

set_option maxRecDepth 100000 in
set_option maxHeartbeats 1000000 in
theorem parse_big (s : ByteArray) (w : World) (h1 : 262144 < s.size) (h2 : s.size ≤ 9223372036854775807) :
    Calls Tryz.prog 18 #[.string s] w fun e w' => e = .returned (.tuple #[.agg #[.int .i64 0, .slice none 0 0], .int .i64 0, .int .i64 3]) ∧ Below w.heap.size w w' := by
  obtain ⟨w0, hw0⟩ : ∃ w0, w0 = w.alloc (.cells #[.int .i64 0, .slice none 0 0] 24) := ⟨_, rfl⟩
  have hb0 : Below w.heap.size w w0 := by rw [hw0]; exact (Below.refl _ w).alloc (Nat.le_refl _) _
  have hx0 : w0.heap[w.heap.size]? = some (.cells #[.int .i64 0, .slice none 0 0] 24 (0, 0)) := by rw [hw0]; exact heap_alloc_new w _
  have HW0 := Lib.hid hw0; have HB0 := Lib.hid hb0; have HX0 := Lib.hid hx0
  obtain ⟨x0, x1, hxs⟩ := Bx.cells hx0
  have xf := Gx.cells hx0
  clear hw0 hb0 hx0
  go_enter Tryz.func18, Tryz.ntmps18
  go_wp2_with fail
  rw [← HW0.out]
  refine wp_scope_jumps 0 (fun _ _ => False) (fun _ _ => 0) rfl ?_ ?_
  · go_wp2
    all_goals (try (exfalso; omega))
    simp only [Exit.jump]
    obtain ⟨k0, k1⟩ := gx_put HX0.out (.int .i64 0) (.slice none 0 0)
    refine bodyPost_ret (v := .tuple #[.agg #[.int .i64 0, .slice none 0 0], .int .i64 0, .int .i64 3]) (by simp [results, Tryz.results18, go_sem, k0, k1]) rfl ⟨rfl, ?_⟩
    exact (HB0.out.setCell (p := ⟨w.heap.size, 0, none⟩) (Nat.le_refl _) _).setCell (p := ⟨w.heap.size, 1, none⟩) (Nat.le_refl _) _
  · rintro a' w' h
    exact h.elim

def millL : List Ed := [(0, 1, 4), (0, 2, 1), (1, 3, 5), (2, 1, 2), (4, 4, 7)]
theorem mill_chk : chk 6 millL = 0 := by decide +kernel

set_option maxRecDepth 100000 in
set_option maxHeartbeats 1000000 in
theorem mill_any (w : World) : Calls Tryz.prog 26 #[] w fun e w' => (∃ A c, e = .returned (.agg #[.int .i64 6, .slice A millL.length c]) ∧ Hid (EAt w' A millL)) ∧ Hid (Below w.heap.size w w') := by
  have mixed := mixedO
  go_enter Tryz.func26, Tryz.ntmps26
  go_wp2
  obtain ⟨W1, hW1⟩ : ∃ W1, W1 = w.alloc (.cells #[.int .i64 6, .slice (some ⟨w.heap.size + 1, 0, none⟩) 5 5] 24) := ⟨_, rfl⟩
  have s1 : W1.heap.size = w.heap.size + 1 := by rw [hW1]; simp
  have y0 : W1.heap[w.heap.size]? = some (.cells #[.int .i64 6, .slice (some ⟨w.heap.size + 1, 0, none⟩) 5 5] 24 (0, 0)) := by rw [hW1]; exact heap_alloc_new w _
  have b1 : Below w.heap.size w W1 := by rw [hW1]; exact (Below.refl _ w).alloc (Nat.le_refl _) _
  rw [← hW1]
  clear hW1
  obtain ⟨C, hC⟩ : ∃ C : Array Value, C = #[.int .i64 0, .int .i64 1, .int .i64 4, .int .i64 0, .int .i64 2, .int .i64 1, .int .i64 1, .int .i64 3, .int .i64 5, .int .i64 2, .int .i64 1, .int .i64 2, .int .i64 4, .int .i64 4, .int .i64 7] := ⟨_, rfl⟩
  rw [← hC]
  obtain ⟨W2, hW2⟩ : ∃ W2, W2 = W1.alloc (.cells C 42) := ⟨_, rfl⟩
  have b2 : Below W1.heap.size W1 W2 := by rw [hW2]; exact (Below.refl _ W1).alloc (Nat.le_refl _) _
  have y1 := (b2.block _ (lt_of_block y0)).trans y0
  have y2 : W2.heap[w.heap.size + 1]? = some (.cells C 42 (0, 0)) := by rw [hW2, ← s1]; exact heap_alloc_new W1 _
  rw [← hW2]
  have k0 : W2.cell? ⟨w.heap.size, 0, none⟩ = some (.int .i64 6) := by rw [Lib.cell_of_heap y1]; rfl
  have k1 : W2.cell? ⟨w.heap.size, 1, none⟩ = some (.slice (some ⟨w.heap.size + 1, 0, none⟩) 5 5) := by rw [Lib.cell_of_heap y1]; rfl
  refine bodyPost_ret (v := .agg #[.int .i64 6, .slice (some ⟨w.heap.size + 1, 0, none⟩) 5 5]) (by simp [results, Tryz.results26, go_sem, k0, k1]) rfl ⟨⟨_, _, rfl, Lib.hid ?_⟩, Lib.hid (b1.trans (b2.mono (by omega)))⟩
  intro k e hk
  rcases k with _ | _ | _ | _ | _ | k
  all_goals (first | (simp [millL] at hk; done) | (simp only [millL, List.getElem?_cons_zero, List.getElem?_cons_succ, Option.some.injEq] at hk; subst hk; exact ⟨_, _, rfl, by rw [Lib.cell_of_heap y2, hC]; rfl, by rw [Lib.cell_of_heap y2, hC]; rfl, by rw [Lib.cell_of_heap y2, hC]; rfl⟩))

end Go.Proofs.YtmcmpjcijbeilaaGreatDoor.Gr

/-
  What is proved here: what the calls of the law's limits do: Print, Parse, Check and Same at the biggest graph and one past it; a row of zero bytes as a string. Condition: the package variables lie as their texts lay them.
-/
namespace Go.Proofs.YtmcmpjcijbeilaaGreatDoor.Gr
open Go.RowKit Wd Ws

noncomputable def limT : List UInt8 := textP 512 (limL 8192)
theorem limT_size : limT.length ≤ 204820 := lim_size
def moreS : ByteArray := ⟨#[101, 100, 103, 101, 32, 53, 49, 49, 32, 48, 10]⟩
theorem moreS_is : moreS = sb (moreB ++ [10]) := rfl
theorem eat_take {w : World} {A : Option Addr} {L : List Ed} (h : EAt w A L) (n : Nat) : EAt w A (L.take n) := by
  intro k e hk
  rw [List.getElem?_take] at hk
  split at hk
  · exact h k e hk
  · cases hk
theorem print_lim (A : Option Addr) (c : Nat) (w : World) (hL : Hid (EAt w A (limL 8192))) (hLd : Hid (Laid w)) :
    Calls Tryz.prog 11 #[.agg #[.int .i64 512, .slice A 8192 c]] w fun e w' => e = .returned (.tuple #[.string (sb limT), .int .i64 0]) ∧ Hid (Below w.heap.size w w') := by
  have h := print_any 512 A c (limL 8192) w hL.out hLd.out (by rw [limL_len]; omega)
  rw [limL_len, chk_lim, lim_print] at h
  exact h.mono fun _ _ hh => ⟨hh.1, Lib.hid hh.2⟩
theorem parse_lim (w : World) (hLd : Hid (Laid w)) :
    Calls Tryz.prog 18 #[.string (sb limT)] w fun e w' => (∃ A c, e = .returned (.tuple #[.agg #[.int .i64 512, .slice A 8192 c], .int .i64 0, .int .i64 0]) ∧ Hid (EAt w' A (limL 8192))) ∧ Hid (Below w.heap.size w w') := by
  refine (parse_any 8192 order_max limT w (by have := limT_size; omega) (Lib.hid lim_lens) hLd _ (Lib.hid lim_through) (Lib.hid fun s hs => ?_)).mono ?_
  · have : s = (512, limL 8192) := (Option.some.inj hs).symm
    rw [this, limL_len]; exact Nat.le_refl _
  · rintro e w1 ⟨h1, h2⟩
    obtain ⟨V, A, c, L, n, E, he, hA, hG⟩ := parse_form h1
    have hp := print_good (V := 512) (L := limL 8192) chk_lim hG.out
    obtain ⟨p1, p2, p3, p4⟩ := hp
    rw [p1, p2, p3, p4, limL_len] at he
    rw [p2] at hA
    exact ⟨⟨A, c, he, hA⟩, h2⟩
theorem parse_more (w : World) (hLd : Hid (Laid w)) :
    Calls Tryz.prog 18 #[.string (sb limT ++ moreS)] w fun e w' => e = .returned (.tuple #[.agg #[.int .i64 0, .slice none 0 0], .int .i64 8194, .int .i64 41]) ∧ Hid (Below w.heap.size w w') := by
  rw [moreS_is, sb_append]
  refine (parse_any 8192 order_max (limT ++ (moreB ++ [10])) w (by have : (limT ++ (moreB ++ [10])).length ≤ 204831 := more_size; omega) (Lib.hid more_lens) hLd _ (Lib.hid more_through) (Lib.hid fun s hs => by cases hs)).mono ?_
  rintro e w1 ⟨h1, h2⟩
  exact ⟨h1, h2⟩
theorem check_over (A : Option Addr) (c : Nat) (w : World) (hL : Hid (EAt w A (limL 8193))) :
    Calls Tryz.prog 15 #[.agg #[.int .i64 512, .slice A 8193 c]] w fun e w' => e = .returned (.int .i64 3) ∧ Hid (Below w.heap.size w w') := by
  have h := check_any 512 A c (limL 8193) w hL.out (by rw [limL_len]; omega)
  rw [limL_len, chk_over] at h
  exact h.mono fun _ _ hh => ⟨hh.1, Lib.hid hh.2⟩
theorem check_lim (A : Option Addr) (c : Nat) (w : World) (hL : Hid (EAt w A (limL 8192))) :
    Calls Tryz.prog 15 #[.agg #[.int .i64 512, .slice A 8192 c]] w fun e w' => e = .returned (.int .i64 0) ∧ Hid (Below w.heap.size w w') := by
  have h := check_any 512 A c (limL 8192) w hL.out (by rw [limL_len]; omega)
  rw [limL_len, chk_lim] at h
  exact h.mono fun _ _ hh => ⟨hh.1, Lib.hid hh.2⟩
theorem check_513 (w : World) :
    Calls Tryz.prog 15 #[.agg #[.int .i64 513, .slice none 0 0]] w fun e w' => e = .returned (.int .i64 3) ∧ Hid (Below w.heap.size w w') := by
  have h := check_any 513 none 0 [] w (EAt.nil _ _) (by simp)
  rw [chk_513] at h
  exact h.mono fun _ _ hh => ⟨hh.1, Lib.hid hh.2⟩
theorem same_lim (A B : Option Addr) (c d : Nat) (w : World) (hA : Hid (EAt w A (limL 8192))) (hB : Hid (EAt w B (limL 8192))) :
    Calls Tryz.prog 20 #[.agg #[.int .i64 512, .slice A 8192 c], .agg #[.int .i64 512, .slice B 8192 d]] w fun e w' => e = .returned (.bool true) ∧ Hid (Below w.heap.size w w') := by
  have h := same_any 512 512 A B c d (limL 8192) (limL 8192) w hA.out hB.out (by rw [limL_len]; omega) (by rw [limL_len]; omega)
  rw [limL_len, show (decide ((512 : Int) = 512) && decide (limL 8192 = limL 8192)) = true by rw [decide_eq_true rfl, decide_eq_true rfl]; rfl] at h
  exact h.mono fun _ _ hh => ⟨hh.1, Lib.hid hh.2⟩
theorem zeros_any (w : World) : ∃ w' s, (Instr.makeSlice 44 (.int .i64 262145) (.int .i64 262145)).run Tryz.prog w = .ok (.slice (some ⟨w.heap.size, 0, none⟩) 262145 262145) w' ∧
    (convert 44 9 (.slice (some ⟨w.heap.size, 0, none⟩) 262145 262145)).run Tryz.prog w' = .ok (.string s) w' ∧ s.size = 262145 ∧ Below w.heap.size w w' := by
  obtain ⟨i0, hi, hz0, hz1, hz2⟩ := info_parts infoB
  obtain ⟨w', hmk, hown, hg⟩ := run_make_full (P := Tryz.prog) (w := w) w.heap.size 44 5 i0 _ 1 Tryz.underlying44 hi hz0 hz1 .i64 .i64 262145 (by rw [hz2]; omega) (by unfold maxLen; omega) (Nat.le_refl _)
  have hsz : ∀ n : Nat, ByteArray.size ⟨(List.replicate n (0 : UInt8)).toArray⟩ = n := fun n => by
    show (List.replicate n (0 : UInt8)).toArray.size = n
    rw [List.size_toArray, List.length_replicate]
  refine ⟨w', ⟨(List.replicate 262145 0).toArray⟩, hmk, ?_, hsz 262145, hg.os, hg.tape, hg.output, hg.size, fun i hi => hg.block i hi nofun⟩
  obtain ⟨n, hn⟩ : ∃ n, 262145 = n := ⟨_, rfl⟩
  rw [hn] at hown ⊢
  have h := run_convert_bytes_back (P := Tryz.prog) w' 44 9 5 ⟨w.heap.size, 0, none⟩ n (List.replicate n 0) Tryz.underlying44 Tryz.underlying5 Tryz.underlying9 (fun j hj => by
    rw [List.length_replicate] at hj
    have hc := hown.cellAt j (by omega)
    rw [add_plain, Nat.zero_add, hc, show (Value.int .u8 0).cells = #[.int .u8 0] from rfl, toList_madeCells_one, List.getElem?_replicate, if_pos (by omega)]
    simp)
  rw [List.length_replicate] at h
  exact h

end Go.Proofs.YtmcmpjcijbeilaaGreatDoor.Gr

/-
  What is proved here: the contract of the law's limits: it returns true. Condition: the package variables lie as their texts lay them.
-/
namespace Go.Proofs.YtmcmpjcijbeilaaGreatDoor.Gr
open Go.RowKit Wd Ws

theorem Gb.lim {w W : World} {b n : Nat} {V : Int} {A : Option Addr} {c : Nat} (h : Gb w W b V A c (limL n)) : W.cell? ⟨b, 0, none⟩ = some (.int .i64 V) ∧ W.cell? ⟨b, 1, none⟩ = some (.slice A n c) ∧ b < W.heap.size := by
  have := h.facts
  rwa [limL_len] at this
def LimRel (w : World) (b : Nat) (gk : Nat) (vi : Value) (wr : World) : Prop :=
  ∃ (k : Nat) (v : Value), k + gk = 8193 ∧ vi = .int .i64 (k : Int) ∧ wr.heap[b]? = some (.cells #[.int .i64 512, v] 24 (0, 0)) ∧ EOwn wr (b + 1) v (limL k) ∧ Below b w wr

theorem own_cap {w : World} {B n m c : Nat} {A : Option Addr} {L : List Ed} (h : EOwn w B (.slice A n c) L) (hm : L.length = m) : m ≤ c := by
  obtain ⟨h0, ⟨h1, h2⟩ | ⟨g, cap, cur, h1, h2, h3, h4, h5, _⟩⟩ := h
  · cases h1; omega
  · cases h1
    omega

set_option maxRecDepth 100000 in
set_option maxHeartbeats 4000000 in
set_option pp.deepTerms false in
set_option pp.maxSteps 1500 in
theorem limits_any (w : World) (hLd : Hid (Laid w)) : Calls Tryz.prog 27 #[] w fun e w' => e = .returned (.bool true) ∧ Hid (Below w.heap.size w w') := by
  have mixed := mixedO
  obtain ⟨w1, hw1⟩ : ∃ w1, w1 = w.alloc (.cells #[.int .i64 512, .slice none 0 0] 24) := ⟨_, rfl⟩
  have hz : Below w.heap.size w w1 := by rw [hw1]; exact (Below.refl _ w).alloc (Nat.le_refl _) _
  have hx1 : w1.heap[w.heap.size]? = some (.cells #[.int .i64 512, .slice none 0 0] 24 (0, 0)) := by rw [hw1]; exact heap_alloc_new w _
  have HX1 := Lib.hid hx1; have HZ1 := Lib.hid hz; have HW := Lib.hid hw1
  have HLd : Hid (∀ w', Below w.heap.size w w' → Laid w') := Lib.hid fun w' h => hLd.out.bel h
  obtain ⟨b, hb⟩ : ∃ b, w.heap.size = b := ⟨_, rfl⟩
  rw [hb] at HX1 HZ1 HLd ⊢
  clear hw1 hz hx1
  go_enter Tryz.func27, Tryz.ntmps27
  go_wp2_with fail
  rw [← HW.out]
  go_loopg [3] 8193 (fun gk vi wr => LimRel w b gk vi wr)
  case atStart => exact ⟨0, .slice none 0 0, rfl, rfl, HX1.out, EOwn.none_ _ _, HZ1.out⟩
  case round =>
    obtain ⟨k, v, hk, rfl, hx, ho, hbw⟩ := hrel
    by_cases hlt : k < 8193
    · obtain ⟨A, c, hv, -, -, -⟩ := ho.form
      subst hv
      obtain ⟨x0, x1, hxs⟩ := Bx.cells hx
      have hsr := hbw.size
      have hb5 : Below wr.heap.size wr (wr.alloc (.cells #[.int .i64 ((k : Int) / 32), .int .i64 ((k : Int) % 32), .int .i64 0] 42)) := (Below.refl _ wr).alloc (Nat.le_refl _) _
      have HN6 := Lib.hid (heap_alloc_new wr (.cells #[.int .i64 ((k : Int) / 32), .int .i64 ((k : Int) % 32), .int .i64 0] 42))
      have HO6 := Lib.hid (ho.alloc (.cells #[.int .i64 ((k : Int) / 32), .int .i64 ((k : Int) % 32), .int .i64 0] 42))
      have HX6 := Lib.hid ((hb5.block b hxs).trans hx)
      have HB6 := Lib.hid (hbw.trans (hb5.mono (by omega : b ≤ wr.heap.size)))
      have hs6 := hb5.size
      clear hx ho hbw hb5
      go_wp2_with (at_builtin; refine app_e rfl (.tmp 22) (.tmp 28) rfl (b + 1) _ _ ((k : Int) / 32) ((k : Int) % 32) 0 rfl HO6.out _ rfl HN6.out ?lc1 ?lc2 ?_)
      case lc1 => rw [limL_len]; omega
      case lc2 => omega
      intro v' w7 ho7 hg7
      have hown : ∀ j, (Value.slice A (limL k).length c).ownBlock = some j → b + 1 ≤ j := fun j e => (own_lt HO6.out j e).1
      have hX7 := (hg7.block b (by omega) (fun e => by have := hown b e.symm; omega)).trans HX6.out
      have hB7 : Below b w w7 := Below.grown HB6.out hg7 (by omega) fun j e => by have := hown j e; omega
      have hO7 : EOwn w7 (b + 1) v' (limL (k + 1)) := by
        rw [limL_succ, show limE k = ((k : Int) / 32, (k : Int) % 32, 0) by simp [limE]]; exact ho7
      obtain ⟨A7, c7, hv7, -, -, -⟩ := hO7.form
      subst hv7
      obtain ⟨y0, y1, hys⟩ := Bx.cells hX7
      have yf := Gx.cells hX7
      have HX7 := Lib.hid hX7; have HB7 := Lib.hid hB7; have HO7 := Lib.hid hO7
      clear hown hX7 hB7 hO7 ho7 hg7 x0 x1
      go_wp2
      go_roundg (gk - 1)
      case measure => omega
      case rel =>
        refine ⟨k + 1, _, by omega, by go_num, heap_setCell_same w7 b 1 _ _ _ HX7.out, ownsRow_setCell_below HO7.out (a := ⟨b, 1, none⟩) (by show b < _; omega) _, HB7.out.setCell (p := ⟨b, 1, none⟩) (Nat.le_refl _) _⟩
    · obtain rfl : k = 8193 := by omega
      obtain ⟨A, c, hv, hA, -, -⟩ := ho.form
      subst hv
      have hc : 8193 ≤ c := own_cap ho (limL_len 8193)
      rw [limL_len] at hx
      have hA2 : EAt wr A (limL 8192) := by rw [← limL_take]; exact eat_take hA 8192
      have HG : Hid (Gb w wr b 512 A c (limL 8193)) := Lib.hid ⟨by rw [hb]; exact hbw, by rw [limL_len]; exact hx, hA⟩
      obtain ⟨x0, x1, hxs⟩ := Bx.cells hx
      obtain ⟨W2, hW2⟩ : ∃ W2, W2 = wr.alloc (.cells #[.int .i64 512, .slice A 8192 c] 24) := ⟨_, rfl⟩
      obtain ⟨q1, q2⟩ := gb_new (d := c) HG.out hA2 (U := 512) (W := W2) (by rw [limL_len]; exact hW2)
      have HG2 := Lib.hid q1; have HF2 := Lib.hid q2; have HW2 := Lib.hid hW2
      clear q1 q2 hW2 ho hA hA2 hx hbw
      go_wp2_with fail
      rw [← HW2.out]
      refine (print_lim A c W2 (Lib.hid HF2.out.at_) (Lib.hid (HLd.out _ (by rw [← hb]; exact HF2.out.below)))).mono ?_
      rintro e w3 ⟨rfl, HB3⟩
      have HG3 := Lib.hid (HG2.out.step HB3.out); have HF3 := Lib.hid (HF2.out.step HB3.out)
      clear x0 x1 hxs HB3 HG2 HF2
      go_wp2_with fail
      refine (parse_lim w3 (Lib.hid (HLd.out _ (by rw [← hb]; exact HF3.out.below)))).mono ?_
      rintro e w4 ⟨⟨A4, c4, rfl, HT4⟩, HB4⟩
      obtain ⟨W4, hW4⟩ : ∃ W4, W4 = w4.alloc (.cells #[.int .i64 512, .slice A4 8192 c4] 24) := ⟨_, rfl⟩
      obtain ⟨q1, q2⟩ := gb_new (d := c4) (HG3.out.step HB4.out) HT4.out (U := 512) (W := W4) (by rw [limL_len]; exact hW4)
      obtain ⟨q3, q4⟩ := gb_new (d := c4) (HF3.out.step HB4.out) HT4.out (U := 512) (W := W4) (by rw [limL_len]; exact hW4)
      have HG4 := Lib.hid q1; have HF4 := Lib.hid q3; have HH4 := Lib.hid q2; have HW4 := Lib.hid hW4
      clear q1 q2 q3 q4 hW4 HT4 HB4 HG3 HF3
      have hsz : (sb limT).size ≤ 204820 := by rw [sb_size]; exact limT_size
      go_wp2_with fail
      rw [← HW4.out]
      refine (parse_more W4 (Lib.hid (HLd.out _ (by rw [← hb]; exact HF4.out.below)))).mono ?_
      rintro e w5 ⟨rfl, HB5⟩
      obtain ⟨W5, hW5⟩ : ∃ W5, W5 = w5.alloc (.cells #[.int .i64 0, .slice none 0 0] 24) := ⟨_, rfl⟩
      have HG5 := Lib.hid (gb_also (HG4.out.step HB5.out) hW5); have HF5 := Lib.hid (gb_also (HF4.out.step HB5.out) hW5); have HH5 := Lib.hid (gb_also (HH4.out.step HB5.out) hW5)
      have HW5 := Lib.hid hW5
      clear hW5 HB5 HG4 HF4 HH4
      obtain ⟨w6, s6, hmk, hcv, hs6, hb6⟩ := zeros_any W5
      have HG6 := Lib.hid (HG5.out.step hb6); have HF6 := Lib.hid (HF5.out.step hb6); have HH6 := Lib.hid (HH5.out.step hb6)
      clear hb6 HG5 HF5 HH5
      have hz5 : W5.heap.size = w5.heap.size + 1 := by rw [HW5.out]; simp
      rw [hz5] at hmk
      rw [hz5] at hcv
      rw [HW5.out] at hmk
      go_wp2_with fail
      refine (parse_big s6 w6 (by omega) (by omega)).mono ?_
      rintro e w7 ⟨rfl, hb7⟩
      obtain ⟨W7, hW7⟩ : ∃ W7, W7 = w7.alloc (.cells #[.int .i64 0, .slice none 0 0] 24) := ⟨_, rfl⟩
      have HG7 := Lib.hid (gb_also (HG6.out.step hb7) hW7); have HF7 := Lib.hid (gb_also (HF6.out.step hb7) hW7); have HH7 := Lib.hid (gb_also (HH6.out.step hb7) hW7)
      have HW7 := Lib.hid hW7
      clear hW7 hb7 HG6 HF6 HH6 hmk hcv hz5
      obtain ⟨k0, k1, hkz⟩ := HG7.out.lim
      rw [HW7.out] at k0 k1
      go_wp2_with fail
      rw [← HW7.out]
      refine (check_over A c W7 (Lib.hid HG7.out.at_)).mono ?_
      rintro e w8 ⟨rfl, HB8⟩
      have HF8 := Lib.hid (HF7.out.step HB8.out); have HH8 := Lib.hid (HH7.out.step HB8.out)
      clear k0 k1 hkz HB8 HG7 HF7 HH7
      obtain ⟨k0, k1, hkz⟩ := HF8.out.lim
      go_wp2_with fail
      refine (check_lim A c w8 (Lib.hid HF8.out.at_)).mono ?_
      rintro e w9 ⟨rfl, HB9⟩
      have HF9 := Lib.hid (HF8.out.step HB9.out); have HH9 := Lib.hid (HH8.out.step HB9.out)
      clear k0 k1 hkz HB9 HF8 HH8
      obtain ⟨k0, k1, hkz⟩ := HF9.out.lim
      obtain ⟨j0, j1, hjz⟩ := HH9.out.lim
      go_wp2_with fail
      refine (same_lim A4 A c4 c w9 (Lib.hid HH9.out.at_) (Lib.hid HF9.out.at_)).mono ?_
      rintro e w10 ⟨rfl, HB10⟩
      have HZ10 := Lib.hid (HF9.out.step HB10.out).below
      clear k0 k1 hkz j0 j1 hjz HB10 HF9 HH9
      go_wp2_with fail
      refine (check_513 w10).mono ?_
      rintro e w11 ⟨rfl, HB11⟩
      have HZ11 := Lib.hid (HZ10.out.trans (HB11.out.mono HZ10.out.size))
      clear HB11 HZ10
      go_wp2_with fail
      refine (law_check 0 none 0 [] w11 (Lib.hid (EAt.nil _ _)) (by simp) (Lib.hid (HLd.out _ (by rw [← hb]; exact HZ11.out)))).mono ?_
      rintro e w12 ⟨rfl, hb12⟩
      have HZ12 := Lib.hid (HZ11.out.trans (hb12.mono HZ11.out.size))
      clear hb12 HZ11
      go_wp2_with fail
      refine (law_parse _ w12 (Lib.hid (HLd.out _ (by rw [← hb]; exact HZ12.out))) (by decide)).mono ?_
      rintro e w13 ⟨rfl, hb13⟩
      have HZ13 := Lib.hid (HZ12.out.trans (hb13.mono HZ12.out.size))
      clear hb13 HZ12
      go_wp2_with fail
      have hb14 : Below w13.heap.size w13 (w13.alloc (.cells #[] 42)) := (Below.refl _ w13).alloc (Nat.le_refl _) _
      have HZ14 := Lib.hid (HZ13.out.trans (hb14.mono HZ13.out.size))
      clear hb14 HZ13
      refine (law_same 0 0 (some ⟨w13.heap.size, 0, none⟩) none 0 0 [] [] _ (Lib.hid (EAt.nil _ _)) (Lib.hid (EAt.nil _ _)) (by simp) (by simp) (Lib.hid (HLd.out _ (by rw [← hb]; exact HZ14.out)))).mono ?_
      rintro e w15 ⟨rfl, hb15⟩
      have HZ15 := Lib.hid (HZ14.out.trans (hb15.mono HZ14.out.size))
      clear hb15 HZ14
      go_wp2
      go_ret
      exact ⟨rfl, Lib.hid (by rw [← hb]; exact HZ15.out)⟩

end Go.Proofs.YtmcmpjcijbeilaaGreatDoor.Gr

/-
  What is proved here: rows of bytes, texts and edges that the law's examples stand in: what they give, what a store leaves of them; a string as a row of bytes, and back. No condition.
-/

namespace Go.Proofs.YtmcmpjcijbeilaaGreatDoor.Gr
open Go.RowKit Wd Ws

theorem cs_same {w : World} {a : Addr} {u v : Value} (h : w.cell? a = some u) : (w.setCell a v).cell? a = some v := by
  first | exact World.cell?_setCell_same _ _ _ h | exact World.cell?_setCell_same _ _ h | (apply World.cell?_setCell_same; exact h)
theorem cs_other {w : World} {a b : Addr} {v : Value} (h : a ≠ b) : (w.setCell a v).cell? b = w.cell? b := by
  first | exact World.cell?_setCell_other _ _ _ _ h | exact World.cell?_setCell_other _ _ _ h | (apply World.cell?_setCell_other; exact h)
/- A row whose first cells are the bytes l. -/
structure Bts (w : World) (g : Nat) (l : List UInt8) : Prop where
  cell : ∀ j (hj : j < l.length), w.cell? ⟨g, j, none⟩ = some (.int .u8 (l[j].toNat : Int))
  fz : ∀ j, j < l.length → w.frozen? ⟨g, j, none⟩ = false
  lt : g < w.heap.size
theorem Bts.below {w w' : World} {g : Nat} {l : List UInt8} (h : Bts w g l) (hb : Below w.heap.size w w') : Bts w' g l := by
  have hk := hb.block g h.lt
  refine ⟨fun j hj => (hb.cell (p := ⟨g, j, none⟩) h.lt).trans (h.cell j hj), fun j hj => ?_, Nat.lt_of_lt_of_le h.lt hb.size⟩
  have := h.fz j hj
  unfold World.frozen? at this ⊢
  rw [show w'.heap[g]? = w.heap[g]? from hk]
  exact this
theorem bts_of (w : World) (l : List UInt8) : ∃ W c, (convert 9 44 (.string (sb l))).run Tryz.prog w = .ok (.slice (some ⟨w.heap.size, 0, none⟩) l.length c) W ∧ Bts W w.heap.size l ∧ Below w.heap.size w W := by
  have h := run_bytes_of_string (P := Tryz.prog) w 9 44 5 (sb l) Tryz.underlying9 Tryz.underlying44 Tryz.underlying5
  obtain ⟨c, hc⟩ : ∃ c, grownCap w (sb l).size 0 5 = c := ⟨_, rfl⟩
  rw [hc] at h
  obtain ⟨W, hW⟩ : ∃ W, W = w.drew.alloc (.cells (bytesRow (sb l) c) 5 ((bytesRow (sb l) c).size, (bytesRow (sb l) c).size + 1)) := ⟨_, rfl⟩
  rw [← hW] at h
  rw [sb_size] at h
  have hb : Below w.heap.size w W := by rw [hW]; exact (Below.refl _ w).drew.alloc (Nat.le_refl _) _
  have hy : W.heap[w.heap.size]? = some (.cells (bytesRow (sb l) c) 5 ((bytesRow (sb l) c).size, (bytesRow (sb l) c).size + 1)) := by
    rw [hW]
    show (w.heap.push _)[w.heap.size]? = _
    simp
  have hz : l.length ≤ (bytesRow (sb l) c).size := by
    unfold bytesRow
    rw [Array.size_append, Array.size_map]
    have : (sb l).data.size = l.length := sb_size l
    omega
  refine ⟨W, c, h, ⟨fun j hj => ?_, fun j hj => ?_, lt_of_block hy⟩, hb⟩
  · rw [Lib.cell_of_heap hy, bytesRow_at (sb l) c j (by have : (sb l).data.size = l.length := sb_size l; omega)]
    rfl
  · unfold World.frozen?
    rw [show W.heap[w.heap.size]? = _ from hy]
    simp only [Bool.and_eq_false_iff, decide_eq_false_iff_not]
    left; omega
theorem Bts.set {w : World} {g : Nat} {l : List UInt8} (h : Bts w g l) (k : Nat) (r : UInt8) : Bts (w.setCell ⟨g, k, none⟩ (.int .u8 (r.toNat : Int))) g (l.set k r) := by
  refine ⟨fun j hj => ?_, fun j hj => ?_, by simpa using h.lt⟩
  · rw [List.length_set] at hj
    by_cases e : k = j
    · subst e
      rw [cs_same (h.cell k hj)]
      simp
    · rw [cs_other (fun x => e (congrArg Addr.off x)), h.cell j hj, List.getElem_set_ne e]
  · rw [List.length_set] at hj
    rw [World.frozen?_setCell]; exact h.fz j hj
theorem Bts.back {w : World} {g : Nat} {l : List UInt8} (h : Bts w g l) (c n : Nat) (hn : l.length = n) : (convert 44 9 (.slice (some ⟨g, 0, none⟩) n c)).run Tryz.prog w = .ok (.string (sb l)) w := by
  subst hn
  exact run_convert_bytes_back (P := Tryz.prog) w 44 9 5 ⟨g, 0, none⟩ c l Tryz.underlying44 Tryz.underlying5 Tryz.underlying9 (fun j hj => by
    rw [add_plain, Nat.zero_add]; exact h.cell j hj)

/- A row of n bytes; of n texts. -/
def Oct (w : World) (b n : Nat) : Prop := ∀ k < n, ∃ r : UInt8, w.cell? ⟨b, k, none⟩ = some (.int .u8 (r.toNat : Int))
theorem Oct.below {w w' : World} {b n : Nat} (h : Oct w b n) (hb : Below w.heap.size w w') : Oct w' b n := by
  intro k hk
  obtain ⟨s, h1⟩ := h k hk
  exact ⟨s, (hb.cell (p := ⟨b, k, none⟩) (block_lt_of_cell h1)).trans h1⟩
theorem Oct.of (w : World) (l : List UInt8) (t : TypeId) : Oct (w.alloc (.cells (l.map fun r => Value.int .u8 (r.toNat : Int)).toArray t)) w.heap.size l.length := by
  intro k hk
  refine ⟨l[k], ?_⟩
  rw [Lib.cell_of_heap (heap_alloc_new w _)]
  simp [List.getElem?_eq_getElem hk]
def Txs (w : World) (b n : Nat) : Prop := ∀ k < n, ∃ s : ByteArray, w.cell? ⟨b, k, none⟩ = some (.string s) ∧ s.size ≤ 1000
theorem Txs.below {w w' : World} {b n : Nat} (h : Txs w b n) (hb : Below w.heap.size w w') : Txs w' b n := by
  intro k hk
  obtain ⟨s, h1, h2⟩ := h k hk
  exact ⟨s, (hb.cell (p := ⟨b, k, none⟩) (block_lt_of_cell h1)).trans h1, h2⟩
theorem Txs.of (w : World) (cs : Array Value) (t : TypeId) (n : Nat) (h : ∀ k < n, ∃ s : ByteArray, cs[k]? = some (.string s) ∧ s.size ≤ 1000) : Txs (w.alloc (.cells cs t)) w.heap.size n := by
  intro k hk
  obtain ⟨s, h1, h2⟩ := h k hk
  exact ⟨s, by rw [Lib.cell_of_heap (heap_alloc_new w _), h1], h2⟩

/- One edge put in another's place. -/
theorem eat_put {w : World} {g : Nat} {L : List Ed} (h : EAt w (some ⟨g, 0, none⟩) L) (i : Nat) (x y z : Int) (hi : i < L.length) :
    EAt (((w.setCell ⟨g, i * 3, none⟩ (.int .i64 x)).setCell ⟨g, i * 3 + 1, none⟩ (.int .i64 y)).setCell ⟨g, i * 3 + 2, none⟩ (.int .i64 z)) (some ⟨g, 0, none⟩) (L.set i (x, y, z)) := by
  intro k e hk
  obtain ⟨W, hW⟩ : ∃ W, W = ((w.setCell ⟨g, i * 3, none⟩ (.int .i64 x)).setCell ⟨g, i * 3 + 1, none⟩ (.int .i64 y)).setCell ⟨g, i * 3 + 2, none⟩ (.int .i64 z) := ⟨_, rfl⟩
  have far : ∀ j, j ≠ i * 3 → j ≠ i * 3 + 1 → j ≠ i * 3 + 2 → W.cell? ⟨g, j, none⟩ = w.cell? ⟨g, j, none⟩ := fun j h1 h2 h3 => by
    rw [hW, cs_other (fun e => h3 (by have := congrArg Addr.off e; exact this.symm)), cs_other (fun e => h2 (by have := congrArg Addr.off e; exact this.symm)), cs_other (fun e => h1 (by have := congrArg Addr.off e; exact this.symm))]
  have ne : ∀ a b : Nat, a ≠ b → (⟨g, a, none⟩ : Addr) ≠ ⟨g, b, none⟩ := fun a b hab e => hab (congrArg Addr.off e)
  rw [← hW]
  obtain ⟨e0, he0⟩ := at_lt L i hi
  obtain ⟨bk, o, hA, c0, c1, c2⟩ := h i e0 he0
  cases hA
  rw [Nat.zero_add] at c0 c1 c2
  have n0 : W.cell? ⟨g, i * 3, none⟩ = some (.int .i64 x) := by
    rw [hW, cs_other (ne _ _ (by omega)), cs_other (ne _ _ (by omega)), cs_same (u := .int .i64 e0.1) (by first | exact c0)]
  have n1 : W.cell? ⟨g, i * 3 + 1, none⟩ = some (.int .i64 y) := by
    rw [hW, cs_other (ne _ _ (by omega)), cs_same (u := .int .i64 e0.2.1) (by rw [cs_other (ne _ _ (by omega)), c1])]
  have n2 : W.cell? ⟨g, i * 3 + 2, none⟩ = some (.int .i64 z) := by
    rw [hW, cs_same (u := .int .i64 e0.2.2) (by rw [cs_other (ne _ _ (by omega)), cs_other (ne _ _ (by omega)), c2])]
  by_cases hki : k = i
  · subst hki
    rw [List.getElem?_set_self hi] at hk
    cases hk
    exact ⟨g, 0, rfl, by rw [Nat.zero_add]; exact n0, by rw [Nat.zero_add]; exact n1, by rw [Nat.zero_add]; exact n2⟩
  · rw [List.getElem?_set_ne (fun e => hki e.symm)] at hk
    obtain ⟨bk, o, hA, d0, d1, d2⟩ := h k e hk
    cases hA
    rw [Nat.zero_add] at d0 d1 d2
    exact ⟨g, 0, rfl, by rw [Nat.zero_add, far _ (by omega) (by omega) (by omega)]; exact d0, by rw [Nat.zero_add, far _ (by omega) (by omega) (by omega)]; exact d1, by rw [Nat.zero_add, far _ (by omega) (by omega) (by omega)]; exact d2⟩

end Go.Proofs.YtmcmpjcijbeilaaGreatDoor.Gr
