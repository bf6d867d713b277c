/-
  What is proved here: what the law InboxOrder leans on: messages folded ahead, mail of them; mail of rows that were split. No condition but that counts fit.
-/
import Derived.Test.YtgkmmjlhphinhaaInL3a
namespace Go.Proofs.Ytgkmmjlhphinhaa.In
open Go.RowKit Go.Maps Gr Wd Ws Fx Rk Lb Al

theorem fold_to {k : Int} {L : List Ms} (h : ToIn L) : ToIn (putM k [] L) := fun e he => by
  have hu : UpM (putM k [] L) := up_putM k L (by simp [UpM])
  obtain ⟨x, y⟩ := e
  have := (up_mail k x y hu).2 he
  rw [mailM_fold] at this
  obtain ⟨e, he, hx⟩ := some_in (show (mailM k x L).isSome = true by rw [this]; rfl)
  rw [← hx]; exact h e he
theorem fold_good (k st so dm ep : Int) (A : Option Addr) (n c m : Nat) (L F : List Ms) (w0 : World) (hL : MAt w0 A L) (hn : L.length = n) (hT : ToIn L) (hn2 : n < 1000000) (hF : putM k [] L = F) (hm : F.length = m) :
    Hid (∀ W, Hid (Below w0.heap.size w0 W) → Calls Try.prog 9 #[.agg #[.int .u8 k, .int .i64 st, .int .i64 so, .int .i64 dm, .int .i64 ep], .slice A n c] W fun e w' => ∃ A' c', e = .returned (.slice A' m c') ∧ Hid (MAt w' A' F) ∧ Hid (Below w0.heap.size w0 w') ∧ Hid (Below W.heap.size W w')) := Lib.hid fun W hW => by
  refine (fold_any k st so dm ep A n c L W (hL.below hW.out) hn hT hn2).mono ?_
  rintro e w' ⟨v, he, ho, hb⟩
  have ho2 := ho.out
  rw [hF] at ho2
  obtain ⟨A', c', hv, hat⟩ := ms_at ho2
  exact ⟨A', c', by rw [he, hv, hm], Lib.hid hat, Lib.hid (step_below hW.out hW.out.size hb.out), hb⟩
theorem mg_fold1 (k st so dm ep : Int) (Ao : Option Addr) (no co m : Nat) (own : List Int) (F : List Ms) (X : List Ml) (w0 : World) (hO : IAt w0 Ao own) (hno : own.length = no) (hm : F.length = m) (hT : ToIn F) (hOI : OwnIn own) (hno2 : no < 1000000) (hF : m < 1000000) (hX : mergeM k own [F] = X) :
    Hid (∀ W A' c', Hid (Below w0.heap.size w0 W) → Hid (MAt W A' F) → Calls Try.prog 14 #[.agg #[.int .u8 k, .int .i64 st, .int .i64 so, .int .i64 dm, .int .i64 ep], .slice Ao no co, .slice (some ⟨W.heap.size, 0, none⟩) 1 1] (W.alloc (.cells #[.slice A' m c'] 24)) fun e w' => ∃ A c, e = .returned (.slice A no c) ∧ Hid (KAt w' A X) ∧ Hid (Below w0.heap.size w0 w')) := Lib.hid fun W A' c' hW hA => by
  refine (mg_lit k st so dm ep Ao no co 1 own [.slice A' m c'] [F] X W (hO.below hW.out) hno (RV.cons hm hA.out (RV.nil _)) rfl (by simpa using hT) hOI hno2 (by omega) (by simp; omega) hX W (Lib.hid (Below.refl _ W))).mono ?_
  rintro e w' ⟨A, c, he, hk, hb⟩
  exact ⟨A, c, he, hk, Lib.hid (step_below hW.out hW.out.size hb.out)⟩
theorem mg_fold2 (k st so dm ep : Int) (Ao : Option Addr) (no co m1 m2 : Nat) (own : List Int) (F1 F2 : List Ms) (X : List Ml) (w0 : World) (hO : IAt w0 Ao own) (hno : own.length = no) (hm1 : F1.length = m1) (hm2 : F2.length = m2) (hT1 : ToIn F1) (hT2 : ToIn F2) (hOI : OwnIn own) (hno2 : no < 1000000) (hF1 : m1 < 1000000) (hF2 : m2 < 1000000) (hX : mergeM k own [F1, F2] = X) :
    Hid (∀ W A1 c1 A2 c2, Hid (Below w0.heap.size w0 W) → Hid (MAt W A1 F1) → Hid (MAt W A2 F2) → Calls Try.prog 14 #[.agg #[.int .u8 k, .int .i64 st, .int .i64 so, .int .i64 dm, .int .i64 ep], .slice Ao no co, .slice (some ⟨W.heap.size, 0, none⟩) 2 2] (W.alloc (.cells #[.slice A1 m1 c1, .slice A2 m2 c2] 24)) fun e w' => ∃ A c, e = .returned (.slice A no c) ∧ Hid (KAt w' A X) ∧ Hid (Below w0.heap.size w0 w')) := Lib.hid fun W A1 c1 A2 c2 hW h1 h2 => by
  refine (mg_lit k st so dm ep Ao no co 2 own [.slice A1 m1 c1, .slice A2 m2 c2] [F1, F2] X W (hO.below hW.out) hno (RV.cons hm1 h1.out (RV.cons hm2 h2.out (RV.nil _))) rfl (by
    intro e he
    simp only [List.flatten_cons, List.flatten_nil, List.append_nil, List.mem_append] at he
    rcases he with he | he
    · exact hT1 e he
    · exact hT2 e he) hOI hno2 (by omega) (by simp; omega) hX W (Lib.hid (Below.refl _ W))).mono ?_
  rintro e w' ⟨A, c, he, hk, hb⟩
  exact ⟨A, c, he, hk, Lib.hid (step_below hW.out hW.out.size hb.out)⟩
/- Mail of one row in a block. -/
theorem mg_row (k st so dm ep : Int) (Ao : Option Addr) (no co m : Nat) (own : List Int) (A' : Option Addr) (c' : Nat) (F : List Ms) (X : List Ml) (w0 : World) (hO : IAt w0 Ao own) (hno : own.length = no) (hA : MAt w0 A' F) (hm : F.length = m) (hT : ToIn F) (hOI : OwnIn own) (hno2 : no < 1000000) (hF : m < 1000000) (hX : mergeM k own [F] = X) :
    Hid (∀ W g, Hid (Below w0.heap.size w0 W) → Hid (W.heap[g]? = some (.cells #[.slice A' m c'] 24 (0, 0))) → Calls Try.prog 14 #[.agg #[.int .u8 k, .int .i64 st, .int .i64 so, .int .i64 dm, .int .i64 ep], .slice Ao no co, .slice (some ⟨g, 0, none⟩) 1 1] W fun e w' => ∃ A c, e = .returned (.slice A no c) ∧ Hid (KAt w' A X) ∧ Hid (Below w0.heap.size w0 w') ∧ Hid (Below W.heap.size W w')) := Lib.hid fun W g hW hg => by
  refine (merge_any k st so dm ep Ao (some ⟨g, 0, none⟩) no co 1 1 own [F] W (hO.below hW.out) hno (one_row hg.out hm (hA.below hW.out)) rfl (by simpa using hT) hOI hno2 (by omega) (by simp; omega)).mono ?_
  rintro e w' ⟨v, he, hk, hbk⟩
  have hk2 := hk.out
  rw [hX] at hk2
  obtain ⟨A, c, hv, hat⟩ := ks_at hk2
  refine ⟨A, c, ?_, Lib.hid hat, Lib.hid (step_below hW.out hW.out.size hbk.out), hbk⟩
  rw [he, hv, ← hX, mergeM_len, hno]
/- Mail of rows that can be read. -/
theorem mg_rows (k st so dm ep : Int) (Ao : Option Addr) (no co : Nat) (own : List Int) (A' : Option Addr) (n' c' : Nat) (Ls : List (List Ms)) (X : List Ml) (w0 : World) (hO : IAt w0 Ao own) (hno : own.length = no) (hR : RMs w0 A' Ls) (hn : Ls.length = n') (hT : ToIn Ls.flatten) (hOI : OwnIn own) (hno2 : no < 1000000) (hn2 : n' ≤ 1000000) (hF : Ls.flatten.length < 1000000000) (hX : mergeM k own Ls = X) :
    Hid (∀ W, Hid (Below w0.heap.size w0 W) → Calls Try.prog 14 #[.agg #[.int .u8 k, .int .i64 st, .int .i64 so, .int .i64 dm, .int .i64 ep], .slice Ao no co, .slice A' n' c'] W fun e w' => ∃ A c, e = .returned (.slice A no c) ∧ Hid (KAt w' A X) ∧ Hid (Below w0.heap.size w0 w') ∧ Hid (Below W.heap.size W w')) := Lib.hid fun W hW => by
  refine (merge_any k st so dm ep Ao A' no co n' c' own Ls W (hO.below hW.out) hno (hR.below hW.out) hn hT hOI hno2 hn2 hF).mono ?_
  rintro e w' ⟨v, he, hk, hbk⟩
  have hk2 := hk.out
  rw [hX] at hk2
  obtain ⟨A, c, hv, hat⟩ := ks_at hk2
  refine ⟨A, c, ?_, Lib.hid hat, Lib.hid (step_below hW.out hW.out.size hbk.out), hbk⟩
  rw [he, hv, ← hX, mergeM_len, hno]
theorem sm_two (no : Nat) (Y : List Ml) (w0 : World) (hY : Y.length = no) (hno : no < 1000000) : Hid (∀ W A c A' c', Hid (Below w0.heap.size w0 W) → Hid (KAt W A Y) → Hid (KAt W A' Y) →
    Calls Try.prog 17 #[.slice A no c, .slice A' no c'] W fun e w' => e = .returned (.bool true) ∧ Hid (Below w0.heap.size w0 w')) := Lib.hid fun W A c A' c' hW hA hA' => by
  have := same_any A A' no no c c' Y Y W hA.out hA'.out hY hY (by omega) (by omega)
  rw [sameB_refl] at this
  refine this.mono ?_
  rintro e w' ⟨he, hb⟩
  exact ⟨he, Lib.hid (step_below hW.out hW.out.size hb.out)⟩
theorem wk_good (w0 : World) : Hid (∀ W, Hid (Below w0.heap.size w0 W) → Calls Try.prog 8 #[] W fun e w' => e = .returned (.bool true) ∧ Hid (Below w0.heap.size w0 w')) := Lib.hid fun W hW => by
  refine (works_any W).mono ?_
  rintro e w' ⟨he, hb⟩
  exact ⟨he, Lib.hid (step_below hW.out hW.out.size hb.out)⟩
theorem someM_next {L : List Ms} {q : Nat} {t y : Int} (h : L[q]? = some (t, y)) : someM (L.take (q + 1)) = if 0 ≤ t ∧ t < 512 then someM (L.take q) ++ [(t, y)] else someM (L.take q) := by
  rw [take_at h]
  unfold someM
  rw [List.filter_append]
  by_cases e : 0 ≤ t ∧ t < 512
  · rw [if_pos e]; simp [e]
  · rw [if_neg e]; simp; omega
theorem someM_len (L : List Ms) : (someM L).length ≤ L.length := List.length_filter_le _ _
theorem someM_to {L : List Ms} (h : ToIn L) : ToIn (someM L) := fun e he => h e (List.mem_filter.1 he).1
theorem rowsW_mem {n m : Nat} {L : List Ms} {e : Ms} (h : e ∈ (rowsW n L m).flatten) : e ∈ L := by
  obtain ⟨M, hM, he⟩ := List.mem_flatten.1 h
  unfold rowsW at hM
  obtain ⟨x, _, rfl⟩ := List.mem_map.1 hM
  exact (List.mem_filter.1 he).1
theorem rowsW_flat (n m : Nat) (L : List Ms) (q : Nat) (h : L.length ≤ q) : (rowsW n L m).flatten.length ≤ m * q := by
  have := flat_le (Ls := rowsW n L m) (m := q) (fun M hM => by
    unfold rowsW at hM
    obtain ⟨x, _, rfl⟩ := List.mem_map.1 hM
    exact Nat.le_trans (List.length_filter_le _ _) h)
  rwa [rowsW_len] at this
end Go.Proofs.Ytgkmmjlhphinhaa.In
