/-
  What is proved here: contracts of the document's own Combine, and of its Add: a row of messages, rising, with one more. Conditions: the row is one that the call has made, of fewer than 1000000 messages.
-/
import Derived.Test.YtbbmgandkmlojaaGreatAlSd3
namespace Go.Proofs.YtbbmgandkmlojaaGreat.Al
open Go.RowKit Go.Sort Gr Wd Ws Fx Rk Lb

theorem insM_mid (k t y : Int) (x : Ms) (hx : x.1 = t) (C : List Ms) : ∀ A : List Ms, (∀ z ∈ A, z.1 < t) → insM k (A ++ x :: C) (t, y) = A ++ (t, comb k x.2 y) :: C
  | [], _ => by show insM k (x :: C) (t, y) = _; unfold insM; rw [if_neg (by show ¬ x.1 < t; omega), if_pos hx]; rfl
  | a :: A, h => by
    show insM k (a :: (A ++ x :: C)) (t, y) = _
    rw [insM, if_pos (h a List.mem_cons_self), insM_mid k t y x hx C A (fun z hz => h z (List.mem_cons_of_mem _ hz))]; rfl
theorem insM_gap (k t y : Int) (C : List Ms) (hC : ∀ x, C[0]? = some x → t < x.1) : ∀ A : List Ms, (∀ z ∈ A, z.1 < t) → insM k (A ++ C) (t, y) = A ++ (t, y) :: C
  | [], _ => by
    cases C with
    | nil => rfl
    | cons x C =>
      have := hC x rfl
      show insM k (x :: C) (t, y) = _; unfold insM; rw [if_neg (by show ¬ x.1 < t; omega), if_neg (by show ¬ x.1 = t; omega)]; rfl
  | a :: A, h => by
    show insM k (a :: (A ++ C)) (t, y) = _
    rw [insM, if_pos (h a List.mem_cons_self), insM_gap k t y C hC A (fun z hz => h z (List.mem_cons_of_mem _ hz))]; rfl
def Low (l : List Ms) (t : Int) (q : Nat) : Prop := ∀ (j : Nat) (x : Ms), j < q → l[j]? = some x → x.1 < t
theorem Low.mem {l : List Ms} {t : Int} {q : Nat} (h : Low l t q) : ∀ z ∈ l.take q, z.1 < t := by
  intro z hz
  obtain ⟨j, hj⟩ := List.getElem?_of_mem hz
  rw [List.getElem?_take] at hj
  split at hj
  · rename_i hlt; exact h j z hlt hj
  · cases hj
theorem low_eq {k t y : Int} {l : List Ms} {q : Nat} {x : Ms} (h : Low l t q) (hx : l[q]? = some x) (e : x.1 = t) : insM k l (t, y) = l.take q ++ (t, comb k x.2 y) :: l.drop (q + 1) := by
  have := insM_mid k t y x e (l.drop (q + 1)) (l.take q) h.mem
  rw [← drop_at hx, List.take_append_drop] at this
  exact this
theorem low_gap {k t y : Int} {l : List Ms} {q : Nat} (h : Low l t q) (hx : ∀ x, l[q]? = some x → t < x.1) : insM k l (t, y) = l.take q ++ (t, y) :: l.drop q := by
  have := insM_gap k t y (l.drop q) (fun x h => by rw [List.getElem?_drop, Nat.add_zero] at h; exact hx x h) (l.take q) h.mem
  rw [List.take_append_drop] at this
  exact this
theorem Low.step {l : List Ms} {t : Int} {q : Nat} {x : Ms} (h : Low l t q) (hx : l[q]? = some x) (e : x.1 < t) : Low l t (q + 1) := by
  intro j z hj hz
  by_cases he : j = q
  · subst he; rw [hx] at hz; cases hz; exact e
  · exact h j z (by omega) hz

set_option maxRecDepth 100000 in
theorem rcomb_x (k st so dm ep a b : Int) (w : World) : Calls Tryz.prog 101 #[.agg #[.int .u8 k, .int .i64 st, .int .i64 so, .int .i64 dm, .int .i64 ep], .int .i64 a, .int .i64 b] w fun e w' => e = .returned (.int .i64 (comb k a b)) ∧ w' = w.alloc (.cells #[.int .u8 k, .int .i64 st, .int .i64 so, .int .i64 dm, .int .i64 ep] 26) := by
  obtain ⟨r, hr⟩ : ∃ r, comb k a b = r := ⟨_, rfl⟩
  rw [hr]
  by_cases h1 : k = 1
  · subst h1
    have HR : Hid (addI a b = r) := Lib.hid hr
    clear hr
    go_enter Tryz.func101, Tryz.ntmps101
    go_wp2_with fail
    refine (Pa.radd_of a b _).mono ?_
    rintro e w' ⟨rfl, rfl⟩
    go_wp2
    go_ret
    exact ⟨Fx.ret_int HR.out, rfl⟩
  have b1 : (k == 1) = false := by simp [h1]
  by_cases h2 : k = 2
  · subst h2
    have HR : Hid (min a b = r) := Lib.hid hr
    clear hr
    by_cases hab : a < b
    · go_enter Tryz.func101, Tryz.ntmps101
      go_wp2
      all_goals (try (exfalso; omega))
      all_goals (go_ret; exact ⟨Fx.ret_int (by have := HR.out; omega), rfl⟩)
    · go_enter Tryz.func101, Tryz.ntmps101
      go_wp2
      all_goals (try (exfalso; omega))
      all_goals (go_ret; exact ⟨Fx.ret_int (by have := HR.out; omega), rfl⟩)
  have b2 : (k == 2) = false := by simp [h2]
  by_cases h3 : k = 3
  · subst h3
    have HR : Hid (min a b = r) := Lib.hid hr
    clear hr
    by_cases hab : a < b
    · go_enter Tryz.func101, Tryz.ntmps101
      go_wp2
      all_goals (try (exfalso; omega))
      all_goals (go_ret; exact ⟨Fx.ret_int (by have := HR.out; omega), rfl⟩)
    · go_enter Tryz.func101, Tryz.ntmps101
      go_wp2
      all_goals (try (exfalso; omega))
      all_goals (go_ret; exact ⟨Fx.ret_int (by have := HR.out; omega), rfl⟩)
  have b3 : (k == 3) = false := by simp [h3]
  have e0 : r = 0 := by rw [← hr]; unfold comb; rw [if_neg h1, if_neg (by omega)]
  subst e0
  clear hr
  go_enter Tryz.func101, Tryz.ntmps101
  go_wp2
  go_ret
  exact ⟨rfl, rfl⟩

end Go.Proofs.YtbbmgandkmlojaaGreat.Al
