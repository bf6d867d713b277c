/-
  What is proved here: the contract of the law's function works: in every world it returns true, and no block that was there has changed.
-/
import Derived.Test.YtepcfinojifecaaW6
import Derived.Lib.SlBytesConst
namespace Go.Proofs.Ytepcfinojifecaa
open Go.RowKit

/- What a reader does changes nothing of a writer: their blocks are of other types. -/
theorem Chain.typed {w w' : World} {lo : Nat} : ∀ {ps : List (List Nat)} {p : Value}, Chain w lo p ps → (∀ (k : Nat) (cs : Array Value) (t : TypeId), w.heap[k]? = some (Obj.cells cs t (0, 0)) → t = 5 ∨ t = 61 → w'.heap[k]? = w.heap[k]?) → Chain w' lo p ps
  | [], _, h, _ => h
  | x :: xs, p, h, hk => by
    obtain ⟨b, g, ahead, e, h1, h2, h3, h4, h5, h6⟩ := h
    exact ⟨b, g, ahead, e, h1, h2, (hk b _ 61 h3 (Or.inr rfl)).trans h3, h4.kept (hk g _ 5 h4 (Or.inl rfl)), h5, h6.typed hk⟩
theorem Wr.reads {w w' : World} {lo b lo' r : Nat} {l l' : List Nat} {bad : Bool} (h : Wr w lo b l) (hr : Rd w lo' r l' bad) (hg : w.grownBy w' (some r)) : Wr w' lo b l := by
  obtain ⟨A, hA⟩ := fall_end hr
  have key : ∀ (k : Nat) (cs : Array Value) (t : TypeId), w.heap[k]? = some (Obj.cells cs t (0, 0)) → t ≠ 65 → w'.heap[k]? = w.heap[k]? := by
    intro k cs t hk ht
    refine hg.block k (lt_of_block hk) (fun e => ?_)
    injection e with e
    subst e
    rw [hA] at hk
    injection hk with hk
    injection hk with _ hk
    exact ht hk.symm
  obtain ⟨h0, p, ps, h1, h2, h3⟩ := h
  exact ⟨h0, p, ps, (key b _ 28 h1 (by decide)).trans h1, h2.typed (fun k cs t hk ht => key k cs t hk (by rcases ht with rfl | rfl <;> decide)), h3⟩

theorem row_build (w : World) (l : List Nat) (fr : Nat × Nat) (h : ∀ x ∈ l, x < 256) : At (w.alloc (.cells (vals l).toArray 5 fr)) (some ⟨w.heap.size, 0, none⟩) l := by
  intro k x hx
  refine ⟨h x (List.mem_of_getElem? hx), _, rfl, ?_⟩
  rw [add_plain, Nat.zero_add, cell_of_row _ _ k _ 5 fr (heap_alloc_new w _), List.getElem?_toArray, vals_at, hx]; rfl

set_option maxRecDepth 100000 in
set_option maxHeartbeats 1000000 in
theorem works_any (w : World) : Calls Try.prog 10 #[] w fun e w' => e = .returned (.bool true) ∧ Below w.heap.size w w' := by
  have kc := fun (w : World) (C : Array Value) (n c : Nat) => Lib.run_convert_bytes_const (P := Try.prog) w 31 5 C n c Try.underlying31 Try.underlying5
  go_enter Try.func10, Try.ntmps10
  go_wp2_with fail
  have hw0 : Wr (w.alloc (.cells #[.pointer none] 28)) (w.heap.size + 1) w.heap.size [] := Wr.new _ _ _ (heap_alloc_new w _) (by omega)
  have hb0 : Below w.heap.size w (w.alloc (.cells #[.pointer none] 28)) := (Below.refl _ _).alloc (Nat.le_refl _) _
  refine (wr16 (w.heap.size + 1) w.heap.size 258 [] _ hw0 (by decide) (by simp) (by decide)).mono ?_
  rintro e w1 ⟨rfl, hw1, hg1⟩
  have hb1 : Below w.heap.size w w1 := below_only hb0 hg1 (by simp) (Nat.le_refl _)
  have hz1 : w.heap.size + 1 ≤ w1.heap.size := by have := hg1.size; simpa using this
  have HW1 := Lib.hid hw1; clear hw1 hw0
  have HB1 := Lib.hid hb1; clear hb1 hb0 hg1
  go_wp2_with fail
  clear kc
  have hw2 := HW1.out.below (w' := w1.alloc (.cells #[.int .u8 97] 5 (1, 2))) ((Below.refl _ _).alloc (Nat.le_refl _) _)
  have hb2 : Below w.heap.size w (w1.alloc (.cells #[.int .u8 97] 5 (1, 2))) := HB1.out.alloc HB1.out.size _
  refine (wrRaw (w.heap.size + 1) w.heap.size 1 (some ⟨w1.heap.size, 0, none⟩) _ [97] _ hw2 (row_build w1 [97] (1, 2) (by decide)) (by simp; omega) (by decide) (by decide)).mono ?_
  rintro e w3 ⟨rfl, hw3, hg3⟩
  have hb3 : Below w.heap.size w w3 := below_only hb2 hg3 (by simp; omega) (Nat.le_refl _)
  have hz3 : w.heap.size + 1 ≤ w3.heap.size := by have := hg3.size; simp at this; omega
  have HW3 := Lib.hid hw3; clear hw3 hw2
  have HB3 := Lib.hid hb3; clear hb3 hb2 hg3
  clear HW1 HB1
  go_wp2_with fail
  have hw4 := HW3.out.below (w' := w3.alloc (.cells #[.int .u8 1, .int .u8 2, .int .u8 3] 5)) ((Below.refl _ _).alloc (Nat.le_refl _) _)
  have hb4 : Below w.heap.size w (w3.alloc (.cells #[.int .u8 1, .int .u8 2, .int .u8 3] 5)) := HB3.out.alloc HB3.out.size _
  refine (open_any (some ⟨w3.heap.size, 0, none⟩) 3 [1, 2, 3] _ (by decide) (row_build w3 [1, 2, 3] (0, 0) (by decide))).mono ?_
  rintro e w5 ⟨r, rfl, hr5, hg5, hs5⟩
  have hb5 : Below w.heap.size w w5 := hb4.trans (hg5.mono (by simp; omega))
  have hw5 := hw4.below hg5
  have HW5 := Lib.hid hw5; clear hw5 hw4 HW3
  have HB5 := Lib.hid hb5; clear hb5 hb4 HB3
  have hrb : w.heap.size + 1 < r := by have := hr5.1; have := hr5.lt; have := hg5.size; simp at *; omega
  have HR5 := Lib.hid hr5; clear hr5 hg5 hs5
  generalize (w3.alloc (Obj.cells (vals [1, 2, 3]).toArray 5)).heap.size = lo at HR5
  go_wp2_with fail
  refine (rd16 lo r [1, 2, 3] false _ HR5.out (by decide)).mono ?_
  rintro e w6 ⟨rfl, hr6, hg6⟩
  have HW6 := Lib.hid (HW5.out.reads HR5.out hg6)
  have HB6 := Lib.hid (below_only HB5.out hg6 HB5.out.size (by omega))
  have HR6 := Lib.hid hr6; clear hr6 hg6 HW5 HB5 HR5
  go_wp2_with fail
  refine (rd8 lo r [3] false _ HR6.out (by decide)).mono ?_
  rintro e w7 ⟨rfl, hr7, hg7⟩
  have HW7 := Lib.hid (HW6.out.reads HR6.out hg7)
  have HB7 := Lib.hid (below_only HB6.out hg7 HB6.out.size (by omega))
  have HR7 := Lib.hid hr7; clear hr7 hg7 HW6 HB6 HR6
  go_wp2_with fail
  refine (rd8_bad lo r [] false _ HR7.out (by decide)).mono ?_
  rintro e w8 ⟨rfl, hr8, hg8⟩
  have HW8 := Lib.hid (HW7.out.reads HR7.out hg8)
  have HB8 := Lib.hid (below_only HB7.out hg8 HB7.out.size (by omega))
  have HR8 := Lib.hid hr8; clear hr8 hg8 HW7 HB7 HR7
  have e1 : Fld.num [1, 2] = 258 := by decide
  have e2 : Fld.num [3] = 3 := by decide
  rw [e1, e2]
  clear e1 e2
  go_wp2_with fail
  have hw8 : Wr w8 (w.heap.size + 1) w.heap.size [1, 2, 97] := HW8.out
  clear HW8
  refine (out_any _ _ _ _ hw8 (by decide)).mono ?_
  rintro e w9 ⟨v, rfl, ho, hb9⟩
  have HR9 := Lib.hid (HR8.out.below hb9)
  have HB9 := Lib.hid (below_trans HB8.out hb9)
  rcases ho with ⟨h, _⟩ | ⟨rfl, hrow⟩
  · cases h
  have hat := hrow.at_ (by decide)
  have hcv : (convert 31 9 (.slice (some ⟨w8.heap.size, 0, none⟩) 3 3)).run Try.prog w9 = .ok (.string ⟨#[1, 2, 97]⟩) w9 := conv_at w9 _ _ 3 hat
  clear hat hrow hb9 HB8 hw8 HR8
  go_wp2_with fail
  refine (bad_any _ _ _ _ _ HR9.out).mono ?_
  rintro e w' ⟨rfl, rfl⟩
  go_wp2_with fail
  refine (left_any _ _ _ _ _ HR9.out).mono ?_
  rintro e w' ⟨rfl, rfl⟩
  go_wp2
  go_ret
  exact ⟨rfl, HB9.out⟩

end Go.Proofs.Ytepcfinojifecaa
