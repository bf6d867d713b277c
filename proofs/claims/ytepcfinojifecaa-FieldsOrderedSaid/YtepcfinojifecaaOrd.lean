/-
  What is proved here: plain facts for the law FieldsOrdered: strings of bytes are in the order of their numbers; the bytes of a number's lower part; and what a slice of a told row is as a string. No condition.
-/
import Derived.Test.YtepcfinojifecaaHalf
namespace Go.Proofs.Ytepcfinojifecaa
open Go.RowKit

theorem str_list (l : List Nat) : (str l).toList = l.map fun x => UInt8.ofNat x := by
  rw [ByteArray.toList_eq]; simp [str]
theorem less_lex (a b : List Nat) (ha : ∀ x ∈ a, x < 256) (hb : ∀ x ∈ b, x < 256) : Op.bytesLess (a.map fun x => UInt8.ofNat x) (b.map fun x => UInt8.ofNat x) = Fld.lexB a b := by
  induction a generalizing b with
  | nil => cases b <;> rfl
  | cons x a ih =>
    cases b with
    | nil => rfl
    | cons y b =>
      have hx := ha x (List.mem_cons_self ..)
      have hy := hb y (List.mem_cons_self ..)
      have e1 : (UInt8.ofNat x < UInt8.ofNat y) ↔ x < y := by
        rw [UInt8.lt_iff_toNat_lt, UInt8.toNat_ofNat', UInt8.toNat_ofNat', Nat.mod_eq_of_lt hx, Nat.mod_eq_of_lt hy]
      have e2 : (UInt8.ofNat x == UInt8.ofNat y) = decide (x = y) := by
        rw [Bool.eq_iff_iff, beq_iff_eq, decide_eq_true_iff]
        constructor
        · intro h
          have := congrArg UInt8.toNat h
          rw [UInt8.toNat_ofNat', UInt8.toNat_ofNat', Nat.mod_eq_of_lt hx, Nat.mod_eq_of_lt hy] at this; exact this
        · intro h; rw [h]
      have h3 := ih b (fun z hz => ha z (List.mem_cons_of_mem _ hz)) (fun z hz => hb z (List.mem_cons_of_mem _ hz))
      rw [List.map_cons, List.map_cons, Op.bytesLess, h3, e2, Fld.lexB]
      by_cases h : x < y
      · rw [if_pos h, decide_eq_true (e1.2 h)]; rfl
      · rw [if_neg h, decide_eq_false (fun q => h (e1.1 q)), Bool.false_or]
        by_cases h' : y < x
        · rw [if_pos h', decide_eq_false (by omega)]; rfl
        · rw [if_neg h', decide_eq_true (by omega), Bool.true_and]
theorem less_num (a b k : Nat) (ha : a < 256 ^ k) (hb : b < 256 ^ k) : Op.bytesLess (str (Fld.dg k a)).toList (str (Fld.dg k b)).toList = decide (a < b) := by
  rw [str_list, str_list, less_lex _ _ (Fld.dg_lt _ _) (Fld.dg_lt _ _), Fld.lexB_num _ _ (by rw [Fld.dg_length, Fld.dg_length]) (Fld.dg_lt _ _) (Fld.dg_lt _ _), Fld.num_dg, Fld.num_dg, Nat.mod_eq_of_lt ha, Nat.mod_eq_of_lt hb]

theorem conv_row (w : World) (g o n c : Nat) (F l : List Nat) (h : At w (some ⟨g, 0, none⟩) F) (hn : l.length = n) (hl : (F.drop o).take n = l) :
    (convert 31 9 (.slice (some ⟨g, o, none⟩) n c)).run Try.prog w = .ok (.string (str l)) w := by
  have h2 := (h.drop o).take n
  rw [hl, Nat.zero_add] at h2
  have := conv_at w _ l c h2
  rw [hn] at this
  exact this
theorem out_len (lo b n : Nat) (l : List Nat) (w : World) (h : Wr w lo b l) (hl : l.length = n) (hp : 0 < n) (hm : n ≤ 140737488355328) :
    Calls Try.prog 12 #[.pointer (some ⟨b, 0, none⟩)] w fun e w' => e = .returned (.slice (some ⟨w.heap.size, 0, none⟩) n n) ∧ At w' (some ⟨w.heap.size, 0, none⟩) l ∧ Below w.heap.size w w' := by
  refine (out_some lo b l w h (by intro e; rw [e] at hl; simp at hl; omega) (by omega)).mono ?_
  rintro e w' ⟨rfl, hr, hb⟩
  rw [hl]
  exact ⟨rfl, hr.at_ h.small, hb⟩

/- The bytes of x: a number's lowest one, two and four bytes; and the ends of all its eight. -/
def seven (a : Nat) : List Nat := Fld.dg 1 a ++ Fld.dg 2 a ++ Fld.dg 4 a
theorem seven_parts (a : Nat) : ((seven a).drop 0).take 1 = Fld.dg 1 a ∧ ((seven a).drop 1).take 2 = Fld.dg 2 a ∧ ((seven a).drop 3).take 4 = Fld.dg 4 a ∧ (seven a).length = 7 := by
  have l1 := Fld.dg_length 1 a
  have l2 := Fld.dg_length 2 a
  have l4 := Fld.dg_length 4 a
  unfold seven
  generalize Fld.dg 1 a = x at l1
  generalize Fld.dg 2 a = y at l2
  generalize Fld.dg 4 a = z at l4
  obtain ⟨x0, rfl⟩ := List.length_eq_one_iff.1 l1
  match y, l2 with
  | [y0, y1], _ =>
    match z, l4 with
    | [z0, z1, z2, z3], _ => exact ⟨rfl, rfl, rfl, rfl⟩
theorem ends (a : Nat) : ((Fld.dg 8 a).drop 7).take 1 = Fld.dg 1 a ∧ ((Fld.dg 8 a).drop 6).take 2 = Fld.dg 2 a ∧ ((Fld.dg 8 a).drop 4).take 4 = Fld.dg 4 a := by
  have key : ∀ j k : Nat, j + k = 8 → ((Fld.dg 8 a).drop j).take k = Fld.dg k a := by
    intro j k h
    rw [← h, Fld.dg_add]
    have l1 := Fld.dg_length j (a / 256 ^ k)
    have l2 := Fld.dg_length k a
    rw [List.drop_append_of_le_length (by omega), List.drop_eq_nil_of_le (by omega), List.nil_append, List.take_of_length_le (by omega)]
  exact ⟨key 7 1 rfl, key 6 2 rfl, key 4 4 rfl⟩
theorem seven_put (a : Nat) : Fld.dg 1 (a % 256) ++ Fld.dg 2 (a % 65536) ++ Fld.dg 4 (a % 4294967296) = seven a := by
  have m1 := Fld.dg_mod 1 1 a (by omega)
  have m2 := Fld.dg_mod 2 2 a (by omega)
  have m4 := Fld.dg_mod 4 4 a (by omega)
  unfold seven
  rw [← m1, ← m2, ← m4]

end Go.Proofs.Ytepcfinojifecaa
