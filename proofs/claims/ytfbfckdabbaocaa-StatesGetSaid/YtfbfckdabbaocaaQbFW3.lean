/-
  What is proved here: contracts of a Writer's Byte, Short, Word, Long, Raw and Out: what is put stands behind all that was put; Out tells all of it, in new memory. Conditions: what is put fits an int; what Out tells takes at most 2^47 bytes.
-/
import Derived.Test.YtfbfckdabbaocaaQbFW2
namespace Go.Proofs.Ytfbfckdabbaocaa.Fd
open Go.RowKit
set_option maxHeartbeats 400000 in
theorem wr8 (lo b n : Nat) (l : List Nat) (w : World) (h : Wr w lo b l) (hn : n < 256) (hlo : lo ≤ w.heap.size) (hm : l.length + 1 ≤ 9223372036854775807) :
    Calls Try.prog 29 #[.pointer (some ⟨b, 0, none⟩), .int .u8 (n : Int)] w fun e w' => e = .returned (.tuple #[]) ∧ Wr w' lo b (l ++ Fld.dg 1 n) ∧ w.grownBy w' (some b) := by
  have HW := Lib.hid h; clear h
  go_enter Try.func29, Try.ntmps29
  go_wp2_with fail
  refine (put8 lo b n l w HW.out hn hlo hm).mono ?_
  rintro e w' ⟨rfl, hw, hg⟩
  have HW2 := Lib.hid hw; clear hw
  have HG2 := Lib.hid hg; clear hg
  go_wp2
  go_end0
  exact ⟨rfl, HW2.out, HG2.out⟩
set_option maxHeartbeats 400000 in
theorem wr16 (lo b n : Nat) (l : List Nat) (w : World) (h : Wr w lo b l) (hn : n < 65536) (hlo : lo ≤ w.heap.size) (hm : l.length + 2 ≤ 9223372036854775807) :
    Calls Try.prog 27 #[.pointer (some ⟨b, 0, none⟩), .int .u16 (n : Int)] w fun e w' => e = .returned (.tuple #[]) ∧ Wr w' lo b (l ++ Fld.dg 2 n) ∧ w.grownBy w' (some b) := by
  have HW := Lib.hid h; clear h
  go_enter Try.func27, Try.ntmps27
  go_wp2_with fail
  refine (put16 lo b n l w HW.out hn hlo hm).mono ?_
  rintro e w' ⟨rfl, hw, hg⟩
  have HW2 := Lib.hid hw; clear hw
  have HG2 := Lib.hid hg; clear hg
  go_wp2
  go_end0
  exact ⟨rfl, HW2.out, HG2.out⟩
set_option maxHeartbeats 400000 in
theorem wr32 (lo b n : Nat) (l : List Nat) (w : World) (h : Wr w lo b l) (hn : n < 4294967296) (hlo : lo ≤ w.heap.size) (hm : l.length + 4 ≤ 9223372036854775807) :
    Calls Try.prog 26 #[.pointer (some ⟨b, 0, none⟩), .int .u32 (n : Int)] w fun e w' => e = .returned (.tuple #[]) ∧ Wr w' lo b (l ++ Fld.dg 4 n) ∧ w.grownBy w' (some b) := by
  have HW := Lib.hid h; clear h
  go_enter Try.func26, Try.ntmps26
  go_wp2_with fail
  refine (put32 lo b n l w HW.out hn hlo hm).mono ?_
  rintro e w' ⟨rfl, hw, hg⟩
  have HW2 := Lib.hid hw; clear hw
  have HG2 := Lib.hid hg; clear hg
  go_wp2
  go_end0
  exact ⟨rfl, HW2.out, HG2.out⟩
set_option maxHeartbeats 400000 in
theorem wr64 (lo b n : Nat) (l : List Nat) (w : World) (h : Wr w lo b l) (hn : n < 18446744073709551616) (hlo : lo ≤ w.heap.size) (hm : l.length + 8 ≤ 9223372036854775807) :
    Calls Try.prog 28 #[.pointer (some ⟨b, 0, none⟩), .int .u64 (n : Int)] w fun e w' => e = .returned (.tuple #[]) ∧ Wr w' lo b (l ++ Fld.dg 8 n) ∧ w.grownBy w' (some b) := by
  have HW := Lib.hid h; clear h
  go_enter Try.func28, Try.ntmps28
  go_wp2_with fail
  refine (put64 lo b n l w HW.out hn hlo hm).mono ?_
  rintro e w' ⟨rfl, hw, hg⟩
  have HW2 := Lib.hid hw; clear hw
  have HG2 := Lib.hid hg; clear hg
  go_wp2
  go_end0
  exact ⟨rfl, HW2.out, HG2.out⟩
def OutV (w w' : World) (v : Value) (l : List Nat) : Prop := (l = [] ∧ v = .slice none 0 0) ∨ (v = .slice (some ⟨w.heap.size, 0, none⟩) l.length l.length ∧ Row w' w.heap.size l)
def OutRel (w : World) (lo : Nat) (l : List Nat) (g : Nat) (p : Value) (wr : World) : Prop :=
  ∃ (ps : List (List Nat)) (tail : List Nat), ps.length = g ∧ Chain w lo p ps ∧ spell ps ++ tail = l ∧ Row wr w.heap.size (List.replicate (spell ps).length 0 ++ tail) ∧ Below w.heap.size w wr
theorem out_splice (S : Nat) (x tail : List Nat) : splice (vals (List.replicate (S + x.length) 0 ++ tail)) S (vals x) = vals (List.replicate S 0 ++ (x ++ tail)) := by
  unfold splice
  rw [vals_length, ← List.replicate_append_replicate, List.append_assoc, vals_append, vals_append, vals_append, vals_append]
  have h1 : (vals (List.replicate S 0)).length = S := by simp [vals]
  have h2 : (vals (List.replicate x.length 0)).length = x.length := by simp [vals]
  rw [List.take_append_of_le_length (by omega), List.take_of_length_le (by omega)]
  congr 2
  have h3 : List.drop S (vals (List.replicate S 0)) = [] := List.drop_eq_nil_of_le (by omega)
  have h4 : List.drop x.length (vals (List.replicate x.length 0)) = [] := List.drop_eq_nil_of_le (by omega)
  rw [← List.drop_drop, List.drop_append_of_le_length (by omega), h3, List.nil_append, List.drop_append_of_le_length (by omega), h4, List.nil_append]
set_option maxHeartbeats 1000000 in
theorem out_at (lo b N : Nat) (l : List Nat) (w : World) (h : Wr w lo b l) (HN : Hid (N = l.length)) (hm : N ≤ 140737488355328) :
    Calls Try.prog 31 #[.pointer (some ⟨b, 0, none⟩)] w fun e w' => ∃ v, e = .returned v ∧ OutV w w' v l ∧ Below w.heap.size w w' := by
  obtain ⟨h0, p, ps, h1, h2, h3⟩ := h
  have hc := cell_of_one h1
  have hblt := lt_of_block h1
  clear h1
  cases ps with
  | nil =>
    obtain rfl : p = .pointer none := h2
    obtain rfl : l = [] := h3.symm
    clear h3
    go_enter Try.func31, Try.ntmps31
    go_wp2
    go_ret
    exact ⟨_, rfl, Or.inl ⟨rfl, rfl⟩, Below.refl _ _⟩
  | cons y ys =>
    obtain ⟨pb, pg, ahead, rfl, k1, k2, k3, k4, k5, k6⟩ := h2
    have HC : Hid (Chain w lo (.pointer (some ⟨pb, 0, none⟩)) (y :: ys)) := ⟨pb, pg, ahead, rfl, k1, k2, k3, k4, k5, k6⟩
    rw [h3, ← HN.out] at k3
    obtain ⟨c0, c1, c2⟩ := three_cell _ _ _ _ _ _ k3
    have H3 := Lib.hid h3; clear h3
    clear k1 k2 k3 k4 k5 k6 c0 c1
    have hmk := fun W => run_make_row' (P := Try.prog) 30 5 (.int .u8 0) 1 Try.underlying30 info5 rfl .i64 .i64 N (by omega) (by omega) W
    go_enter Try.func31, Try.ntmps31
    go_wp2
    clear hmk
    go_loopg [4] (ys.length + 1) (fun g p wr => OutRel w lo l g p wr)
    case atStart =>
      have hb : Below w.heap.size w (w.alloc (.cells (madeCells #[.int .u8 0] N) 5)) := (Below.refl _ _).alloc (Nat.le_refl _) _
      refine ⟨y :: ys, [], rfl, HC.out, by rw [List.append_nil]; exact H3.out, ?_, hb⟩
      rw [H3.out, List.append_nil, ← HN.out]; exact Row.made _ _
    case round =>
      clear HC H3 hc c2
      obtain ⟨ps, tail, hg, hch, hsp, hrow, hbl⟩ := hrel
      cases ps with
      | nil =>
        obtain rfl : u4 = .pointer none := hch
        obtain rfl : tail = l := hsp
        have HR := Lib.hid hrow; clear hrow
        have HB := Lib.hid hbl; clear hbl
        clear hg
        go_wp2
        go_ret
        exact ⟨_, rfl, Or.inr ⟨by rw [← HN.out]; rfl, HR.out⟩, HB.out⟩
      | cons x xs =>
        obtain ⟨qb, qg, ahead2, rfl, k1, k2, k3, k4, k5, k6⟩ := hch
        obtain ⟨d0, d1, d2⟩ := three_cell _ _ _ _ _ _ k3
        have c1 := (hbl.cell (block_lt_of_cell d1)).trans d1
        have c2 := (hbl.cell (block_lt_of_cell d2)).trans d2
        have D0 := Lib.hid d0
        clear d0 d1 d2
        have HL : Hid (l.length = (spell xs).length + x.length + tail.length) := by
          show _ = _
          rw [← hsp, spell]; simp; omega
        have hrow2 : Row wr w.heap.size (List.replicate ((spell xs).length + x.length) 0 ++ tail) := by
          rw [spell, List.length_append] at hrow; exact hrow
        rw [spell, List.length_append] at c2
        have hat := (k4.at_ k5).below hbl
        have HR := Lib.hid hrow2; clear hrow hrow2
        have HB := Lib.hid hbl; clear hbl
        have HA := Lib.hid hat; clear hat
        have HC := Lib.hid k6; clear k6 k3 k4 k5
        have HS := Lib.hid hsp; clear hsp
        have HG := Lib.hid hg; clear hg
        generalize hS : (spell xs).length = S at HL HR c2
        have HSS := Lib.hid hS; clear hS
        obtain ⟨X, hX⟩ : ∃ X, X = x.length := ⟨_, rfl⟩
        rw [← hX] at c1 c2
        have HX := Lib.hid hX; clear hX
        have hle : S + X ≤ N := by have := HL.out; have := HX.out; have := HN.out; omega
        have hc2 : wr.cell? ⟨qb, 2, none⟩ = some (.int .i64 ((S : Int) + (X : Int))) := by rw [c2]; rfl
        clear c2
        rcases Nat.lt_or_ge S N with hSN | hSN
        · have hNS : ¬ N = S := by omega
          have b2 : (0 : Int) ≤ (S : Int) := by omega
          have b3 : (S : Int) ≤ (N : Int) := by omega
          have HM : Hid ((vals x).length = Nat.min X (N - S)) := by
            show _ = _
            rw [vals_length, ← HX.out]; exact (Nat.min_eq_left (by omega)).symm
          have HF : Hid (S + (vals x).length ≤ (vals (List.replicate (S + x.length) 0 ++ tail)).length) := by
            show _ ≤ _
            rw [vals_length, vals_length]; simp
          have g5 : IntKind.i64.wrap (S : Int) = (S : Int) := IntWalk.i64_in _ (by omega)
          clear HX HL
          go_wp2
          go_region_law (refine step_copy_splice rfl (.tmp 43) (.tmp 47) 30 30 rfl 5 Try.underlying30 size5 (some ⟨w.heap.size, S, none⟩) (some ⟨qg, 0, none⟩) (N - S) (N - S) X X (by simp [Act.eval, Act.put]) (by simp [Act.eval, Act.put]) w.heap.size S (vals (List.replicate (S + x.length) 0 ++ tail)) 5 HR.out (vals x) HM.out (fun _ => ⟨rfl, _, rfl, HA.out.vals⟩) HF.out (vals_one _) w.heap.size w HB.out.drew (Nat.le_refl _) ?_; intro w4 hg4 hb4)
          all_goals
            have hc0 := (hb4.cell (block_lt_of_cell D0.out)).trans D0.out
            have HB4 := Lib.hid hb4; clear hb4
            go_wp2
            go_roundg xs.length
            case measure => have := HG.out; simp at this; omega
            case rel =>
              refine ⟨xs, x ++ tail, rfl, HC.out, ?_, ?_, HB4.out⟩
              · have := HS.out; rw [spell, List.append_assoc] at this; exact this
              · have := hg4.out; rw [out_splice] at this; rw [HSS.out]; exact this
        · obtain rfl : N = S := by omega
          clear hSN
          obtain rfl : X = 0 := by omega
          obtain rfl : x = [] := List.eq_nil_of_length_eq_zero HX.out.symm
          have hc3 : wr.cell? ⟨qb, 2, none⟩ = some (.int .i64 (N : Int)) := by rw [hc2]; simp
          clear hc2 hle
          have b2 : (0 : Int) ≤ (N : Int) := by omega
          have HM : Hid ((vals []).length = Nat.min 0 0) := rfl
          have HF : Hid (N + (vals []).length ≤ (vals (List.replicate (N + ([] : List Nat).length) 0 ++ tail)).length) := by
            show _ ≤ _
            rw [vals_length, vals_length]; simp
          have g5 : IntKind.i64.wrap (N : Int) = (N : Int) := IntWalk.i64_in _ (by omega)
          clear HX HL HA
          go_wp2
          go_region_law (refine step_copy_splice rfl (.tmp 43) (.tmp 47) 30 30 rfl 5 Try.underlying30 size5 (some ⟨w.heap.size, 0, none⟩) (some ⟨qg, 0, none⟩) 0 0 0 0 (by simp [Act.eval, Act.put]) (by simp [Act.eval, Act.put]) w.heap.size N (vals (List.replicate (N + ([] : List Nat).length) 0 ++ tail)) 5 HR.out (vals []) HM.out (fun hp => absurd hp (Nat.lt_irrefl 0)) HF.out (vals_one _) w.heap.size w HB.out.drew (Nat.le_refl _) ?_; intro w4 hg4 hb4)
          all_goals
            have hc0 := (hb4.cell (block_lt_of_cell D0.out)).trans D0.out
            have HB4 := Lib.hid hb4; clear hb4
            go_wp2
            go_roundg xs.length
            case measure => have := HG.out; simp at this; omega
            case rel =>
              refine ⟨xs, tail, rfl, HC.out, ?_, ?_, HB4.out⟩
              · have := HS.out; rw [spell, List.append_assoc] at this; exact this
              · have := hg4.out; rw [out_splice] at this; rw [HSS.out]; exact this
theorem out_any (lo b : Nat) (l : List Nat) (w : World) (h : Wr w lo b l) (hm : l.length ≤ 140737488355328) :
    Calls Try.prog 31 #[.pointer (some ⟨b, 0, none⟩)] w fun e w' => ∃ v, e = .returned v ∧ OutV w w' v l ∧ Below w.heap.size w w' := out_at lo b l.length l w h rfl hm
end Go.Proofs.Ytfbfckdabbaocaa.Fd
