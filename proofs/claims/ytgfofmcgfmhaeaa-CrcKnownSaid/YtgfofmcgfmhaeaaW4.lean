/-
  What is proved here: the contract of the law's function works: in every world it returns true, and no block that was there has changed.
-/
import Derived.Test.YtgfofmcgfmhaeaaW3
import Derived.Lib.SlBytesConst
namespace Go.Proofs.Ytgfofmcgfmhaeaa
open Go.RowKit

def digits : List Nat := [49, 50, 51, 52, 53, 54, 55, 56, 57]
theorem k_sum : iv (Crc.sumB digits) = 3808858755 := by decide +kernel
theorem k_nil : iv (Crc.sumB []) = 0 := by decide +kernel
theorem k_times : iv (Crc.T (BitVec.ofNat 32 2147483648) (BitVec.ofNat 32 305419896)) = 305419896 := by decide +kernel
theorem k_pow0 : iv (Crc.pw (8 * (0 : Int).toNat)) = 2147483648 := by decide +kernel
theorem k_pow1 : iv (Crc.pw (8 * (1 : Int).toNat)) = 8388608 := by decide +kernel

theorem sum_digits (b : Nat) (w : World) (h : w.heap[b]? = some (.cells #[.int .u8 49, .int .u8 50, .int .u8 51, .int .u8 52, .int .u8 53, .int .u8 54, .int .u8 55, .int .u8 56, .int .u8 57] 5 (9, 10))) :
    Calls Try.prog 11 #[.slice (some ⟨b, 0, none⟩) 9 9] w fun e w' => e = .returned (.int .u32 3808858755) ∧ Below w.heap.size w w' := by
  have := sum_at (some ⟨b, 0, none⟩) 9 digits w (by decide) (fun k x hx => by
    have hk : k < 9 := by
      rcases Nat.lt_or_ge k 9 with h | h
      · exact h
      · rw [List.getElem?_eq_none (by exact h)] at hx; cases hx
    have e : (⟨b, 0, none⟩ : Addr).add k = ⟨b, k, none⟩ := by unfold Addr.add; split <;> simp_all
    refine ⟨?_, _, rfl, ?_⟩
    · rcases k with _|_|_|_|_|_|_|_|_|k <;> first | (cases hx; decide) | omega
    · rw [e, cell_of_row _ _ _ _ _ _ h]
      rcases k with _|_|_|_|_|_|_|_|_|k <;> first | (cases hx; rfl) | omega)
  rw [k_sum] at this
  exact this
theorem sum_none (w : World) : Calls Try.prog 11 #[.slice none 0 0] w fun e w' => e = .returned (.int .u32 0) ∧ Below w.heap.size w w' := by
  have := sum_any _ _ w (by decide) (Bytes.none_ w)
  rw [k_nil] at this
  exact this
theorem times_k (w : World) : Calls Try.prog 15 #[.int .u32 2147483648, .int .u32 305419896] w fun e w' => e = .returned (.int .u32 305419896) ∧ w = w' := by
  have := times_any (BitVec.ofNat 32 2147483648) (BitVec.ofNat 32 305419896) w
  rw [k_times] at this
  exact this
theorem power_0 (w : World) : Calls Try.prog 13 #[.int .i64 0] w fun e w' => e = .returned (.int .u32 2147483648) ∧ w = w' := by
  have := power_any 0 w (by decide)
  rw [k_pow0] at this
  exact this
theorem power_1 (w : World) : Calls Try.prog 13 #[.int .i64 1] w fun e w' => e = .returned (.int .u32 8388608) ∧ w = w' := by
  have := power_any 1 w (by decide)
  rw [k_pow1] at this
  exact this

set_option maxHeartbeats 400000 in
theorem works_any (w : World) : Calls Try.prog 10 #[] w fun e w' => e = .returned (.bool true) ∧ Below w.heap.size w w' := by
  have kc := fun (w : World) (C : Array Value) (n c : Nat) => Lib.run_convert_bytes_const (P := Try.prog) w 22 5 C n c Try.underlying22 Try.underlying5
  go_enter Try.func10, Try.ntmps10
  go_wp2_with fail
  clear kc
  refine (sum_digits _ _ (heap_alloc_new w _)).mono ?_
  rintro e w1 ⟨rfl, hb⟩
  have H1 := Lib.hid hb; clear hb
  go_wp2_with fail
  refine (sum_none _).mono ?_
  rintro e w2 ⟨rfl, hb⟩
  have H2 := Lib.hid hb; clear hb
  go_wp2_with fail
  refine (times_k _).mono ?_
  rintro e w' ⟨rfl, rfl⟩
  go_wp2_with fail
  refine (power_0 _).mono ?_
  rintro e w' ⟨rfl, rfl⟩
  go_wp2_with fail
  refine (power_1 _).mono ?_
  rintro e w' ⟨rfl, rfl⟩
  go_wp2
  go_ret
  refine ⟨rfl, ?_⟩
  have h0 : Below w.heap.size w (w.alloc (.cells #[.int .u8 49, .int .u8 50, .int .u8 51, .int .u8 52, .int .u8 53, .int .u8 54, .int .u8 55, .int .u8 56, .int .u8 57] 5 (9, 10))) := (Below.refl _ _).alloc (Nat.le_refl _) _
  have h1 := h0.trans (H1.out.mono h0.size)
  exact h1.trans (H2.out.mono h1.size)

end Go.Proofs.Ytgfofmcgfmhaeaa
