/-
  What is proved here: contracts of crc.halfTable and of its closure: the table of the 16 halves of bytes, for every world.
-/
import Derived.Test.YtgfofmcgfmhaeaaW1
namespace Go.Proofs.Ytgfofmcgfmhaeaa
open Go.RowKit

def tv (k : Nat) : Int := iv (Crc.rp 4 (BitVec.ofNat 32 k))

set_option maxHeartbeats 400000 in
theorem fill_any (k : Nat) (hk : k < 16) (b : Nat) (w : World) (v : Value) (hc : w.cell? ⟨b, k, none⟩ = some v) (hf : w.frozen? ⟨b, k, none⟩ = false) :
    Calls Try.prog 23 #[.int .i64 k, .pointer (some ⟨b, 0, none⟩)] w fun e w' => e = .returned (.tuple #[]) ∧ w' = w.setCell ⟨b, k, none⟩ (.int .u32 (tv k)) := by
  go_enter Try.func23, Try.ntmps23
  go_wp2
  go_loop [3, 6] (fun r i => ∃ j : Nat, j ≤ 4 ∧ i = .int .i64 j ∧ r = .int .u32 (iv (Crc.rp j (BitVec.ofNat 32 k)))) (fun _ i => 4 - (intOf i).toNat)
  case atStart => exact ⟨0, by omega, rfl, by rw [iv_of k (by omega)]; rfl⟩
  case round =>
    obtain ⟨j, hj, rfl, rfl⟩ := hrel
    by_cases hlt : j < 4
    · go_wp2_with (go_at_call 21; refine (raise_any _ _).mono ?_; rintro e w' ⟨rfl, rfl⟩)
      go_round
      case rel => exact ⟨j + 1, by omega, by go_num, by rw [← Crc.rp_raise]; rfl⟩
      case measure => simp [intOf]; omega
    · obtain rfl : j = 4 := by omega
      go_wp2
      go_end0
      exact ⟨rfl, rfl⟩

def tab (j : Nat) : Array Value := #[.int .u32 (if 0 < j then tv 0 else 0), .int .u32 (if 1 < j then tv 1 else 0), .int .u32 (if 2 < j then tv 2 else 0), .int .u32 (if 3 < j then tv 3 else 0), .int .u32 (if 4 < j then tv 4 else 0), .int .u32 (if 5 < j then tv 5 else 0), .int .u32 (if 6 < j then tv 6 else 0), .int .u32 (if 7 < j then tv 7 else 0), .int .u32 (if 8 < j then tv 8 else 0), .int .u32 (if 9 < j then tv 9 else 0), .int .u32 (if 10 < j then tv 10 else 0), .int .u32 (if 11 < j then tv 11 else 0), .int .u32 (if 12 < j then tv 12 else 0), .int .u32 (if 13 < j then tv 13 else 0), .int .u32 (if 14 < j then tv 14 else 0), .int .u32 (if 15 < j then tv 15 else 0)]
def full16 : Array Value := #[.int .u32 (tv 0), .int .u32 (tv 1), .int .u32 (tv 2), .int .u32 (tv 3), .int .u32 (tv 4), .int .u32 (tv 5), .int .u32 (tv 6), .int .u32 (tv 7), .int .u32 (tv 8), .int .u32 (tv 9), .int .u32 (tv 10), .int .u32 (tv 11), .int .u32 (tv 12), .int .u32 (tv 13), .int .u32 (tv 14), .int .u32 (tv 15)]
theorem tab_16 : tab 16 = full16 := rfl
theorem tab_0 : tab 0 = #[.int .u32 0, .int .u32 0, .int .u32 0, .int .u32 0, .int .u32 0, .int .u32 0, .int .u32 0, .int .u32 0, .int .u32 0, .int .u32 0, .int .u32 0, .int .u32 0, .int .u32 0, .int .u32 0, .int .u32 0, .int .u32 0] := rfl
theorem tab_get (k : Nat) (hk : k < 16) : (tab k).setIfInBounds k (.int .u32 (tv k)) = tab (k + 1) := by
  rcases k with _|_|_|_|_|_|_|_|_|_|_|_|_|_|_|_|k <;> first | rfl | omega
theorem tab_step (w : World) (k : Nat) (hk : k < 16) (b : Nat) (hb : b = w.heap.size) : (w.alloc (.cells (tab k) 38)).setCell ⟨b, k, none⟩ (.int .u32 (tv k)) = w.alloc (.cells (tab (k + 1)) 38) := by
  rw [World.setCell_alloc_at _ _ _ _ _ hb, tab_get k hk]
theorem tab_cell (w : World) (k : Nat) (hk : k < 16) (b : Nat) (hb : b = w.heap.size) : ∃ v, (w.alloc (.cells (tab k) 38)).cell? ⟨b, k, none⟩ = some v := by
  rw [World.cell?_alloc_at _ _ _ _ hb]
  have : k < (tab k).size := hk
  exact ⟨(tab k)[k], by simp⟩
theorem tab_free (w : World) (k : Nat) (b : Nat) (hb : b = w.heap.size) : (w.alloc (.cells (tab k) 38)).frozen? ⟨b, k, none⟩ = false := by
  subst hb; exact frozen_of_row _ _ _ (tab k) 38 (heap_alloc_new _ _)
theorem full16_one : full16.all (·.oneCell') = true := by kernel_rfl

def TabRel (w : World) (g : Nat) (i : Value) (wr : World) : Prop := ∃ j : Nat, j + g = 16 ∧ i = .int .i64 j ∧ wr = (w.alloc (.cells (tab 0) 38)).alloc (.cells (tab j) 38)

set_option maxHeartbeats 400000 in
theorem table_any (w : World) :
    Calls Try.prog 19 #[] w fun e w' => e = .returned (.agg full16) ∧ Below w.heap.size w w' := by
  go_enter Try.func19, Try.ntmps19
  go_wp2
  go_loopg [5] 16 (fun g i wr => TabRel w g i wr)
  case atStart => exact ⟨0, by omega, rfl, rfl⟩
  case round =>
    obtain ⟨j, hj, rfl, rfl⟩ := hrel
    by_cases hlt : j < 16
    · go_wp2_with fail
      obtain ⟨v, hv⟩ := tab_cell (w.alloc (.cells (tab 0) 38)) j hlt (w.heap.size + 1) (by simp)
      refine (fill_any j hlt (w.heap.size + 1) _ v hv (tab_free _ j _ (by simp))).mono ?_
      rintro e w' ⟨rfl, rfl⟩
      clear hv
      rw [tab_step _ j hlt _ (by simp)]
      go_wp2
      go_roundg (gk - 1)
      case measure => omega
      case rel => exact ⟨j + 1, by omega, by go_num, rfl⟩
    · obtain rfl : j = 16 := by omega
      clear hj hlt
      have hz : ((w.alloc (.cells (tab 0) 38)).alloc (.cells (tab 16) 38)).heap[w.heap.size + 1]? = some (.cells full16 38 (0, 0)) := by rw [tab_16]; exact heap_alloc2_new _ _ _
      have hy : ((w.alloc (.cells (tab 0) 38)).alloc (.cells (tab 16) 38)).heap[w.heap.size]? = some (.cells (tab 0) 38 (0, 0)) := heap_alloc2_old _ _ _
      have hb : Below w.heap.size w ((w.alloc (.cells (tab 0) 38)).alloc (.cells (tab 16) 38)) := ((Below.refl _ _).alloc (Nat.le_refl _) _).alloc (by simp) _
      generalize ((w.alloc (.cells (tab 0) 38)).alloc (.cells (tab 16) 38)) = w1 at hz hy hb ⊢
      have HZ := Lib.hid hz; clear hz
      have HY := Lib.hid hy; clear hy
      go_wp2_with (first | refine wpList_load_row rfl 38 (.tmp 1) rfl (w.heap.size + 1) rfl 38 full16 (0, 0) _ HZ.out Try.underlying38 rfl (by kernel_rfl) ?_ | refine wpList_store_row rfl 38 (.tmp 0) (.tmp 12) rfl w.heap.size full16 rfl rfl 38 (tab 0) HY.out (by kernel_rfl) rfl full16_one ?_)
      refine bodyPost_ret (v := .agg full16) (results_cell_row rfl _ _ w.heap.size 38 full16 (0, 0) _ rfl (setRow_heap _ _ _ _ _ _ HY.out) Try.underlying38 rfl (by kernel_rfl)) rfl ⟨rfl, ?_⟩
      exact ⟨hb.os, hb.tape, hb.output, by simpa using hb.size, fun k hk => (setRow_other _ _ _ _ (by omega)).trans (hb.block k hk)⟩

end Go.Proofs.Ytgfofmcgfmhaeaa
