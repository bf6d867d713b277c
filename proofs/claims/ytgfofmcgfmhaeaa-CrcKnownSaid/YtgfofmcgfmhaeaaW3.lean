/-
  What is proved here: the contract of crc.Sum: of any slice of bytes the check that the plain facts say; no block that was there has changed.
-/
import Derived.Test.YtgfofmcgfmhaeaaW2
namespace Go.Proofs.Ytgfofmcgfmhaeaa
open Go.RowKit

/- A slice of bytes reads as a list of numbers. -/
def Bytes (w : World) (v : Value) (l : List Nat) : Prop :=
  ∃ (A : Option Addr) (c : Nat), v = .slice A l.length c ∧ ∀ (k x : Nat), l[k]? = some x → x < 256 ∧ ∃ ad, A = some ad ∧ w.cell? (ad.add k) = some (.int .u8 (x : Int))
theorem add_block (a : Addr) (n : Nat) : (a.add n).block = a.block := by unfold Addr.add; split <;> rfl
theorem Bytes.kept {w w' : World} {v : Value} {l : List Nat} (h : Bytes w v l) (hk : ∀ p : Addr, p.block < w.heap.size → w'.cell? p = w.cell? p) : Bytes w' v l := by
  obtain ⟨A, c, rfl, hc⟩ := h
  refine ⟨A, c, rfl, fun k x hx => ?_⟩
  obtain ⟨h1, ad, e, h2⟩ := hc k x hx
  exact ⟨h1, ad, e, (hk _ (block_lt_of_cell h2)).trans h2⟩
theorem Bytes.below {w w' : World} {v : Value} {l : List Nat} (h : Bytes w v l) (hb : Below w.heap.size w w') : Bytes w' v l := h.kept fun _ hp => hb.cell hp
theorem Bytes.none_ (w : World) : Bytes w (.slice none 0 0) [] := ⟨none, 0, rfl, fun k x hx => by simp at hx⟩

theorem full16_at (k : Nat) (hk : k < 16) : full16[k]? = some (.int .u32 (tv k)) := by
  rcases k with _|_|_|_|_|_|_|_|_|_|_|_|_|_|_|_|k <;> first | rfl | omega
theorem and15_lt (x : BitVec 32) : (x &&& 15#32).toNat < 16 := by
  rw [BitVec.toNat_and]; exact Nat.and_lt_two_pow (n := 4) _ (by decide)
theorem and15_eq (x : BitVec 32) : bits .and .u32 (iv x) 15 = ((x &&& 15#32).toNat : Int) := by
  rw [lit_15, iv_and]; rfl
theorem half_eq (x : BitVec 32) : bits .xor .u32 (iv (x >>> (4 : Nat))) (tv (x &&& 15#32).toNat) = iv (Crc.rp 4 x) := by
  unfold tv; rw [BitVec.ofNat_toNat, BitVec.setWidth_eq, iv_xor, Crc.half]
theorem byte_eq (r : BitVec 32) (x : Nat) (h : x < 256) : bits .xor .u32 (iv r) (x : Int) = iv (r ^^^ BitVec.ofNat 32 x) := by
  rw [iv_of x (by omega), iv_xor]

theorem not_full (x : BitVec 32) : bits .xor .u32 IntKind.u32.max (iv x) = iv (x ^^^ Crc.full) := by
  have e : IntKind.u32.max = iv Crc.full := by decide
  rw [e, iv_xor, BitVec.xor_comm]
theorem fld_take (l : List Nat) (k : Nat) (h : k < l.length) : Crc.fld Crc.full (l.take (k + 1)) = Crc.stp (Crc.fld Crc.full (l.take k)) l[k] := by
  rw [List.take_succ_eq_append_getElem h, Crc.fld, List.foldl_append]; rfl

set_option maxHeartbeats 1000000 in
theorem sum_at (A : Option Addr) (c : Nat) (l : List Nat) (w : World) (hn : l.length ≤ 9223372036854775807)
    (hl : ∀ (k x : Nat), l[k]? = some x → x < 256 ∧ ∃ ad, A = some ad ∧ w.cell? (ad.add k) = some (.int .u8 (x : Int))) :
    Calls Try.prog 11 #[.slice A l.length c] w fun e w' => e = .returned (.int .u32 (iv (Crc.sumB l))) ∧ Below w.heap.size w w' := by
  have HL := Lib.hid hl; clear hl
  go_enter Try.func11, Try.ntmps11
  go_wp2_with fail
  refine (table_any _).mono ?_
  rintro e w1 ⟨rfl, hb⟩
  have hn1 := heap_alloc_new w1 (.cells #[.int .u32 0, .int .u32 0, .int .u32 0, .int .u32 0, .int .u32 0, .int .u32 0, .int .u32 0, .int .u32 0, .int .u32 0, .int .u32 0, .int .u32 0, .int .u32 0, .int .u32 0, .int .u32 0, .int .u32 0, .int .u32 0] 38)
  have HN := Lib.hid hn1; clear hn1
  have HB := Lib.hid hb; clear hb
  go_wp2_with (refine wpList_store_row rfl 38 (.tmp 3) (.tmp 7) rfl w1.heap.size full16 rfl rfl 38 _ HN.out (by kernel_rfl) rfl full16_one ?_)
  have hz : ((w1.alloc (.cells #[.int .u32 0, .int .u32 0, .int .u32 0, .int .u32 0, .int .u32 0, .int .u32 0, .int .u32 0, .int .u32 0, .int .u32 0, .int .u32 0, .int .u32 0, .int .u32 0, .int .u32 0, .int .u32 0, .int .u32 0, .int .u32 0] 38)).setRow w1.heap.size full16).heap[w1.heap.size]? = some (.cells full16 38 (0, 0)) := setRow_heap _ _ _ _ _ _ HN.out
  have hb : Below w.heap.size w ((w1.alloc (.cells #[.int .u32 0, .int .u32 0, .int .u32 0, .int .u32 0, .int .u32 0, .int .u32 0, .int .u32 0, .int .u32 0, .int .u32 0, .int .u32 0, .int .u32 0, .int .u32 0, .int .u32 0, .int .u32 0, .int .u32 0, .int .u32 0] 38)).setRow w1.heap.size full16) := by
    have h1 := HB.out.alloc (HB.out.size) (.cells #[.int .u32 0, .int .u32 0, .int .u32 0, .int .u32 0, .int .u32 0, .int .u32 0, .int .u32 0, .int .u32 0, .int .u32 0, .int .u32 0, .int .u32 0, .int .u32 0, .int .u32 0, .int .u32 0, .int .u32 0, .int .u32 0] 38)
    have h2 := HB.out.size
    exact ⟨h1.os, h1.tape, h1.output, by simpa using h1.size, fun k hk => (setRow_other _ _ _ _ (by omega)).trans (h1.block k hk)⟩
  generalize hT : w1.heap.size = T at hz hb ⊢
  generalize ((w1.alloc (.cells #[.int .u32 0, .int .u32 0, .int .u32 0, .int .u32 0, .int .u32 0, .int .u32 0, .int .u32 0, .int .u32 0, .int .u32 0, .int .u32 0, .int .u32 0, .int .u32 0, .int .u32 0, .int .u32 0, .int .u32 0, .int .u32 0] 38)).setRow T full16) = w2 at hz hb ⊢
  clear HN HB hT w1
  have HZ := Lib.hid hz; clear hz
  have HB := Lib.hid hb; clear hb
  go_loop [4, 10] (fun r i => ∃ k : Nat, k ≤ l.length ∧ i = .int .i64 k ∧ r = .int .u32 (iv (Crc.fld Crc.full (l.take k)))) (fun _ i => l.length - (intOf i).toNat)
  case atStart => exact ⟨0, by omega, rfl, rfl⟩
  case round =>
    obtain ⟨k, hk, rfl, rfl⟩ := hrel
    by_cases hlt : k < l.length
    · obtain ⟨hx, ad, hA, hcell⟩ := HL.out k l[k] (List.getElem?_eq_getElem hlt)
      subst hA
      have hcell := (HB.out.cell (block_lt_of_cell hcell)).trans hcell
      have HS := Lib.hid (fld_take l k hlt)
      generalize Crc.fld Crc.full (l.take k) = r at HS ⊢
      generalize l[k] = x at HS hx hcell ⊢
      have e1 := byte_eq r x hx
      have h8 := Crc.rp_add 4 4 (r ^^^ BitVec.ofNat 32 x)
      have HS' := Lib.hid (HS.out.trans h8); clear HS h8
      generalize r ^^^ BitVec.ofNat 32 x = r1 at e1 HS' ⊢
      have e2 := and15_eq r1
      have e3 := iv_shr4 r1
      have e4 := half_eq r1
      have t1 := cell_of_row w2 T (r1 &&& 15#32).toNat full16 38 (0, 0) HZ.out
      rw [full16_at _ (and15_lt r1)] at t1
      have b1 := and15_lt r1
      generalize (r1 &&& 15#32).toNat = n1 at e2 e4 t1 b1 ⊢
      generalize Crc.rp 4 r1 = r2 at e4 HS' ⊢
      have e5 := and15_eq r2
      have e6 := iv_shr4 r2
      have e7 := half_eq r2
      have t2 := cell_of_row w2 T (r2 &&& 15#32).toNat full16 38 (0, 0) HZ.out
      rw [full16_at _ (and15_lt r2)] at t2
      have b2 := and15_lt r2
      generalize (r2 &&& 15#32).toNat = n2 at e5 e7 t2 b2 ⊢
      go_wp2
      go_round
      case rel => exact ⟨k + 1, by omega, by go_num, by rw [HS'.out]⟩
      case measure => simp [intOf]; omega
    · obtain rfl : k = l.length := by omega
      go_wp2
      go_ret
      refine ⟨ret_int ?_, HB.out⟩
      exact not_full _

theorem sum_any (v : Value) (l : List Nat) (w : World) (hn : l.length ≤ 9223372036854775807) (h : Bytes w v l) :
    Calls Try.prog 11 #[v] w fun e w' => e = .returned (.int .u32 (iv (Crc.sumB l))) ∧ Below w.heap.size w w' := by
  obtain ⟨A, c, rfl, hl⟩ := h
  exact sum_at A c l w hn hl

end Go.Proofs.Ytgfofmcgfmhaeaa
