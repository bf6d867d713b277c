/-
  What is proved here: the contracts of the law's functions put, bytes and read: an item is put behind all that was put; its bytes; an item that is asked for, as bytes. Conditions: what is put fits an int.
-/
import Derived.Test.YtepcfinojifecaaItems
import Derived.Test.YtepcfinojifecaaHalf
namespace Go.Proofs.Ytepcfinojifecaa
open Go.RowKit

theorem box_cells (w : World) (x y z : Value) (t : TypeId) : (w.alloc (.cells #[x, y, z] t)).heap[w.heap.size]? = some (.cells #[x, y, z] t (0, 0)) := heap_alloc_new w _

set_option maxHeartbeats 1000000 in
theorem put_0 (lo b c : Nat) (B : Option Addr) (x : It) (l : List Nat) (w : World) (hk : x.kind % 5 = 0) (hk2 : x.kind < 256) (_hn : x.n < 18446744073709551616) (h : Wr w lo b l) (hlo : lo ≤ w.heap.size) (hm : l.length + 8 ≤ 9223372036854775807) :
    Calls Try.prog 11 #[.pointer (some ⟨b, 0, none⟩), .agg #[.int .u8 (x.kind : Int), .int .u64 (x.n : Int), .slice B x.b.length c]] w fun e w' => e = .returned (.tuple #[]) ∧ Wr w' lo b (l ++ itb x) ∧ w.grownBy w' (some b) := by
  have HI := Lib.hid (itb_num x 0 hk (by decide))
  have hr : (x.kind : Int) % 5 = 0 := by omega
  have HW := Lib.hid h; clear h
  have HK := Lib.hid hk; clear hk
  have hb0 : Below w.heap.size w (w.alloc (.cells #[.int .u8 (x.kind : Int), .int .u64 (x.n : Int), .slice B x.b.length c] 33)) := (Below.refl _ _).alloc (Nat.le_refl _) _
  go_enter Try.func11, Try.ntmps11
  go_wp2_with fail
  refine (wrl8 lo b (x.n % 256) _ l _ ?_ (HW.out.below hb0) (Nat.mod_lt _ (by decide)) (by simp; omega) (by omega)).mono ?_
  · omega
  rintro e w' ⟨rfl, hw, hg⟩
  have HG := Lib.hid (only_trans (only_of_below hb0 _) hg); clear hg hb0
  have HF : Hid (Wr w' lo b (l ++ Fld.dg 1 x.n)) := by have := hw; rw [show x.n % 256 = x.n % 256 ^ 1 from rfl, Fld.dg_mod 1 1 x.n (Nat.le_refl _)] at this; exact this
  clear hw
  go_wp2
  go_end0
  exact ⟨rfl, by rw [HI.out]; exact HF.out, HG.out⟩

set_option maxHeartbeats 1000000 in
theorem put_1 (lo b c : Nat) (B : Option Addr) (x : It) (l : List Nat) (w : World) (hk : x.kind % 5 = 1) (hk2 : x.kind < 256) (_hn : x.n < 18446744073709551616) (h : Wr w lo b l) (hlo : lo ≤ w.heap.size) (hm : l.length + 8 ≤ 9223372036854775807) :
    Calls Try.prog 11 #[.pointer (some ⟨b, 0, none⟩), .agg #[.int .u8 (x.kind : Int), .int .u64 (x.n : Int), .slice B x.b.length c]] w fun e w' => e = .returned (.tuple #[]) ∧ Wr w' lo b (l ++ itb x) ∧ w.grownBy w' (some b) := by
  have HI := Lib.hid (itb_num x 1 hk (by decide))
  have hr : (x.kind : Int) % 5 = 1 := by omega
  have HW := Lib.hid h; clear h
  have HK := Lib.hid hk; clear hk
  have hb0 : Below w.heap.size w (w.alloc (.cells #[.int .u8 (x.kind : Int), .int .u64 (x.n : Int), .slice B x.b.length c] 33)) := (Below.refl _ _).alloc (Nat.le_refl _) _
  go_enter Try.func11, Try.ntmps11
  go_wp2_with fail
  refine (wrl16 lo b (x.n % 65536) _ l _ ?_ (HW.out.below hb0) (Nat.mod_lt _ (by decide)) (by simp; omega) (by omega)).mono ?_
  · rw [IntKind.wrap_u16]; omega
  rintro e w' ⟨rfl, hw, hg⟩
  have HG := Lib.hid (only_trans (only_of_below hb0 _) hg); clear hg hb0
  have HF : Hid (Wr w' lo b (l ++ Fld.dg 2 x.n)) := by have := hw; rw [show x.n % 65536 = x.n % 256 ^ 2 from rfl, Fld.dg_mod 2 2 x.n (Nat.le_refl _)] at this; exact this
  clear hw
  go_wp2
  go_end0
  exact ⟨rfl, by rw [HI.out]; exact HF.out, HG.out⟩

set_option maxHeartbeats 1000000 in
theorem put_2 (lo b c : Nat) (B : Option Addr) (x : It) (l : List Nat) (w : World) (hk : x.kind % 5 = 2) (hk2 : x.kind < 256) (_hn : x.n < 18446744073709551616) (h : Wr w lo b l) (hlo : lo ≤ w.heap.size) (hm : l.length + 8 ≤ 9223372036854775807) :
    Calls Try.prog 11 #[.pointer (some ⟨b, 0, none⟩), .agg #[.int .u8 (x.kind : Int), .int .u64 (x.n : Int), .slice B x.b.length c]] w fun e w' => e = .returned (.tuple #[]) ∧ Wr w' lo b (l ++ itb x) ∧ w.grownBy w' (some b) := by
  have HI := Lib.hid (itb_num x 2 hk (by decide))
  have hr : (x.kind : Int) % 5 = 2 := by omega
  have HW := Lib.hid h; clear h
  have HK := Lib.hid hk; clear hk
  have hb0 : Below w.heap.size w (w.alloc (.cells #[.int .u8 (x.kind : Int), .int .u64 (x.n : Int), .slice B x.b.length c] 33)) := (Below.refl _ _).alloc (Nat.le_refl _) _
  go_enter Try.func11, Try.ntmps11
  go_wp2_with fail
  refine (wrl32 lo b (x.n % 4294967296) _ l _ ?_ (HW.out.below hb0) (Nat.mod_lt _ (by decide)) (by simp; omega) (by omega)).mono ?_
  · omega
  rintro e w' ⟨rfl, hw, hg⟩
  have HG := Lib.hid (only_trans (only_of_below hb0 _) hg); clear hg hb0
  have HF : Hid (Wr w' lo b (l ++ Fld.dg 4 x.n)) := by have := hw; rw [show x.n % 4294967296 = x.n % 256 ^ 4 from rfl, Fld.dg_mod 4 4 x.n (Nat.le_refl _)] at this; exact this
  clear hw
  go_wp2
  go_end0
  exact ⟨rfl, by rw [HI.out]; exact HF.out, HG.out⟩

set_option maxHeartbeats 1000000 in
theorem put_3 (lo b c : Nat) (B : Option Addr) (x : It) (l : List Nat) (w : World) (hk : x.kind % 5 = 3) (hk2 : x.kind < 256) (hn : x.n < 18446744073709551616) (h : Wr w lo b l) (hlo : lo ≤ w.heap.size) (hm : l.length + 8 ≤ 9223372036854775807) :
    Calls Try.prog 11 #[.pointer (some ⟨b, 0, none⟩), .agg #[.int .u8 (x.kind : Int), .int .u64 (x.n : Int), .slice B x.b.length c]] w fun e w' => e = .returned (.tuple #[]) ∧ Wr w' lo b (l ++ itb x) ∧ w.grownBy w' (some b) := by
  have HI := Lib.hid (itb_num x 3 hk (by decide))
  have hr : (x.kind : Int) % 5 = 3 := by omega
  have HW := Lib.hid h; clear h
  have HK := Lib.hid hk; clear hk
  have hb0 : Below w.heap.size w (w.alloc (.cells #[.int .u8 (x.kind : Int), .int .u64 (x.n : Int), .slice B x.b.length c] 33)) := (Below.refl _ _).alloc (Nat.le_refl _) _
  go_enter Try.func11, Try.ntmps11
  go_wp2_with fail
  refine (wr64 lo b x.n l _ (HW.out.below hb0) hn (by simp; omega) (by omega)).mono ?_
  rintro e w' ⟨rfl, hw, hg⟩
  have HG := Lib.hid (only_trans (only_of_below hb0 _) hg); clear hg hb0
  have HF : Hid (Wr w' lo b (l ++ Fld.dg 8 x.n)) := by exact hw
  clear hw
  go_wp2
  go_end0
  exact ⟨rfl, by rw [HI.out]; exact HF.out, HG.out⟩

set_option maxHeartbeats 1000000 in
theorem put_4 (lo b c : Nat) (B : Option Addr) (x : It) (l : List Nat) (w : World) (hk : x.kind % 5 = 4) (hk2 : x.kind < 256) (h1 : x.b.length ≤ 140737488355328) (ha : At w B x.b) (h : Wr w lo b l) (hlo : lo ≤ w.heap.size) (hm : l.length + x.b.length ≤ 9223372036854775807) :
    Calls Try.prog 11 #[.pointer (some ⟨b, 0, none⟩), .agg #[.int .u8 (x.kind : Int), .int .u64 (x.n : Int), .slice B x.b.length c]] w fun e w' => e = .returned (.tuple #[]) ∧ Wr w' lo b (l ++ itb x) ∧ w.grownBy w' (some b) := by
  have HI := Lib.hid (itb_raw x hk)
  have hr : (x.kind : Int) % 5 = 4 := by omega
  have HW := Lib.hid h; clear h
  have HA := Lib.hid ha; clear ha
  have HK := Lib.hid hk; clear hk
  have hb0 : Below w.heap.size w (w.alloc (.cells #[.int .u8 (x.kind : Int), .int .u64 (x.n : Int), .slice B x.b.length c] 33)) := (Below.refl _ _).alloc (Nat.le_refl _) _
  go_enter Try.func11, Try.ntmps11
  go_wp2_with fail
  refine (wrRaw lo b c B l x.b _ (HW.out.below hb0) (HA.out.below hb0) (by simp; omega) h1 hm).mono ?_
  rintro e w' ⟨rfl, hw, hg⟩
  have HG := Lib.hid (only_trans (only_of_below hb0 _) hg); clear hg hb0
  have HF := Lib.hid hw; clear hw
  go_wp2
  go_end0
  exact ⟨rfl, by rw [HI.out]; exact HF.out, HG.out⟩

theorem put_any (lo b c : Nat) (B : Option Addr) (x : It) (l : List Nat) (w : World) (hk2 : x.kind < 256) (hn : x.n < 18446744073709551616) (h1 : x.b.length ≤ 140737488355328) (ha : At w B x.b) (h : Wr w lo b l) (hlo : lo ≤ w.heap.size) (hm : l.length + 8 + x.b.length ≤ 9223372036854775807) :
    Calls Try.prog 11 #[.pointer (some ⟨b, 0, none⟩), .agg #[.int .u8 (x.kind : Int), .int .u64 (x.n : Int), .slice B x.b.length c]] w fun e w' => e = .returned (.tuple #[]) ∧ Wr w' lo b (l ++ itb x) ∧ w.grownBy w' (some b) := by
  rcases kind5 x with hk | hk | hk | hk | hk
  · exact put_0 lo b c B x l w hk hk2 hn h hlo (by omega)
  · exact put_1 lo b c B x l w hk hk2 hn h hlo (by omega)
  · exact put_2 lo b c B x l w hk hk2 hn h hlo (by omega)
  · exact put_3 lo b c B x l w hk hk2 hn h hlo (by omega)
  · exact put_4 lo b c B x l w hk hk2 h1 ha h hlo (by omega)

end Go.Proofs.Ytepcfinojifecaa
