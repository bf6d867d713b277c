/-
  What is proved here: the contracts of the law's functions bytes and read: an item's bytes; an item that is asked for, as bytes. Conditions: an item's bytes take at most 2^47.
-/
import Derived.Test.YtepcfinojifecaaPut
namespace Go.Proofs.Ytepcfinojifecaa
open Go.RowKit

theorem dg_row {w : World} {g k n : Nat} (h : Row w g (Fld.dg k n)) : Bytes w (.slice (some ⟨g, 0, none⟩) k k) (Fld.dg k n) :=
  ⟨_, k, by rw [Fld.dg_length], h.at_ (Fld.dg_lt _ _)⟩

set_option maxHeartbeats 1000000 in
theorem bytes_0 (c : Nat) (B : Option Addr) (x : It) (w : World) (hk : x.kind % 5 = 0) (hk2 : x.kind < 256) (hn : x.n < 18446744073709551616) :
    Calls Try.prog 13 #[.agg #[.int .u8 (x.kind : Int), .int .u64 (x.n : Int), .slice B x.b.length c]] w fun e w' => ∃ v, e = .returned v ∧ Bytes w' v (itb x) ∧ Below w.heap.size w w' := by
  have HI := Lib.hid (itb_num x 0 hk (by decide))
  have hr : (x.kind : Int) % 5 = 0 := by omega
  have HK := Lib.hid hk; clear hk
  have hb0 : Below w.heap.size w (w.alloc (.cells #[.int .u8 (x.kind : Int), .int .u64 (x.n : Int), .slice B x.b.length c] 33)) := (Below.refl _ _).alloc (Nat.le_refl _) _
  have HB0 := Lib.hid hb0; clear hb0
  go_enter Try.func13, Try.ntmps13
  go_wp2_with fail
  refine (digits_lit x.n 1 _ _ rfl hn (by decide)).mono ?_
  rintro e w1 ⟨rfl, hr1, hb1⟩
  have hsz : (w.alloc (.cells #[.int .u8 (x.kind : Int), .int .u64 (x.n : Int), .slice B x.b.length c] 33)).heap.size = w.heap.size + 1 := by simp
  rw [hsz] at hr1
  clear hsz
  have HR := Lib.hid (dg_row hr1); clear hr1
  have HB := Lib.hid (below_trans HB0.out hb1); clear hb1 HB0
  go_wp2
  go_ret
  exact ⟨_, rfl, by rw [HI.out]; exact HR.out, HB.out⟩

set_option maxHeartbeats 1000000 in
theorem bytes_1 (c : Nat) (B : Option Addr) (x : It) (w : World) (hk : x.kind % 5 = 1) (hk2 : x.kind < 256) (hn : x.n < 18446744073709551616) :
    Calls Try.prog 13 #[.agg #[.int .u8 (x.kind : Int), .int .u64 (x.n : Int), .slice B x.b.length c]] w fun e w' => ∃ v, e = .returned v ∧ Bytes w' v (itb x) ∧ Below w.heap.size w w' := by
  have HI := Lib.hid (itb_num x 1 hk (by decide))
  have hr : (x.kind : Int) % 5 = 1 := by omega
  have HK := Lib.hid hk; clear hk
  have hb0 : Below w.heap.size w (w.alloc (.cells #[.int .u8 (x.kind : Int), .int .u64 (x.n : Int), .slice B x.b.length c] 33)) := (Below.refl _ _).alloc (Nat.le_refl _) _
  have HB0 := Lib.hid hb0; clear hb0
  go_enter Try.func13, Try.ntmps13
  go_wp2_with fail
  refine (digits_lit x.n 2 _ _ rfl hn (by decide)).mono ?_
  rintro e w1 ⟨rfl, hr1, hb1⟩
  have hsz : (w.alloc (.cells #[.int .u8 (x.kind : Int), .int .u64 (x.n : Int), .slice B x.b.length c] 33)).heap.size = w.heap.size + 1 := by simp
  rw [hsz] at hr1
  clear hsz
  have HR := Lib.hid (dg_row hr1); clear hr1
  have HB := Lib.hid (below_trans HB0.out hb1); clear hb1 HB0
  go_wp2
  go_ret
  exact ⟨_, rfl, by rw [HI.out]; exact HR.out, HB.out⟩

set_option maxHeartbeats 1000000 in
theorem bytes_2 (c : Nat) (B : Option Addr) (x : It) (w : World) (hk : x.kind % 5 = 2) (hk2 : x.kind < 256) (hn : x.n < 18446744073709551616) :
    Calls Try.prog 13 #[.agg #[.int .u8 (x.kind : Int), .int .u64 (x.n : Int), .slice B x.b.length c]] w fun e w' => ∃ v, e = .returned v ∧ Bytes w' v (itb x) ∧ Below w.heap.size w w' := by
  have HI := Lib.hid (itb_num x 2 hk (by decide))
  have hr : (x.kind : Int) % 5 = 2 := by omega
  have HK := Lib.hid hk; clear hk
  have hb0 : Below w.heap.size w (w.alloc (.cells #[.int .u8 (x.kind : Int), .int .u64 (x.n : Int), .slice B x.b.length c] 33)) := (Below.refl _ _).alloc (Nat.le_refl _) _
  have HB0 := Lib.hid hb0; clear hb0
  go_enter Try.func13, Try.ntmps13
  go_wp2_with fail
  refine (digits_lit x.n 4 _ _ rfl hn (by decide)).mono ?_
  rintro e w1 ⟨rfl, hr1, hb1⟩
  have hsz : (w.alloc (.cells #[.int .u8 (x.kind : Int), .int .u64 (x.n : Int), .slice B x.b.length c] 33)).heap.size = w.heap.size + 1 := by simp
  rw [hsz] at hr1
  clear hsz
  have HR := Lib.hid (dg_row hr1); clear hr1
  have HB := Lib.hid (below_trans HB0.out hb1); clear hb1 HB0
  go_wp2
  go_ret
  exact ⟨_, rfl, by rw [HI.out]; exact HR.out, HB.out⟩

set_option maxHeartbeats 1000000 in
theorem bytes_3 (c : Nat) (B : Option Addr) (x : It) (w : World) (hk : x.kind % 5 = 3) (hk2 : x.kind < 256) (hn : x.n < 18446744073709551616) :
    Calls Try.prog 13 #[.agg #[.int .u8 (x.kind : Int), .int .u64 (x.n : Int), .slice B x.b.length c]] w fun e w' => ∃ v, e = .returned v ∧ Bytes w' v (itb x) ∧ Below w.heap.size w w' := by
  have HI := Lib.hid (itb_num x 3 hk (by decide))
  have hr : (x.kind : Int) % 5 = 3 := by omega
  have HK := Lib.hid hk; clear hk
  have hb0 : Below w.heap.size w (w.alloc (.cells #[.int .u8 (x.kind : Int), .int .u64 (x.n : Int), .slice B x.b.length c] 33)) := (Below.refl _ _).alloc (Nat.le_refl _) _
  have HB0 := Lib.hid hb0; clear hb0
  go_enter Try.func13, Try.ntmps13
  go_wp2_with fail
  refine (digits_lit x.n 8 _ _ rfl hn (by decide)).mono ?_
  rintro e w1 ⟨rfl, hr1, hb1⟩
  have hsz : (w.alloc (.cells #[.int .u8 (x.kind : Int), .int .u64 (x.n : Int), .slice B x.b.length c] 33)).heap.size = w.heap.size + 1 := by simp
  rw [hsz] at hr1
  clear hsz
  have HR := Lib.hid (dg_row hr1); clear hr1
  have HB := Lib.hid (below_trans HB0.out hb1); clear hb1 HB0
  go_wp2
  go_ret
  exact ⟨_, rfl, by rw [HI.out]; exact HR.out, HB.out⟩

set_option maxHeartbeats 1000000 in
theorem bytes_4 (c : Nat) (B : Option Addr) (x : It) (w : World) (hk : x.kind % 5 = 4) (hk2 : x.kind < 256) (ha : At w B x.b) :
    Calls Try.prog 13 #[.agg #[.int .u8 (x.kind : Int), .int .u64 (x.n : Int), .slice B x.b.length c]] w fun e w' => ∃ v, e = .returned v ∧ Bytes w' v (itb x) ∧ Below w.heap.size w w' := by
  have HI := Lib.hid (itb_raw x hk)
  have hr : (x.kind : Int) % 5 = 4 := by omega
  have HA := Lib.hid ha; clear ha
  have HK := Lib.hid hk; clear hk
  have hb0 : Below w.heap.size w (w.alloc (.cells #[.int .u8 (x.kind : Int), .int .u64 (x.n : Int), .slice B x.b.length c] 33)) := (Below.refl _ _).alloc (Nat.le_refl _) _
  have HB0 := Lib.hid hb0; clear hb0
  go_enter Try.func13, Try.ntmps13
  go_wp2
  go_ret
  exact ⟨_, rfl, by rw [HI.out]; exact ⟨_, _, rfl, HA.out.below HB0.out⟩, HB0.out⟩
theorem bytes_any (c : Nat) (B : Option Addr) (x : It) (w : World) (hk2 : x.kind < 256) (hn : x.n < 18446744073709551616) (ha : At w B x.b) :
    Calls Try.prog 13 #[.agg #[.int .u8 (x.kind : Int), .int .u64 (x.n : Int), .slice B x.b.length c]] w fun e w' => ∃ v, e = .returned v ∧ Bytes w' v (itb x) ∧ Below w.heap.size w w' := by
  rcases kind5 x with hk | hk | hk | hk | hk
  · exact bytes_0 c B x w hk hk2 hn
  · exact bytes_1 c B x w hk hk2 hn
  · exact bytes_2 c B x w hk hk2 hn
  · exact bytes_3 c B x w hk hk2 hn
  · exact bytes_4 c B x w hk hk2 ha

theorem dg_back (l : List Nat) (k : Nat) (hs : ∀ y ∈ l, y < 256) (hk : k ≤ l.length) : Fld.dg k (Fld.num (l.take k)) = l.take k := by
  have := Fld.dg_num (l.take k) (fun y hy => hs y (List.mem_of_mem_take hy))
  rw [List.length_take, Nat.min_eq_left hk] at this; exact this

set_option maxHeartbeats 1000000 in
theorem readit_0 (lo b c : Nat) (B : Option Addr) (x : It) (l : List Nat) (bad : Bool) (w : World) (hk : x.kind % 5 = 0) (hk2 : x.kind < 256) (h : Rd w lo b l bad) (hn : 1 ≤ l.length) :
    Calls Try.prog 24 #[.pointer (some ⟨b, 0, none⟩), .agg #[.int .u8 (x.kind : Int), .int .u64 (x.n : Int), .slice B x.b.length c]] w fun e w' => ∃ v, e = .returned v ∧ Bytes w' v (l.take 1) ∧ Rd w' lo b (l.drop 1) bad ∧ w.grownBy w' (some b) := by
  have hr : (x.kind : Int) % 5 = 0 := by omega
  have hs := h.small
  have HD := Lib.hid (dg_back l 1 hs hn)
  have hf := Fld.num_lt (l.take 1) (fun y hy => hs y (List.mem_of_mem_take hy))
  rw [List.length_take, Nat.min_eq_left hn] at hf
  have hf2 : Fld.num (l.take 1) < 256 := hf
  clear hf hs
  have H := Lib.hid h; clear h
  have HK := Lib.hid hk; clear hk
  have hb0 : Below w.heap.size w (w.alloc (.cells #[.int .u8 (x.kind : Int), .int .u64 (x.n : Int), .slice B x.b.length c] 33)) := (Below.refl _ _).alloc (Nat.le_refl _) _
  have HB0 := Lib.hid hb0; clear hb0
  go_enter Try.func24, Try.ntmps24
  go_wp2_with fail
  refine (rd8 lo b l bad _ (H.out.below HB0.out) hn).mono ?_
  rintro e w1 ⟨rfl, hr1, hg1⟩
  have HR := Lib.hid hr1; clear hr1
  have HG := Lib.hid (only_trans (only_of_below HB0.out _) hg1); clear hg1
  obtain ⟨m, hm⟩ : ∃ m, m = Fld.num (l.take 1) := ⟨_, rfl⟩
  rw [← hm] at HD hf2
  rw [← hm]
  clear hm
  go_wp2_with fail
  refine (digits_lit m 1 _ _ rfl (by omega) (by decide)).mono ?_
  rintro e w2 ⟨rfl, hr2, hb2⟩
  rw [HD.out] at hr2
  have hxl : (l.take 1).length = 1 := by rw [List.length_take, Nat.min_eq_left hn]
  have HX := Lib.hid hxl; clear hxl
  have HR2 := Lib.hid hr2; clear hr2
  have HB2 := Lib.hid hb2; clear hb2
  go_wp2
  go_ret
  exact ⟨_, rfl, ⟨_, 1, by rw [HX.out]; rfl, HR2.out.at_ (fun y hy => H.out.small y (List.mem_of_mem_take hy))⟩, HR.out.below HB2.out, only_trans HG.out (only_of_below HB2.out _)⟩
set_option maxHeartbeats 1000000 in
theorem readit_0_bad (lo b c : Nat) (B : Option Addr) (x : It) (l : List Nat) (bad : Bool) (w : World) (hk : x.kind % 5 = 0) (hk2 : x.kind < 256) (h : Rd w lo b l bad) (hn : l.length < 1) :
    Calls Try.prog 24 #[.pointer (some ⟨b, 0, none⟩), .agg #[.int .u8 (x.kind : Int), .int .u64 (x.n : Int), .slice B x.b.length c]] w fun e w' => ∃ v, e = .returned v ∧ Bytes w' v (Fld.dg 1 0) ∧ Rd w' lo b [] true ∧ w.grownBy w' (some b) := by
  have hr : (x.kind : Int) % 5 = 0 := by omega
  have H := Lib.hid h; clear h
  have HK := Lib.hid hk; clear hk
  have hb0 : Below w.heap.size w (w.alloc (.cells #[.int .u8 (x.kind : Int), .int .u64 (x.n : Int), .slice B x.b.length c] 33)) := (Below.refl _ _).alloc (Nat.le_refl _) _
  have HB0 := Lib.hid hb0; clear hb0
  go_enter Try.func24, Try.ntmps24
  go_wp2_with fail
  refine (rd8_bad lo b l bad _ (H.out.below HB0.out) hn).mono ?_
  rintro e w1 ⟨rfl, hr1, hg1⟩
  have HR := Lib.hid hr1; clear hr1
  have HG := Lib.hid (only_trans (only_of_below HB0.out _) hg1); clear hg1
  go_wp2_with fail
  refine (digits_lit 0 1 _ _ rfl (by decide) (by decide)).mono ?_
  rintro e w2 ⟨rfl, hr2, hb2⟩
  have HR2 := Lib.hid (dg_row hr2); clear hr2
  have HB2 := Lib.hid hb2; clear hb2
  go_wp2
  go_ret
  exact ⟨_, rfl, HR2.out, HR.out.below HB2.out, only_trans HG.out (only_of_below HB2.out _)⟩

set_option maxHeartbeats 1000000 in
theorem readit_1 (lo b c : Nat) (B : Option Addr) (x : It) (l : List Nat) (bad : Bool) (w : World) (hk : x.kind % 5 = 1) (hk2 : x.kind < 256) (h : Rd w lo b l bad) (hn : 2 ≤ l.length) :
    Calls Try.prog 24 #[.pointer (some ⟨b, 0, none⟩), .agg #[.int .u8 (x.kind : Int), .int .u64 (x.n : Int), .slice B x.b.length c]] w fun e w' => ∃ v, e = .returned v ∧ Bytes w' v (l.take 2) ∧ Rd w' lo b (l.drop 2) bad ∧ w.grownBy w' (some b) := by
  have hr : (x.kind : Int) % 5 = 1 := by omega
  have hs := h.small
  have HD := Lib.hid (dg_back l 2 hs hn)
  have hf := Fld.num_lt (l.take 2) (fun y hy => hs y (List.mem_of_mem_take hy))
  rw [List.length_take, Nat.min_eq_left hn] at hf
  have hf2 : Fld.num (l.take 2) < 65536 := hf
  clear hf hs
  have H := Lib.hid h; clear h
  have HK := Lib.hid hk; clear hk
  have hb0 : Below w.heap.size w (w.alloc (.cells #[.int .u8 (x.kind : Int), .int .u64 (x.n : Int), .slice B x.b.length c] 33)) := (Below.refl _ _).alloc (Nat.le_refl _) _
  have HB0 := Lib.hid hb0; clear hb0
  go_enter Try.func24, Try.ntmps24
  go_wp2_with fail
  refine (rd16 lo b l bad _ (H.out.below HB0.out) hn).mono ?_
  rintro e w1 ⟨rfl, hr1, hg1⟩
  have HR := Lib.hid hr1; clear hr1
  have HG := Lib.hid (only_trans (only_of_below HB0.out _) hg1); clear hg1
  obtain ⟨m, hm⟩ : ∃ m, m = Fld.num (l.take 2) := ⟨_, rfl⟩
  rw [← hm] at HD hf2
  rw [← hm]
  clear hm
  go_wp2_with fail
  refine (digits_lit m 2 _ _ rfl (by omega) (by decide)).mono ?_
  rintro e w2 ⟨rfl, hr2, hb2⟩
  rw [HD.out] at hr2
  have hxl : (l.take 2).length = 2 := by rw [List.length_take, Nat.min_eq_left hn]
  have HX := Lib.hid hxl; clear hxl
  have HR2 := Lib.hid hr2; clear hr2
  have HB2 := Lib.hid hb2; clear hb2
  go_wp2
  go_ret
  exact ⟨_, rfl, ⟨_, 2, by rw [HX.out]; rfl, HR2.out.at_ (fun y hy => H.out.small y (List.mem_of_mem_take hy))⟩, HR.out.below HB2.out, only_trans HG.out (only_of_below HB2.out _)⟩
set_option maxHeartbeats 1000000 in
theorem readit_1_bad (lo b c : Nat) (B : Option Addr) (x : It) (l : List Nat) (bad : Bool) (w : World) (hk : x.kind % 5 = 1) (hk2 : x.kind < 256) (h : Rd w lo b l bad) (hn : l.length < 2) :
    Calls Try.prog 24 #[.pointer (some ⟨b, 0, none⟩), .agg #[.int .u8 (x.kind : Int), .int .u64 (x.n : Int), .slice B x.b.length c]] w fun e w' => ∃ v, e = .returned v ∧ Bytes w' v (Fld.dg 2 0) ∧ Rd w' lo b [] true ∧ w.grownBy w' (some b) := by
  have hr : (x.kind : Int) % 5 = 1 := by omega
  have H := Lib.hid h; clear h
  have HK := Lib.hid hk; clear hk
  have hb0 : Below w.heap.size w (w.alloc (.cells #[.int .u8 (x.kind : Int), .int .u64 (x.n : Int), .slice B x.b.length c] 33)) := (Below.refl _ _).alloc (Nat.le_refl _) _
  have HB0 := Lib.hid hb0; clear hb0
  go_enter Try.func24, Try.ntmps24
  go_wp2_with fail
  refine (rd16_bad lo b l bad _ (H.out.below HB0.out) hn).mono ?_
  rintro e w1 ⟨rfl, hr1, hg1⟩
  have HR := Lib.hid hr1; clear hr1
  have HG := Lib.hid (only_trans (only_of_below HB0.out _) hg1); clear hg1
  go_wp2_with fail
  refine (digits_lit 0 2 _ _ rfl (by decide) (by decide)).mono ?_
  rintro e w2 ⟨rfl, hr2, hb2⟩
  have HR2 := Lib.hid (dg_row hr2); clear hr2
  have HB2 := Lib.hid hb2; clear hb2
  go_wp2
  go_ret
  exact ⟨_, rfl, HR2.out, HR.out.below HB2.out, only_trans HG.out (only_of_below HB2.out _)⟩

set_option maxHeartbeats 1000000 in
theorem readit_2 (lo b c : Nat) (B : Option Addr) (x : It) (l : List Nat) (bad : Bool) (w : World) (hk : x.kind % 5 = 2) (hk2 : x.kind < 256) (h : Rd w lo b l bad) (hn : 4 ≤ l.length) :
    Calls Try.prog 24 #[.pointer (some ⟨b, 0, none⟩), .agg #[.int .u8 (x.kind : Int), .int .u64 (x.n : Int), .slice B x.b.length c]] w fun e w' => ∃ v, e = .returned v ∧ Bytes w' v (l.take 4) ∧ Rd w' lo b (l.drop 4) bad ∧ w.grownBy w' (some b) := by
  have hr : (x.kind : Int) % 5 = 2 := by omega
  have hs := h.small
  have HD := Lib.hid (dg_back l 4 hs hn)
  have hf := Fld.num_lt (l.take 4) (fun y hy => hs y (List.mem_of_mem_take hy))
  rw [List.length_take, Nat.min_eq_left hn] at hf
  have hf2 : Fld.num (l.take 4) < 4294967296 := hf
  clear hf hs
  have H := Lib.hid h; clear h
  have HK := Lib.hid hk; clear hk
  have hb0 : Below w.heap.size w (w.alloc (.cells #[.int .u8 (x.kind : Int), .int .u64 (x.n : Int), .slice B x.b.length c] 33)) := (Below.refl _ _).alloc (Nat.le_refl _) _
  have HB0 := Lib.hid hb0; clear hb0
  go_enter Try.func24, Try.ntmps24
  go_wp2_with fail
  refine (rd32 lo b l bad _ (H.out.below HB0.out) hn).mono ?_
  rintro e w1 ⟨rfl, hr1, hg1⟩
  have HR := Lib.hid hr1; clear hr1
  have HG := Lib.hid (only_trans (only_of_below HB0.out _) hg1); clear hg1
  obtain ⟨m, hm⟩ : ∃ m, m = Fld.num (l.take 4) := ⟨_, rfl⟩
  rw [← hm] at HD hf2
  rw [← hm]
  clear hm
  go_wp2_with fail
  refine (digits_lit m 4 _ _ rfl (by omega) (by decide)).mono ?_
  rintro e w2 ⟨rfl, hr2, hb2⟩
  rw [HD.out] at hr2
  have hxl : (l.take 4).length = 4 := by rw [List.length_take, Nat.min_eq_left hn]
  have HX := Lib.hid hxl; clear hxl
  have HR2 := Lib.hid hr2; clear hr2
  have HB2 := Lib.hid hb2; clear hb2
  go_wp2
  go_ret
  exact ⟨_, rfl, ⟨_, 4, by rw [HX.out]; rfl, HR2.out.at_ (fun y hy => H.out.small y (List.mem_of_mem_take hy))⟩, HR.out.below HB2.out, only_trans HG.out (only_of_below HB2.out _)⟩
set_option maxHeartbeats 1000000 in
theorem readit_2_bad (lo b c : Nat) (B : Option Addr) (x : It) (l : List Nat) (bad : Bool) (w : World) (hk : x.kind % 5 = 2) (hk2 : x.kind < 256) (h : Rd w lo b l bad) (hn : l.length < 4) :
    Calls Try.prog 24 #[.pointer (some ⟨b, 0, none⟩), .agg #[.int .u8 (x.kind : Int), .int .u64 (x.n : Int), .slice B x.b.length c]] w fun e w' => ∃ v, e = .returned v ∧ Bytes w' v (Fld.dg 4 0) ∧ Rd w' lo b [] true ∧ w.grownBy w' (some b) := by
  have hr : (x.kind : Int) % 5 = 2 := by omega
  have H := Lib.hid h; clear h
  have HK := Lib.hid hk; clear hk
  have hb0 : Below w.heap.size w (w.alloc (.cells #[.int .u8 (x.kind : Int), .int .u64 (x.n : Int), .slice B x.b.length c] 33)) := (Below.refl _ _).alloc (Nat.le_refl _) _
  have HB0 := Lib.hid hb0; clear hb0
  go_enter Try.func24, Try.ntmps24
  go_wp2_with fail
  refine (rd32_bad lo b l bad _ (H.out.below HB0.out) hn).mono ?_
  rintro e w1 ⟨rfl, hr1, hg1⟩
  have HR := Lib.hid hr1; clear hr1
  have HG := Lib.hid (only_trans (only_of_below HB0.out _) hg1); clear hg1
  go_wp2_with fail
  refine (digits_lit 0 4 _ _ rfl (by decide) (by decide)).mono ?_
  rintro e w2 ⟨rfl, hr2, hb2⟩
  have HR2 := Lib.hid (dg_row hr2); clear hr2
  have HB2 := Lib.hid hb2; clear hb2
  go_wp2
  go_ret
  exact ⟨_, rfl, HR2.out, HR.out.below HB2.out, only_trans HG.out (only_of_below HB2.out _)⟩

set_option maxHeartbeats 1000000 in
theorem readit_3 (lo b c : Nat) (B : Option Addr) (x : It) (l : List Nat) (bad : Bool) (w : World) (hk : x.kind % 5 = 3) (hk2 : x.kind < 256) (h : Rd w lo b l bad) (hn : 8 ≤ l.length) :
    Calls Try.prog 24 #[.pointer (some ⟨b, 0, none⟩), .agg #[.int .u8 (x.kind : Int), .int .u64 (x.n : Int), .slice B x.b.length c]] w fun e w' => ∃ v, e = .returned v ∧ Bytes w' v (l.take 8) ∧ Rd w' lo b (l.drop 8) bad ∧ w.grownBy w' (some b) := by
  have hr : (x.kind : Int) % 5 = 3 := by omega
  have hs := h.small
  have HD := Lib.hid (dg_back l 8 hs hn)
  have hf := Fld.num_lt (l.take 8) (fun y hy => hs y (List.mem_of_mem_take hy))
  rw [List.length_take, Nat.min_eq_left hn] at hf
  have hf2 : Fld.num (l.take 8) < 18446744073709551616 := hf
  clear hf hs
  have H := Lib.hid h; clear h
  have HK := Lib.hid hk; clear hk
  have hb0 : Below w.heap.size w (w.alloc (.cells #[.int .u8 (x.kind : Int), .int .u64 (x.n : Int), .slice B x.b.length c] 33)) := (Below.refl _ _).alloc (Nat.le_refl _) _
  have HB0 := Lib.hid hb0; clear hb0
  go_enter Try.func24, Try.ntmps24
  go_wp2_with fail
  refine (rd64 lo b l bad _ (H.out.below HB0.out) hn).mono ?_
  rintro e w1 ⟨rfl, hr1, hg1⟩
  have HR := Lib.hid hr1; clear hr1
  have HG := Lib.hid (only_trans (only_of_below HB0.out _) hg1); clear hg1
  obtain ⟨m, hm⟩ : ∃ m, m = Fld.num (l.take 8) := ⟨_, rfl⟩
  rw [← hm] at HD hf2
  rw [← hm]
  clear hm
  go_wp2_with fail
  refine (digits_lit m 8 _ _ rfl (by omega) (by decide)).mono ?_
  rintro e w2 ⟨rfl, hr2, hb2⟩
  rw [HD.out] at hr2
  have hxl : (l.take 8).length = 8 := by rw [List.length_take, Nat.min_eq_left hn]
  have HX := Lib.hid hxl; clear hxl
  have HR2 := Lib.hid hr2; clear hr2
  have HB2 := Lib.hid hb2; clear hb2
  go_wp2
  go_ret
  exact ⟨_, rfl, ⟨_, 8, by rw [HX.out]; rfl, HR2.out.at_ (fun y hy => H.out.small y (List.mem_of_mem_take hy))⟩, HR.out.below HB2.out, only_trans HG.out (only_of_below HB2.out _)⟩
set_option maxHeartbeats 1000000 in
theorem readit_3_bad (lo b c : Nat) (B : Option Addr) (x : It) (l : List Nat) (bad : Bool) (w : World) (hk : x.kind % 5 = 3) (hk2 : x.kind < 256) (h : Rd w lo b l bad) (hn : l.length < 8) :
    Calls Try.prog 24 #[.pointer (some ⟨b, 0, none⟩), .agg #[.int .u8 (x.kind : Int), .int .u64 (x.n : Int), .slice B x.b.length c]] w fun e w' => ∃ v, e = .returned v ∧ Bytes w' v (Fld.dg 8 0) ∧ Rd w' lo b [] true ∧ w.grownBy w' (some b) := by
  have hr : (x.kind : Int) % 5 = 3 := by omega
  have H := Lib.hid h; clear h
  have HK := Lib.hid hk; clear hk
  have hb0 : Below w.heap.size w (w.alloc (.cells #[.int .u8 (x.kind : Int), .int .u64 (x.n : Int), .slice B x.b.length c] 33)) := (Below.refl _ _).alloc (Nat.le_refl _) _
  have HB0 := Lib.hid hb0; clear hb0
  go_enter Try.func24, Try.ntmps24
  go_wp2_with fail
  refine (rd64_bad lo b l bad _ (H.out.below HB0.out) hn).mono ?_
  rintro e w1 ⟨rfl, hr1, hg1⟩
  have HR := Lib.hid hr1; clear hr1
  have HG := Lib.hid (only_trans (only_of_below HB0.out _) hg1); clear hg1
  go_wp2_with fail
  refine (digits_lit 0 8 _ _ rfl (by decide) (by decide)).mono ?_
  rintro e w2 ⟨rfl, hr2, hb2⟩
  have HR2 := Lib.hid (dg_row hr2); clear hr2
  have HB2 := Lib.hid hb2; clear hb2
  go_wp2
  go_ret
  exact ⟨_, rfl, HR2.out, HR.out.below HB2.out, only_trans HG.out (only_of_below HB2.out _)⟩

set_option maxHeartbeats 1000000 in
theorem readit_4 (lo b c : Nat) (B : Option Addr) (x : It) (l : List Nat) (bad : Bool) (w : World) (hk : x.kind % 5 = 4) (hk2 : x.kind < 256) (h1 : x.b.length ≤ 140737488355328) (h : Rd w lo b l bad) (hn : x.b.length ≤ l.length) :
    Calls Try.prog 24 #[.pointer (some ⟨b, 0, none⟩), .agg #[.int .u8 (x.kind : Int), .int .u64 (x.n : Int), .slice B x.b.length c]] w fun e w' => ∃ v, e = .returned v ∧ Bytes w' v (l.take x.b.length) ∧ Rd w' lo b (l.drop x.b.length) bad ∧ w.grownBy w' (some b) := by
  have hr : (x.kind : Int) % 5 = 4 := by omega
  have H := Lib.hid h; clear h
  have HK := Lib.hid hk; clear hk
  have hb0 : Below w.heap.size w (w.alloc (.cells #[.int .u8 (x.kind : Int), .int .u64 (x.n : Int), .slice B x.b.length c] 33)) := (Below.refl _ _).alloc (Nat.le_refl _) _
  have HB0 := Lib.hid hb0; clear hb0
  go_enter Try.func24, Try.ntmps24
  go_wp2_with fail
  refine (rdRaw lo b x.b.length _ l bad _ rfl (H.out.below HB0.out) hn h1).mono ?_
  rintro e w1 ⟨g, rfl, _, hrow, hr1, hg1⟩
  have HR := Lib.hid hr1; clear hr1
  have HG := Lib.hid (only_trans (only_of_below HB0.out _) hg1); clear hg1
  have HW := Lib.hid hrow; clear hrow
  go_wp2
  go_ret
  exact ⟨_, rfl, ⟨_, x.b.length, by rw [List.length_take, Nat.min_eq_left hn]; rfl, HW.out.at_ (fun y hy => H.out.small y (List.mem_of_mem_take hy))⟩, HR.out, HG.out⟩
set_option maxHeartbeats 1000000 in
theorem readit_4_bad (lo b c : Nat) (B : Option Addr) (x : It) (l : List Nat) (bad : Bool) (w : World) (hk : x.kind % 5 = 4) (hk2 : x.kind < 256) (h : Rd w lo b l bad) (hn : l.length < x.b.length) :
    Calls Try.prog 24 #[.pointer (some ⟨b, 0, none⟩), .agg #[.int .u8 (x.kind : Int), .int .u64 (x.n : Int), .slice B x.b.length c]] w fun e w' => ∃ v, e = .returned v ∧ Bytes w' v [] ∧ Rd w' lo b [] true ∧ w.grownBy w' (some b) := by
  have hr : (x.kind : Int) % 5 = 4 := by omega
  have H := Lib.hid h; clear h
  have HK := Lib.hid hk; clear hk
  have hb0 : Below w.heap.size w (w.alloc (.cells #[.int .u8 (x.kind : Int), .int .u64 (x.n : Int), .slice B x.b.length c] 33)) := (Below.refl _ _).alloc (Nat.le_refl _) _
  have HB0 := Lib.hid hb0; clear hb0
  go_enter Try.func24, Try.ntmps24
  go_wp2_with fail
  refine (rdRaw_bad lo b _ l bad _ (H.out.below HB0.out) (Or.inr (by omega))).mono ?_
  rintro e w1 ⟨g, rfl, _, hrow, hr1, hg1⟩
  have HR := Lib.hid hr1; clear hr1
  have HG := Lib.hid (only_trans (only_of_below HB0.out _) hg1); clear hg1
  have HW := Lib.hid hrow; clear hrow
  go_wp2
  go_ret
  exact ⟨_, rfl, ⟨_, 0, rfl, At.nil_⟩, HR.out, HG.out⟩

theorem itb_len (x : It) (r k : Nat) (h : x.kind % 5 = r) (hr : r < 4) (hk : k = 2 ^ r) : (itb x).length = k := by rw [itb_num x r h hr, Fld.dg_length, hk]
theorem readit (lo b c : Nat) (B : Option Addr) (x : It) (l : List Nat) (bad : Bool) (w : World) (hk2 : x.kind < 256) (h1 : x.b.length ≤ 140737488355328) (h : Rd w lo b l bad) (hn : (itb x).length ≤ l.length) :
    Calls Try.prog 24 #[.pointer (some ⟨b, 0, none⟩), .agg #[.int .u8 (x.kind : Int), .int .u64 (x.n : Int), .slice B x.b.length c]] w fun e w' => ∃ v, e = .returned v ∧ Bytes w' v (l.take (itb x).length) ∧ Rd w' lo b (l.drop (itb x).length) bad ∧ w.grownBy w' (some b) := by
  rcases kind5 x with hk | hk | hk | hk | hk
  · rw [itb_len x 0 1 hk (by decide) rfl] at hn ⊢; exact readit_0 lo b c B x l bad w hk hk2 h hn
  · rw [itb_len x 1 2 hk (by decide) rfl] at hn ⊢; exact readit_1 lo b c B x l bad w hk hk2 h hn
  · rw [itb_len x 2 4 hk (by decide) rfl] at hn ⊢; exact readit_2 lo b c B x l bad w hk hk2 h hn
  · rw [itb_len x 3 8 hk (by decide) rfl] at hn ⊢; exact readit_3 lo b c B x l bad w hk hk2 h hn
  · rw [itb_raw x hk] at hn ⊢; exact readit_4 lo b c B x l bad w hk hk2 h1 h hn
def zeros (x : It) : List Nat := if x.kind % 5 = 4 then [] else Fld.dg (2 ^ (x.kind % 5)) 0
theorem zeros_num (x : It) : Fld.num (zeros x) = 0 ∧ (zeros x).length ≤ 8 ∧ (x.kind % 5 = 4 → zeros x = []) := by
  unfold zeros
  rcases kind5 x with hk | hk | hk | hk | hk <;> rw [hk] <;> decide
theorem readit_bad (lo b c : Nat) (B : Option Addr) (x : It) (l : List Nat) (bad : Bool) (w : World) (hk2 : x.kind < 256) (h : Rd w lo b l bad) (hn : l.length < (itb x).length) :
    Calls Try.prog 24 #[.pointer (some ⟨b, 0, none⟩), .agg #[.int .u8 (x.kind : Int), .int .u64 (x.n : Int), .slice B x.b.length c]] w fun e w' => ∃ v, e = .returned v ∧ Bytes w' v (zeros x) ∧ Rd w' lo b [] true ∧ w.grownBy w' (some b) := by
  unfold zeros
  rcases kind5 x with hk | hk | hk | hk | hk
  · rw [itb_len x 0 1 hk (by decide) rfl] at hn; rw [hk]; exact readit_0_bad lo b c B x l bad w hk hk2 h hn
  · rw [itb_len x 1 2 hk (by decide) rfl] at hn; rw [hk]; exact readit_1_bad lo b c B x l bad w hk hk2 h hn
  · rw [itb_len x 2 4 hk (by decide) rfl] at hn; rw [hk]; exact readit_2_bad lo b c B x l bad w hk hk2 h hn
  · rw [itb_len x 3 8 hk (by decide) rfl] at hn; rw [hk]; exact readit_3_bad lo b c B x l bad w hk hk2 h hn
  · rw [itb_raw x hk] at hn; rw [hk]; exact readit_4_bad lo b c B x l bad w hk hk2 h hn

end Go.Proofs.Ytepcfinojifecaa
