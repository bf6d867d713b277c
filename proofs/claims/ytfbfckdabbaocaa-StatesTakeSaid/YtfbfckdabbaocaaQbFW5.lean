/-
  What is proved here: contracts of fields.readNumber and of a Reader's Byte, Short, Word, Long and Raw: the number of the next bytes, or 0, and the reader falls. No condition.
-/
import Derived.Test.YtfbfckdabbaocaaQbFW4
namespace Go.Proofs.Ytfbfckdabbaocaa.Fd
open Go.RowKit
theorem or8 (n x : Nat) (h1 : n * 256 < 18446744073709551616) (h2 : x < 256) : bits .or .u64 ((n : Int) * 256) (x : Int) = ((n * 256 + x : Nat) : Int) := by
  have e : (n : Int) * 256 = ((n * 256 : Nat) : Int) := by omega
  rw [e, u64_or_nat _ _ h1 (by omega)]
  have := Nat.shiftLeft_add_eq_or_of_lt (b := x) (i := 8) (by omega) n
  rw [Nat.shiftLeft_eq] at this
  rw [this]
theorem num_room (x : List Nat) (k : Nat) (hs : ∀ y ∈ x, y < 256) (hl : x.length ≤ 8) (hk : k < x.length) : Fld.num (x.take k) * 256 < 18446744073709551616 := by
  have h := Fld.num_lt (x.take k) (fun y hy => hs y (List.mem_of_mem_take hy))
  have h2 : 256 ^ (x.take k).length ≤ 256 ^ 7 := Nat.pow_le_pow_right (by omega) (by rw [List.length_take]; omega)
  have h3 : (256 : Nat) ^ 7 = 72057594037927936 := by decide
  omega
theorem num_fits (x : List Nat) (hs : ∀ y ∈ x, y < 256) (k : Nat) (hl : x.length = k) : Fld.num x < 256 ^ k := by
  have h := Fld.num_lt x hs
  rw [hl] at h; exact h
theorem take_lit (lo b n : Nat) (k : Int) (l : List Nat) (bad : Bool) (w : World) (hk : k = (n : Int)) (h : Rd w lo b l bad) (hn : n ≤ l.length) :
    Calls Try.prog 79 #[.pointer (some ⟨b, 0, none⟩), .int .i64 k] w fun e w' => ∃ v, e = .returned v ∧ Took w' lo b v (l.take n) ∧ Rd w' lo b (l.drop n) bad ∧ w.grownBy w' (some b) := by
  subst hk; exact take_ok lo b n l bad w h hn
def ReadRel (x : List Nat) (w : World) (g : Nat) (n i : Value) (wr : World) : Prop :=
  ∃ (j : Nat), j + g = x.length ∧ i = .int .i64 (j : Int) ∧ n = .int .u64 ((Fld.num (x.take j) : Nat) : Int) ∧ w = wr
set_option maxHeartbeats 1000000 in
theorem read8 (lo b : Nat) (l : List Nat) (bad : Bool) (w : World) (h : Rd w lo b l bad) (hn : 1 ≤ l.length) :
    Calls Try.prog 68 #[.pointer (some ⟨b, 0, none⟩)] w fun e w' => e = .returned (.int .u8 ((Fld.num (l.take 1) : Nat) : Int)) ∧ Rd w' lo b (l.drop 1) bad ∧ w.grownBy w' (some b) := by
  have H := Lib.hid h; clear h
  go_enter Try.func68, Try.ntmps68
  go_wp2_with fail
  refine (width8 _).mono ?_
  rintro e w' ⟨rfl, rfl⟩
  go_wp2_with fail
  refine (take_lit lo b 1 _ l bad w rfl H.out hn).mono ?_
  rintro e w1 ⟨v, rfl, ⟨A, c, rfl, ha, _⟩, hr, hg⟩
  have HR := Lib.hid hr; clear hr
  have HG := Lib.hid hg; clear hg
  have hxl : (l.take 1).length = 1 := by rw [List.length_take]; omega
  obtain ⟨x, hx⟩ : ∃ x, x = l.take 1 := ⟨_, rfl⟩
  rw [← hx] at ha hxl
  rw [← hx]
  have HE := Lib.hid hx; clear hx
  have hx8 : x.length ≤ 8 := by omega
  have hfit := num_fits x ha.small 1 hxl
  have HF := Lib.hid hfit; clear hfit
  have HX := Lib.hid hxl; clear hxl
  have HA := Lib.hid ha; clear ha
  go_wp2
  go_loopg [3, 10] x.length (fun g n i wr => ReadRel x w1 g n i wr)
  case atStart => exact ⟨0, by omega, rfl, rfl, rfl⟩
  case round =>
    obtain ⟨j, hj, rfl, rfl, rfl⟩ := hrel
    by_cases hlt : j < x.length
    · obtain ⟨hy, ad, rfl, hc⟩ := HA.out j x[j] (List.getElem?_eq_getElem hlt)
      have HS := Lib.hid (Fld.num_take x j hlt)
      have hroom := num_room x j HA.out.small hx8 hlt
      generalize Fld.num (x.take j) = m at HS hroom ⊢
      generalize x[j] = y at HS hy hc ⊢
      have ho := or8 m y hroom hy
      go_wp2
      go_roundg (gk - 1)
      case measure => omega
      case rel => exact ⟨j + 1, by omega, by go_num, by rw [HS.out]; rfl, rfl⟩
    · obtain rfl : j = x.length := by omega
      rw [List.take_length]
      have hb : Fld.num x < 256 := HF.out
      go_wp2
      go_ret
      exact ⟨by rw [← HE.out]; rfl, HR.out, HG.out⟩
set_option maxHeartbeats 1000000 in
theorem read8_bad (lo b : Nat) (l : List Nat) (bad : Bool) (w : World) (h : Rd w lo b l bad) (hn : l.length < 1) :
    Calls Try.prog 68 #[.pointer (some ⟨b, 0, none⟩)] w fun e w' => e = .returned (.int .u8 0) ∧ Rd w' lo b [] true ∧ w.grownBy w' (some b) := by
  have H := Lib.hid h; clear h
  go_enter Try.func68, Try.ntmps68
  go_wp2_with fail
  refine (width8 _).mono ?_
  rintro e w' ⟨rfl, rfl⟩
  go_wp2_with fail
  refine (take_bad lo b l bad _ w H.out (Or.inr (by omega))).mono ?_
  rintro e w1 ⟨rfl, hr, hg⟩
  have HR := Lib.hid hr; clear hr
  have HG := Lib.hid hg; clear hg
  go_wp2
  go_loopg [3, 10] 0 (fun _ n i wr => n = .int .u64 0 ∧ i = .int .i64 0 ∧ w1 = wr)
  case atStart => exact ⟨rfl, rfl, rfl⟩
  case round =>
    obtain ⟨rfl, rfl, rfl⟩ := hrel
    go_wp2
    go_ret
    exact ⟨rfl, HR.out, HG.out⟩
set_option maxHeartbeats 1000000 in
theorem rd8 (lo b : Nat) (l : List Nat) (bad : Bool) (w : World) (h : Rd w lo b l bad) (hn : 1 ≤ l.length) :
    Calls Try.prog 43 #[.pointer (some ⟨b, 0, none⟩)] w fun e w' => e = .returned (.int .u8 ((Fld.num (l.take 1) : Nat) : Int)) ∧ Rd w' lo b (l.drop 1) bad ∧ w.grownBy w' (some b) := by
  have H := Lib.hid h; clear h
  go_enter Try.func43, Try.ntmps43
  go_wp2_with fail
  refine (read8 lo b l bad w H.out hn).mono ?_
  rintro e w1 ⟨rfl, hr, hg⟩
  have HR := Lib.hid hr; clear hr
  have HG := Lib.hid hg; clear hg
  go_wp2
  go_ret
  exact ⟨rfl, HR.out, HG.out⟩
set_option maxHeartbeats 1000000 in
theorem rd8_bad (lo b : Nat) (l : List Nat) (bad : Bool) (w : World) (h : Rd w lo b l bad) (hn : l.length < 1) :
    Calls Try.prog 43 #[.pointer (some ⟨b, 0, none⟩)] w fun e w' => e = .returned (.int .u8 0) ∧ Rd w' lo b [] true ∧ w.grownBy w' (some b) := by
  have H := Lib.hid h; clear h
  go_enter Try.func43, Try.ntmps43
  go_wp2_with fail
  refine (read8_bad lo b l bad w H.out hn).mono ?_
  rintro e w1 ⟨rfl, hr, hg⟩
  have HR := Lib.hid hr; clear hr
  have HG := Lib.hid hg; clear hg
  go_wp2
  go_ret
  exact ⟨rfl, HR.out, HG.out⟩
set_option maxHeartbeats 1000000 in
theorem read16 (lo b : Nat) (l : List Nat) (bad : Bool) (w : World) (h : Rd w lo b l bad) (hn : 2 ≤ l.length) :
    Calls Try.prog 66 #[.pointer (some ⟨b, 0, none⟩)] w fun e w' => e = .returned (.int .u16 ((Fld.num (l.take 2) : Nat) : Int)) ∧ Rd w' lo b (l.drop 2) bad ∧ w.grownBy w' (some b) := by
  have H := Lib.hid h; clear h
  go_enter Try.func66, Try.ntmps66
  go_wp2_with fail
  refine (width16 _).mono ?_
  rintro e w' ⟨rfl, rfl⟩
  go_wp2_with fail
  refine (take_lit lo b 2 _ l bad w rfl H.out hn).mono ?_
  rintro e w1 ⟨v, rfl, ⟨A, c, rfl, ha, _⟩, hr, hg⟩
  have HR := Lib.hid hr; clear hr
  have HG := Lib.hid hg; clear hg
  have hxl : (l.take 2).length = 2 := by rw [List.length_take]; omega
  obtain ⟨x, hx⟩ : ∃ x, x = l.take 2 := ⟨_, rfl⟩
  rw [← hx] at ha hxl
  rw [← hx]
  have HE := Lib.hid hx; clear hx
  have hx8 : x.length ≤ 8 := by omega
  have hfit := num_fits x ha.small 2 hxl
  have HF := Lib.hid hfit; clear hfit
  have HX := Lib.hid hxl; clear hxl
  have HA := Lib.hid ha; clear ha
  go_wp2
  go_loopg [3, 10] x.length (fun g n i wr => ReadRel x w1 g n i wr)
  case atStart => exact ⟨0, by omega, rfl, rfl, rfl⟩
  case round =>
    obtain ⟨j, hj, rfl, rfl, rfl⟩ := hrel
    by_cases hlt : j < x.length
    · obtain ⟨hy, ad, rfl, hc⟩ := HA.out j x[j] (List.getElem?_eq_getElem hlt)
      have HS := Lib.hid (Fld.num_take x j hlt)
      have hroom := num_room x j HA.out.small hx8 hlt
      generalize Fld.num (x.take j) = m at HS hroom ⊢
      generalize x[j] = y at HS hy hc ⊢
      have ho := or8 m y hroom hy
      go_wp2
      go_roundg (gk - 1)
      case measure => omega
      case rel => exact ⟨j + 1, by omega, by go_num, by rw [HS.out]; rfl, rfl⟩
    · obtain rfl : j = x.length := by omega
      rw [List.take_length]
      have hb : Fld.num x < 65536 := HF.out
      go_wp2
      go_ret
      exact ⟨by rw [← HE.out]; rfl, HR.out, HG.out⟩
set_option maxHeartbeats 1000000 in
theorem read16_bad (lo b : Nat) (l : List Nat) (bad : Bool) (w : World) (h : Rd w lo b l bad) (hn : l.length < 2) :
    Calls Try.prog 66 #[.pointer (some ⟨b, 0, none⟩)] w fun e w' => e = .returned (.int .u16 0) ∧ Rd w' lo b [] true ∧ w.grownBy w' (some b) := by
  have H := Lib.hid h; clear h
  go_enter Try.func66, Try.ntmps66
  go_wp2_with fail
  refine (width16 _).mono ?_
  rintro e w' ⟨rfl, rfl⟩
  go_wp2_with fail
  refine (take_bad lo b l bad _ w H.out (Or.inr (by omega))).mono ?_
  rintro e w1 ⟨rfl, hr, hg⟩
  have HR := Lib.hid hr; clear hr
  have HG := Lib.hid hg; clear hg
  go_wp2
  go_loopg [3, 10] 0 (fun _ n i wr => n = .int .u64 0 ∧ i = .int .i64 0 ∧ w1 = wr)
  case atStart => exact ⟨rfl, rfl, rfl⟩
  case round =>
    obtain ⟨rfl, rfl, rfl⟩ := hrel
    go_wp2
    go_ret
    exact ⟨rfl, HR.out, HG.out⟩
set_option maxHeartbeats 1000000 in
theorem rd16 (lo b : Nat) (l : List Nat) (bad : Bool) (w : World) (h : Rd w lo b l bad) (hn : 2 ≤ l.length) :
    Calls Try.prog 41 #[.pointer (some ⟨b, 0, none⟩)] w fun e w' => e = .returned (.int .u16 ((Fld.num (l.take 2) : Nat) : Int)) ∧ Rd w' lo b (l.drop 2) bad ∧ w.grownBy w' (some b) := by
  have H := Lib.hid h; clear h
  go_enter Try.func41, Try.ntmps41
  go_wp2_with fail
  refine (read16 lo b l bad w H.out hn).mono ?_
  rintro e w1 ⟨rfl, hr, hg⟩
  have HR := Lib.hid hr; clear hr
  have HG := Lib.hid hg; clear hg
  go_wp2
  go_ret
  exact ⟨rfl, HR.out, HG.out⟩
set_option maxHeartbeats 1000000 in
theorem rd16_bad (lo b : Nat) (l : List Nat) (bad : Bool) (w : World) (h : Rd w lo b l bad) (hn : l.length < 2) :
    Calls Try.prog 41 #[.pointer (some ⟨b, 0, none⟩)] w fun e w' => e = .returned (.int .u16 0) ∧ Rd w' lo b [] true ∧ w.grownBy w' (some b) := by
  have H := Lib.hid h; clear h
  go_enter Try.func41, Try.ntmps41
  go_wp2_with fail
  refine (read16_bad lo b l bad w H.out hn).mono ?_
  rintro e w1 ⟨rfl, hr, hg⟩
  have HR := Lib.hid hr; clear hr
  have HG := Lib.hid hg; clear hg
  go_wp2
  go_ret
  exact ⟨rfl, HR.out, HG.out⟩
set_option maxHeartbeats 1000000 in
theorem read32 (lo b : Nat) (l : List Nat) (bad : Bool) (w : World) (h : Rd w lo b l bad) (hn : 4 ≤ l.length) :
    Calls Try.prog 65 #[.pointer (some ⟨b, 0, none⟩)] w fun e w' => e = .returned (.int .u32 ((Fld.num (l.take 4) : Nat) : Int)) ∧ Rd w' lo b (l.drop 4) bad ∧ w.grownBy w' (some b) := by
  have H := Lib.hid h; clear h
  go_enter Try.func65, Try.ntmps65
  go_wp2_with fail
  refine (width32 _).mono ?_
  rintro e w' ⟨rfl, rfl⟩
  go_wp2_with fail
  refine (take_lit lo b 4 _ l bad w rfl H.out hn).mono ?_
  rintro e w1 ⟨v, rfl, ⟨A, c, rfl, ha, _⟩, hr, hg⟩
  have HR := Lib.hid hr; clear hr
  have HG := Lib.hid hg; clear hg
  have hxl : (l.take 4).length = 4 := by rw [List.length_take]; omega
  obtain ⟨x, hx⟩ : ∃ x, x = l.take 4 := ⟨_, rfl⟩
  rw [← hx] at ha hxl
  rw [← hx]
  have HE := Lib.hid hx; clear hx
  have hx8 : x.length ≤ 8 := by omega
  have hfit := num_fits x ha.small 4 hxl
  have HF := Lib.hid hfit; clear hfit
  have HX := Lib.hid hxl; clear hxl
  have HA := Lib.hid ha; clear ha
  go_wp2
  go_loopg [3, 10] x.length (fun g n i wr => ReadRel x w1 g n i wr)
  case atStart => exact ⟨0, by omega, rfl, rfl, rfl⟩
  case round =>
    obtain ⟨j, hj, rfl, rfl, rfl⟩ := hrel
    by_cases hlt : j < x.length
    · obtain ⟨hy, ad, rfl, hc⟩ := HA.out j x[j] (List.getElem?_eq_getElem hlt)
      have HS := Lib.hid (Fld.num_take x j hlt)
      have hroom := num_room x j HA.out.small hx8 hlt
      generalize Fld.num (x.take j) = m at HS hroom ⊢
      generalize x[j] = y at HS hy hc ⊢
      have ho := or8 m y hroom hy
      go_wp2
      go_roundg (gk - 1)
      case measure => omega
      case rel => exact ⟨j + 1, by omega, by go_num, by rw [HS.out]; rfl, rfl⟩
    · obtain rfl : j = x.length := by omega
      rw [List.take_length]
      have hb : Fld.num x < 4294967296 := HF.out
      go_wp2
      go_ret
      exact ⟨by rw [← HE.out]; rfl, HR.out, HG.out⟩
set_option maxHeartbeats 1000000 in
theorem read32_bad (lo b : Nat) (l : List Nat) (bad : Bool) (w : World) (h : Rd w lo b l bad) (hn : l.length < 4) :
    Calls Try.prog 65 #[.pointer (some ⟨b, 0, none⟩)] w fun e w' => e = .returned (.int .u32 0) ∧ Rd w' lo b [] true ∧ w.grownBy w' (some b) := by
  have H := Lib.hid h; clear h
  go_enter Try.func65, Try.ntmps65
  go_wp2_with fail
  refine (width32 _).mono ?_
  rintro e w' ⟨rfl, rfl⟩
  go_wp2_with fail
  refine (take_bad lo b l bad _ w H.out (Or.inr (by omega))).mono ?_
  rintro e w1 ⟨rfl, hr, hg⟩
  have HR := Lib.hid hr; clear hr
  have HG := Lib.hid hg; clear hg
  go_wp2
  go_loopg [3, 10] 0 (fun _ n i wr => n = .int .u64 0 ∧ i = .int .i64 0 ∧ w1 = wr)
  case atStart => exact ⟨rfl, rfl, rfl⟩
  case round =>
    obtain ⟨rfl, rfl, rfl⟩ := hrel
    go_wp2
    go_ret
    exact ⟨rfl, HR.out, HG.out⟩
set_option maxHeartbeats 1000000 in
theorem rd32 (lo b : Nat) (l : List Nat) (bad : Bool) (w : World) (h : Rd w lo b l bad) (hn : 4 ≤ l.length) :
    Calls Try.prog 40 #[.pointer (some ⟨b, 0, none⟩)] w fun e w' => e = .returned (.int .u32 ((Fld.num (l.take 4) : Nat) : Int)) ∧ Rd w' lo b (l.drop 4) bad ∧ w.grownBy w' (some b) := by
  have H := Lib.hid h; clear h
  go_enter Try.func40, Try.ntmps40
  go_wp2_with fail
  refine (read32 lo b l bad w H.out hn).mono ?_
  rintro e w1 ⟨rfl, hr, hg⟩
  have HR := Lib.hid hr; clear hr
  have HG := Lib.hid hg; clear hg
  go_wp2
  go_ret
  exact ⟨rfl, HR.out, HG.out⟩
set_option maxHeartbeats 1000000 in
theorem rd32_bad (lo b : Nat) (l : List Nat) (bad : Bool) (w : World) (h : Rd w lo b l bad) (hn : l.length < 4) :
    Calls Try.prog 40 #[.pointer (some ⟨b, 0, none⟩)] w fun e w' => e = .returned (.int .u32 0) ∧ Rd w' lo b [] true ∧ w.grownBy w' (some b) := by
  have H := Lib.hid h; clear h
  go_enter Try.func40, Try.ntmps40
  go_wp2_with fail
  refine (read32_bad lo b l bad w H.out hn).mono ?_
  rintro e w1 ⟨rfl, hr, hg⟩
  have HR := Lib.hid hr; clear hr
  have HG := Lib.hid hg; clear hg
  go_wp2
  go_ret
  exact ⟨rfl, HR.out, HG.out⟩
set_option maxHeartbeats 1000000 in
theorem read64 (lo b : Nat) (l : List Nat) (bad : Bool) (w : World) (h : Rd w lo b l bad) (hn : 8 ≤ l.length) :
    Calls Try.prog 67 #[.pointer (some ⟨b, 0, none⟩)] w fun e w' => e = .returned (.int .u64 ((Fld.num (l.take 8) : Nat) : Int)) ∧ Rd w' lo b (l.drop 8) bad ∧ w.grownBy w' (some b) := by
  have H := Lib.hid h; clear h
  go_enter Try.func67, Try.ntmps67
  go_wp2_with fail
  refine (width64 _).mono ?_
  rintro e w' ⟨rfl, rfl⟩
  go_wp2_with fail
  refine (take_lit lo b 8 _ l bad w rfl H.out hn).mono ?_
  rintro e w1 ⟨v, rfl, ⟨A, c, rfl, ha, _⟩, hr, hg⟩
  have HR := Lib.hid hr; clear hr
  have HG := Lib.hid hg; clear hg
  have hxl : (l.take 8).length = 8 := by rw [List.length_take]; omega
  obtain ⟨x, hx⟩ : ∃ x, x = l.take 8 := ⟨_, rfl⟩
  rw [← hx] at ha hxl
  rw [← hx]
  have HE := Lib.hid hx; clear hx
  have hx8 : x.length ≤ 8 := by omega
  have hfit := num_fits x ha.small 8 hxl
  have HF := Lib.hid hfit; clear hfit
  have HX := Lib.hid hxl; clear hxl
  have HA := Lib.hid ha; clear ha
  go_wp2
  go_loopg [3, 10] x.length (fun g n i wr => ReadRel x w1 g n i wr)
  case atStart => exact ⟨0, by omega, rfl, rfl, rfl⟩
  case round =>
    obtain ⟨j, hj, rfl, rfl, rfl⟩ := hrel
    by_cases hlt : j < x.length
    · obtain ⟨hy, ad, rfl, hc⟩ := HA.out j x[j] (List.getElem?_eq_getElem hlt)
      have HS := Lib.hid (Fld.num_take x j hlt)
      have hroom := num_room x j HA.out.small hx8 hlt
      generalize Fld.num (x.take j) = m at HS hroom ⊢
      generalize x[j] = y at HS hy hc ⊢
      have ho := or8 m y hroom hy
      go_wp2
      go_roundg (gk - 1)
      case measure => omega
      case rel => exact ⟨j + 1, by omega, by go_num, by rw [HS.out]; rfl, rfl⟩
    · obtain rfl : j = x.length := by omega
      rw [List.take_length]
      have hb : Fld.num x < 18446744073709551616 := HF.out
      go_wp2
      go_ret
      exact ⟨by rw [← HE.out]; rfl, HR.out, HG.out⟩
set_option maxHeartbeats 1000000 in
theorem read64_bad (lo b : Nat) (l : List Nat) (bad : Bool) (w : World) (h : Rd w lo b l bad) (hn : l.length < 8) :
    Calls Try.prog 67 #[.pointer (some ⟨b, 0, none⟩)] w fun e w' => e = .returned (.int .u64 0) ∧ Rd w' lo b [] true ∧ w.grownBy w' (some b) := by
  have H := Lib.hid h; clear h
  go_enter Try.func67, Try.ntmps67
  go_wp2_with fail
  refine (width64 _).mono ?_
  rintro e w' ⟨rfl, rfl⟩
  go_wp2_with fail
  refine (take_bad lo b l bad _ w H.out (Or.inr (by omega))).mono ?_
  rintro e w1 ⟨rfl, hr, hg⟩
  have HR := Lib.hid hr; clear hr
  have HG := Lib.hid hg; clear hg
  go_wp2
  go_loopg [3, 10] 0 (fun _ n i wr => n = .int .u64 0 ∧ i = .int .i64 0 ∧ w1 = wr)
  case atStart => exact ⟨rfl, rfl, rfl⟩
  case round =>
    obtain ⟨rfl, rfl, rfl⟩ := hrel
    go_wp2
    go_ret
    exact ⟨rfl, HR.out, HG.out⟩
set_option maxHeartbeats 1000000 in
theorem rd64 (lo b : Nat) (l : List Nat) (bad : Bool) (w : World) (h : Rd w lo b l bad) (hn : 8 ≤ l.length) :
    Calls Try.prog 42 #[.pointer (some ⟨b, 0, none⟩)] w fun e w' => e = .returned (.int .u64 ((Fld.num (l.take 8) : Nat) : Int)) ∧ Rd w' lo b (l.drop 8) bad ∧ w.grownBy w' (some b) := by
  have H := Lib.hid h; clear h
  go_enter Try.func42, Try.ntmps42
  go_wp2_with fail
  refine (read64 lo b l bad w H.out hn).mono ?_
  rintro e w1 ⟨rfl, hr, hg⟩
  have HR := Lib.hid hr; clear hr
  have HG := Lib.hid hg; clear hg
  go_wp2
  go_ret
  exact ⟨rfl, HR.out, HG.out⟩
set_option maxHeartbeats 1000000 in
theorem rd64_bad (lo b : Nat) (l : List Nat) (bad : Bool) (w : World) (h : Rd w lo b l bad) (hn : l.length < 8) :
    Calls Try.prog 42 #[.pointer (some ⟨b, 0, none⟩)] w fun e w' => e = .returned (.int .u64 0) ∧ Rd w' lo b [] true ∧ w.grownBy w' (some b) := by
  have H := Lib.hid h; clear h
  go_enter Try.func42, Try.ntmps42
  go_wp2_with fail
  refine (read64_bad lo b l bad w H.out hn).mono ?_
  rintro e w1 ⟨rfl, hr, hg⟩
  have HR := Lib.hid hr; clear hr
  have HG := Lib.hid hg; clear hg
  go_wp2
  go_ret
  exact ⟨rfl, HR.out, HG.out⟩
end Go.Proofs.Ytfbfckdabbaocaa.Fd
