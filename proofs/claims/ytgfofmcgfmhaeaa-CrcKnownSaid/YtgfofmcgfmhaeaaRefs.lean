/-
  What is proved here: contracts of the document's functions Power, Of and Times: they return what the plain facts say of the power of so many bytes (at most 2000), the bits of a word and the product of two words, and no block that was there has changed.
-/
import Derived.Test.YtgfofmcgfmhaeaaRest
namespace Go.Proofs.Ytgfofmcgfmhaeaa
open Go.RowKit

theorem made_false (n : Nat) : (madeCells #[.bool false] n).toList = bv (List.replicate n false) := by
  rw [toList_madeCells_one]; simp [bv]
theorem made_br {B g n : Nat} {w : World} (h : w.ownsRow B 4 1 (.slice (some ⟨g, 0, none⟩) n n) n (madeCells #[.bool false] n).toList) : BR B w g n n (List.replicate n false) := by
  rw [made_false] at h
  exact ⟨by simp, h⟩
theorem BR.src {B : Nat} {w : World} {g n cap : Nat} {R : List Bool} (h : BR B w g n cap R) : ∀ (j : Nat) (u : Value), (bv R)[j]? = some u → w.cell? ((⟨g, 0, none⟩ : Addr).add j) = some u := h.2.cells (g := g) rfl
theorem rest_br {B : Nat} {w : World} {g n cap : Nat} {R : List Bool} (h : BR B w g n cap R) (h1 : 0 < n) (h2 : n ≤ 100000) :
    Calls Try.prog 20 #[.slice (some ⟨g, 0, none⟩) n cap] w fun e w' => e = .returned (.int .u32 (iv (Crc.hr R))) ∧ Below w.heap.size w w' := by
  have hl := h.1
  subst hl
  exact rest_any ⟨g, 0, none⟩ cap R w h1 h2 h.src

set_option maxHeartbeats 1000000 in
theorem rpow_pos (n : Nat) (w : World) (h1 : 0 < n) (h2 : n ≤ 2000) :
    Calls Try.prog 14 #[.int .i64 (n : Int)] w fun e w' => e = .returned (.int .u32 (iv (Crc.pw (8 * n)))) ∧ Below w.heap.size w w' := by
  obtain ⟨i0, hi, hz0, hz1, hz2⟩ := info_parts info4
  go_enter Try.func14, Try.ntmps14
  go_wp2_with (at_make; refine wpList_make_full _ rfl (.tmp 7) (.tmp 7) 40 rfl w.heap.size 4 i0 (.bool false) 1 Try.underlying40 hi hz0 hz1 _ _ _ _ (8 * n + 1) rfl rfl ?d1 ?d2 ?d3 ?d4 (Nat.le_refl _) ?_)
  case d1 => omega
  case d2 => omega
  case d3 => rw [hz2]; omega
  case d4 => unfold maxLen; omega
  intro w1 hown hgrow
  have hbr := made_br hown
  have hbw : Below w.heap.size w w1 := Below.grown (Below.refl _ _) hgrow (Nat.le_refl _) (fun k hk => by cases hk)
  have hb0 : (List.replicate (8 * n + 1) false)[0]? = some false := by rw [List.replicate_succ]; rfl
  have hc := hbr.cell 0 false hb0
  have hf := hbr.free 0
  have hbr2 := hbr.store 0 true
  have hbw2 := hbw.setCell (p := ⟨w.heap.size, 0, none⟩) (Nat.le_refl _) (.bool true)
  have e : (List.replicate (8 * n + 1) false).set 0 true = true :: List.replicate (8 * n) false := by rw [List.replicate_succ]; rfl
  rw [e] at hbr2
  obtain ⟨N, eN⟩ : ∃ N, 8 * n + 1 = N := ⟨_, rfl⟩
  have hN : 0 < N := by omega
  have hN2 : N ≤ 100000 := by omega
  rw [eN] at hbr2 ⊢
  have HR := Lib.hid hbr2
  have HW := Lib.hid hbw2
  clear hbr hbr2 hbw hbw2 hown hgrow hb0 e eN
  go_wp2_with fail
  refine (rest_br HR.out hN hN2).mono ?_
  rintro e w2 ⟨rfl, hb2⟩
  have HB2 := Lib.hid hb2; clear hb2
  go_wp2
  go_ret
  exact ⟨ret_int (by rw [Crc.hr_lead]), HW.out.trans (HB2.out.mono HW.out.size)⟩

set_option maxHeartbeats 1000000 in
theorem rpow_neg (n : Int) (w : World) (h1 : n ≤ 0) :
    Calls Try.prog 14 #[.int .i64 n] w fun e w' => e = .returned (.int .u32 (iv (Crc.pw (8 * 0)))) ∧ Below w.heap.size w w' := by
  obtain ⟨i0, hi, hz0, hz1, hz2⟩ := info_parts info4
  go_enter Try.func14, Try.ntmps14
  go_wp2_with (at_make; refine wpList_make_full _ rfl (.tmp 7) (.tmp 7) 40 rfl w.heap.size 4 i0 (.bool false) 1 Try.underlying40 hi hz0 hz1 _ _ _ _ 1 rfl rfl ?d1 ?d2 ?d3 ?d4 (Nat.le_refl _) ?_)
  case d1 => rfl
  case d2 => rfl
  case d3 => rw [hz2]; omega
  case d4 => unfold maxLen; omega
  intro w1 hown hgrow
  have hbr := made_br hown
  have hbw : Below w.heap.size w w1 := Below.grown (Below.refl _ _) hgrow (Nat.le_refl _) (fun k hk => by cases hk)
  have hc := hbr.cell 0 false rfl
  have hf := hbr.free 0
  have hbr2 := hbr.store 0 true
  have hbw2 := hbw.setCell (p := ⟨w.heap.size, 0, none⟩) (Nat.le_refl _) (.bool true)
  have HR := Lib.hid hbr2
  have HW := Lib.hid hbw2
  clear hbr hbr2 hbw hbw2 hown hgrow
  go_wp2_with fail
  refine (rest_br HR.out (by omega) (by omega)).mono ?_
  rintro e w2 ⟨rfl, hb2⟩
  have HB2 := Lib.hid hb2; clear hb2
  go_wp2
  go_ret
  exact ⟨ret_int (by exact congrArg iv (Crc.hr_lead 0)), HW.out.trans (HB2.out.mono HW.out.size)⟩

theorem rpow_any (n : Int) (w : World) (h2 : n ≤ 2000) :
    Calls Try.prog 14 #[.int .i64 n] w fun e w' => e = .returned (.int .u32 (iv (Crc.pw (8 * n.toNat)))) ∧ Below w.heap.size w w' := by
  by_cases h : n ≤ 0
  · have e : n.toNat = 0 := by omega
    rw [e]; exact rpow_neg n w h
  · obtain ⟨m, rfl⟩ : ∃ m : Nat, n = m := ⟨n.toNat, by omega⟩
    exact rpow_pos m w (by omega) (by omega)

/- The bits of a word, the lowest first. -/
def bl (x : BitVec 32) : List Bool := (List.range 32).map fun k => x.getLsbD k
theorem bl_at (x : BitVec 32) (k : Nat) (hk : k < 32) : (bl x)[k]? = some (x.getLsbD k) := by
  unfold bl; rw [List.getElem?_map, List.getElem?_range hk]; rfl
theorem bl_length (x : BitVec 32) : (bl x).length = 32 := by simp [bl]
theorem bl_take (x : BitVec 32) (t : Nat) (h : t < 32) : (bl x).take (t + 1) = (bl x).take t ++ [x.getLsbD t] := by
  have hl : t < (bl x).length := by rw [bl_length]; exact h
  rw [List.take_succ_eq_append_getElem hl]
  congr 2
  have := bl_at x t h
  rw [List.getElem?_eq_getElem hl] at this
  simpa using this
theorem and_1 (y : Nat) (h : y < 4294967296) : bits .and .u32 (y : Int) 1 = ((y % 2 : Nat) : Int) := by
  have := u32_and_nat y 1 h (by omega)
  rw [nat_mask1] at this
  exact this
theorem bit_eq (x : BitVec 32) (t : Nat) : (bits .and .u32 (iv x / 2 ^ t) 1 == 1) = x.getLsbD t := by
  have e : iv x / 2 ^ t = ((x.toNat / 2 ^ t : Nat) : Int) := by unfold iv; push_cast; rfl
  have hlt : x.toNat / 2 ^ t < 4294967296 := Nat.lt_of_le_of_lt (Nat.div_le_self _ _) x.isLt
  rw [e, and_1 _ hlt]
  show _ = x.toNat.testBit t
  rw [Nat.testBit_eq_decide_div_mod_eq]
  rcases Nat.mod_two_eq_zero_or_one (x.toNat / 2 ^ t) with h | h <;> rw [h] <;> rfl
def OfPost (x : BitVec 32) (w : World) (e : Ending) (w' : World) : Prop :=
  ∃ g cap : Nat, e = .returned (.slice (some ⟨g, 0, none⟩) 32 cap) ∧ BR w.heap.size w' g 32 cap (bl x) ∧ Below w.heap.size w w'
def OfRel (x : BitVec 32) (w : World) (k : Nat) (v i : Value) (wr : World) : Prop :=
  ∃ t : Nat, t + k = 32 ∧ i = .int .i64 (t : Int) ∧ wr.ownsRow w.heap.size 4 1 v t (bv ((bl x).take t)) ∧ Below w.heap.size w wr

set_option maxHeartbeats 1000000 in
theorem of_any (x : BitVec 32) (w : World) : Calls Try.prog 22 #[.int .u32 (iv x)] w (OfPost x w) := by
  obtain ⟨i0, hi, hz0, hz1, hz2⟩ := info_parts info4
  go_enter Try.func22, Try.ntmps22
  go_wp2
  go_loopg [3, 4] 32 (fun k v i wr => OfRel x w k v i wr)
  case atStart => exact ⟨0, by omega, rfl, ⟨rfl, Or.inl ⟨rfl, rfl⟩⟩, Below.refl _ _⟩
  case round =>
    obtain ⟨t, ht, rfl, hown, hbw⟩ := hrel
    have HO := Lib.hid hown; clear hown
    have HW := Lib.hid hbw; clear hbw
    by_cases hlt : t < 32
    · have hbit := bit_eq x t
      have hnews : ∀ (j : Nat) (u : Value), ([Value.bool (x.getLsbD t)] : List Value)[j]? = some u → (wr.alloc (.cells #[.bool (x.getLsbD t)] 4)).cell? ((⟨wr.heap.size, 0, none⟩ : Addr).add j) = some u := by
        intro j u hu
        cases j with
        | zero =>
          have e : (⟨wr.heap.size, 0, none⟩ : Addr).add 0 = ⟨wr.heap.size, 0, none⟩ := by unfold Addr.add; simp
          rw [e, cell_of_row _ _ _ _ _ _ (heap_alloc_new wr _)]
          simpa using hu
        | succ j => simp at hu
      have HN := Lib.hid hnews; clear hnews
      have HT := Lib.hid (bl_take x t hlt)
      go_wp2_with (at_builtin; refine wpList_append_own _ rfl (.tmp 9) (.tmp 15) 40 rfl w.heap.size 4 i0 (.bool false) 1 1 Try.underlying40 hi hz0 hz1 hz2 rfl (by decide) u3 t _ rfl (HO.out.alloc _) ⟨wr.heap.size, 0, none⟩ 1 1 [.bool (x.getLsbD t)] rfl rfl HN.out (by intro u hu; simp at hu; subst hu; rfl) ?c1 ?c2 ?c3 ?_)
      case c1 => unfold maxLen; omega
      case c2 => omega
      case c3 => have := HW.out.size; simp; omega
      intro v' w2 hown hgrow _
      have hB2 : Below w.heap.size w w2 := Below.grown (HW.out.alloc HW.out.size _) hgrow (by have := HW.out.size; simp; omega) (fun k hk => (HO.out.lt k hk).1)
      have HO2 := Lib.hid hown; clear hown
      have HB2 := Lib.hid hB2; clear hB2 hgrow
      clear hbit
      go_wp2
      go_roundg (gk - 1)
      case measure => omega
      case rel => exact ⟨t + 1, by omega, by go_num, by rw [HT.out]; unfold bv; rw [List.map_append]; exact HO2.out, HB2.out⟩
    · obtain rfl : t = 32 := by omega
      obtain ⟨g, cap, rfl⟩ := own_form HO.out (by omega)
      go_wp2
      go_ret
      have h := HO.out
      rw [List.take_of_length_le (by rw [bl_length]; omega)] at h
      exact ⟨g, cap, rfl, ⟨bl_length x, h⟩, HW.out⟩

/- A word's bits as cells. -/
def WC (w : World) (g : Nat) (x : BitVec 32) : Prop := ∀ k, k < 32 → w.cell? ⟨g, k, none⟩ = some (.bool (x.getLsbD k))
theorem BR.wc {B : Nat} {w : World} {g cap : Nat} {x : BitVec 32} (h : BR B w g 32 cap (bl x)) : WC w g x := fun k hk => h.cell k _ (bl_at x k hk)
theorem WC.set {w : World} {g h : Nat} {x : BitVec 32} (hw : WC w g x) (hne : g ≠ h) (j : Nat) (u : Value) : WC (w.setCell ⟨h, j, none⟩ u) g x :=
  fun k hk => (World.cell?_setCell_other w ⟨h, j, none⟩ ⟨g, k, none⟩ u (fun e => hne (congrArg Addr.block e).symm)).trans (hw k hk)
theorem WC.below {w w' : World} {g : Nat} {x : BitVec 32} (hw : WC w g x) (hb : Below w.heap.size w w') : WC w' g x :=
  fun k hk => (hb.cell (block_lt_of_cell (hw k hk))).trans (hw k hk)

def TOut (a b : BitVec 32) (w : World) (gx gy gl : Nat) (k : Nat) (i : Value) (wr : World) : Prop :=
  ∃ (t : Nat) (R : List Bool), t + k = 32 ∧ i = .int .i64 (t : Int) ∧ BR w.heap.size wr gl 63 63 R ∧ Crc.hr R = Crc.T (Crc.acc t a) b ∧ Below w.heap.size w wr ∧ WC wr gx a ∧ WC wr gy b
def TIn (a b : BitVec 32) (w : World) (gx gy gl t : Nat) (k : Nat) (i : Value) (wr : World) : Prop :=
  ∃ (s : Nat) (R : List Bool), s + k = 32 ∧ i = .int .i64 (s : Int) ∧ BR w.heap.size wr gl 63 63 R ∧ Crc.hr R = Crc.T (Crc.acc t a) b ^^^ Crc.wt (a.getLsbD t) (Crc.rp (31 - t) (Crc.acc s b)) ∧ Below w.heap.size w wr ∧ WC wr gx a ∧ WC wr gy b
theorem in_keep (a b : BitVec 32) (t s : Nat) (X Y : BitVec 32) (h : a.getLsbD t = false ∨ b.getLsbD s = false) (hX : Y = X ^^^ Crc.wt (a.getLsbD t) (Crc.rp (31 - t) (Crc.acc s b))) :
    Y = X ^^^ Crc.wt (a.getLsbD t) (Crc.rp (31 - t) (Crc.acc (s + 1) b)) := by
  rcases h with h | h
  · rw [h] at hX ⊢; exact hX
  · rw [Crc.acc_succ, h]
    have : Crc.wt false (Crc.bs s) = 0#32 := rfl
    rw [this, BitVec.xor_zero]; exact hX
theorem in_turn (a b : BitVec 32) (t s : Nat) (R : List Bool) (c : Bool) (X : BitVec 32) (ht : t < 32) (hs : s < 32) (h1 : a.getLsbD t = true) (h2 : b.getLsbD s = true) (hR : R.length = 63) (hc : R[t + s]? = some c)
    (hX : Crc.hr R = X ^^^ Crc.wt (a.getLsbD t) (Crc.rp (31 - t) (Crc.acc s b))) :
    Crc.hr (R.set (t + s) (!c)) = X ^^^ Crc.wt (a.getLsbD t) (Crc.rp (31 - t) (Crc.acc (s + 1) b)) := by
  rw [Crc.hr_flip R _ c hc, hX, hR, Crc.place_pw t s ht hs, Crc.acc_succ, h1, h2]
  show (X ^^^ Crc.rp (31 - t) (Crc.acc s b)) ^^^ Crc.rp (31 - t) (Crc.bs s) = X ^^^ Crc.rp (31 - t) (Crc.acc s b ^^^ Crc.bs s)
  rw [Crc.rp_xor, BitVec.xor_assoc]

set_option maxRecDepth 100000 in
set_option maxHeartbeats 1000000 in
theorem rtimes_any (a b : BitVec 32) (w : World) :
    Calls Try.prog 16 #[.int .u32 (iv a), .int .u32 (iv b)] w fun e w' => e = .returned (.int .u32 (iv (Crc.T a b))) ∧ Below w.heap.size w w' := by
  obtain ⟨i0, hi, hz0, hz1, hz2⟩ := info_parts info4
  go_enter Try.func16, Try.ntmps16
  go_wp2_with fail
  refine (of_any a _).mono ?_
  rintro e w1 ⟨gx, cx, rfl, hx, hb1⟩
  have HX := Lib.hid hx; clear hx
  have HB1 := Lib.hid hb1; clear hb1
  go_wp2_with fail
  refine (of_any b _).mono ?_
  rintro e w2 ⟨gy, cy, rfl, hy, hb2⟩
  have HY := Lib.hid hy; clear hy
  have HB2 := Lib.hid hb2; clear hb2
  go_wp2_with (at_make; refine wpList_make_full _ rfl (.const (.int .i64 63)) (.const (.int .i64 63)) 40 rfl w.heap.size 4 i0 (.bool false) 1 Try.underlying40 hi hz0 hz1 _ _ _ _ 63 rfl rfl ?d1 ?d2 ?d3 ?d4 ?d5 ?_)
  case d1 => rfl
  case d2 => rfl
  case d3 => rw [hz2]; omega
  case d4 => unfold maxLen; omega
  case d5 => have h1 := HB1.out.size; have h2 := HB2.out.size; omega
  intro w3 hown hgrow
  have hB3 : Below w2.heap.size w2 w3 := Below.grown (Below.refl _ _) hgrow (Nat.le_refl _) (fun k hk => by cases hk)
  have hbr := made_br hown
  have hlx := HX.out.lt
  have hly := HY.out.lt
  have hs1 := HB1.out.size
  have hs2 := HB2.out.size
  obtain ⟨gl, egl⟩ : ∃ gl, w2.heap.size = gl := ⟨_, rfl⟩
  have hwx : WC w3 gx a := (HX.out.wc.below HB2.out).below hB3
  have hwy : WC w3 gy b := HY.out.wc.below hB3
  have hbw : Below w.heap.size w w3 := (HB1.out.trans (HB2.out.mono hs1)).trans (hB3.mono (by omega))
  rw [egl] at hbr ⊢
  have hgx : gx ≠ gl := by omega
  have hgy : gy ≠ gl := by omega
  have hgl : w.heap.size ≤ gl := by omega
  have HR := Lib.hid hbr
  have HWX := Lib.hid hwx
  have HWY := Lib.hid hwy
  have HW := Lib.hid hbw
  clear hbr hwx hwy hbw hown hgrow hB3 HX HY HB1 HB2 hlx hly hs1 hs2 egl
  go_wp2
  go_loopg [8] 32 (fun k i wr => TOut a b w gx gy gl k i wr)
  case atStart => exact ⟨0, _, by omega, rfl, HR.out, by rw [Crc.hr_false]; exact (Crc.T_zero_left b).symm, HW.out, HWX.out, HWY.out⟩
  case round =>
    clear HR HWX HWY HW
    obtain ⟨t, R, hk, rfl, hbr, hX, hbw, hwx, hwy⟩ := hrel
    by_cases hlt : t < 32
    · have HR := Lib.hid hbr
      have HX := Lib.hid hX
      have HW := Lib.hid hbw
      have HWX := Lib.hid hwx
      have HWY := Lib.hid hwy
      clear hbr hX hbw hwx hwy
      obtain ⟨G, hG⟩ : ∃ G, gk = G + 1 := ⟨gk - 1, by omega⟩
      go_wp2
      go_loopg [9] 32 (fun k i wr => TIn a b w gx gy gl t k i wr)
      case atStart => exact ⟨0, R, by omega, rfl, HR.out, by rw [HX.out]; show _ = _ ^^^ Crc.wt _ (Crc.rp _ 0#32); rw [Crc.rp_zero]; cases a.getLsbD t <;> simp [Crc.wt], HW.out, HWX.out, HWY.out⟩
      case round =>
        clear HR HX HW HWX HWY
        obtain ⟨s, R2, hs, rfl, hbr, hX, hbw, hwx, hwy⟩ := hrel
        by_cases hlt2 : s < 32
        · have hcx := hwx t hlt
          have hcy := hwy s hlt2
          have HR := Lib.hid hbr
          have HX := Lib.hid hX
          have HW := Lib.hid hbw
          have HWX := Lib.hid hwx
          have HWY := Lib.hid hwy
          clear hbr hX hbw hwx hwy
          cases ha : a.getLsbD t with
          | false =>
            rw [ha] at hcx
            have HA := Lib.hid ha; clear ha
            go_wp2
            go_roundg (gk - 1)
            case measure => omega
            case rel => exact ⟨s + 1, R2, by omega, by go_num, HR.out, in_keep a b t s _ _ (Or.inl HA.out) HX.out, HW.out, HWX.out, HWY.out⟩
          | true =>
            rw [ha] at hcx
            have HA := Lib.hid ha; clear ha
            cases hb : b.getLsbD s with
            | false =>
              rw [hb] at hcy
              have HB := Lib.hid hb; clear hb
              go_wp2
              go_roundg (gk - 1)
              case measure => omega
              case rel => exact ⟨s + 1, R2, by omega, by go_num, HR.out, in_keep a b t s _ _ (Or.inr HB.out) HX.out, HW.out, HWX.out, HWY.out⟩
            | true =>
              rw [hb] at hcy
              have HB := Lib.hid hb; clear hb
              have hl : t + s < R2.length := by rw [HR.out.1]; omega
              obtain ⟨c, hc⟩ : ∃ c, R2[t + s]? = some c := ⟨_, List.getElem?_eq_getElem hl⟩
              have hcl := HR.out.cell (t + s) c hc
              have hfl := HR.out.free (t + s)
              have hbr2 := HR.out.store (t + s) (!c)
              have hbw2 := HW.out.setCell (p := ⟨gl, t + s, none⟩) hgl (.bool (!c))
              have hx2 := HWX.out.set hgx (t + s) (.bool (!c))
              have hy2 := HWY.out.set hgy (t + s) (.bool (!c))
              have HX2 := Lib.hid (in_turn a b t s R2 c _ hlt hlt2 HA.out HB.out HR.out.1 hc HX.out)
              have HR2 := Lib.hid hbr2
              have HW2 := Lib.hid hbw2
              have HWX2 := Lib.hid hx2
              have HWY2 := Lib.hid hy2
              clear hbr2 hbw2 hx2 hy2 hc HR HW HWX HWY HX
              obtain ⟨u, eu⟩ : ∃ u, t + s = u := ⟨_, rfl⟩
              have hsum : (t : Int) + (s : Int) = (u : Int) := by omega
              have hu : u < 63 := by omega
              rw [eu] at hcl hfl HR2 HW2 HWX2 HWY2 HX2
              clear eu hl
              go_wp2
              go_roundg (gk - 1)
              case measure => omega
              case rel => exact ⟨s + 1, _, by omega, by go_num, HR2.out, HX2.out, HW2.out, HWX2.out, HWY2.out⟩
        · obtain rfl : s = 32 := by omega
          have hX2 : Crc.hr R2 = Crc.T (Crc.acc (t + 1) a) b := by rw [Crc.T_acc t hlt, hX, Crc.acc_all]
          have HR := Lib.hid hbr
          have HX := Lib.hid hX2
          have HW := Lib.hid hbw
          have HWX := Lib.hid hwx
          have HWY := Lib.hid hwy
          clear hbr hX hX2 hbw hwx hwy
          go_wp2
          go_roundg G
          case measure => omega
          case rel => exact ⟨t + 1, R2, by omega, by go_num, HR.out, HX.out, HW.out, HWX.out, HWY.out⟩
    · obtain rfl : t = 32 := by omega
      rw [Crc.acc_all] at hX
      have HR := Lib.hid hbr
      have HX := Lib.hid hX
      have HW := Lib.hid hbw
      clear hbr hX hbw hwx hwy
      go_wp2_with fail
      refine (rest_br HR.out (by omega) (by omega)).mono ?_
      rintro e w4 ⟨rfl, hb4⟩
      have HB4 := Lib.hid hb4; clear hb4
      go_wp2
      go_ret
      exact ⟨ret_int (by rw [HX.out]), HW.out.trans (HB4.out.mono HW.out.size)⟩

end Go.Proofs.Ytgfofmcgfmhaeaa
