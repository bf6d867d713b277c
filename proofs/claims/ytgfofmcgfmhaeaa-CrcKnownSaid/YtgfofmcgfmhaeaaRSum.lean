/-
  What is proved here: the contract of the document's function Sum: of any slice of at most 3000 bytes it returns the check that the plain facts say, and no block that was there has changed.
-/
import Derived.Test.YtgfofmcgfmhaeaaRefs
namespace Go.Proofs.Ytgfofmcgfmhaeaa
open Go.RowKit

/- Bytes at an address, read in a world. -/
def BC (w : World) (A : Option Addr) (b : List Nat) : Prop := ∀ (k x : Nat), b[k]? = some x → x < 256 ∧ ∃ ad, A = some ad ∧ w.cell? (ad.add k) = some (.int .u8 (x : Int))
theorem BC.below {w w' : World} {A : Option Addr} {b : List Nat} (h : BC w A b) (hb : Below w.heap.size w w') : BC w' A b := by
  intro k x hx
  obtain ⟨h1, ad, e, h2⟩ := h k x hx
  exact ⟨h1, ad, e, (hb.cell (block_lt_of_cell h2)).trans h2⟩

def ROut (b : List Nat) (w : World) (gl N : Nat) (k : Nat) (i : Value) (wr : World) : Prop :=
  ∃ (t : Nat) (R : List Bool), t + k = b.length ∧ i = .int .i64 (t : Int) ∧ BR w.heap.size wr gl N N R ∧ Crc.hr R = Crc.vb b b.length t ∧ (∀ u, 8 * t ≤ u → u < N → R[u]? = some false) ∧ Below w.heap.size w wr
def RIn (b : List Nat) (w : World) (gl N t c : Nat) (k : Nat) (i : Value) (wr : World) : Prop :=
  ∃ (s : Nat) (R : List Bool), s + k = 8 ∧ i = .int .i64 (s : Int) ∧ BR w.heap.size wr gl N N R ∧ Crc.hr R = Crc.vb b b.length t ^^^ Crc.rp (8 * (b.length - t)) (Crc.acc s (BitVec.ofNat 32 c)) ∧ (∀ u, 8 * t + s ≤ u → u < N → R[u]? = some false) ∧ Below w.heap.size w wr
def RTurn (X : BitVec 32) (b : List Nat) (w : World) (gl N : Nat) (k : Nat) (i : Value) (wr : World) : Prop :=
  ∃ (s : Nat) (R : List Bool), s + k = 32 ∧ i = .int .i64 (s : Int) ∧ BR w.heap.size wr gl N N R ∧ Crc.hr R = X ^^^ Crc.rp (8 * b.length) (Crc.acc s Crc.full) ∧ Below w.heap.size w wr

theorem and8_1 (y : Nat) (h : y < 256) : bits .and .u8 (y : Int) 1 = ((y % 2 : Nat) : Int) := by
  have := u8_and_nat y 1 h (by omega)
  rw [nat_mask1] at this
  exact this
theorem byte_bit (x s : Nat) (hx : x < 256) (hs : s < 8) : (bits .and .u8 ((x : Int) / 2 ^ s) 1 == 1) = (BitVec.ofNat 32 x).getLsbD s := by
  have e : (x : Int) / 2 ^ s = ((x / 2 ^ s : Nat) : Int) := by push_cast; rfl
  have hlt : x / 2 ^ s < 256 := Nat.lt_of_le_of_lt (Nat.div_le_self _ _) hx
  rw [e, and8_1 _ hlt, BitVec.getLsbD_ofNat, Nat.testBit_eq_decide_div_mod_eq, decide_eq_true (by omega : s < 32)]
  rcases Nat.mod_two_eq_zero_or_one (x / 2 ^ s) with h | h <;> rw [h] <;> rfl
theorem row_put (b : List Nat) (t s x : Nat) (R : List Bool) (ht : t < b.length) (hs : s < 8) (hR : R.length = 8 * b.length + 32) (hf : R[8 * t + s]? = some false)
    (hX : Crc.hr R = Crc.vb b b.length t ^^^ Crc.rp (8 * (b.length - t)) (Crc.acc s (BitVec.ofNat 32 x))) :
    Crc.hr (R.set (8 * t + s) ((BitVec.ofNat 32 x).getLsbD s)) = Crc.vb b b.length t ^^^ Crc.rp (8 * (b.length - t)) (Crc.acc (s + 1) (BitVec.ofNat 32 x)) := by
  rw [Crc.hr_put R _ _ hf, hX, hR, Crc.byte_pw b.length t s ht hs, Crc.acc_succ, Crc.rp_xor, Crc.wt_rp, BitVec.xor_assoc]
theorem full_bit : ∀ s, s < 32 → Crc.full.getLsbD s = true := by decide
theorem head_turn (b : List Nat) (s : Nat) (R : List Bool) (d : Bool) {X : BitVec 32} (hs : s < 32) (hR : R.length = 8 * b.length + 32) (hd : R[s]? = some d)
    (hX : Crc.hr R = X ^^^ Crc.rp (8 * b.length) (Crc.acc s Crc.full)) : Crc.hr (R.set s (!d)) = X ^^^ Crc.rp (8 * b.length) (Crc.acc (s + 1) Crc.full) := by
  rw [Crc.hr_flip R _ d hd, hX, hR, Crc.head_pw b.length s hs, Crc.acc_succ, full_bit s hs, Crc.rp_xor, BitVec.xor_assoc]; rfl

set_option maxRecDepth 100000 in
set_option maxHeartbeats 1000000 in
theorem rsum_at (A : Option Addr) (c : Nat) (b : List Nat) (w : World) (hn : b.length ≤ 3000) (hl : BC w A b) :
    Calls Try.prog 12 #[.slice A b.length c] w fun e w' => e = .returned (.int .u32 (iv (Crc.sumB b))) ∧ Below w.heap.size w w' := by
  obtain ⟨i0, hi, hz0, hz1, hz2⟩ := info_parts info4
  have HL := Lib.hid hl; clear hl
  go_enter Try.func12, Try.ntmps12
  go_wp2_with (at_make; refine wpList_make_full _ rfl (.tmp 10) (.tmp 10) 40 rfl w.heap.size 4 i0 (.bool false) 1 Try.underlying40 hi hz0 hz1 _ _ _ _ (8 * b.length + 32) rfl rfl ?d1 ?d2 ?d3 ?d4 (Nat.le_refl _) ?_)
  case d1 => omega
  case d2 => omega
  case d3 => rw [hz2]; omega
  case d4 => unfold maxLen; omega
  intro w1 hown hgrow
  have hbr := made_br hown
  have hbw : Below w.heap.size w w1 := Below.grown (Below.refl _ _) hgrow (Nat.le_refl _) (fun k hk => by cases hk)
  obtain ⟨N, eN⟩ : ∃ N, 8 * b.length + 32 = N := ⟨_, rfl⟩
  rw [eN] at hbr ⊢
  have EN := Lib.hid eN
  have HR := Lib.hid hbr
  have HW := Lib.hid hbw
  clear hbr hbw hown hgrow eN
  go_wp2
  go_loopg [4] b.length (fun k i wr => ROut b w w.heap.size N k i wr)
  case atStart => exact ⟨0, _, by omega, rfl, HR.out, by rw [Crc.hr_false, Crc.vb_zero], fun u _ hu => by rw [List.getElem?_replicate, if_pos hu], HW.out⟩
  case round =>
    clear HR HW
    obtain ⟨t, R, hk, rfl, hbr, hX, hz, hbw⟩ := hrel
    have HR := Lib.hid hbr
    have HX := Lib.hid hX
    have HZ := Lib.hid hz
    have HW := Lib.hid hbw
    clear hbr hX hz hbw
    by_cases hlt : t < b.length
    · obtain ⟨G, hG⟩ : ∃ G, gk = G + 1 := ⟨gk - 1, by omega⟩
      obtain ⟨x, ex⟩ : ∃ x, x = b[t] := ⟨_, rfl⟩
      have HV := Lib.hid (Crc.vb_succ b t hlt)
      rw [← ex] at HV
      have hbx : b[t]? = some x := by rw [List.getElem?_eq_getElem hlt, ex]
      have HBX := Lib.hid hbx
      clear hbx ex
      go_wp2
      go_loopg [5] 8 (fun k i wr => RIn b w w.heap.size N t x k i wr)
      case atStart => exact ⟨0, R, by omega, rfl, HR.out, by rw [HX.out]; show _ = _ ^^^ Crc.rp _ 0#32; rw [Crc.rp_zero, BitVec.xor_zero], HZ.out, HW.out⟩
      case round =>
        clear HR HX HZ HW
        obtain ⟨s, R2, hs, rfl, hbr, hX, hz, hbw⟩ := hrel
        obtain ⟨hx, ad, rfl, hc⟩ := (HL.out.below hbw) t x HBX.out
        by_cases hlt2 : s < 8
        · have hN := EN.out
          have hf0 := hz (8 * t + s) (Nat.le_refl _) (by omega)
          have hcl := hbr.cell _ _ hf0
          have hfl := hbr.free (8 * t + s)
          have hbit := byte_bit x s hx hlt2
          have hX2 := row_put b t s x R2 hlt hlt2 (by rw [hbr.1]; exact hN.symm) hf0 hX
          have hbr2 := hbr.store (8 * t + s) ((BitVec.ofNat 32 x).getLsbD s)
          have hbw2 := hbw.setCell (p := ⟨w.heap.size, 8 * t + s, none⟩) (Nat.le_refl _) (.bool ((BitVec.ofNat 32 x).getLsbD s))
          have hz2 : ∀ u, 8 * t + (s + 1) ≤ u → u < N → (R2.set (8 * t + s) ((BitVec.ofNat 32 x).getLsbD s))[u]? = some false := fun u h1 h2 => by
            rw [List.getElem?_set, if_neg (by omega)]; exact hz u (by omega) h2
          have HX2 := Lib.hid hX2
          have HR2 := Lib.hid hbr2
          have HW2 := Lib.hid hbw2
          have HZ2 := Lib.hid hz2
          clear hX2 hbr2 hbw2 hz2 hbr hX hz hbw hf0
          obtain ⟨u, eu⟩ : ∃ u, 8 * t + s = u := ⟨_, rfl⟩
          have hsum : 8 * (t : Int) + (s : Int) = (u : Int) := by omega
          have hu : u < N := by omega
          have EU := Lib.hid eu
          rw [eu] at hcl hfl HR2 HW2 HX2 HZ2
          clear eu hN
          obtain ⟨bit, ebit⟩ : ∃ bit, bit = (BitVec.ofNat 32 x).getLsbD s := ⟨_, rfl⟩
          rw [← ebit] at hbit HR2 HW2 HX2 HZ2
          clear ebit
          go_wp2
          go_roundg (gk - 1)
          case measure => omega
          case rel => exact ⟨s + 1, _, by omega, by go_num, HR2.out, HX2.out, HZ2.out, HW2.out⟩
        · obtain rfl : s = 8 := by omega
          rw [Crc.acc_eight x hx, ← HV.out] at hX
          have HR := Lib.hid hbr
          have HX := Lib.hid hX
          have HZ := Lib.hid hz
          have HW := Lib.hid hbw
          clear hbr hX hz hbw
          go_wp2
          go_roundg G
          case measure => omega
          case rel => exact ⟨t + 1, R2, by omega, by go_num, HR.out, HX.out, fun u h1 h2 => HZ.out u (by omega) h2, HW.out⟩
    · obtain rfl : t = b.length := by omega
      clear HZ
      go_wp2
      go_loopg [6] 32 (fun k i wr => RTurn (Crc.vb b b.length b.length) b w w.heap.size N k i wr)
      case atStart => exact ⟨0, R, by omega, rfl, HR.out, by rw [HX.out]; show _ = _ ^^^ Crc.rp _ 0#32; rw [Crc.rp_zero, BitVec.xor_zero], HW.out⟩
      case round =>
        clear HR HX HW
        obtain ⟨s, R2, hs, rfl, hbr, hX, hbw⟩ := hrel
        have hN := EN.out
        by_cases hlt2 : s < 32
        · have hl : s < R2.length := by rw [hbr.1]; omega
          obtain ⟨d, hd⟩ : ∃ d, R2[s]? = some d := ⟨_, List.getElem?_eq_getElem hl⟩
          have hcl := hbr.cell s d hd
          have hfl := hbr.free s
          have hbr2 := hbr.store s (!d)
          have hbw2 := hbw.setCell (p := ⟨w.heap.size, s, none⟩) (Nat.le_refl _) (.bool (!d))
          have hX2 := head_turn b s R2 d hlt2 (by rw [hbr.1]; exact hN.symm) hd hX
          have HX2 := Lib.hid hX2
          have HR2 := Lib.hid hbr2
          have HW2 := Lib.hid hbw2
          have hu : s < N := by omega
          clear hX2 hbr2 hbw2 hbr hX hbw hd hl hN
          go_wp2
          go_roundg (gk - 1)
          case measure => omega
          case rel => exact ⟨s + 1, _, by omega, by go_num, HR2.out, HX2.out, HW2.out⟩
        · obtain rfl : s = 32 := by omega
          have hpos : 0 < N := by omega
          have hmax : N ≤ 100000 := by omega
          have HR := Lib.hid hbr
          have HX := Lib.hid hX
          have HW := Lib.hid hbw
          clear hbr hX hbw hN
          go_wp2_with fail
          refine (rest_br HR.out hpos hmax).mono ?_
          rintro e w4 ⟨rfl, hb4⟩
          have HB4 := Lib.hid hb4; clear hb4
          go_wp2
          go_ret
          exact ⟨ret_int (by rw [lit_full, iv_xor, HX.out, Crc.sum_of_row]), HW.out.trans (HB4.out.mono HW.out.size)⟩

theorem rsum_any (v : Value) (b : List Nat) (w : World) (hn : b.length ≤ 3000) (h : Bytes w v b) :
    Calls Try.prog 12 #[v] w fun e w' => e = .returned (.int .u32 (iv (Crc.sumB b))) ∧ Below w.heap.size w w' := by
  obtain ⟨A, c, rfl, hl⟩ := h
  exact rsum_at A c b w hn hl

end Go.Proofs.Ytgfofmcgfmhaeaa
