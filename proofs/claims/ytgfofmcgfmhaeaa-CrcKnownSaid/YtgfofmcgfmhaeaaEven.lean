/-
  What is proved here: Rows.CrcEvenSaid: of any two slices of bytes the law's function CrcEven returns true (of two rows of as many bytes, at most 10000, the checks differ in an even number of bits just if the rows do), the slices read as they did, and no block that was there has changed. No condition.
-/
import Derived.Test.YtgfofmcgfmhaeaaLaw2
import Derived.Deep.QuietTactic
import Derived.BigQuiet
import Derived.IntWalk
namespace Go.Proofs.Ytgfofmcgfmhaeaa
open Go.ChangeShapes Go.WideShapes Go.ChangeAt Go.RowKit

theorem and1_nat (y : Nat) (h : y < 4294967296) : bits .and .u32 (y : Int) 1 = ((y % 2 : Nat) : Int) := by
  have := u32_and_nat y 1 h (by omega)
  rw [nat_mask1] at this
  exact this

def OnesRel (n : Nat) (w : World) (g : Nat) (x k : Value) (wr : World) : Prop :=
  ∃ y c : Nat, x = .int .u32 (y : Int) ∧ k = .int .i64 (c : Int) ∧ wr = w ∧ y < 2 ^ g ∧ c + g ≤ 32 ∧ c + Crc.on g y = n

theorem on_zero (g : Nat) : Crc.on g 0 = 0 := by
  induction g with
  | zero => rfl
  | succ g ih => simp [Crc.on, ih]

theorem on_succ (g y : Nat) : Crc.on (g + 1) y = y % 2 + Crc.on g (y / 2) := rfl

set_option maxHeartbeats 400000 in
theorem ones_any (z : Nat) (hz : z < 4294967296) (w : World) :
    Calls Try.prog 18 #[.int .u32 (z : Int)] w fun e w' => e = .returned (.int .i64 ((Crc.on 32 z % 2 : Nat) : Int)) ∧ w = w' := by
  have HZ := Lib.hid hz; clear hz
  go_enter Try.func18, Try.ntmps18
  go_wp2
  go_loopg [0, 3] 32 (fun g x k wr => OnesRel (Crc.on 32 z) w g x k wr)
  case atStart => exact ⟨z, 0, rfl, rfl, rfl, HZ.out, by omega, by omega⟩
  case round =>
    obtain ⟨y, c, rfl, rfl, rfl, hy, hc, hn⟩ := hrel
    have HN := Lib.hid hn; clear hn
    by_cases h0 : y = 0
    · subst h0
      have HY := Lib.hid hy; clear hy
      go_wp2
      go_ret
      exact ⟨ret_int (by have := HN.out; rw [on_zero] at this; omega), rfl⟩
    · have hg : 0 < gk := by
        rcases Nat.eq_zero_or_pos gk with e | e
        · subst e; omega
        · exact e
      have h32 : y < 4294967296 := by
        have : 2 ^ gk ≤ 2 ^ 32 := Nat.pow_le_pow_right (by omega) (by omega)
        omega
      have HY := Lib.hid hy; clear hy
      have ha := and1_nat y h32
      have hm : y % 2 ≤ 1 := by omega
      have hpos : 0 < y := by omega
      go_wp2
      go_roundg (gk - 1)
      case measure => omega
      case rel =>
        obtain ⟨g, rfl⟩ : ∃ g, gk = g + 1 := ⟨gk - 1, by omega⟩
        refine ⟨y / 2, c + y % 2, by go_num, by go_num, rfl, ?_, by omega, ?_⟩
        · have := HY.out; simp only [Nat.add_sub_cancel]; rw [Nat.pow_succ] at this; omega
        · have := HN.out; rw [on_succ g y] at this; simp only [Nat.add_sub_cancel]; omega

/- How many places differ, each row's bytes held against the other's. -/
def df (x y : Nat) : Nat := Crc.par (BitVec.ofNat 32 x ^^^ BitVec.ofNat 32 y)
def dif : List Nat → List Nat → Nat
  | x :: a, y :: b => df x y + dif a b
  | _, _ => 0
theorem df_le (x y : Nat) : df x y ≤ 1 := by unfold df Crc.par; omega
theorem dif_le (a b : List Nat) : dif a b ≤ a.length := by
  induction a generalizing b with
  | nil => simp [dif]
  | cons x a ih =>
    cases b with
    | nil => simp [dif]
    | cons y b => have := ih b; have := df_le x y; simp only [dif, List.length_cons]; omega
theorem dif_snoc (a b : List Nat) (x y : Nat) (h : a.length = b.length) : dif (a ++ [x]) (b ++ [y]) = dif a b + df x y := by
  induction a generalizing b with
  | nil => cases b with
    | nil => simp [dif]
    | cons y b => simp at h
  | cons u a ih =>
    cases b with
    | nil => simp at h
    | cons v b => simp only [List.cons_append, dif]; rw [ih b (by simpa using h)]; omega
theorem dif_fld (a b : List Nat) (r s : BitVec 32) (h : a.length = b.length) : Crc.par (Crc.fld r a ^^^ Crc.fld s b) = (Crc.par (r ^^^ s) + dif a b) % 2 := by
  induction a generalizing b r s with
  | nil => cases b with
    | nil => simp only [Crc.fld, List.foldl_nil, dif]; unfold Crc.par; omega
    | cons y b => simp at h
  | cons u a ih =>
    cases b with
    | nil => simp at h
    | cons v b =>
      have := ih b (Crc.stp r u) (Crc.stp s v) (by simpa using h)
      rw [Crc.par_stp] at this
      show Crc.par (Crc.fld (Crc.stp r u) a ^^^ Crc.fld (Crc.stp s v) b) = _
      rw [this]; simp only [dif, df]; omega
theorem dif_sum (a b : List Nat) (h : a.length = b.length) : Crc.par (Crc.sumB a ^^^ Crc.sumB b) = dif a b % 2 := by
  have e : Crc.sumB a ^^^ Crc.sumB b = Crc.fld Crc.full a ^^^ Crc.fld Crc.full b := by
    unfold Crc.sumB
    rw [BitVec.xor_assoc, BitVec.xor_comm Crc.full, BitVec.xor_assoc, BitVec.xor_self, BitVec.xor_zero]
  rw [e, dif_fld a b _ _ h, BitVec.xor_self]
  have : Crc.par 0#32 = 0 := by decide
  rw [this, Nat.zero_add]

theorem xor8 (x y : Nat) (hx : x < 256) (hy : y < 256) : bits .xor .u8 (x : Int) (y : Int) = ((x ^^^ y : Nat) : Int) ∧ x ^^^ y < 256 ∧ Crc.on 32 (x ^^^ y) % 2 = df x y := by
  have hlt : x ^^^ y < 256 := Nat.xor_lt_two_pow (n := 8) hx hy
  refine ⟨u8_xor_nat x y hx hy, hlt, ?_⟩
  unfold df Crc.par
  rw [BitVec.toNat_xor, BitVec.toNat_ofNat, BitVec.toNat_ofNat, Nat.mod_eq_of_lt (by omega : x < 2 ^ 32), Nat.mod_eq_of_lt (by omega : y < 2 ^ 32)]

theorem dif_take (a b : List Nat) (j : Nat) (h : j < a.length) (h2 : j < b.length) : dif (a.take (j + 1)) (b.take (j + 1)) = dif (a.take j) (b.take j) + df a[j] b[j] := by
  rw [List.take_succ_eq_append_getElem h, List.take_succ_eq_append_getElem h2, dif_snoc _ _ _ _ (by rw [List.length_take, List.length_take]; omega)]
theorem ones_to (z p : Nat) (hz : z < 4294967296) (h : Crc.on 32 z % 2 = p) (w : World) :
    Calls Try.prog 18 #[.int .u32 (z : Int)] w fun e w' => e = .returned (.int .i64 (p : Int)) ∧ w' = w := by
  subst h
  exact (ones_any z hz w).mono fun _ _ ⟨h1, h2⟩ => ⟨h1, h2.symm⟩

theorem below_drewN {B : Nat} {a w : World} (h : Below B a w) (n : Nat) : Below B a (w.drewN n) := ⟨h.os, h.tape, h.output, h.size, h.block⟩

theorem even_step (a b : List Nat) (j : Nat) (h : j < a.length) (h2 : j < b.length) (hx : a[j] < 256) (hy : b[j] < 256) :
    ∃ D P z : Nat, dif (a.take j) (b.take j) = D ∧ bits .xor .u8 (a[j] : Int) (b[j] : Int) = (z : Int) ∧ z < 256 ∧ P ≤ 1 ∧
      (∀ w : World, Calls Try.prog 18 #[.int .u32 (z : Int)] w fun e w' => e = .returned (.int .i64 (P : Int)) ∧ w' = w) ∧ dif (a.take (j + 1)) (b.take (j + 1)) = D + P := by
  obtain ⟨e1, hz, e2⟩ := xor8 a[j] b[j] hx hy
  exact ⟨_, df a[j] b[j], a[j] ^^^ b[j], rfl, e1, hz, df_le _ _, fun w => ones_to _ _ (by omega) e2 w, dif_take a b j h h2⟩

theorem even_end (a b : List Nat) (h : a.length = b.length) :
    ∃ D Z : Nat, dif (a.take a.length) (b.take a.length) = D ∧ bits .xor .u32 (iv (Crc.sumB a)) (iv (Crc.sumB b)) = (Z : Int) ∧ Z < 4294967296 ∧
      (∀ w : World, Calls Try.prog 18 #[.int .u32 (Z : Int)] w fun e w' => e = .returned (.int .i64 ((D % 2 : Nat) : Int)) ∧ w' = w) ∧ (D % 2 = 1 → Z ≠ 0) := by
  have e := dif_sum a b h
  refine ⟨dif a b, (Crc.sumB a ^^^ Crc.sumB b).toNat, ?_, iv_xor _ _, (Crc.sumB a ^^^ Crc.sumB b).isLt, fun w => ones_to _ _ (Crc.sumB a ^^^ Crc.sumB b).isLt e w, fun h1 hz => ?_⟩
  · rw [List.take_length, h, List.take_length]
  · unfold Crc.par at e
    rw [hz] at e
    have : Crc.on 32 0 = 0 := on_zero 32
    omega

def EvenRel (a b : List Nat) (w : World) (g : Nat) (k i : Value) (wr : World) : Prop :=
  ∃ j : Nat, j + g = a.length ∧ i = .int .i64 (j : Int) ∧ k = .int .i64 ((dif (a.take j) (b.take j) : Nat) : Int) ∧ Below w.heap.size w wr

set_option maxHeartbeats 1000000 in
theorem even_in (A B : Option Addr) (c d : Nat) (a b : List Nat) (w : World) (h1 : a.length ≤ 10000) (h2 : a.length = b.length)
    (ha : ∀ (k x : Nat), a[k]? = some x → x < 256 ∧ ∃ ad, A = some ad ∧ w.cell? (ad.add k) = some (.int .u8 (x : Int)))
    (hb : ∀ (k x : Nat), b[k]? = some x → x < 256 ∧ ∃ ad, B = some ad ∧ w.cell? (ad.add k) = some (.int .u8 (x : Int))) :
    Calls Try.prog 8 #[.slice A a.length c, .slice B a.length d] w fun e w' => e = .returned (.bool true) ∧ Below w.heap.size w w' := by
  have HA := Lib.hid ha; clear ha
  have HB := Lib.hid hb; clear hb
  have H2 := Lib.hid h2; clear h2
  go_enter Try.func8, Try.ntmps8
  go_wp2
  go_loopg [5, 6] a.length (fun g k i wr => EvenRel a b w g k i wr)
  case atStart => exact ⟨0, by omega, rfl, rfl, Below.refl _ _⟩
  case round =>
    obtain ⟨j, hj, rfl, rfl, hbw⟩ := hrel
    have HW := Lib.hid hbw; clear hbw
    have hd : dif (a.take j) (b.take j) ≤ 10000 := by
      have := dif_le (a.take j) (b.take j)
      have : (a.take j).length ≤ a.length := by rw [List.length_take]; omega
      omega
    by_cases hlt : j < a.length
    · have hlt2 : j < b.length := by have := H2.out; omega
      obtain ⟨hx, ad, rfl, hc1⟩ := HA.out j a[j] (List.getElem?_eq_getElem hlt)
      obtain ⟨hy, ad2, rfl, hc2⟩ := HB.out j b[j] (List.getElem?_eq_getElem hlt2)
      have hc1 := (HW.out.cell (block_lt_of_cell hc1)).trans hc1
      have hc2 := (HW.out.cell (block_lt_of_cell hc2)).trans hc2
      obtain ⟨D, P, z, eD, e1, hz, hp, hO, hS⟩ := even_step a b j hlt hlt2 hx hy
      rw [eD] at hd ⊢
      have HS := Lib.hid hS
      have HO := Lib.hid hO
      clear hS hO eD
      obtain ⟨x, ex⟩ : ∃ x, x = a[j] := ⟨_, rfl⟩
      obtain ⟨y, ey⟩ : ∃ y, y = b[j] := ⟨_, rfl⟩
      rw [← ex] at e1 hx hc1
      rw [← ey] at e1 hy hc2
      clear ex ey
      go_wp2
      have b1 : IntKind.i64.wrap ((D : Int) + (P : Int)) = (D : Int) + (P : Int) := IntWalk.i64_in _ (by omega)
      have b2 : (0 : Int) ≤ (j : Int) := by omega
      have b3 : (j : Int) < (a.length : Int) := by omega
      go_quiet ((go_at_call 18; exact Calls.quiet_of_same (HO.out _)))
      clear b1
      go_wp2
      go_roundg (gk - 1)
      case measure => omega
      case rel =>
        exact ⟨j + 1, by omega, by go_num, by rw [HS.out]; go_num, below_drewN HW.out _⟩
    · obtain rfl : j = a.length := by omega
      have hBa : Bytes wr (.slice A a.length c) a := ⟨A, c, rfl, fun k x hx => by obtain ⟨g1, ad, e, g2⟩ := HA.out k x hx; exact ⟨g1, ad, e, (HW.out.cell (block_lt_of_cell g2)).trans g2⟩⟩
      have hBb : Bytes wr (.slice B a.length d) b := ⟨B, d, by rw [H2.out], fun k x hx => by obtain ⟨g1, ad, e, g2⟩ := HB.out k x hx; exact ⟨g1, ad, e, (HW.out.cell (block_lt_of_cell g2)).trans g2⟩⟩
      have BA := Lib.hid hBa; clear hBa
      have BB := Lib.hid hBb; clear hBb
      obtain ⟨D, Z, eD, eZ, hZ, hO, hne⟩ := even_end a b H2.out
      rw [eD] at hd ⊢
      have HO := Lib.hid hO
      have H3 := Lib.hid h1
      clear eD hO
      have hm0 : D % 2 < 2 := by omega
      rcases (by omega : D % 2 = 0 ∨ D % 2 = 1) with hm | hm
      · have hmod : (D : Int) % 2 = 0 := by omega
        rw [hm] at HO
        clear hne hm hm0
        go_wp2_with fail
        refine (sum_any _ _ wr (by have := H3.out; omega) BA.out).mono ?_
        rintro e w1 ⟨rfl, hb1⟩
        have HB1 := Lib.hid hb1; clear hb1
        go_wp2_with fail
        refine (sum_any _ _ w1 (by have := H3.out; have := H2.out; omega) (BB.out.below HB1.out)).mono ?_
        rintro e w2 ⟨rfl, hb2⟩
        have HB2 := Lib.hid hb2; clear hb2
        go_wp2_with fail
        refine (HO.out w2).mono ?_
        rintro e w3 ⟨rfl, rfl⟩
        go_wp2_with fail
        refine (works_any _).mono ?_
        rintro e w4 ⟨rfl, hb4⟩
        have HB4 := Lib.hid hb4; clear hb4
        go_wp2
        go_ret
        have g1 := HW.out.trans (HB1.out.mono HW.out.size)
        have g2 := g1.trans (HB2.out.mono g1.size)
        exact ⟨rfl, g2.trans (HB4.out.mono g2.size)⟩
      · have hmod : (D : Int) % 2 = 1 := by omega
        have hz := hne hm
        have hz' : ((Z : Int) != 0) = true := by simp; exact hz
        rw [hm] at HO
        clear hne hm hm0 hz
        go_wp2_with fail
        refine (sum_any _ _ wr (by have := H3.out; omega) BA.out).mono ?_
        rintro e w1 ⟨rfl, hb1⟩
        have HB1 := Lib.hid hb1; clear hb1
        go_wp2_with fail
        refine (sum_any _ _ w1 (by have := H3.out; have := H2.out; omega) (BB.out.below HB1.out)).mono ?_
        rintro e w2 ⟨rfl, hb2⟩
        have HB2 := Lib.hid hb2; clear hb2
        go_wp2_with fail
        refine (HO.out w2).mono ?_
        rintro e w3 ⟨rfl, rfl⟩
        go_wp2_with fail
        refine (works_any _).mono ?_
        rintro e w4 ⟨rfl, hb4⟩
        have HB4 := Lib.hid hb4; clear hb4
        go_wp2
        go_ret
        have g1 := HW.out.trans (HB1.out.mono HW.out.size)
        have g2 := g1.trans (HB2.out.mono g1.size)
        exact ⟨rfl, g2.trans (HB4.out.mono g2.size)⟩

set_option maxHeartbeats 1000000 in
theorem even_out (A B : Option Addr) (n m c d : Nat) (w : World) (h : 10000 < n ∨ (n ≤ 10000 ∧ n ≠ m)) :
    Calls Try.prog 8 #[.slice A n c, .slice B m d] w fun e w' => e = .returned (.bool true) ∧ Below w.heap.size w w' := by
  rcases h with h | ⟨h1, h2⟩
  · go_enter Try.func8, Try.ntmps8
    go_wp2_with (go_at_call 10; refine (works_any _).mono ?_; rintro e w' ⟨rfl, hb⟩)
    go_ret
    exact ⟨rfl, hb⟩
  · have hne : ((n : Int) != (m : Int)) = true := by simp; omega
    go_enter Try.func8, Try.ntmps8
    go_wp2_with (go_at_call 10; refine (works_any _).mono ?_; rintro e w' ⟨rfl, hb⟩)
    go_ret
    exact ⟨rfl, hb⟩

theorem even_walk (v u : Value) (a b : List Nat) (w : World) (ha : Bytes w v a) (hb : Bytes w u b) :
    Calls Try.prog 8 #[v, u] w fun e w' => e = .returned (.bool true) ∧ Below w.heap.size w w' := by
  obtain ⟨A, c, rfl, ha⟩ := ha
  obtain ⟨B, d, rfl, hb⟩ := hb
  by_cases h : a.length ≤ 10000 ∧ a.length = b.length
  · rw [← h.2]; exact even_in A B c d a b w h.1 h.2 ha hb
  · exact even_out A B _ _ c d w (by omega)

set_option maxRecDepth 100000 in
theorem even_lifted (os : Os) (started : os.Started) (H : Type) (enc : TypeId × Value → H) :
    ReturnsInHanded {} Try.checked os 8 .any (Rows.crcEvenSpec.pre6 enc Try.prog Try.f8 Rows.crcEvenRow.domain false) (Rows.crcEvenSpec.post enc Try.prog Try.f8 false true false false) := by
  refine returnsInHanded_of_change (C := Try.checked) own started (by kernel_rfl) Try.func8
    (ChangeSpec.witness6 (enc := enc) (C := Try.checked) false ⟨#[], #[.slice none 0 0, .slice none 0 0], []⟩ 8 (by kernel_rfl) (by kernel_rfl) (by kernel_rfl) (by kernel_rfl)) ?_
  intro W base args ds gs before hval0 hW hcnd _
  have hval : ∀ (j : Nat) t v, Try.f8.params[j]? = some t → args[j]? = some v → Value.okWide Try.prog W .any base t v := hval0
  have hW' := hW
  obtain ⟨p, q, hA0, hV, rfl, hfz, hnd⟩ := hW
  have hA : DataW.TrodAll enc Try.prog W 0 (fun _ => true) true Try.f8.params.toList args.toList ds p := hA0
  rw [Try.params8] at hA hval
  obtain ⟨v0, vs0, d0, ds0, p0, q0, hargs, rfl, rfl, h0, r0⟩ := trodAll_cons hA
  obtain ⟨v1, vs1, d1, ds1, p1, q1, rfl, rfl, rfl, h1, r1⟩ := trodAll_cons r0
  obtain ⟨rfl, rfl, rfl⟩ := trodAll_nil r1
  obtain rfl : args = #[v0, v1] := by cases args; simp_all
  obtain ⟨rfl, rfl⟩ := trodVars_none hV
  obtain ⟨a, _, ha⟩ := bytes_in (hval 0 22 v0 rfl rfl) h0
  obtain ⟨b, _, hb⟩ := bytes_in (hval 1 22 v1 rfl rfl) h1
  clear hA0 hval0
  simp only [List.append_nil] at hW'
  refine (even_walk v0 v1 a b W ha hb).mono fun e W' ⟨he, hg⟩ => ?_
  subst he
  have hlt : ∀ x ∈ p0 ++ p1, x.block < W.heap.size := fun x hx => by simpa using hW'.lt x hx
  refine ⟨_, rfl, law_post2 hW' hg rfl rfl rfl rfl ?_⟩
  have g := trodAll_cons_mk (Below.trod laidOut (by kernel_rfl) (of_decide_eq_true (by kernel_rfl)) h0 hg (fun x hx => hlt x (List.mem_append_left _ hx))) (trodAll_cons_mk (Below.trod laidOut (by kernel_rfl) (of_decide_eq_true (by kernel_rfl)) h1 hg (fun x hx => hlt x (List.mem_append_right _ hx))) trodAll_mk0)
  simp only [List.append_nil] at g
  exact g

theorem even_holds : Rows.CrcEvenSaid :=
  OpenClaim.holds_of_wide 8 Try.f8 rfl rfl rfl rfl rfl rfl rfl ⟨rfl, rfl, rfl, rfl, rfl⟩ rfl rfl rfl rfl rfl (by kernel_rfl) Try.func8 (by kernel_rfl)
    (of_decide_eq_true (by kernel_rfl)) (by unfold Func.isWrapper; first | (rw [if_pos (by decide +kernel)]; kernel_rfl) | (rw [if_neg (by decide +kernel)]; exact ⟨rfl, rfl⟩))
    (fun os started H enc _ => even_lifted os started H enc)
#print axioms even_holds

end Go.Proofs.Ytgfofmcgfmhaeaa
