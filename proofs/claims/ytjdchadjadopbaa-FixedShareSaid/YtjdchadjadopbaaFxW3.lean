/-
  What is proved here: contracts of package fixed's putDigits and Text: a number's text. Condition of putDigits: the digits have room ahead of the place.
-/
import Derived.Test.YtjdchadjadopbaaFxMem
import Derived.Deep.CutRange
namespace Go.Proofs.Ytjdchadjadopbaa.Fx
open Go.RowKit

def byt (d : Nat) : UInt8 := UInt8.ofNat (48 + d)
theorem byt_int (d : Nat) (h : d < 10) : ((byt d).toNat : Int) = 48 + (d : Int) := by
  unfold byt; rw [UInt8.toNat_ofNat']; omega

/-- The loop of putDigits: m is left, t is written. -/
def PdRel (w : World) (L : List UInt8) (gb e n l : Nat) (g : Nat) (v b : Value) (wr : World) : Prop :=
  ∃ (m c : Nat) (t : List UInt8), m + (l - t.length) = g ∧ m ≤ n ∧ v = .int .i64 (m : Int) ∧ b = .int .i64 (c : Int) ∧ c + t.length = e ∧ pd l n = pd (l - t.length) m ++ t ∧ Row 38 wr gb (L.take c ++ t ++ L.drop e) ∧ w.grownBy wr (some gb)

theorem put_list (L t : List UInt8) (c e : Nat) (x : UInt8) (h : c + 1 ≤ L.length) : (L.take (c + 1) ++ t ++ L.drop e).set c x = L.take c ++ (x :: t) ++ L.drop e := by
  have h1 : L.take (c + 1) = L.take c ++ [L[c]] := by rw [List.take_succ_eq_append_getElem (by omega)]
  rw [h1, List.append_assoc, List.append_assoc, List.set_append_right _ _ (by rw [List.length_take]; omega), List.length_take, Nat.min_eq_left (by omega), Nat.sub_self]
  simp

theorem pd_room {l n k m : Nat} {t : List UInt8} {e : Nat} (h : pd l n = pd k m ++ t) (hne : ¬ (k = 0 ∧ m = 0)) (hr : (pd l n).length ≤ e) : t.length < e := by
  rw [h, List.length_append] at hr
  have : 1 ≤ (pd k m).length := by rw [pd_cons k m hne, List.length_append]; simp
  omega

theorem put_step {w wr : World} {L t : List UInt8} {gb e n l m c : Nat} (hL : L.length = 20) (hmn : m ≤ n) (hc : c + 1 + t.length = e) (hd : pd l n = pd (l - t.length) m ++ t) (hr : Row 38 wr gb (L.take (c + 1) ++ t ++ L.drop e)) (hw : w.grownBy wr (some gb)) (hz : ¬ (l - t.length = 0 ∧ m = 0)) (he : e ≤ 20) :
    PdRel w L gb e n l (m / 10 + (l - (t.length + 1))) (.int .i64 ((m : Int) / 10)) (.int .i64 (c : Int)) (wr.setCell ⟨gb, c, none⟩ (.int .u8 (48 + (m : Int) % 10))) := by
  refine ⟨m / 10, c, byt (m % 10) :: t, by simp, by omega, by go_num, rfl, by simp; omega, ?_, ?_, only_set hw _ _⟩
  · rw [hd, pd_cons _ _ hz, List.append_assoc, List.length_cons, Nat.sub_sub]; rfl
  · have h := hr.set c (byt (m % 10))
    rw [byt_int _ (by omega), put_list _ _ _ _ _ (by omega)] at h
    rw [show ((m % 10 : Nat) : Int) = (m : Int) % 10 by omega] at h
    exact h
set_option maxRecDepth 100000 in
set_option maxHeartbeats 1000000 in
theorem put_any (gb e n l : Nat) (L : List UInt8) (w : World) (hg : Hid (Row 38 w gb L)) (hL : L.length = 20) (he : e ≤ 20) (_hl : l ≤ 20) (hn : n ≤ 9223372036854775807) (ht : (pd l n).length ≤ e) :
    Calls Try.prog 24 #[.pointer (some ⟨gb, 0, none⟩), .int .i64 (e : Int), .int .i64 (n : Int), .int .i64 (l : Int)] w fun r w' => r = .returned (.int .i64 ((e - (pd l n).length : Nat) : Int)) ∧ Hid (Row 38 w' gb (L.take (e - (pd l n).length) ++ pd l n ++ L.drop e)) ∧ w.grownBy w' (some gb) := by
  have HT := Lib.hid ht; have HL := Lib.hid hL; clear ht hL
  go_enter Try.func24, Try.ntmps24
  go_wp2_with fail
  go_loopg [2, 9] (n + l) (fun g v b wr => PdRel w L gb e n l g v b wr)
  case atStart => exact ⟨n, e, [], rfl, Nat.le_refl _, rfl, rfl, rfl, by simp, by simpa using hg.out, only_refl _ _⟩
  case round =>
    obtain ⟨m, c, t, hmg, hmn, rfl, rfl, hc, hd, hr, hw⟩ := hrel
    have HD := Lib.hid hd; have HR := Lib.hid hr; have HW := Lib.hid hw; clear hd hr hw
    have hce : c ≤ e := by omega
    by_cases hz : l - t.length = 0 ∧ m = 0
    · obtain ⟨hz1, rfl⟩ := hz
      have h3 : (l : Int) ≤ (e : Int) - (c : Int) := by omega
      have e1 : pd l n = t := by rw [HD.out, hz1, pd_nil]; rfl
      have E1 := Lib.hid e1; clear e1
      have HC := Lib.hid hc; clear hc hz1 hmg
      go_wp2
      all_goals (try (exfalso; omega))
      go_ret
      rw [E1.out]
      have e2 : e - t.length = c := by have := HC.out; omega
      rw [e2]
      exact ⟨rfl, HR, HW.out⟩
    · have hroom := pd_room HD.out hz HT.out
      obtain ⟨c, rfl⟩ : ∃ k, c = k + 1 := ⟨c - 1, by omega⟩
      have hlen : (L.take (c + 1) ++ t ++ L.drop e).length = 20 := by have := HL.out; simp; omega
      obtain ⟨u, hu⟩ := HR.out.has c (by rw [hlen]; omega)
      have hf := HR.out.free c
      have HC := Lib.hid hc; have HM := Lib.hid hmg; have HZ := Lib.hid hz; clear hc hmg hz hlen
      have hlt : t.length < e := hroom
      by_cases hm : 0 < m
      · go_wp2
        all_goals (try (exfalso; omega))
        go_roundg (m / 10 + (l - (t.length + 1)))
        case measure => have := HM.out; have := HZ.out; omega
        case rel => exact put_step HL.out hmn HC.out HD.out HR.out HW.out HZ.out he
      · obtain rfl : m = 0 := by omega
        have h3 : (e : Int) - ((c : Int) + 1) < (l : Int) := by have := HZ.out; have := HC.out; omega
        have h4 : t.length < l := by have := HZ.out; omega
        clear HZ
        go_wp2
        all_goals (try (exfalso; omega))
        go_roundg (0 / 10 + (l - (t.length + 1)))
        case measure => have := HM.out; omega
        case rel => exact put_step HL.out hmn HC.out HD.out HR.out HW.out (by omega) he

theorem put_at (gb e n l b : Nat) (E N K B : Int) (L t : List UInt8) (w : World) (hE : E = (e : Int)) (hN : N = (n : Int)) (hK : K = (l : Int)) (hB : B = (b : Int)) (ht : Hid (pd l n = t)) (hb : Hid (b + t.length = e)) (hg : Hid (Row 38 w gb L)) (hL : Hid (L.length = 20)) (he : e ≤ 20) (hl : l ≤ 20) (hn : n ≤ 9223372036854775807) :
    Calls Try.prog 24 #[.pointer (some ⟨gb, 0, none⟩), .int .i64 E, .int .i64 N, .int .i64 K] w fun r w' => r = .returned (.int .i64 B) ∧ Hid (Row 38 w' gb (L.take b ++ t ++ L.drop e)) ∧ Hid (w.grownBy w' (some gb)) := by
  subst hE hN hK hB
  have h1 := ht.out; have h2 := hb.out
  have := put_any gb e n l L w hg hL.out he hl hn (by rw [h1]; omega)
  rw [h1, show e - t.length = b by omega] at this
  exact this.mono fun r w' ⟨hr, h3, h4⟩ => ⟨hr, h3, Lib.hid h4⟩

theorem text_tail {w : World} {g : Nat} {L : List UInt8} (t1 t2 : List UInt8) (h2 : t2.length = 9) (h1 : t1.length ≤ 10) (hL : L.length = 20) (hr : Row 38 w g (((((L.take 11 ++ t2 ++ L.drop 20).set 10 46).take (10 - t1.length)) ++ t1 ++ ((L.take 11 ++ t2 ++ L.drop 20).set 10 46).drop 10))) : ∃ M : List UInt8, Row 38 w g M ∧ M.length = 20 ∧ M.drop (10 - t1.length) = t1 ++ 46 :: t2 := by
  refine ⟨_, hr, ?_, ?_⟩
  · simp; omega
  · have e0 : L.drop 20 = [] := List.drop_eq_nil_of_le (by omega)
    have e1 : ((L.take 11 ++ t2 ++ L.drop 20).set 10 46).drop 10 = 46 :: t2 := by
      have e2 : L.take 11 = L.take 10 ++ [L[10]] := by rw [List.take_succ_eq_append_getElem (by omega)]
      rw [e0, List.append_nil, e2, List.append_assoc, List.set_append_right _ _ (by rw [List.length_take]; omega), List.length_take, Nat.min_eq_left (by omega)]
      simp [hL]
    rw [e1, List.append_assoc, List.drop_append_of_le_length (by simp; omega)]
    rw [List.drop_eq_nil_of_le (by simp; omega)]
    rfl

theorem arr_len : Try.prog.arrayLen 38 = 20 := by kernel_rfl
theorem arr_elem : Try.prog.elem 38 = 5 := by kernel_rfl
theorem arr_under : Try.prog.underlying 38 = some (.array (Try.prog.arrayLen 38) (Try.prog.elem 38)) := by rw [arr_len, arr_elem]; exact Try.underlying38
theorem arr_cut (w : World) (g b : Nat) (hb : b ≤ 9) : (Instr.sliceAt 38 (.pointer (some ⟨g, 0, none⟩)) (some (.int .i64 (b : Int))) none none).run Try.prog w = .ok (.slice (some ⟨g, b, none⟩) (20 - b) (20 - b)) w := by
  rw [run_sliceAt_array_l w 38 ⟨g, 0, none⟩ arr_under .i64 (b : Int) (by omega) (by rw [arr_len]; omega), arr_elem, Try.sizeOf5]
  show Result.ok (slicedAt _ _ _ _ _) w = _
  unfold slicedAt
  rw [arr_len, if_neg (by omega), add_plain]
  simp

set_option maxRecDepth 100000 in
set_option maxHeartbeats 1000000 in
theorem text_nat (a : Nat) (w : World) (h : a ≤ 9223372036854775807) : Calls Try.prog 18 #[.int .i64 (a : Int)] w fun r w' => r = .returned (.string (sb (txtN a))) ∧ Below w.heap.size w w' := by
  obtain ⟨R, hR, hR1⟩ : ∃ R : Nat, a % 4294967296 * 1000000000 / 4294967296 = R ∧ R < 1000000000 := ⟨_, rfl, by omega⟩
  obtain ⟨W, hW, hW1⟩ : ∃ W : Nat, a / 4294967296 = W ∧ W < 2147483648 := ⟨_, rfl, by omega⟩
  have f1 : (a : Int) % 4294967296 * 1000000000 / 4294967296 = (R : Int) := by omega
  have f2 : (a : Int) / 4294967296 = (W : Int) := by omega
  have HE := Lib.hid (show txtN a = pd 1 W ++ 46 :: pd 9 R by unfold txtN; rw [hR, hW])
  have n9 := pd_nine R hR1
  have n1 := pd_ten W (by omega)
  clear hR hW
  obtain ⟨t2, h2⟩ : ∃ t, pd 9 R = t := ⟨_, rfl⟩
  obtain ⟨t1, h1⟩ : ∃ t, pd 1 W = t := ⟨_, rfl⟩
  rw [h2] at n9; rw [h1] at n1
  have HE := Lib.hid (show txtN a = t1 ++ 46 :: t2 by rw [HE.out, h1, h2])
  have H1 := Lib.hid h1; have H2 := Lib.hid h2; have N9 := Lib.hid n9; clear h1 h2 n9
  obtain ⟨n1a, n1b⟩ := n1
  go_enter Try.func18, Try.ntmps18
  go_wp2_with fail
  refine (put_at w.heap.size 20 R 9 11 20 (R : Int) 9 11 (List.replicate 20 0) t2 _ rfl rfl rfl rfl H2 (Lib.hid (by rw [N9.out])) (Lib.hid ?hrow) (Lib.hid (by simp)) (by omega) (by omega) (by omega)).mono ?_
  case hrow => exact heap_alloc_new w _
  rintro r w1 ⟨rfl, HR1, HG1⟩
  have hf := HR1.out.free 10
  obtain ⟨u, hu⟩ := HR1.out.has 10 (by simp)
  go_wp2_with fail
  obtain ⟨b, hb⟩ : ∃ b : Nat, b + t1.length = 10 := ⟨10 - t1.length, by omega⟩
  have HB := Lib.hid hb
  refine (put_at w.heap.size 10 W 1 b 10 (W : Int) 1 (b : Int) (((List.replicate 20 (0 : UInt8)).take 11 ++ t2 ++ (List.replicate 20 (0 : UInt8)).drop 20).set 10 46) t1 _ rfl rfl rfl rfl H1 HB (Lib.hid ?hrow2) (Lib.hid (by have := N9.out; simp; omega)) (by omega) (by omega) (by omega)).mono ?_
  case hrow2 => exact HR1.out.set 10 46
  rintro r w2 ⟨rfl, HR2, HG2⟩
  have hbb : b = 10 - t1.length := by omega
  obtain ⟨M, hM, hM1, hM2⟩ := text_tail t1 t2 N9.out n1b (List.length_replicate ..) (by rw [← hbb]; exact HR2.out)
  rw [← hbb] at hM2
  clear hf hu
  have hcv := fun n c hn => conv_row w2 w.heap.size b c n M (t1 ++ 46 :: t2) hM hM2 hn
  have hb9 : b ≤ 9 := by omega
  have hcv2 := hcv (20 - b) (20 - b) (by have := N9.out; simp; omega)
  clear hcv hbb hb
  have hcut := arr_cut w2 w.heap.size b hb9
  have HM := Lib.hid hM; have HM1 := Lib.hid hM1; have HM2 := Lib.hid hM2; clear hM hM1 hM2
  have HB2 : Hid (Below w.heap.size w w2) := by
    have b0 := (Below.refl w.heap.size w).alloc (Nat.le_refl _) (.cells #[.int .u8 0, .int .u8 0, .int .u8 0, .int .u8 0, .int .u8 0, .int .u8 0, .int .u8 0, .int .u8 0, .int .u8 0, .int .u8 0, .int .u8 0, .int .u8 0, .int .u8 0, .int .u8 0, .int .u8 0, .int .u8 0, .int .u8 0, .int .u8 0, .int .u8 0, .int .u8 0] 38)
    have b1 := below_only b0 HG1.out (by simp) (Nat.le_refl _)
    have b2 := b1.setCell (p := ⟨w.heap.size, 10, none⟩) (Nat.le_refl _) (.int .u8 46)
    exact Lib.hid (below_only b2 HG2.out (by simpa using b1.size) (Nat.le_refl _))
  go_wp2
  go_ret
  rw [HE.out]
  exact ⟨rfl, HB2.out⟩
set_option maxRecDepth 100000 in
theorem text_neg (a : Int) (w : World) (h : a < 0) : Calls Try.prog 18 #[.int .i64 a] w fun r w' => r = .returned (.string (sb [])) ∧ w = w' := by
  go_enter Try.func18, Try.ntmps18
  go_wp2
  go_ret
  exact ⟨rfl, rfl⟩
theorem text_any (a : Int) (w : World) (h1 : a ≤ 9223372036854775807) : Calls Try.prog 18 #[.int .i64 a] w fun r w' => r = .returned (.string (sb (txt a))) ∧ Below w.heap.size w w' := by
  by_cases h : a < 0
  · rw [txt_neg a h]
    refine (text_neg a w h).mono fun e w' ⟨he, hb⟩ => ⟨he, ?_⟩
    rw [← hb]; exact Below.refl _ _
  · obtain ⟨m, rfl⟩ : ∃ m : Nat, a = (m : Int) := ⟨a.toNat, by omega⟩
    rw [txt_nat]
    exact text_nat m w (by omega)

end Go.Proofs.Ytjdchadjadopbaa.Fx
