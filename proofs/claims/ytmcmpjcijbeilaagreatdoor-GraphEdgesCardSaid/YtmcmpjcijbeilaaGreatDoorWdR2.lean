/-
  What is proved here: contracts of the document's own First, Kind, Digit and Print: a rune's kind and value, a number in digits of a kind. No condition but that the kind of First is 0, 1 or 2.
-/
import Derived.Test.YtmcmpjcijbeilaaGreatDoorWdW2
namespace Go.Proofs.YtmcmpjcijbeilaaGreatDoor.Ws
open Go.RowKit Wd

set_option maxRecDepth 100000 in
theorem rfirst_any (K : Int) (k : Nat) (w : World) (hK : K = (k : Int)) (hk : k < 3) : Calls Tryz.prog 49 #[.int .i64 K] w fun e w' => e = .returned (.int .i32 (first k : Int)) ∧ Below w.heap.size w w' := by
  subst hK
  have hb : Below w.heap.size w (w.alloc (.cells #[.int .i32 48, .int .i32 1632, .int .i32 65296] 21)) := (Below.refl _ w).alloc (Nat.le_refl _) _
  have HB := Lib.hid hb; clear hb
  rcases (show k = 0 ∨ k = 1 ∨ k = 2 by omega) with rfl | rfl | rfl
  all_goals
    go_enter Tryz.func49, Tryz.ntmps49
    go_wp2
    go_ret
    exact ⟨rfl, HB.out⟩

set_option maxRecDepth 100000 in
set_option maxHeartbeats 1000000 in
theorem rkind_any (r : Int) (w : World) (_h0 : -2147483648 ≤ r) (_h1 : r ≤ 2147483647) :
    Calls Tryz.prog 60 #[.int .i32 r] w fun e w' => e = .returned (.int .i64 (kdOf r)) ∧ Below w.heap.size w w' := by
  go_enter Tryz.func60, Tryz.ntmps60
  go_wp2
  go_loopg [3] 3 (fun g v wr => KvRel r g v ∧ Below w.heap.size w wr)
  case atStart => exact ⟨⟨0, rfl, rfl, fun j hj => by omega⟩, Below.refl _ w⟩
  case round =>
    obtain ⟨⟨k, hk, rfl, hj⟩, hb⟩ := hrel
    have HB := Lib.hid hb; clear hb
    have HJ := Lib.hid hj; clear hj
    by_cases hk3 : k < 3
    · obtain ⟨F, hF, hF2⟩ : ∃ F : Nat, first k = F ∧ F ≤ 65296 := ⟨_, rfl, by unfold first; split <;> (try split) <;> omega⟩
      have HF := Lib.hid hF; clear hF
      go_wp2_with fail
      refine (rfirst_any (k : Int) k _ rfl hk3).mono ?_
      rw [HF.out]
      rintro e w1 ⟨rfl, hb1⟩
      have HB1 := Lib.hid (below_trans HB.out hb1); clear hb1
      by_cases hge : (F : Int) ≤ r
      · go_wp2_with fail
        refine (rfirst_any (k : Int) k _ rfl hk3).mono ?_
        rw [HF.out]
        rintro e w2 ⟨rfl, hb2⟩
        have HB2 := Lib.hid (below_trans HB1.out hb2); clear hb2
        by_cases hle : r ≤ (F : Int) + 9
        · go_wp2
          all_goals (try (exfalso; omega))
          go_ret
          refine ⟨?_, HB2.out⟩
          have e1 : kdOf r = (k : Int) := by
            have := (kv_first k (r - F).toNat hk3 (by omega)).1
            rw [HF.out, show (F : Int) + ((r - F).toNat : Int) = r by omega] at this
            exact this
          rw [e1]; rfl
        · go_wp2
          all_goals (try (exfalso; omega))
          go_roundg (gk - 1)
          case measure => omega
          case rel =>
            refine ⟨⟨k + 1, by omega, by go_num, ?_⟩, HB2.out⟩
            intro j hj
            rcases Nat.lt_or_ge j k with g | g
            · exact HJ.out j g
            · obtain rfl : j = k := by omega
              rw [HF.out]; omega
      · go_wp2
        all_goals (try (exfalso; omega))
        go_roundg (gk - 1)
        case measure => omega
        case rel =>
          refine ⟨⟨k + 1, by omega, by go_num, ?_⟩, HB1.out⟩
          intro j hj
          rcases Nat.lt_or_ge j k with g | g
          · exact HJ.out j g
          · obtain rfl : j = k := by omega
            rw [HF.out]; omega
    · obtain rfl : k = 3 := by omega
      go_wp2
      go_ret
      refine ⟨?_, HB.out⟩
      rw [(kv3 r (HJ.out 0 (by omega)) (HJ.out 1 (by omega)) (HJ.out 2 (by omega))).1]; rfl

theorem rkind_at (r K : Int) (w : World) (h0 : -2147483648 ≤ r) (h1 : r ≤ 2147483647) (hK : kdOf r = K) :
    Calls Tryz.prog 60 #[.int .i32 r] w fun e w' => e = .returned (.int .i64 K) ∧ Below w.heap.size w w' := by
  subst hK; exact rkind_any r w h0 h1

set_option maxRecDepth 100000 in
set_option maxHeartbeats 1000000 in
theorem rdigit_any (r : Int) (w : World) (h0 : -2147483648 ≤ r) (h1 : r ≤ 2147483647) :
    Calls Tryz.prog 61 #[.int .i32 r] w fun e w' => e = .returned (.int .i64 (dvOf r)) ∧ Below w.heap.size w w' := by
  rcases kv_cases r with ⟨hk, hv⟩ | ⟨k, d, hk3, hd, hr, hk, hv⟩
  · have HK := Lib.hid hk; have HV := Lib.hid hv; clear hk hv
    go_enter Tryz.func61, Tryz.ntmps61
    go_wp2_with fail
    refine (rkind_at r (-1) _ h0 h1 HK.out).mono ?_
    rintro e w1 ⟨rfl, hb1⟩
    have HB1 := Lib.hid hb1; clear hb1
    go_wp2
    go_ret
    rw [HV.out]
    exact ⟨rfl, HB1.out⟩
  · obtain ⟨F, hF, hF2⟩ : ∃ F : Nat, first k = F ∧ F ≤ 65296 := ⟨_, rfl, by unfold first; split <;> (try split) <;> omega⟩
    rw [hF] at hr
    have HF := Lib.hid hF; clear hF
    have HK := Lib.hid hk; have HV := Lib.hid hv; clear hk hv
    have hd1 : r - (F : Int) ≤ d ∧ (d : Int) ≤ r - F := by omega
    clear hr
    go_enter Tryz.func61, Tryz.ntmps61
    go_wp2_with fail
    refine (rkind_at r (k : Int) _ h0 h1 HK.out).mono ?_
    rintro e w1 ⟨rfl, hb1⟩
    have HB1 := Lib.hid hb1; clear hb1
    go_wp2_with fail
    all_goals (try (exfalso; omega))
    refine (rfirst_any (k : Int) k _ rfl hk3).mono ?_
    rw [HF.out]
    rintro e w2 ⟨rfl, hb2⟩
    have HB2 := Lib.hid (below_trans HB1.out hb2); clear hb2
    go_wp2
    go_ret
    rw [HV.out]
    refine ⟨ret_int ?_, HB2.out⟩
    omega

theorem rdigit_at (r V : Int) (w : World) (h0 : -2147483648 ≤ r) (h1 : r ≤ 2147483647) (hV : dvOf r = V) :
    Calls Tryz.prog 61 #[.int .i32 r] w fun e w' => e = .returned (.int .i64 V) ∧ Below w.heap.size w w' := by
  subst hV; exact rdigit_any r w h0 h1

theorem enc_dch_fin : ∀ (k : Fin 3) (d : Fin 10), (Utf8.encode (((first k : Nat) : Int) + ((d : Nat) : Int))).data.toList = (dch k d).bs := by decide +kernel
theorem enc_dch (k d : Nat) (hk : k < 3) (hd : d < 10) : Utf8.encode ((first k : Int) + (d : Int)) = sb (dch k d).bs := by
  rw [sb_list (Utf8.encode _), enc_dch_fin ⟨k, hk⟩ ⟨d, hd⟩]

theorem conv_dch (k d : Nat) (F : Nat) (hF : first k = F) (hk : k < 3) (hd : d < 10) (w : World) : (convert 21 9 (.int .i32 ((F : Int) + (d : Int)))).run Tryz.prog w = .ok (.string (sb (dch k d).bs)) w := by
  rw [run_convert_int_string w 21 9 .i32 _ (by rw [Tryz.underlying21]; rfl) Tryz.underlying9, ← hF, enc_dch k d hk hd]
theorem flat_chs_len (k : Nat) (hk : k < 3) : ∀ t : List Nat, (∀ d ∈ t, d < 10) → (flat (chs k t)).length ≤ 3 * t.length
  | [], _ => by simp [chs, flat]
  | d :: t, h => by
    have h1 := flat_chs_len k hk t fun x hx => h x (List.mem_cons_of_mem _ hx)
    have h2 := dch_len_fin ⟨k, hk⟩ ⟨d, h d List.mem_cons_self⟩
    simp only at h2
    show (flat (dch k d :: chs k t)).length ≤ _
    rw [flat_cons, List.length_append, List.length_cons]; omega
theorem tail_lt {n : Nat} {a t : List Nat} (h : dg n = a ++ t) : ∀ d ∈ t, d < 10 := fun d hd => dg_lt n d (by rw [h]; simp [hd])
def RpRel (w : World) (k n g : Nat) (v s : Value) (wr : World) : Prop :=
  ∃ (m : Nat) (t : List Nat), m = g ∧ m ≤ n ∧ v = .int .i64 (m : Int) ∧ s = .string (sb (flat (chs k t))) ∧ dg n = dg m ++ t ∧ t.length ≤ 100 ∧ Below w.heap.size w wr

set_option maxRecDepth 100000 in
set_option maxHeartbeats 1000000 in
theorem rprint_ok (n k : Nat) (w : World) (hn : n ≤ 9223372036854775807) (hk : k < 3) :
    Calls Tryz.prog 30 #[.int .i64 (n : Int), .int .i64 (k : Int)] w fun e w' => e = .returned (.string (sb (pr k n))) ∧ Below w.heap.size w w' := by
  have hdl : (dg n).length ≤ 19 := dg_len n 18 (by omega)
  obtain ⟨F, hF, hF2⟩ : ∃ F : Nat, first k = F ∧ F ≤ 65296 := ⟨_, rfl, by unfold first; split <;> (try split) <;> omega⟩
  have HF := Lib.hid hF; clear hF
  go_enter Tryz.func30, Tryz.ntmps30
  go_wp2
  all_goals (try (exfalso; omega))
  go_loopg [0, 5] n (fun g v s wr => RpRel w k n g v s wr)
  case atStart => exact ⟨n, [], rfl, Nat.le_refl _, rfl, rfl, by simp, by simp, Below.refl _ w⟩
  case round =>
    obtain ⟨m, t, hmg, hmn, rfl, rfl, hd, ht, hb⟩ := hrel
    subst hmg
    have HB := Lib.hid hb; clear hb
    have htl : t.length ≤ 19 := by have := congrArg List.length hd; rw [List.length_append] at this; omega
    have HD := Lib.hid hd; clear hd
    have hz2 : (sb (flat (chs k t))).size ≤ 400 := by rw [sb_size]; exact Nat.le_trans (flat_chs_len k hk t (tail_lt HD.out)) (by omega)
    by_cases hm : 9 < m
    · obtain ⟨q, d, hq, hd10, hqm⟩ : ∃ q d : Nat, m = 10 * q + d ∧ d < 10 ∧ q < m := ⟨m / 10, m % 10, by omega, by omega, by omega⟩
      have g1 : (m : Int) % 10 = (d : Int) := by omega
      have g2 : (m : Int) / 10 = (q : Int) := by omega
      have HQ := Lib.hid (show m / 10 = q ∧ m % 10 = d by omega); clear hq
      have g3 : IntKind.i32.wrap (d : Int) = (d : Int) := by rw [IntKind.wrap_i32]; omega
      have g4 : IntKind.i32.wrap ((F : Int) + (d : Int)) = (F : Int) + (d : Int) := by rw [IntKind.wrap_i32]; omega
      have hcv := conv_dch k d F HF.out hk hd10
      have hz1 : (sb (dch k d).bs).size ≤ 3 := by rw [sb_size]; exact dch_len_fin ⟨k, hk⟩ ⟨d, hd10⟩
      go_wp2_with fail
      refine (rfirst_any (k : Int) k _ rfl hk).mono ?_
      rw [HF.out]
      rintro e w1 ⟨rfl, hb1⟩
      have HB1 := Lib.hid (below_trans HB.out hb1); clear hb1
      go_wp2
      all_goals (try (exfalso; omega))
      go_roundg q
      case measure => omega
      case rel =>
        refine ⟨q, d :: t, rfl, by omega, rfl, ?_, ?_, by simp; omega, HB1.out⟩
        · rw [sb_append]; rfl
        · rw [HD.out, dg_big m (by omega), HQ.out.1, HQ.out.2]; simp
    · have g3 : IntKind.i32.wrap (m : Int) = (m : Int) := by rw [IntKind.wrap_i32]; omega
      have g4 : IntKind.i32.wrap ((F : Int) + (m : Int)) = (F : Int) + (m : Int) := by rw [IntKind.wrap_i32]; omega
      have hcv := conv_dch k m F HF.out hk (by omega)
      have hz1 : (sb (dch k m).bs).size ≤ 3 := by rw [sb_size]; exact dch_len_fin ⟨k, hk⟩ ⟨m, by omega⟩
      go_wp2_with fail
      refine (rfirst_any (k : Int) k _ rfl hk).mono ?_
      rw [HF.out]
      rintro e w1 ⟨rfl, hb1⟩
      have HB1 := Lib.hid (below_trans HB.out hb1); clear hb1
      go_wp2
      all_goals (try (exfalso; omega))
      go_ret
      refine ⟨ret_str (sb_append _ _) ?_, HB1.out⟩
      rw [pr, HD.out, dg_small m (by omega)]; rfl

end Go.Proofs.YtmcmpjcijbeilaaGreatDoor.Ws
