/-
  What is proved here: the contract of the document's own Print of a graph: its text, or the error of Check. (And of the document's own Print of a number once more, with what it does to memory.) Conditions: numbers and counts fit an int.
-/
import Derived.Test.YtmcmpjcijbeilaaGreatDoorGrW4
import Derived.Test.YtmcmpjcijbeilaaGreatDoorGrW8
namespace Go.Proofs.YtmcmpjcijbeilaaGreatDoor.Gr
open Go.RowKit Wd Ws

set_option maxRecDepth 100000 in
theorem rfirst_g (K : Int) (k : Nat) (w : World) (hK : K = (k : Int)) (hk : k < 3) : Calls Tryz.prog 49 #[.int .i64 K] w fun e w' => e = .returned (.int .i32 (first k : Int)) ∧ Grw w w' := by
  subst hK
  have hb : Grw w (w.alloc (.cells #[.int .i32 48, .int .i32 1632, .int .i32 65296] 21)) := (Grw.refl w).alloc _
  have HB := Lib.hid hb; clear hb
  rcases (show k = 0 ∨ k = 1 ∨ k = 2 by omega) with rfl | rfl | rfl
  all_goals
    go_enter Tryz.func49, Tryz.ntmps49
    go_wp2
    go_ret
    exact ⟨rfl, HB.out⟩

def RgRel (w : World) (k n g : Nat) (v s : Value) (wr : World) : Prop :=
  ∃ (m : Nat) (t : List Nat), m = g ∧ m ≤ n ∧ v = .int .i64 (m : Int) ∧ s = .string (sb (flat (chs k t))) ∧ dg n = dg m ++ t ∧ t.length ≤ 100 ∧ Grw w wr

set_option maxRecDepth 100000 in
set_option maxHeartbeats 1000000 in
theorem rprint_g (n k : Nat) (w : World) (hn : n ≤ 9223372036854775807) (hk : k < 3) :
    Calls Tryz.prog 30 #[.int .i64 (n : Int), .int .i64 (k : Int)] w fun e w' => e = .returned (.string (sb (pr k n))) ∧ Grw w w' := by
  have hdl : (dg n).length ≤ 19 := dg_len n 18 (by omega)
  obtain ⟨F, hF, hF2⟩ : ∃ F : Nat, first k = F ∧ F ≤ 65296 := ⟨_, rfl, by unfold first; split <;> (try split) <;> omega⟩
  have HF := Lib.hid hF; clear hF
  go_enter Tryz.func30, Tryz.ntmps30
  go_wp2
  all_goals (try (exfalso; omega))
  go_loopg [0, 5] n (fun g v s wr => RgRel w k n g v s wr)
  case atStart => exact ⟨n, [], rfl, Nat.le_refl _, rfl, rfl, by simp, by simp, Grw.refl w⟩
  case round =>
    obtain ⟨m, t, hmg, hmn, rfl, rfl, hd, ht, hb⟩ := hrel
    subst hmg
    have HB := Lib.hid hb; clear hb
    have htl : t.length ≤ 19 := by have := congrArg List.length hd; rw [List.length_append] at this; omega
    have HD := Lib.hid hd; clear hd
    have hz2 : (sb (flat (chs k t))).size ≤ 400 := by rw [sb_size]; exact Nat.le_trans (flat_chs_len k hk t (tail_lt HD.out)) (by omega)
    by_cases hm : 9 < m
    · obtain ⟨q, d, hq, hd10, hqm⟩ : ∃ q d : Nat, m = 10 * q + d ∧ d < 10 ∧ q < m := ⟨m / 10, m % 10, by omega, by omega, by omega⟩
      have g1 : (m : Int) % 10 = (d : Int) := by omega
      have g2 : (m : Int) / 10 = (q : Int) := by omega
      have HQ := Lib.hid (show m / 10 = q ∧ m % 10 = d by omega); clear hq
      have g3 : IntKind.i32.wrap (d : Int) = (d : Int) := by rw [IntKind.wrap_i32]; omega
      have g4 : IntKind.i32.wrap ((F : Int) + (d : Int)) = (F : Int) + (d : Int) := by rw [IntKind.wrap_i32]; omega
      have hcv := conv_dch k d F HF.out hk hd10
      have hz1 : (sb (dch k d).bs).size ≤ 3 := by rw [sb_size]; exact dch_len_fin ⟨k, hk⟩ ⟨d, hd10⟩
      go_wp2_with fail
      refine (rfirst_g (k : Int) k _ rfl hk).mono ?_
      rw [HF.out]
      rintro e w1 ⟨rfl, hb1⟩
      have HB1 := Lib.hid (Grw.trans HB.out hb1); clear hb1
      go_wp2
      all_goals (try (exfalso; omega))
      go_roundg q
      case measure => omega
      case rel =>
        refine ⟨q, d :: t, rfl, by omega, rfl, ?_, ?_, by simp; omega, HB1.out⟩
        · rw [sb_append]; rfl
        · rw [HD.out, dg_big m (by omega), HQ.out.1, HQ.out.2]; simp
    · have g3 : IntKind.i32.wrap (m : Int) = (m : Int) := by rw [IntKind.wrap_i32]; omega
      have g4 : IntKind.i32.wrap ((F : Int) + (m : Int)) = (F : Int) + (m : Int) := by rw [IntKind.wrap_i32]; omega
      have hcv := conv_dch k m F HF.out hk (by omega)
      have hz1 : (sb (dch k m).bs).size ≤ 3 := by rw [sb_size]; exact dch_len_fin ⟨k, hk⟩ ⟨m, by omega⟩
      go_wp2_with fail
      refine (rfirst_g (k : Int) k _ rfl hk).mono ?_
      rw [HF.out]
      rintro e w1 ⟨rfl, hb1⟩
      have HB1 := Lib.hid (Grw.trans HB.out hb1); clear hb1
      go_wp2
      all_goals (try (exfalso; omega))
      go_ret
      refine ⟨ret_str (sb_append _ _) ?_, HB1.out⟩
      rw [pr, HD.out, dg_small m (by omega)]; rfl


theorem rprint_q (n : Nat) (w : World) (hn : n ≤ 9223372036854775807) :
    Calls Tryz.prog 30 #[.int .i64 (n : Int), .int .i64 0] w fun e w' => e = .returned (.string (sb (pr 0 n))) ∧ Grw w w' := rprint_g n 0 w hn (by omega)

def RtRel (w : World) (V : Int) (A : Option Addr) (c : Nat) (L : List Ed) (g : Nat) (s i : Value) (wr : World) : Prop :=
  ∃ k : Nat, k + g = L.length ∧ i = .int .i64 (k : Int) ∧ s = .string (sb (textP V (L.take k))) ∧ Below w.heap.size w wr ∧ wr.heap[w.heap.size]? = some (.cells #[.int .i64 V, .slice A L.length c] 24 (0, 0)) ∧ (textP V (L.take k)).length ≤ 100 + 180 * k

set_option maxRecDepth 100000 in
set_option maxHeartbeats 600000 in
theorem rprint_any (V : Int) (A : Option Addr) (c : Nat) (L : List Ed) (w : World) (hL : EAt w A L) (hm : L.length ≤ 9223372036854775807) :
    Calls Tryz.prog 12 #[.agg #[.int .i64 V, .slice A L.length c]] w fun e w' => e = .returned (.tuple #[.string (sb (printB V L)), .int .i64 (chk V L)]) ∧ Below w.heap.size w w' := by
  have mixed := mixedO
  have hz : Below w.heap.size w (w.alloc (.cells #[.int .i64 V, .slice A L.length c] 24)) := (Below.refl _ w).alloc (Nat.le_refl _) _
  obtain ⟨R, hR⟩ : ∃ R, chk V L = R := ⟨_, rfl⟩
  have hC := rcheck_any V A c L _ (hL.below hz) hm
  rw [hR] at hC
  rw [hR]
  have HC := Lib.hid hC; have HL := Lib.hid hL; have HZ := Lib.hid hz
  have hbx := Lib.hid (heap_alloc_new w (.cells #[.int .i64 V, .slice A L.length c] 24))
  clear hC hL hz
  by_cases h0 : R = 0
  · subst h0
    obtain ⟨v1, v2, v3, v4, v5⟩ := (chk_zero V L).1 hR
    have hT : printB V L = textP V L := by unfold printB; rw [if_pos hR]
    rw [hT]
    clear hT hR
    obtain ⟨v, rfl⟩ : ∃ v : Nat, V = (v : Int) := ⟨V.toNat, by rw [Int.toNat_of_nonneg (by omega)]⟩
    have HF := Lib.hid v4; clear v4 v5
    go_enter Tryz.func12, Tryz.ntmps12
    go_wp2_with fail
    refine HC.out.mono ?_
    rintro e w1 ⟨rfl, hb1⟩
    have hsz : w.heap.size < w1.heap.size := by have := hb1.size; simp at this; omega
    have hB1 := HZ.out.trans (hb1.mono (by simp))
    have hbx1 := (hb1.block _ (by simp)).trans hbx.out
    obtain ⟨x0, x1, _⟩ := Bx.cells hbx1
    have HB1 := Lib.hid hB1; have HX1 := Lib.hid hbx1
    have hpl := pr_len' v (by omega)
    have hps : (sb (pr 0 v)).size ≤ 57 := by rw [sb_size]; exact hpl
    clear hb1 hB1 hbx1 HC
    go_wp2_with fail
    refine (rprint_q v _ (by omega)).mono ?_
    rintro e w2 ⟨rfl, hg2⟩
    have HB2 := Lib.hid (step_below HB1.out (by omega) hg2.below)
    have hbx2 := (hg2.below.block _ hsz).trans HX1.out
    clear hg2 x0 x1
    obtain ⟨x0, x1, hsz2⟩ := Bx.cells hbx2
    have HX2 := Lib.hid hbx2; clear hbx2
    have hlen0 : (textP (v : Int) []).length ≤ 100 := by
      have := blnk_len [v] (by simp; omega)
      show (vertB ++ blnk [v] ++ [10] ++ []).length ≤ _
      simp only [List.length_append, List.length_cons, List.length_nil] at this ⊢
      have e : vertB.length = 8 := rfl
      omega
    have HT0 : Hid ((⟨#[118, 101, 114, 116, 105, 99, 101, 115, 32]⟩ : ByteArray) ++ sb (pr 0 v) ++ (⟨#[10]⟩ : ByteArray) = sb (textP (v : Int) [])) := Lib.hid (by
      rw [show (⟨#[118, 101, 114, 116, 105, 99, 101, 115, 32]⟩ : ByteArray) = sb [118, 101, 114, 116, 105, 99, 101, 115, 32] from rfl, show (⟨#[10]⟩ : ByteArray) = sb [10] from rfl, sb_append, sb_append]
      congr 1
      simp [textP, lineN, blnk, vertB])
    go_wp2
    go_loopg [5, 6] L.length (fun g s i wr => RtRel w (v : Int) A c L g s i wr)
    case atStart => exact ⟨0, by omega, rfl, by rw [List.take_zero, ← HT0.out], HB2.out, HX2.out, by simpa using hlen0⟩
    case round =>
      clear x0 x1
      obtain ⟨k, hk, rfl, rfl, hb, hbx3, hln⟩ := hrel
      obtain ⟨x0, x1, hsz3⟩ := Bx.cells hbx3
      by_cases hlt : k < L.length
      · obtain ⟨e, he⟩ := at_lt L k hlt
        obtain ⟨bk, o, rfl, c0, c1, c2⟩ := (HL.out.below hb) k e he
        have hfe := HF.out e (List.mem_of_getElem? he)
        obtain ⟨a0, a1, a2, rfl, h1, h2, h3⟩ := fit_nat hfe
        have hbA := hb.alloc (by omega) (.cells #[.int .i64 (a0 : Int), .int .i64 (a1 : Int), .int .i64 (a2 : Int)] 42)
        have hy := heap_alloc_new wr (.cells #[.int .i64 (a0 : Int), .int .i64 (a1 : Int), .int .i64 (a2 : Int)] 42)
        have hbx4 := (Lib.alloc_old wr (.cells #[.int .i64 (a0 : Int), .int .i64 (a1 : Int), .int .i64 (a2 : Int)] 42) _ hsz3).trans hbx3
        have HE := Lib.hid he; have HB := Lib.hid hbA; have HY := Lib.hid hy; have HX := Lib.hid hbx4; have HLN := Lib.hid hln
        obtain ⟨T, hT⟩ : ∃ T, T = textP (v : Int) (L.take k) := ⟨_, rfl⟩
        have hTl : (sb T).size ≤ 2000000 := by rw [hT, sb_size]; omega
        rw [← hT]
        have HT := Lib.hid hT; clear hT
        have p0 := pr_len' a0 (by omega); have p1 := pr_len' a1 (by omega); have p2 := pr_len' a2 (by omega)
        rw [← sb_size] at p0 p1 p2
        clear he hb hbA hy hbx3 hbx4 hln hfe
        go_wp2
        generalize hW : wr.alloc (.cells #[.int .i64 (a0 : Int), .int .i64 (a1 : Int), .int .i64 (a2 : Int)] 42) = W at HB HX HY ⊢
        clear x0 x1 c0 c1 c2 hW
        obtain ⟨y0, y1, y2, hs1⟩ := eb_cells HY.out
        have fy0 := cell_grown hs1 y0; have fy1 := cell_grown hs1 y1; have fy2 := cell_grown hs1 y2
        clear y0 y1 y2
        have hszW := (Bx.cells HX.out).2.2
        have HQ : Hid (∀ (a : Nat) n os, a ≤ 9223372036854775807 → _) := Lib.hid (fun a n os ha => Grw.quiet (rprint_q a (Sort.grow (W.drewN n) os) ha))
        refine wp_region_quiet_grown mixed (by kernel_rfl) ?_
        repeat (go_big_quiet_step ((go_at_call 30; exact HQ.out _ _ _ (by omega))))
        refine wpQuiet_nil ?_
        intro _ hw'
        obtain ⟨⟨nq, osq⟩, hw''⟩ := hw'
        subst hw''
        go_wp2
        go_roundg (gk - 1)
        case measure => omega
        case rel =>
          have hg := grw_at W nq osq
          have ee : textP (v : Int) (L.take (k + 1)) = textP (v : Int) (L.take k) ++ edgeT ((a0 : Int), (a1 : Int), (a2 : Int)) := by rw [take_at HE.out, textP_snoc]
          have hel := edgeT_len a0 a1 a2 (by omega) (by omega) (by omega)
          refine ⟨k + 1, by omega, by go_num, ?_, step_below HB.out (by omega) hg.below, (hg.below.block _ hszW).trans HX.out, by rw [ee, List.length_append]; have := HLN.out; omega⟩
          rw [ee, ← HT.out]
          rw [show (⟨#[101, 100, 103, 101, 32]⟩ : ByteArray) = sb [101, 100, 103, 101, 32] from rfl, show (⟨#[10]⟩ : ByteArray) = sb [10] from rfl, show (⟨#[32]⟩ : ByteArray) = sb [32] from rfl]
          simp only [sb_append]
          congr 2
          simp [edgeT, lineN, blnk, edgeB]
      · have hkn : k = L.length := by omega
        have HB := Lib.hid hb
        have HK := Lib.hid hkn
        clear hb hbx3 hln hkn
        go_wp2
        go_ret2
        refine ⟨?_, HB.out⟩
        have : L.take k = L := by rw [HK.out, List.take_length]
        rw [this]; rfl
  · have hT : printB V L = [] := by unfold printB; rw [if_neg (by rw [hR]; exact h0)]
    rw [hT]
    clear hT hR
    go_enter Tryz.func12, Tryz.ntmps12
    go_wp2_with fail
    refine HC.out.mono ?_
    rintro e w1 ⟨rfl, hb1⟩
    have hB1 := Lib.hid (HZ.out.trans (hb1.mono (by simp)))
    clear hb1
    go_wp2
    go_ret2
    exact ⟨rfl, hB1.out⟩

end Go.Proofs.YtmcmpjcijbeilaaGreatDoor.Gr
