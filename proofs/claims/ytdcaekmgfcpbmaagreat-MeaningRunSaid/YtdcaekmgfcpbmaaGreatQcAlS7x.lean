/-
  What is proved here: the library's symMergeCmpFunc over a row of messages: two rising runs side by side become one, with the same messages. Conditions: the row is one that the call has made; both sides are in order. What is proved here: the library's slices.SortStableFunc over a row of messages: behind it the row holds the same messages, in the order of vertices. Conditions: the row is one that the call has made, or there is none.
-/
import Derived.Test.YtdcaekmgfcpbmaaGreatQcAlS5x
namespace Go.Proofs.YtdcaekmgfcpbmaaGreat.Al
open Go.RowKit Go.Sort Gr Wd Ws
def SymOK (n : Nat) : Prop := ∀ (w : World) (g N sz c a m b : Nat) (d : Array Ms) (M B A : Int), A = (a : Int) → M = (m : Int) → B = (b : Int) → Hid (SWm w w g N d) → Hid (d.size = sz) → a < m → m < b → b ≤ sz → sz < 1000000000 → b ≤ n + a → Hid (Srt a m d ∧ Srt m b d) →
    Calls Tryz.prog 120 #[.slice (some ⟨g, 0, none⟩) sz c, .int .i64 A, .int .i64 M, .int .i64 B, .func (.func 96) #[] #[]] w fun e w' => e = .returned (.tuple #[]) ∧ ∃ d', Hid (SWm w w' g N d' ∧ Mrg a b d d')
structure Rng (a m b mid s0 r0 : Nat) : Prop where
  lo : a ≤ s0
  le : s0 ≤ r0
  rm : r0 ≤ m
  rd : r0 ≤ mid
  top : mid + m ≤ b + s0
  s : s0 = a ∨ s0 + b = mid + m
  r : r0 = m ∨ r0 = mid
def MdRel (w : World) (g N s0 r0 n : Nat) (d : Array Ms) (gk : Nat) (vi vj : Value) (wr : World) : Prop :=
  ∃ s r : Nat, vi = .int .i64 (s : Int) ∧ vj = .int .i64 (r : Int) ∧ s0 ≤ s ∧ s ≤ r ∧ r ≤ r0 ∧ r - s = gk ∧ SWm w wr g N d ∧ (s = s0 ∨ d[s - 1]!.1 ≤ d[n - s]!.1) ∧ (r = r0 ∨ d[n - 1 - r]!.1 < d[r]!.1)
def CutA (w : World) (a m b mid : Nat) (x y : Value) (W : World) : Prop := ∃ s0 r0 : Nat, x = .int .i64 (s0 : Int) ∧ y = .int .i64 (r0 : Int) ∧ Rng a m b mid s0 r0 ∧ W = w
def CutB (w : World) (g N s m n : Nat) (d : Array Ms) (W : World) : Prop := ∃ e, Hid (SWm w W g N e ∧ Rot s m n d e)
def CutC (w : World) (g N a mid : Nat) (e : Array Ms) (W : World) : Prop := ∃ f, Hid (SWm w W g N f ∧ Mrg a mid e f)
set_option maxRecDepth 100000 in
set_option maxHeartbeats 8000000 in
theorem sym_mid (n0 : Nat) (IH : Hid (SymOK n0)) (w : World) (g N sz c a m b : Nat) (d : Array Ms) (h : Hid (SWm w w g N d)) (hd : Hid (d.size = sz)) (h1 : a + 1 < m) (h2 : m + 1 < b) (h3 : b ≤ sz) (hn : sz < 1000000000) (hn0 : b ≤ n0 + 1 + a) (hR : Hid (Srt a m d ∧ Srt m b d)) :
    Calls Tryz.prog 120 #[.slice (some ⟨g, 0, none⟩) sz c, .int .i64 (a : Int), .int .i64 (m : Int), .int .i64 (b : Int), .func (.func 96) #[] #[]] w fun e w' => e = .returned (.tuple #[]) ∧ ∃ d', Hid (SWm w w' g N d' ∧ Mrg a b d d') := by
  have mixed := mixedO
  have ta : (((m : Int) - (a : Int)) == 1) = false := by simp; omega
  have tb : (((b : Int) - (m : Int)) == 1) = false := by simp; omega
  obtain ⟨hw1, hw2, hw3⟩ := half_of a b (by omega)
  obtain ⟨mid, hmid⟩ : ∃ q, q = (a + b) / 2 := ⟨_, rfl⟩
  rw [← hmid] at hw3
  have d1 : a + b ≤ 2 * mid + 1 := by omega
  have d2 : 2 * mid ≤ a + b := by omega
  clear hmid
  go_enter Tryz.func120, Tryz.ntmps120
  go_upto_if 140 with fail
  go_cut [20, 21] from 138 (fun x y W => CutA w a m b mid x y W)
  case first =>
    by_cases hmm : mid < m
    · go_wp2_with fail
      go_meet
      case rel => exact ⟨mid + m - b, mid, by congr 1; omega, rfl, ⟨by omega, by omega, by omega, by omega, by omega, by omega, by omega⟩, rfl⟩
    · go_wp2_with fail
      go_meet
      case rel => exact ⟨a, m, rfl, rfl, ⟨by omega, by omega, by omega, by omega, by omega, by omega, by omega⟩, rfl⟩
  case rest =>
    obtain ⟨s0, r0, rfl, rfl, hrng, rfl⟩ := hcut
    obtain ⟨g1, g2, g3, g4, g5, g6, g7⟩ := hrng
    go_wp2
    go_loopg [20, 21] (r0 - s0) (fun gk vi vj wr => MdRel wc g N s0 r0 (mid + m) d gk vi vj wr)
    case atStart => exact ⟨s0, r0, rfl, rfl, Nat.le_refl _, g2, Nat.le_refl _, rfl, h.out, Or.inl rfl, Or.inl rfl⟩
    case round =>
      obtain ⟨s, r, rfl, rfl, hs0, hsr, hr0, hgk, hsw, hlo, hup⟩ := hrel
      have HS := Lib.hid hsw; have HLO := Lib.hid hlo; have HUP := Lib.hid hup; clear hsw hlo hup
      by_cases hlt : s < r
      · obtain ⟨hv1, hv2, hv3⟩ := half_of s r (by omega)
        obtain ⟨q, hq⟩ : ∃ q, q = (s + r) / 2 := ⟨_, rfl⟩
        rw [← hq] at hv3
        have q1 : s ≤ q := by omega
        have q2 : q < r := by omega
        obtain ⟨x, hx⟩ : ∃ x, x + q + 1 = mid + m := ⟨mid + m - 1 - q, by omega⟩
        have x1 : m ≤ x := by omega
        have x2 : x < b := by omega
        have x3 : ((mid : Int) + (m : Int) - 1 - (q : Int)).toNat = x := by omega
        have x4 : (mid : Int) + (m : Int) - 1 - (q : Int) < (sz : Int) := by omega
        have x5 : (0 : Int) ≤ (mid : Int) + (m : Int) - 1 - (q : Int) := by omega
        have x6 : IntKind.i64.wrap ((mid : Int) + (m : Int) - 1 - (q : Int)) = (mid : Int) + (m : Int) - 1 - (q : Int) := by rw [IntKind.wrap_i64]; omega
        have q3 : (q : Int) < (sz : Int) := by omega
        have HX := Lib.hid hx
        clear hq hx
        obtain ⟨ya, hya⟩ : ∃ v, d[x]!.1 = v := ⟨_, rfl⟩
        obtain ⟨yb, hyb⟩ : ∃ v, d[x]!.2 = v := ⟨_, rfl⟩
        obtain ⟨za, hza⟩ : ∃ v, d[q]!.1 = v := ⟨_, rfl⟩
        obtain ⟨zb, hzb⟩ : ∃ v, d[q]!.2 = v := ⟨_, rfl⟩
        obtain ⟨V, hV⟩ : ∃ V, cmpI ya za = V := ⟨_, rfl⟩
        have hneg : V < 0 ↔ ya < za := by rw [← hV]; exact cmpI_neg _ _
        obtain ⟨y0, y1⟩ := HS.out.cells x (by rw [hd.out]; omega)
        obtain ⟨z0, z1⟩ := HS.out.cells q (by rw [hd.out]; omega)
        rw [hya] at y0; rw [hyb] at y1; rw [hza] at z0; rw [hzb] at z1
        have fy0 := cell_grown (block_lt_of_cell y0) y0; have fy1 := cell_grown (block_lt_of_cell y1) y1
        have fz0 := cell_grown (block_lt_of_cell z0) z0; have fz1 := cell_grown (block_lt_of_cell z1) z1
        have HV := Lib.hid hV
        have HC := Lib.hid (fun nn os => Grw.quiet (close_at ya yb za zb V HV (Sort.grow (wr.drewN nn) os)))
        have HYZ : Hid (d[x]!.1 = ya ∧ d[q]!.1 = za) := Lib.hid ⟨hya, hza⟩
        clear y0 y1 z0 z1 hya hyb hza hzb hV
        have HN := Lib.hid hneg; clear hneg
        by_cases hv : V < 0
        · have hvb : decide (V < 0) = true := decide_eq_true hv
          go_wp2_with fail
          refine wp_region_quiet_grown mixed (by kernel_rfl) ?_
          repeat (go_big_quiet_step ((with_reducible exact HC.out _ _)))
          refine wpQuiet_nil ?_
          intro _ hw'
          obtain ⟨⟨nq, osq⟩, hw''⟩ := hw'
          subst hw''
          obtain ⟨w2, hw2⟩ : ∃ w2, w2 = Sort.grow (wr.drewN nq) osq := ⟨_, rfl⟩
          rw [← hw2]
          have HS2 : Hid (SWm wc w2 g N d) := Lib.hid (by rw [hw2]; exact HS.out.below (below_grow _ _ _))
          clear hw2 fy0 fy1 fz0 fz1 HC
          go_wp2
          go_roundg (q - s)
          case measure => omega
          case rel => exact ⟨s, q, rfl, rfl, hs0, q1, by omega, rfl, HS2.out, HLO.out, Or.inr (by have := HX.out; rw [show mid + m - 1 - q = x by omega, HYZ.out.1, HYZ.out.2]; exact HN.out.1 (by omega))⟩
        · have hvb : decide (V < 0) = false := decide_eq_false hv
          go_wp2_with fail
          refine wp_region_quiet_grown mixed (by kernel_rfl) ?_
          repeat (go_big_quiet_step ((with_reducible exact HC.out _ _)))
          refine wpQuiet_nil ?_
          intro _ hw'
          obtain ⟨⟨nq, osq⟩, hw''⟩ := hw'
          subst hw''
          obtain ⟨w2, hw2⟩ : ∃ w2, w2 = Sort.grow (wr.drewN nq) osq := ⟨_, rfl⟩
          rw [← hw2]
          have HS2 : Hid (SWm wc w2 g N d) := Lib.hid (by rw [hw2]; exact HS.out.below (below_grow _ _ _))
          clear hw2 fy0 fy1 fz0 fz1 HC
          go_wp2
          go_roundg (r - (q + 1))
          case measure => omega
          case rel => exact ⟨q + 1, r, by go_num, rfl, by omega, by omega, hr0, rfl, HS2.out, Or.inr (by have := HX.out; rw [Nat.add_sub_cancel, show mid + m - (q + 1) = x by omega, HYZ.out.1, HYZ.out.2]; exact nlt_of HN.out (by omega)), HUP.out⟩
      · have HSR : Hid (s = r) := Lib.hid (by omega)
        rw [← HSR.out] at HUP
        have HS1 := Lib.hid HS.out.start
        obtain ⟨n, hnn⟩ : ∃ n, n = mid + m - s := ⟨_, rfl⟩
        have n1 : (mid : Int) + (m : Int) - (s : Int) = (n : Int) := by omega
        have n2 : m ≤ n := by omega
        have n3 : n ≤ b := by omega
        have n4 : mid ≤ n := by omega
        have s1 : s ≤ m := by omega
        have s2 : s ≤ mid := by omega
        have s3 : a ≤ s := by omega
        have HNN := Lib.hid hnn
        have HLO2 : Hid (s = a ∨ n = b ∨ d[s - 1]!.1 ≤ d[n]!.1) := Lib.hid (by
          rcases HLO.out with h | h
          · rcases g6 with g | g
            · left; omega
            · right; left; omega
          · right; right; rw [← hnn] at h; exact h)
        have HUP2 : Hid (s = m ∨ n = m ∨ d[n - 1]!.1 < d[s]!.1) := Lib.hid (by
          rcases HUP.out with h | h
          · rcases g7 with g | g
            · left; omega
            · right; left; omega
          · right; right; rw [show mid + m - 1 - s = n - 1 by omega] at h; exact h)
        clear hnn HLO HUP
        go_upto_region 39 with fail
        go_cut [185] from 178 (fun v W => ∃ B : Bool, v = .bool B ∧ Hid (B = true ↔ (s < m ∧ m < n)) ∧ W = wr)
        case first =>
          by_cases c1 : s < m
          · by_cases c2 : m < n
            · go_wp2_with fail
              go_meet
              case rel => exact ⟨true, rfl, Lib.hid (by simp [c1, c2]), rfl⟩
            · go_wp2_with fail
              go_meet
              case rel => exact ⟨false, rfl, Lib.hid (by simp; omega), rfl⟩
          · go_wp2_with fail
            go_meet
            case rel => exact ⟨false, rfl, Lib.hid (by simp; omega), rfl⟩
        case rest =>
          obtain ⟨B, rfl, hB, hwc⟩ := hcut
          subst hwc
          go_upto_if 185 with fail
          go_cut [] from 178 (fun W => CutB wc g N s m n d W)
          case first =>
            cases B with
            | true =>
              obtain ⟨c1, c2⟩ := hB.out.1 rfl
              go_wp2_with fail
              refine (rotate_at _ g N sz c s m n d _ _ _ _ rfl rfl rfl HS1 hd c1 c2 (by omega) hn).mono ?_
              rintro x w2 ⟨rfl, e, he⟩
              go_wp2_with fail
              go_meet
              case rel => exact ⟨e, he⟩
            | false =>
              have c1 : s = m ∨ m = n := by
                have := hB.out
                simp only [Bool.false_eq_true, false_iff] at this
                omega
              go_wp2_with fail
              go_meet
              case rel => exact ⟨d, Lib.hid ⟨HS1.out, rot_none d s1 n2 c1⟩⟩
          case rest =>
            obtain ⟨e, he⟩ := hcut
            obtain ⟨r1, r2, r3, r4, r5⟩ := mrg_split (e := e) (by omega) s3 s1 n2 n3 s2 n4 hR.out.1 hR.out.2 he.out.2 HLO2.out HUP2.out
            have R1 := Lib.hid r1; have R2 := Lib.hid r2; have R3 := Lib.hid r3; have R4 := Lib.hid r4; have R5 := Lib.hid r5
            have HE0 := Lib.hid (HS.out.on he.out.1)
            have HE1 := Lib.hid he.out.1.start
            have HEZ : Hid (e.size = sz) := Lib.hid (he.out.2.1.trans hd.out)
            have HEP : Hid (PermIn a b d e) := Lib.hid (he.out.2.2.2 a b s3 n3 (by rw [hd.out]; exact h3))
            clear r1 r2 r3 r4 r5 he HLO2 HUP2 HS1 HS hB
            go_upto_region 41 with fail
            go_cut [199] from 192 (fun v W => ∃ B : Bool, v = .bool B ∧ Hid (B = true ↔ (a < s ∧ s < mid)) ∧ W = wc)
            case first =>
              by_cases c1 : a < s
              · by_cases c2 : s < mid
                · go_wp2_with fail
                  go_meet
                  case rel => exact ⟨true, rfl, Lib.hid (by simp [c1, c2]), rfl⟩
                · go_wp2_with fail
                  go_meet
                  case rel => exact ⟨false, rfl, Lib.hid (by simp; omega), rfl⟩
              · go_wp2_with fail
                go_meet
                case rel => exact ⟨false, rfl, Lib.hid (by simp; omega), rfl⟩
            case rest =>
              obtain ⟨B, rfl, hB, hwc⟩ := hcut
              subst hwc
              go_upto_if 199 with fail
              go_cut [] from 192 (fun W => CutC wc g N a mid e W)
              case first =>
                cases B with
                | true =>
                  obtain ⟨c1, c2⟩ := hB.out.1 rfl
                  go_wp2_with fail
                  refine (IH.out _ g N sz c a s mid e _ _ _ rfl rfl rfl HE1 HEZ c1 c2 (by omega) hn (by omega) (Lib.hid ⟨R1.out, R2.out⟩)).mono ?_
                  rintro x w2 ⟨rfl, f, hf⟩
                  go_wp2_with fail
                  go_meet
                  case rel => exact ⟨f, hf⟩
                | false =>
                  have c1 : s = a ∨ s = mid := by
                    have := hB.out
                    simp only [Bool.false_eq_true, false_iff] at this
                    omega
                  have c2 : Srt a mid e := by
                    rcases c1 with c1 | c1
                    · rw [← c1]; exact R2.out
                    · rw [← c1]; exact R1.out
                  go_wp2_with fail
                  go_meet
                  case rel => exact ⟨e, Lib.hid ⟨HE1.out, pin_refl _ _ _, c2⟩⟩
              case rest =>
                obtain ⟨f, hf⟩ := hcut
                have HF0 := Lib.hid (HE0.out.on hf.out.1)
                have HF1 := Lib.hid hf.out.1.start
                have HFZ : Hid (f.size = sz) := Lib.hid (hf.out.2.1.1.trans HEZ.out)
                have HFM := Lib.hid hf.out.2
                have R6 := Lib.hid (R3.out.kept hf.out.2.1 (Or.inr (Nat.le_refl _)))
                have R7 := Lib.hid (R4.out.kept hf.out.2.1 (Or.inr n4))
                clear hf HE1 HE0 hB
                go_upto_region 43 with fail
                go_cut [213] from 206 (fun v W => ∃ B : Bool, v = .bool B ∧ Hid (B = true ↔ (mid < n ∧ n < b)) ∧ W = wc)
                case first =>
                  by_cases c1 : mid < n
                  · by_cases c2 : n < b
                    · go_wp2_with fail
                      go_meet
                      case rel => exact ⟨true, rfl, Lib.hid (by simp [c1, c2]), rfl⟩
                    · go_wp2_with fail
                      go_meet
                      case rel => exact ⟨false, rfl, Lib.hid (by simp; omega), rfl⟩
                  · go_wp2_with fail
                    go_meet
                    case rel => exact ⟨false, rfl, Lib.hid (by simp; omega), rfl⟩
                case rest =>
                  obtain ⟨B, rfl, hB, hwc⟩ := hcut
                  subst hwc
                  cases B with
                  | true =>
                    obtain ⟨c1, c2⟩ := hB.out.1 rfl
                    go_wp2_with fail
                    refine (IH.out _ g N sz c mid n b f _ _ _ rfl rfl rfl HF1 HFZ c1 c2 (by omega) hn (by omega) (Lib.hid ⟨R6.out, R7.out⟩)).mono ?_
                    rintro x w2 ⟨rfl, u, hu⟩
                    have HU := Lib.hid (HF0.out.on hu.out.1)
                    have HM : Hid (Mrg a b d u) := Lib.hid (mrg_glue (by omega) (by omega) (by rw [hd.out]; exact h3) HEP.out R5.out HFM.out hu.out.2)
                    clear hu
                    go_wp2
                    go_end0
                    exact ⟨rfl, u, Lib.hid ⟨HU.out, HM.out⟩⟩
                  | false =>
                    have c1 : mid = n ∨ n = b := by
                      have := hB.out
                      simp only [Bool.false_eq_true, false_iff] at this
                      omega
                    have c2 : Srt mid b f := by
                      rcases c1 with c1 | c1
                      · have := R7.out; rw [← c1] at this; exact this
                      · rw [← c1]; exact R6.out
                    have HM : Hid (Mrg a b d f) := Lib.hid (mrg_glue (by omega) (by omega) (by rw [hd.out]; exact h3) HEP.out R5.out HFM.out ⟨pin_refl _ _ _, c2⟩)
                    go_wp2
                    go_end0
                    exact ⟨rfl, f, Lib.hid ⟨HF0.out, HM.out⟩⟩
theorem sym_any : ∀ n, SymOK n
  | 0 => by
    intro w g N sz c a m b d M B A hA hM hB h hd h1 h2 h3 hn hn0 hR
    omega
  | n + 1 => by
    intro w g N sz c a m b d M B A hA hM hB h hd h1 h2 h3 hn hn0 hR
    subst hA hM hB
    by_cases c1 : m = a + 1
    · subst c1
      exact sym_first w g N sz c a b d h hd h2 h3 hn (Lib.hid hR.out.2)
    · by_cases c2 : b = m + 1
      · exact sym_last w g N sz c a m b d h hd (by omega) (Lib.hid c2) (by omega) hn (Lib.hid hR.out.1)
      · exact sym_mid n (Lib.hid (sym_any n)) w g N sz c a m b d h hd (by omega) (by omega) h3 hn (by omega) hR
end Go.Proofs.YtdcaekmgfcpbmaaGreat.Al
namespace Go.Proofs.YtdcaekmgfcpbmaaGreat.Al
open Go.RowKit Go.Sort Gr Wd Ws
theorem runs_last {s n q : Nat} {d e : Array Ms} (h : Runs s n q d) (h1 : n < q * (2 * s) + 2 * s) (hm : Mrg (q * (2 * s)) n d e) : Run1 (2 * s) n e := by
  intro r
  by_cases hr : r < q
  · have := mul_lt_steps (w := 2 * s) hr
    exact ((h.1 r hr).kept hm.1 (Or.inl this)).part (by omega) (by omega)
  · by_cases e' : r = q
    · subst e'; exact hm.2.part (by omega) (by omega)
    · have := mul_lt_steps (w := 2 * s) (show q < r by omega)
      exact srt_one _ _ _ (by omega)
theorem runs_short {s n q : Nat} {d : Array Ms} (hs : 0 < s) (h : Runs s n q d) (h1 : n ≤ q * (2 * s) + s) : Run1 (2 * s) n d :=
  runs_end h (by omega) ((runs_halves h).1.part (by omega) (by omega))
def B1Rel (w : World) (g N n : Nat) (d : Array Ms) (gk : Nat) (va vb : Value) (wr : World) : Prop :=
  ∃ (q A B : Nat) (e : Array Ms), va = .int .i64 (A : Int) ∧ vb = .int .i64 (B : Int) ∧ Hid (A = q * 20) ∧ Hid (B = A + 20) ∧ A ≤ n ∧ A + gk = n ∧ e.size = n ∧ SWm w wr g N e ∧ PermIn 0 n d e ∧ Blks 20 q e
def B2Rel (w : World) (g N n : Nat) (d : Array Ms) (gk : Nat) (vs : Value) (wr : World) : Prop :=
  ∃ (s : Nat) (e : Array Ms), vs = .int .i64 (s : Int) ∧ 0 < s ∧ s ≤ 20 + 2 * n ∧ n - s = gk ∧ e.size = n ∧ SWm w wr g N e ∧ PermIn 0 n d e ∧ Run1 s n e
def B3Rel (w : World) (g N n s : Nat) (d : Array Ms) (gk : Nat) (va vb : Value) (wr : World) : Prop :=
  ∃ (q A B : Nat) (e : Array Ms), va = .int .i64 (A : Int) ∧ vb = .int .i64 (B : Int) ∧ Hid (A = q * (2 * s)) ∧ Hid (B = A + 2 * s) ∧ A ≤ n ∧ A + gk = n ∧ e.size = n ∧ SWm w wr g N e ∧ PermIn 0 n d e ∧ Runs s n q e
set_option maxRecDepth 100000 in
set_option maxHeartbeats 4000000 in
theorem stable_any (w : World) (g N n c : Nat) (d : Array Ms) (h : Hid (SWm w w g N d)) (hd : Hid (d.size = n)) (hn : n < 100000000) :
    Calls Tryz.prog 109 #[.slice (some ⟨g, 0, none⟩) n c, .int .i64 (n : Int), .func (.func 96) #[] #[]] w fun e w' => e = .returned (.tuple #[]) ∧ ∃ d', Hid (SWm w w' g N d' ∧ PermIn 0 n d d' ∧ Srt 0 n d') := by
  go_enter Tryz.func109, Tryz.ntmps109
  go_wp2
  go_loopg [7, 8] n (fun gk va vb wr => B1Rel w g N n d gk va vb wr)
  case atStart => exact ⟨0, 0, 20, d, rfl, rfl, Lib.hid rfl, Lib.hid rfl, Nat.zero_le _, by omega, hd.out, h.out, pin_refl _ _ _, blks_start _ _⟩
  case round =>
    obtain ⟨q, A, B, e, rfl, rfl, HA, HAB, hAn, hgk, hes, hsw, hp, hb⟩ := hrel
    have hB1 : B ≤ A + 20 := Nat.le_of_eq HAB.out
    have hB2 : A + 20 ≤ B := Nat.le_of_eq HAB.out.symm
    have HS := Lib.hid hsw; have HP := Lib.hid hp; have HB := Lib.hid hb; have HE := Lib.hid hes; have HS1 := Lib.hid hsw.start
    clear hsw hp hb hes
    by_cases hlt : B ≤ n
    · obtain ⟨hi1, hi2⟩ := ins_srt e A B (by omega) (by rw [HE.out]; exact hlt)
      have HM : Hid (Mrg A B e (insertionSort ltm e A B)) := Lib.hid ⟨hi1, hi2⟩
      clear hi1 hi2
      go_wp2_with fail
      refine (insertion_any wr g N n c A B e HS1 HE (by omega) hlt (by omega)).mono ?_
      rintro x w2 ⟨rfl, HW⟩
      obtain ⟨f, hf⟩ : ∃ f, f = insertionSort ltm e A B := ⟨_, rfl⟩
      rw [← hf] at HW HM
      clear hf
      go_wp2
      go_roundg (gk - 20)
      case measure => omega
      case rel =>
        exact ⟨q + 1, B, B + 20, f, rfl, by go_num, Lib.hid (by have := HA.out; omega), Lib.hid rfl, hlt, by omega, HM.out.1.1.trans HE.out, HS.out.on HW.out, pin_trans HP.out (pin_wide HM.out.1 (Nat.zero_le _) hlt (by rw [HE.out]; exact Nat.le_refl _)),
          blks_step HB.out (by have := HM.out; rw [HAB.out, HA.out] at this; exact this)⟩
    · obtain ⟨hi1, hi2⟩ := ins_srt e A n hAn (by rw [HE.out]; exact Nat.le_refl _)
      have HM : Hid (Mrg A n e (insertionSort ltm e A n)) := Lib.hid ⟨hi1, hi2⟩
      clear hi1 hi2
      obtain ⟨G, rfl⟩ : ∃ G : Nat, G = gk := ⟨_, rfl⟩
      obtain ⟨wo, rfl⟩ : ∃ wo : World, wo = wr := ⟨_, rfl⟩
      go_wp2_with fail
      refine (insertion_any wo g N n c A n e HS1 HE hAn (Nat.le_refl _) (by omega)).mono ?_
      rintro x w2 ⟨rfl, HW⟩
      obtain ⟨f, hf⟩ : ∃ f, f = insertionSort ltm e A n := ⟨_, rfl⟩
      rw [← hf] at HW HM
      clear hf
      have HR : Hid (Run1 20 n f) := Lib.hid (blks_end HB.out (by have := HA.out; omega) (by have := HM.out; rw [HA.out] at this; exact this))
      have HS2 := Lib.hid (HS.out.on HW.out)
      have HP2 : Hid (PermIn 0 n d f) := Lib.hid (pin_trans HP.out (pin_wide HM.out.1 (Nat.zero_le _) (Nat.le_refl _) (by rw [HE.out]; exact Nat.le_refl _)))
      have HF : Hid (f.size = n) := Lib.hid (HM.out.1.1.trans HE.out)
      clear HM HW HB HS HP HE HS1 HA HAB hB1 hB2 hlt
      go_wp2
      go_loopg [6] (n - 20) (fun gk vs wr => B2Rel w g N n d gk vs wr)
      case atStart => exact ⟨20, f, rfl, by omega, by omega, rfl, HF.out, HS2.out, HP2.out, HR.out⟩
      case round =>
        obtain ⟨s, e2, rfl, hs0, hs1, hgk2, hes, hsw, hp, hr⟩ := hrel
        have HS := Lib.hid hsw; have HP := Lib.hid hp; have HRn := Lib.hid hr; have HE := Lib.hid hes
        clear hsw hp hr hes
        by_cases hsn : s < n
        · go_wp2
          obtain ⟨G2, rfl⟩ : ∃ G2 : Nat, G2 = gk := ⟨_, rfl⟩
          obtain ⟨wo2, rfl⟩ : ∃ wo2 : World, wo2 = wr := ⟨_, rfl⟩
          go_loopg [7, 8] n (fun gk va vb wr => B3Rel w g N n s d gk va vb wr)
          case atStart => exact ⟨0, 0, 2 * s, e2, rfl, by go_num, Lib.hid (by omega), Lib.hid (by omega), Nat.zero_le _, by omega, HE.out, HS.out, HP.out, runs_start HRn.out⟩
          case round =>
            obtain ⟨q, A, B, e, rfl, rfl, HA, HAB, hAn, hgk, hes, hsw, hp, hb⟩ := hrel
            have hB1 : B ≤ A + 2 * s := Nat.le_of_eq HAB.out
            have hB2 : A + 2 * s ≤ B := Nat.le_of_eq HAB.out.symm
            obtain ⟨hl1, hl2⟩ := runs_halves hb
            rw [← HA.out] at hl1 hl2
            have HL1 := Lib.hid hl1; have HL2 := Lib.hid hl2
            have KS := Lib.hid hsw; have KP := Lib.hid hp; have KB := Lib.hid hb; have KE := Lib.hid hes; have KS1 := Lib.hid hsw.start
            clear hsw hp hb hes hl1 hl2
            by_cases hbn : B ≤ n
            · have hm1 : A < A + s := by omega
              have hm2 : A + s < B := by omega
              go_wp2_with fail
              refine (sym_any (B - A) wr g N n c A (A + s) B e _ _ _ rfl (by omega) rfl KS1 KE hm1 hm2 hbn (by omega) (by omega) (Lib.hid ⟨HL1.out.part (by omega) (by omega), HL2.out.part (by omega) (by omega)⟩)).mono ?_
              rintro x w3 ⟨rfl, u, hu⟩
              have HU := Lib.hid (KS.out.on hu.out.1)
              have HUM := Lib.hid hu.out.2
              clear hu
              go_wp2
              go_roundg (gk - 2 * s)
              case measure => omega
              case rel =>
                exact ⟨q + 1, B, B + 2 * s, u, rfl, by go_num, Lib.hid (by have := HA.out; rw [Nat.add_mul, Nat.one_mul]; omega), Lib.hid rfl, hbn, by omega, HUM.out.1.1.trans KE.out, HU.out, pin_trans KP.out (pin_wide HUM.out.1 (Nat.zero_le _) hbn (by rw [KE.out]; exact Nat.le_refl _)),
                  runs_step KB.out (by rw [HAB.out, HA.out]) hbn (by have := HUM.out; rw [HA.out] at this; exact this)⟩
            · by_cases hmn : A + s < n
              · go_wp2_with fail
                refine (sym_any n wr g N n c A (A + s) n e _ _ _ rfl (by omega) rfl KS1 KE (by omega) hmn (Nat.le_refl _) (by omega) (by omega) (Lib.hid ⟨HL1.out.part (by omega) (by omega), HL2.out.part (by omega) (by omega)⟩)).mono ?_
                rintro x w3 ⟨rfl, u, hu⟩
                have HU := Lib.hid (KS.out.on hu.out.1)
                have HUM := Lib.hid hu.out.2
                clear hu
                go_wp2
                go_roundg (n - 2 * s)
                case measure => omega
                case rel =>
                  exact ⟨2 * s, u, by go_num, by omega, by omega, rfl, HUM.out.1.1.trans KE.out, HU.out, pin_trans KP.out (pin_wide HUM.out.1 (Nat.zero_le _) (Nat.le_refl _) (by rw [KE.out]; exact Nat.le_refl _)),
                    runs_last KB.out (by have := HA.out; omega) (by have := HUM.out; rw [HA.out] at this; exact this)⟩
              · go_wp2
                go_roundg (n - 2 * s)
                case measure => omega
                case rel =>
                  exact ⟨2 * s, e, by go_num, by omega, by omega, rfl, KE.out, KS.out, KP.out, runs_short hs0 KB.out (by have := HA.out; omega)⟩
        · go_wp2
          go_end0
          exact ⟨rfl, e2, Lib.hid ⟨HS.out, HP.out, runs_all HRn.out (by omega)⟩⟩
theorem sortStable_any (w : World) (g N n c : Nat) (d : Array Ms) (h : Hid (SWm w w g N d)) (hd : Hid (d.size = n)) (hn : n < 100000000) :
    Calls Tryz.prog 95 #[.slice (some ⟨g, 0, none⟩) n c, .func (.func 96) #[] #[]] w fun e w' => e = .returned (.tuple #[]) ∧ ∃ d', Hid (SWm w w' g N d' ∧ PermIn 0 n d d' ∧ Srt 0 n d') := by
  go_enter Tryz.func95, Tryz.ntmps95
  go_wp2_with fail
  refine (stable_any w g N n c d h hd hn).mono ?_
  rintro x w2 ⟨rfl, u, hu⟩
  go_wp2
  go_end0
  exact ⟨rfl, u, hu⟩
theorem insertion_none (w : World) : Calls Tryz.prog 119 #[.slice none 0 0, .int .i64 0, .int .i64 0, .func (.func 96) #[] #[]] w fun e w' => e = .returned (.tuple #[]) ∧ w = w' := by
  go_enter Tryz.func119, Tryz.ntmps119
  go_wp2
  go_loopg [8] 0 (fun gk vi wr => vi = .int .i64 1 ∧ gk = 0 ∧ wr = w)
  case atStart => exact ⟨rfl, rfl, rfl⟩
  case round =>
    obtain ⟨rfl, rfl, rfl⟩ := hrel
    go_wp2
    go_end0
    exact ⟨rfl, rfl⟩
theorem stable_none (w : World) : Calls Tryz.prog 109 #[.slice none 0 0, .int .i64 0, .func (.func 96) #[] #[]] w fun e w' => e = .returned (.tuple #[]) ∧ w = w' := by
  go_enter Tryz.func109, Tryz.ntmps109
  go_wp2
  go_loopg [7, 8] 0 (fun gk va vb wr => va = .int .i64 0 ∧ vb = .int .i64 20 ∧ gk = 0 ∧ wr = w)
  case atStart => exact ⟨rfl, rfl, rfl, rfl⟩
  case round =>
    obtain ⟨rfl, rfl, rfl, rfl⟩ := hrel
    go_wp2_with fail
    refine (insertion_none _).mono ?_
    rintro x w2 ⟨rfl, rfl⟩
    go_wp2
    go_loopg [6] 0 (fun gk vs wr' => vs = .int .i64 20 ∧ gk = 0 ∧ wr' = wr)
    case atStart => exact ⟨rfl, rfl, rfl⟩
    case round =>
      obtain ⟨rfl, rfl, rfl⟩ := hrel
      go_wp2
      go_end0
      exact ⟨rfl, rfl⟩
theorem sortStable_none (w : World) : Calls Tryz.prog 95 #[.slice none 0 0, .func (.func 96) #[] #[]] w fun e w' => e = .returned (.tuple #[]) ∧ w = w' := by
  go_enter Tryz.func95, Tryz.ntmps95
  go_wp2_with fail
  refine (stable_none w).mono ?_
  rintro x w2 ⟨rfl, rfl⟩
  go_wp2
  go_end0
  exact ⟨rfl, rfl⟩
end Go.Proofs.YtdcaekmgfcpbmaaGreat.Al
