/-
  What is proved here: the library's symMergeCmpFunc where one side is one message: it goes to its place. Conditions: the row is one that the call has made; both sides are in order. What is proved here: the library's symMergeCmpFunc where one side is one message: it goes to its place. Conditions: the row is one that the call has made; both sides are in order.
-/
import Derived.Test.YtdcaekmgfcpbmaaGreatQcAlS3x
import Derived.Deep.CutRange
namespace Go.Proofs.YtdcaekmgfcpbmaaGreat.Al
open Go.RowKit Go.Sort Gr Wd Ws
theorem half_of (i j : Nat) (h : i + j < 2000000000) : IntKind.u64.wrap ((i : Int) + (j : Int)) = (i : Int) + (j : Int) ∧ IntKind.i64.wrap ((i : Int) + (j : Int)) = (i : Int) + (j : Int) ∧ ((i : Int) + (j : Int)) / 2 = (((i + j) / 2 : Nat) : Int) := by
  refine ⟨?_, ?_, by omega⟩
  · rw [IntKind.wrap_u64]; omega
  · rw [IntKind.wrap_i64]; omega
theorem nlt_of {V x y : Int} (h : V < 0 ↔ x < y) (k : ¬ V < 0) : y ≤ x := Int.not_lt.1 fun g => k (h.2 g)
def FsRel (w : World) (g N a m b : Nat) (d : Array Ms) (gk : Nat) (vi vj : Value) (wr : World) : Prop :=
  ∃ i j : Nat, vi = .int .i64 (i : Int) ∧ vj = .int .i64 (j : Int) ∧ m ≤ i ∧ i ≤ j ∧ j ≤ b ∧ j - i = gk ∧ SWm w wr g N d ∧ (i = m ∨ d[i - 1]!.1 < d[a]!.1) ∧ (j = b ∨ d[a]!.1 ≤ d[j]!.1)
def FmRel (w : World) (g N sz a i b : Nat) (d : Array Ms) (gk : Nat) (vk : Value) (wr : World) : Prop :=
  ∃ (k : Nat) (e : Array Ms), vk = .int .i64 (k : Int) ∧ a ≤ k ∧ k + gk + 1 = i ∧ e.size = sz ∧ SWm w wr g N e ∧ PermIn a b d e ∧ (∀ t, a ≤ t → t < k → e[t]! = d[t + 1]!) ∧ e[k]! = d[a]! ∧ ∀ t, k < t → e[t]! = d[t]!
set_option maxRecDepth 100000 in
set_option maxHeartbeats 4000000 in
theorem sym_first (w : World) (g N sz c a b : Nat) (d : Array Ms) (h : Hid (SWm w w g N d)) (hd : Hid (d.size = sz)) (h2 : a + 1 < b) (h3 : b ≤ sz) (hn : sz < 1000000000) (hR : Hid (Srt (a + 1) b d)) :
    Calls Tryz.prog 120 #[.slice (some ⟨g, 0, none⟩) sz c, .int .i64 (a : Int), .int .i64 ((a : Int) + 1), .int .i64 (b : Int), .func (.func 96) #[] #[]] w fun e w' => e = .returned (.tuple #[]) ∧ ∃ d', Hid (SWm w w' g N d' ∧ Mrg a b d d') := by
  have mixed := mixedO
  obtain ⟨m, hm⟩ : ∃ m, m = a + 1 := ⟨_, rfl⟩
  have hm' : (a : Int) + 1 = (m : Int) := by omega
  rw [hm']
  rw [← hm] at hR
  have m1 : a < m := by omega
  have m2 : m ≤ a + 1 := by omega
  have m3 : m < b := by omega
  have HM := Lib.hid hm
  have tb : (((m : Int) - (a : Int)) == 1) = true := by simp; omega
  clear hm hm' h2
  go_enter Tryz.func120, Tryz.ntmps120
  go_wp2
  go_loopg [10, 11] (b - m) (fun gk vi vj wr => FsRel w g N a m b d gk vi vj wr)
  case atStart => exact ⟨m, b, rfl, rfl, Nat.le_refl _, by omega, Nat.le_refl _, rfl, h.out, Or.inl rfl, Or.inl rfl⟩
  case round =>
    obtain ⟨i, j, rfl, rfl, hmi, hij, hjb, hgk, hsw, hlo, hup⟩ := hrel
    have HS := Lib.hid hsw; have HLO := Lib.hid hlo; have HUP := Lib.hid hup; clear hsw hlo hup
    by_cases hlt : i < j
    · obtain ⟨hw1, hw2, hw3⟩ := half_of i j (by omega)
      obtain ⟨q, hq⟩ : ∃ q, q = (i + j) / 2 := ⟨_, rfl⟩
      rw [← hq] at hw3
      have q1 : i ≤ q := by omega
      have q2 : q < j := by omega
      have q3 : (q : Int) < (sz : Int) := by omega
      have q4 : (a : Int) < (sz : Int) := by omega
      clear hq
      obtain ⟨ya, hya⟩ : ∃ x, d[q]!.1 = x := ⟨_, rfl⟩
      obtain ⟨yb, hyb⟩ : ∃ x, d[q]!.2 = x := ⟨_, rfl⟩
      obtain ⟨za, hza⟩ : ∃ x, d[a]!.1 = x := ⟨_, rfl⟩
      obtain ⟨zb, hzb⟩ : ∃ x, d[a]!.2 = x := ⟨_, rfl⟩
      obtain ⟨V, hV⟩ : ∃ V, cmpI ya za = V := ⟨_, rfl⟩
      have hneg : V < 0 ↔ ya < za := by rw [← hV]; exact cmpI_neg _ _
      obtain ⟨y0, y1⟩ := HS.out.cells q (by rw [hd.out]; omega)
      obtain ⟨z0, z1⟩ := HS.out.cells a (by rw [hd.out]; omega)
      rw [hya] at y0; rw [hyb] at y1; rw [hza] at z0; rw [hzb] at z1
      have fy0 := cell_grown (block_lt_of_cell y0) y0; have fy1 := cell_grown (block_lt_of_cell y1) y1
      have fz0 := cell_grown (block_lt_of_cell z0) z0; have fz1 := cell_grown (block_lt_of_cell z1) z1
      have HV := Lib.hid hV
      have HC := Lib.hid (fun nn os => Grw.quiet (close_at ya yb za zb V HV (Sort.grow (wr.drewN nn) os)))
      have HYZ : Hid (d[q]!.1 = ya ∧ d[a]!.1 = za) := Lib.hid ⟨hya, hza⟩
      clear y0 y1 z0 z1 hya hyb hza hzb hV
      have HN := Lib.hid hneg; clear hneg
      by_cases hv : V < 0
      · go_wp2_with fail
        refine wp_region_quiet_grown mixed (by kernel_rfl) ?_
        repeat (go_big_quiet_step ((with_reducible exact HC.out _ _)))
        refine wpQuiet_nil ?_
        intro _ hw'
        obtain ⟨⟨nq, osq⟩, hw''⟩ := hw'
        subst hw''
        obtain ⟨w2, hw2⟩ : ∃ w2, w2 = Sort.grow (wr.drewN nq) osq := ⟨_, rfl⟩
        rw [← hw2]
        have HS2 : Hid (SWm w w2 g N d) := Lib.hid (by rw [hw2]; exact HS.out.below (below_grow _ _ _))
        clear hw2 fy0 fy1 fz0 fz1 HC
        go_wp2
        go_roundg (j - (q + 1))
        case measure => omega
        case rel => exact ⟨q + 1, j, by go_num, rfl, by omega, by omega, hjb, rfl, HS2.out, Or.inr (by rw [Nat.add_sub_cancel, HYZ.out.1, HYZ.out.2]; exact HN.out.1 (by omega)), HUP.out⟩
      · go_wp2_with fail
        refine wp_region_quiet_grown mixed (by kernel_rfl) ?_
        repeat (go_big_quiet_step ((with_reducible exact HC.out _ _)))
        refine wpQuiet_nil ?_
        intro _ hw'
        obtain ⟨⟨nq, osq⟩, hw''⟩ := hw'
        subst hw''
        obtain ⟨w2, hw2⟩ : ∃ w2, w2 = Sort.grow (wr.drewN nq) osq := ⟨_, rfl⟩
        rw [← hw2]
        have HS2 : Hid (SWm w w2 g N d) := Lib.hid (by rw [hw2]; exact HS.out.below (below_grow _ _ _))
        clear hw2 fy0 fy1 fz0 fz1 HC
        go_wp2
        go_roundg (q - i)
        case measure => omega
        case rel => exact ⟨i, q, rfl, rfl, hmi, q1, by omega, rfl, HS2.out, HLO.out, Or.inr (by rw [HYZ.out.1, HYZ.out.2]; exact nlt_of HN.out (by omega))⟩
    · have HIJ : Hid (i = j) := Lib.hid (by omega)
      obtain ⟨G, rfl⟩ : ∃ G : Nat, G = gk := ⟨_, rfl⟩
      obtain ⟨wo, rfl⟩ : ∃ wo : World, wo = wr := ⟨_, rfl⟩
      go_wp2
      go_loopg [13] (i - 1 - a) (fun gk vk wr => FmRel w g N sz a i b d gk vk wr)
      case atStart => exact ⟨a, d, rfl, Nat.le_refl _, by omega, hd.out, HS.out, pin_refl _ _ _, fun t h1 h2 => by omega, rfl, fun t _ => rfl⟩
      case round =>
        obtain ⟨k, e, rfl, hak, hki, hes, hse, hpe, he1, he2, he3⟩ := hrel
        have HE := Lib.hid hse; have HP := Lib.hid hpe; have HZ := Lib.hid hes; have E1 := Lib.hid he1; have E2 := Lib.hid he2; have E3 := Lib.hid he3
        clear hse hpe hes he1 he2 he3
        by_cases hk : k + 1 < i
        · obtain ⟨p, hp⟩ : ∃ p, p = k + 1 := ⟨_, rfl⟩
          have p1 : ((k : Int) + 1).toNat = p := by omega
          have p2 : IntKind.i64.wrap ((k : Int) + 1) = (k : Int) + 1 := by rw [IntKind.wrap_i64]; omega
          have p3 : (k : Int) + 1 < (sz : Int) := by omega
          have p4 : ¬ k = p := by omega
          have p5 : p < i := by omega
          have p6 : (k : Int) < (sz : Int) := by omega
          have HPK := Lib.hid hp
          clear hp
          obtain ⟨ya, hya⟩ : ∃ v, e[k]!.1 = v := ⟨_, rfl⟩
          obtain ⟨yb, hyb⟩ : ∃ v, e[k]!.2 = v := ⟨_, rfl⟩
          obtain ⟨za, hza⟩ : ∃ v, e[p]!.1 = v := ⟨_, rfl⟩
          obtain ⟨zb, hzb⟩ : ∃ v, e[p]!.2 = v := ⟨_, rfl⟩
          obtain ⟨y0, y1⟩ := HE.out.cells k (by rw [HZ.out]; omega)
          obtain ⟨z0, z1⟩ := HE.out.cells p (by rw [HZ.out]; omega)
          have rf := HE.out.free
          have HX := Lib.hid (HE.out.xch (k) (p) (by rw [HZ.out]; omega) (by rw [HZ.out]; omega) ya yb za zb hya hyb hza hzb)
          rw [hya] at y0; rw [hyb] at y1; rw [hza] at z0; rw [hzb] at z1
          clear hya hyb hza hzb
          go_wp2_with fail
          go_big_region
          go_wp2
          go_roundg (gk - 1)
          case measure => omega
          case rel =>
            have hp := HPK.out
            have hpz : p < e.size := by rw [HZ.out]; omega
            have hkz : k < e.size := by rw [HZ.out]; omega
            refine ⟨p, swp e k p, by first | (congr 1; omega) | (simp only [Value.int.injEq, true_and]; omega), by omega, by omega, by rw [size_swp]; exact HZ.out, HX.out.drew, pin_trans HP.out (pin_swp hak (by omega) (by omega) (by omega) (by rw [HZ.out]; omega)), fun t t1 t2 => ?_, ?_, fun t t1 => ?_⟩
            · rw [swp_get e hkz hpz, if_neg (by omega)]
              by_cases tk : t = k
              · rw [if_pos tk, E3.out p (by omega), tk, hp]
              · rw [if_neg tk]; exact E1.out t t1 (by omega)
            · rw [swp_get e hkz hpz, if_pos rfl]; exact E2.out
            · rw [swp_get e hkz hpz, if_neg (by omega), if_neg (by omega)]; exact E3.out t (by omega)
        · have HK : Hid (k = i - 1) := Lib.hid (by omega)
          go_wp2
          refine bodyPost_ret (results_none rfl _ _ _) rfl ?_
          refine ⟨rfl, e, Lib.hid ⟨HE.out, ?_⟩⟩
          have hk' := HK.out
          rw [← HIJ.out] at HUP
          exact mrg_first (by have := HM.out; omega) (by have := HIJ.out; omega) (by rw [← HM.out]; exact hR.out) HP.out (by have := HM.out; rw [← this]; exact HLO.out) HUP.out (fun t t1 t2 => E1.out t t1 (by omega)) (by rw [← hk']; exact E2.out) (fun t t1 => E3.out t (by omega))
end Go.Proofs.YtdcaekmgfcpbmaaGreat.Al
namespace Go.Proofs.YtdcaekmgfcpbmaaGreat.Al
open Go.RowKit Go.Sort Gr Wd Ws
def LsRel (w : World) (g N a m : Nat) (d : Array Ms) (gk : Nat) (vi vj : Value) (wr : World) : Prop :=
  ∃ i j : Nat, vi = .int .i64 (i : Int) ∧ vj = .int .i64 (j : Int) ∧ a ≤ i ∧ i ≤ j ∧ j ≤ m ∧ j - i = gk ∧ SWm w wr g N d ∧ (i = a ∨ d[i - 1]!.1 ≤ d[m]!.1) ∧ (j = m ∨ d[m]!.1 < d[j]!.1)
def LmRel (w : World) (g N sz a i m : Nat) (d : Array Ms) (gk : Nat) (vk : Value) (wr : World) : Prop :=
  ∃ (k : Nat) (e : Array Ms), vk = .int .i64 (k : Int) ∧ k = gk + i ∧ k ≤ m ∧ e.size = sz ∧ SWm w wr g N e ∧ PermIn a (m + 1) d e ∧ (∀ t, k < t → t ≤ m → e[t]! = d[t - 1]!) ∧ e[k]! = d[m]! ∧ ∀ t, t < k → e[t]! = d[t]!
set_option maxRecDepth 100000 in
set_option maxHeartbeats 4000000 in
theorem sym_last (w : World) (g N sz c a m b : Nat) (d : Array Ms) (h : Hid (SWm w w g N d)) (hd : Hid (d.size = sz)) (h2 : a + 1 < m) (h4 : Hid (b = m + 1)) (h3 : m < sz) (hn : sz < 1000000000) (hR : Hid (Srt a m d)) :
    Calls Tryz.prog 120 #[.slice (some ⟨g, 0, none⟩) sz c, .int .i64 (a : Int), .int .i64 (m : Int), .int .i64 (b : Int), .func (.func 96) #[] #[]] w fun e w' => e = .returned (.tuple #[]) ∧ ∃ d', Hid (SWm w w' g N d' ∧ Mrg a b d d') := by
  have mixed := mixedO
  have b1 : b ≤ m + 1 := by rw [h4.out]; exact Nat.le_refl _
  have b2 : m < b := by rw [h4.out]; exact Nat.lt_succ_self _
  have ta : (((m : Int) - (a : Int)) == 1) = false := by simp; omega
  have tb : (((b : Int) - (m : Int)) == 1) = true := by simp; omega
  go_enter Tryz.func120, Tryz.ntmps120
  go_wp2
  go_loopg [14, 15] (m - a) (fun gk vi vj wr => LsRel w g N a m d gk vi vj wr)
  case atStart => exact ⟨a, m, rfl, rfl, Nat.le_refl _, by omega, Nat.le_refl _, rfl, h.out, Or.inl rfl, Or.inl rfl⟩
  case round =>
    obtain ⟨i, j, rfl, rfl, hmi, hij, hjb, hgk, hsw, hlo, hup⟩ := hrel
    have HS := Lib.hid hsw; have HLO := Lib.hid hlo; have HUP := Lib.hid hup; clear hsw hlo hup
    by_cases hlt : i < j
    · obtain ⟨hw1, hw2, hw3⟩ := half_of i j (by omega)
      obtain ⟨q, hq⟩ : ∃ q, q = (i + j) / 2 := ⟨_, rfl⟩
      rw [← hq] at hw3
      have q1 : i ≤ q := by omega
      have q2 : q < j := by omega
      have q3 : (q : Int) < (sz : Int) := by omega
      have q4 : (m : Int) < (sz : Int) := by omega
      clear hq
      obtain ⟨ya, hya⟩ : ∃ x, d[m]!.1 = x := ⟨_, rfl⟩
      obtain ⟨yb, hyb⟩ : ∃ x, d[m]!.2 = x := ⟨_, rfl⟩
      obtain ⟨za, hza⟩ : ∃ x, d[q]!.1 = x := ⟨_, rfl⟩
      obtain ⟨zb, hzb⟩ : ∃ x, d[q]!.2 = x := ⟨_, rfl⟩
      obtain ⟨V, hV⟩ : ∃ V, cmpI ya za = V := ⟨_, rfl⟩
      have hneg : V < 0 ↔ ya < za := by rw [← hV]; exact cmpI_neg _ _
      obtain ⟨y0, y1⟩ := HS.out.cells m (by rw [hd.out]; omega)
      obtain ⟨z0, z1⟩ := HS.out.cells q (by rw [hd.out]; omega)
      rw [hya] at y0; rw [hyb] at y1; rw [hza] at z0; rw [hzb] at z1
      have fy0 := cell_grown (block_lt_of_cell y0) y0; have fy1 := cell_grown (block_lt_of_cell y1) y1
      have fz0 := cell_grown (block_lt_of_cell z0) z0; have fz1 := cell_grown (block_lt_of_cell z1) z1
      have HV := Lib.hid hV
      have HC := Lib.hid (fun nn os => Grw.quiet (close_at ya yb za zb V HV (Sort.grow (wr.drewN nn) os)))
      have HYZ : Hid (d[m]!.1 = ya ∧ d[q]!.1 = za) := Lib.hid ⟨hya, hza⟩
      clear y0 y1 z0 z1 hya hyb hza hzb hV
      have HN := Lib.hid hneg; clear hneg
      by_cases hv : V < 0
      · have hvb : decide (V < 0) = true := decide_eq_true hv
        go_wp2_with fail
        refine wp_region_quiet_grown mixed (by kernel_rfl) ?_
        repeat (go_big_quiet_step ((with_reducible exact HC.out _ _)))
        refine wpQuiet_nil ?_
        intro _ hw'
        obtain ⟨⟨nq, osq⟩, hw''⟩ := hw'
        subst hw''
        obtain ⟨w2, hw2⟩ : ∃ w2, w2 = Sort.grow (wr.drewN nq) osq := ⟨_, rfl⟩
        rw [← hw2]
        have HS2 : Hid (SWm w w2 g N d) := Lib.hid (by rw [hw2]; exact HS.out.below (below_grow _ _ _))
        clear hw2 fy0 fy1 fz0 fz1 HC
        go_wp2
        go_roundg (q - i)
        case measure => omega
        case rel => exact ⟨i, q, rfl, rfl, hmi, q1, by omega, rfl, HS2.out, HLO.out, Or.inr (by rw [HYZ.out.1, HYZ.out.2]; exact HN.out.1 (by omega))⟩
      · have hvb : decide (V < 0) = false := decide_eq_false hv
        go_wp2_with fail
        refine wp_region_quiet_grown mixed (by kernel_rfl) ?_
        repeat (go_big_quiet_step ((with_reducible exact HC.out _ _)))
        refine wpQuiet_nil ?_
        intro _ hw'
        obtain ⟨⟨nq, osq⟩, hw''⟩ := hw'
        subst hw''
        obtain ⟨w2, hw2⟩ : ∃ w2, w2 = Sort.grow (wr.drewN nq) osq := ⟨_, rfl⟩
        rw [← hw2]
        have HS2 : Hid (SWm w w2 g N d) := Lib.hid (by rw [hw2]; exact HS.out.below (below_grow _ _ _))
        clear hw2 fy0 fy1 fz0 fz1 HC
        go_wp2
        go_roundg (j - (q + 1))
        case measure => omega
        case rel => exact ⟨q + 1, j, by go_num, rfl, by omega, by omega, hjb, rfl, HS2.out, Or.inr (by rw [Nat.add_sub_cancel, HYZ.out.1, HYZ.out.2]; exact nlt_of HN.out (by omega)), HUP.out⟩
    · have HIJ : Hid (i = j) := Lib.hid (by omega)
      obtain ⟨G, rfl⟩ : ∃ G : Nat, G = gk := ⟨_, rfl⟩
      obtain ⟨wo, rfl⟩ : ∃ wo : World, wo = wr := ⟨_, rfl⟩
      go_wp2
      go_loopg [17] (m - i) (fun gk vk wr => LmRel w g N sz a i m d gk vk wr)
      case atStart => exact ⟨m, d, rfl, by omega, Nat.le_refl _, hd.out, HS.out, pin_refl _ _ _, fun t h1 h2 => by omega, rfl, fun t _ => rfl⟩
      case round =>
        obtain ⟨k, e, rfl, hki, hkm, hes, hse, hpe, he1, he2, he3⟩ := hrel
        have HE := Lib.hid hse; have HP := Lib.hid hpe; have HZ := Lib.hid hes; have E1 := Lib.hid he1; have E2 := Lib.hid he2; have E3 := Lib.hid he3
        have k1 : i ≤ k := by omega
        have HKI := Lib.hid hki
        clear hse hpe hes he1 he2 he3 hki
        by_cases hk : i < k
        · obtain ⟨p, hp⟩ : ∃ p, p = k - 1 := ⟨_, rfl⟩
          have p1 : ((k : Int) - 1).toNat = p := by omega
          have p2 : IntKind.i64.wrap ((k : Int) - 1) = (k : Int) - 1 := by rw [IntKind.wrap_i64]; omega
          have p3 : (k : Int) - 1 < (sz : Int) := by omega
          have p4 : ¬ k = p := by omega
          have p5 : p < k := by omega
          have p6 : (k : Int) < (sz : Int) := by omega
          have p7 : (0 : Int) ≤ (k : Int) - 1 := by omega
          have HPK := Lib.hid hp
          clear hp
          obtain ⟨ya, hya⟩ : ∃ v, e[k]!.1 = v := ⟨_, rfl⟩
          obtain ⟨yb, hyb⟩ : ∃ v, e[k]!.2 = v := ⟨_, rfl⟩
          obtain ⟨za, hza⟩ : ∃ v, e[p]!.1 = v := ⟨_, rfl⟩
          obtain ⟨zb, hzb⟩ : ∃ v, e[p]!.2 = v := ⟨_, rfl⟩
          obtain ⟨y0, y1⟩ := HE.out.cells k (by rw [HZ.out]; omega)
          obtain ⟨z0, z1⟩ := HE.out.cells p (by rw [HZ.out]; omega)
          have rf := HE.out.free
          have HX := Lib.hid (HE.out.xch (k) (p) (by rw [HZ.out]; omega) (by rw [HZ.out]; omega) ya yb za zb hya hyb hza hzb)
          rw [hya] at y0; rw [hyb] at y1; rw [hza] at z0; rw [hzb] at z1
          clear hya hyb hza hzb
          go_wp2_with fail
          go_big_region
          go_wp2
          go_roundg (gk - 1)
          case measure => have := HKI.out; omega
          case rel =>
            have hp := HPK.out
            have hki := HKI.out
            have hpz : p < e.size := by rw [HZ.out]; omega
            have hkz : k < e.size := by rw [HZ.out]; omega
            refine ⟨p, swp e k p, by first | (congr 1; omega) | (simp only [Value.int.injEq, true_and]; omega), by omega, by omega, by rw [size_swp]; exact HZ.out, HX.out.drew, pin_trans HP.out (pin_swp (by omega) (by omega) (by omega) (by omega) (by rw [HZ.out]; omega)), fun t t1 t2 => ?_, ?_, fun t t1 => ?_⟩
            · rw [swp_get e hkz hpz, if_neg (by omega)]
              by_cases tk : t = k
              · rw [if_pos tk, E3.out p (by omega), tk, hp]
              · rw [if_neg tk]; exact E1.out t (by omega) t2
            · rw [swp_get e hkz hpz, if_pos rfl]; exact E2.out
            · rw [swp_get e hkz hpz, if_neg (by omega), if_neg (by omega)]; exact E3.out t (by omega)
        · have HK : Hid (k = i) := Lib.hid (by omega)
          go_wp2
          refine bodyPost_ret (results_none rfl _ _ _) rfl ?_
          refine ⟨rfl, e, Lib.hid ⟨HE.out, ?_⟩⟩
          have hk' := HK.out
          subst hk'
          rw [← HIJ.out] at HUP
          rw [h4.out]
          exact mrg_last hmi (by omega) hR.out (by exact HP.out) HLO.out HUP.out (fun t t1 t2 => E1.out t t1 t2) E2.out (fun t t1 => E3.out t t1)
end Go.Proofs.YtdcaekmgfcpbmaaGreat.Al
