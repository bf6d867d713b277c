/-
  What is proved here: the law AlgosSend walked: it returns true, and no block that was there has changed. Conditions: numbers of 64 bits.
-/
import Derived.Test.YtobmkhbkcmdhbaaAlWk
import Derived.Test.YtobmkhbkcmdhbaaAlSd3
import Derived.Test.YtobmkhbkcmdhbaaAlR3
import Derived.Test.YtobmkhbkcmdhbaaAlSm
namespace Go.Proofs.Ytobmkhbkcmdhbaa.Al
open Go.RowKit Go.Sort Gr Wd Ws Fx Rk Lb

def Ls1 (w : World) (b : Nat) (k st so dm ep : Int) (W : World) : Prop := Below w.heap.size w W ∧ W.heap[b]? = some (.cells #[.int .u8 k, .int .i64 st, .int .i64 so, .int .i64 dm, .int .i64 ep] 26 (0, 0))
theorem Ls1.step {w W W' : World} {b : Nat} {k st so dm ep : Int} (g : Ls1 w b k st so dm ep W) (hb : Below W.heap.size W W') : Ls1 w b k st so dm ep W' := ⟨step_below g.1 g.1.size hb, keep g.2 hb⟩
theorem up_next {S : List Ms} (h : UpM S) {p : Nat} {a b : Ms} (ha : S[p]? = some a) (hb : S[p + 1]? = some b) : a.1 < b.1 := by
  obtain ⟨h1, rfl⟩ := List.getElem?_eq_some_iff.1 ha
  obtain ⟨h2, rfl⟩ := List.getElem?_eq_some_iff.1 hb
  exact List.pairwise_iff_getElem.1 h p (p + 1) h1 h2 (by omega)

set_option maxRecDepth 100000 in
set_option maxHeartbeats 2000000 in
theorem law_send (k st so dm ep v x : Int) (ch : Bool) (A C : Option Addr) (c d : Nat) (L M : List Ed) (w : World) (hL : EAt w A L) (hM : EAt w C M) (hl0 : L.length ≤ 9223372036854775807) (hm0 : M.length ≤ 9223372036854775807) (hx0 : -9223372036854775808 ≤ x) (hx1 : x ≤ 9223372036854775807) :
    Calls Try.prog 5 #[.agg #[.int .u8 k, .int .i64 st, .int .i64 so, .int .i64 dm, .int .i64 ep], .int .i64 v, .int .i64 x, .bool ch, .slice A L.length c, .slice C M.length d] w fun e w' => e = .returned (.bool true) ∧ Below w.heap.size w w' := by
  have mixed := mixedO
  obtain ⟨W1, hW1⟩ : ∃ W1, W1 = w.alloc (.cells #[.int .u8 k, .int .i64 st, .int .i64 so, .int .i64 dm, .int .i64 ep] 26) := ⟨_, rfl⟩
  have hb : Below w.heap.size w W1 := by rw [hW1]; exact (Below.refl _ w).alloc (Nat.le_refl _) _
  have x0 : W1.heap[w.heap.size]? = some (.cells #[.int .u8 k, .int .i64 st, .int .i64 so, .int .i64 dm, .int .i64 ep] 26 (0, 0)) := by rw [hW1]; exact heap_alloc_new w _
  obtain ⟨b0, e0⟩ : ∃ b0, b0 = w.heap.size := ⟨_, rfl⟩
  rw [← e0] at x0
  have HH : Hid (Ls1 w b0 k st so dm ep W1) := Lib.hid ⟨hb, x0⟩
  have HL := Lib.hid (hL.below hb)
  have HM := Lib.hid (hM.below hb)
  obtain ⟨n, hn⟩ : ∃ n, n = L.length := ⟨_, rfl⟩
  obtain ⟨m, hm⟩ : ∃ m, m = M.length := ⟨_, rfl⟩
  rw [← hn, ← hm]
  rw [← hn] at hl0; rw [← hm] at hm0
  have HNL := Lib.hid hn; have HNM := Lib.hid hm
  clear x0 hb hn hm hL hM
  rcases (show 100 < n ∨ (n ≤ 100 ∧ 100 < m) ∨ (n ≤ 100 ∧ m ≤ 100) by omega) with g1 | ⟨g1, g2⟩ | ⟨g1, g2⟩
  · go_enter Try.func5, Try.ntmps5
    go_wp2_with fail
    rw [← hW1]
    refine (works_any _).mono ?_
    rintro e w5 ⟨rfl, hb5⟩
    have HH5 := Lib.hid (HH.out.step hb5)
    go_wp2
    go_ret
    exact ⟨rfl, HH5.out.1⟩
  · go_enter Try.func5, Try.ntmps5
    go_wp2_with fail
    rw [← hW1]
    refine (works_any _).mono ?_
    rintro e w5 ⟨rfl, hb5⟩
    have HH5 := Lib.hid (HH.out.step hb5)
    go_wp2
    go_ret
    exact ⟨rfl, HH5.out.1⟩
  · go_enter Try.func5, Try.ntmps5
    go_wp2_with (at_builtin; refine app_copy rfl (.tmp 26) (.tmp 27) rfl w.heap.size L rfl A c (congrArg (fun z => Value.slice A z c) HNL.out) (by rw [← hW1]; exact HL.out) (by rw [← HNL.out]; omega) (by simp) ?_)
    intro v2 w2 ho2 hg2
    rw [← hW1] at hg2
    rw [show w.heap.size = b0 from e0.symm]
    have hb2 : Below W1.heap.size W1 w2 := Below.grown (Below.refl _ W1) hg2 (Nat.le_refl _) nofun
    have HH2 := Lib.hid (HH.out.step hb2)
    have HL2 := Lib.hid (HL.out.below hb2)
    have HM2 := Lib.hid (HM.out.below hb2)
    obtain ⟨A3, c3, rfl, hA3, _⟩ := ho2.form
    have HA := Lib.hid hA3
    rw [← HNL.out]
    clear hW1 e0 ho2 hg2 hb2 hA3 HH HL HM
    go_wp2_with (at_builtin; refine app_copy rfl (.tmp 29) (.tmp 30) rfl w2.heap.size M rfl C d (congrArg (fun z => Value.slice C z d) HNM.out) HM2.out (by rw [← HNM.out]; omega) (by simp) ?_)
    intro v3 w3 ho3 hg3
    have hb3 : Below w2.heap.size w2 w3 := Below.grown (Below.refl _ w2) hg3 (Nat.le_refl _) nofun
    have HH3 := Lib.hid (HH2.out.step hb3)
    have HL3 := Lib.hid (HL2.out.below hb3)
    have HM3 := Lib.hid (HM2.out.below hb3)
    have HA3 := Lib.hid (HA.out.below hb3)
    obtain ⟨C3, d3, rfl, hC3, _⟩ := ho3.form
    have HC3 := Lib.hid hC3
    rw [← HNM.out]
    clear ho3 hg3 hb3 hC3 HH2 HL2 HM2 HA
    have HS := Lib.hid (send_any k st so dm ep v x ch A3 C3 c3 d3 L M w3 HA3.out HC3.out (by rw [← HNL.out]; omega) (by rw [← HNM.out]; omega) hx0 hx1)
    rw [← HNL.out, ← HNM.out] at HS
    obtain ⟨j0, j1, j2, j3, j4, _⟩ := jb_cells HH3.out.2
    go_wp2_with fail
    refine HS.out.mono ?_
    rintro e w4 ⟨r, rfl, hO, hb4⟩
    obtain ⟨S, hS⟩ : ∃ S, S = sendM k v x ch L M := ⟨_, rfl⟩
    rw [← hS] at hO
    obtain ⟨A4, c4, rfl, hat, hq1, hq2, _⟩ := hO.out.room
    have HH4 := Lib.hid (HH3.out.step hb4.out)
    have HL4 := Lib.hid (HL3.out.below hb4.out)
    have HM4 := Lib.hid (HM3.out.below hb4.out)
    have HA4 := Lib.hid (HA3.out.below hb4.out)
    have HC4 := Lib.hid (HC3.out.below hb4.out)
    have HAT := Lib.hid hat
    have HSS := Lib.hid hS
    clear hS hat hO hb4 HH3 HL3 HM3 HA3 HC3 HS j0 j1 j2 j3 j4
    obtain ⟨q, hq⟩ : ∃ q, q = S.length := ⟨_, rfl⟩
    rw [← hq]
    have HQ : Hid (q ≤ 9223372036854775807) := Lib.hid (by rw [hq]; unfold maxLen at hq2; omega)
    have HNQ := Lib.hid hq
    clear hq hq1 hq2
    have HR := Lib.hid (rsend_any k st so dm ep v x ch A C c d L M w4 HL4.out HM4.out (by rw [← HNL.out]; omega) (by rw [← HNM.out]; omega) hx0 hx1)
    rw [← HNL.out, ← HNM.out] at HR
    obtain ⟨j0, j1, j2, j3, j4, _⟩ := jb_cells HH4.out.2
    go_wp2_with fail
    refine HR.out.mono ?_
    rintro e w5 ⟨r, rfl, hO, hb5⟩
    rw [← HSS.out] at hO
    obtain ⟨A5, c5, rfl, hat5, _⟩ := hO.out.room
    rw [← HNQ.out]
    have HH5 := Lib.hid (HH4.out.step hb5.out)
    have HL5 := Lib.hid (HL4.out.below hb5.out)
    have HM5 := Lib.hid (HM4.out.below hb5.out)
    have HA5 := Lib.hid (HA4.out.below hb5.out)
    have HC5 := Lib.hid (HC4.out.below hb5.out)
    have HAT5 := Lib.hid (HAT.out.below hb5.out)
    have HSM := Lib.hid (samem_any A4 A5 c4 c5 S S w5 HAT5.out hat5 (by rw [← HNQ.out]; exact HQ.out) (by rw [← HNQ.out]; exact HQ.out))
    rw [← HNQ.out, show decide (S = S) = true by simp] at HSM
    clear hat5 hO hb5 HR HH4 HL4 HM4 HA4 HC4 HAT j0 j1 j2 j3 j4
    go_wp2_with fail
    refine HSM.out.mono ?_
    rintro e w6 ⟨rfl, hb6⟩
    have HH6 := Lib.hid (HH5.out.step hb6)
    have HL6 := Lib.hid (HL5.out.below hb6)
    have HM6 := Lib.hid (HM5.out.below hb6)
    have HA6 := Lib.hid (HA5.out.below hb6)
    have HC6 := Lib.hid (HC5.out.below hb6)
    have HAT6 := Lib.hid (HAT5.out.below hb6)
    have HE := Lib.hid (rsame_edges A3 A c3 c L L w6 HA6.out HL6.out (by rw [← HNL.out]; omega) (by rw [← HNL.out]; omega))
    rw [← HNL.out, show decide (L = L) = true by simp] at HE
    clear hb6 HSM HH5 HL5 HM5 HA5 HC5 HAT5
    go_wp2_with fail
    refine HE.out.mono ?_
    rintro e w7 ⟨rfl, hb7⟩
    have HH7 := Lib.hid (HH6.out.step hb7)
    have HM7 := Lib.hid (HM6.out.below hb7)
    have HC7 := Lib.hid (HC6.out.below hb7)
    have HAT7 := Lib.hid (HAT6.out.below hb7)
    have HE2 := Lib.hid (rsame_edges C3 C d3 d M M w7 HC7.out HM7.out (by rw [← HNM.out]; omega) (by rw [← HNM.out]; omega))
    rw [← HNM.out, show decide (M = M) = true by simp] at HE2
    clear hb7 HE HH6 HL6 HM6 HA6 HC6 HAT6
    go_wp2_with fail
    refine HE2.out.mono ?_
    rintro e w8 ⟨rfl, hb8⟩
    have HH8 := Lib.hid (HH7.out.step hb8)
    have HAT8 := Lib.hid (HAT7.out.below hb8)
    have HUP : Hid (UpM S) := Lib.hid (by rw [HSS.out]; exact up_send k v x ch L M)
    clear hb8 HE2 HH7 HM7 HC7 HAT7
    go_wp2_with fail
    go_loopg [16] q (fun gk i wr => ∃ p : Nat, p + gk = q ∧ i = .int .i64 ((p + 1 : Nat) : Int) ∧ Hid (Below w8.heap.size w8 wr))
    case atStart => exact ⟨0, by omega, rfl, Lib.hid (Below.refl _ _)⟩
    case round =>
      obtain ⟨p, hp, rfl, HBr⟩ := hrel
      have HATr := Lib.hid (HAT8.out.below HBr.out)
      by_cases hlt : p + 1 < q
      · obtain ⟨⟨u1, y1⟩, hu1⟩ := at_lt S p (by rw [← HNQ.out]; omega)
        obtain ⟨⟨u2, y2⟩, hu2⟩ := at_lt S (p + 1) (by rw [← HNQ.out]; omega)
        obtain ⟨bk, o, hA4, d0, _⟩ := HATr.out p _ hu1
        obtain ⟨bk2, o2, hA42, d1, _⟩ := HATr.out (p + 1) _ hu2
        subst hA4
        obtain ⟨rfl, rfl⟩ : bk = bk2 ∧ o = o2 := by simpa using hA42
        have hab : u1 < u2 := up_next HUP.out hu1 hu2
        have hw1 : IntKind.i64.wrap (p : Int) = (p : Int) := by rw [IntKind.wrap_i64]; have := HQ.out; omega
        have hpq : p < q := by omega
        have hw2 : IntKind.i64.wrap ((p : Int) + 1 + 1) = (p : Int) + 1 + 1 := by rw [IntKind.wrap_i64]; have := HQ.out; omega
        have hnot : ¬ u2 ≤ u1 := by omega
        clear hA42 hu1 hu2
        go_wp2_with fail
        go_quiet (fail)
        go_wp2
        go_roundg (gk - 1)
        case measure => omega
        case rel => exact ⟨p + 1, by have := HQ.out; omega, by first | (simp; done) | (simp [hw2]; done) | (congr 1; omega) | go_num, Lib.hid (Fx.below_drewN HBr.out _)⟩
      · go_wp2_with fail
        refine (works_any _).mono ?_
        rintro e w9 ⟨rfl, hb9⟩
        have HH9 := Lib.hid ((HH8.out.step HBr.out).step hb9)
        go_wp2
        go_ret
        exact ⟨rfl, HH9.out.1⟩

end Go.Proofs.Ytobmkhbkcmdhbaa.Al
