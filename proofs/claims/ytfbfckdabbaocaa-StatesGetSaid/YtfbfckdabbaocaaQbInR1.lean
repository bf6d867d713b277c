/-
  What is proved here: contracts of the document's own Fold, mail and Same. Conditions: lengths fit an int; fewer than 1000000 messages.
-/
import Derived.Test.YtfbfckdabbaocaaQbInTx
namespace Go.Proofs.Ytfbfckdabbaocaa.In
open Go.RowKit Go.Maps Gr Wd Ws Fx Rk Lb Al
set_option maxRecDepth 100000 in
set_option maxHeartbeats 4000000 in
theorem rsame_any (A B : Option Addr) (n m c d : Nat) (a b : List Ml) (w : World) (hA : KAt w A a) (hB : KAt w B b) (hn : a.length = n) (hm : b.length = m) (hn2 : n ≤ 9223372036854775807) (hm2 : m ≤ 9223372036854775807) :
    Calls Try.prog 48 #[.slice A n c, .slice B m d] w fun e w' => e = .returned (.bool (sameB a b)) ∧ Hid (Below w.heap.size w w') := by
  have mixed := mixedI
  have HA := Lib.hid hA; have HBb := Lib.hid hB; have HN := Lib.hid hn; have HM := Lib.hid hm
  clear hA hB hn hm
  obtain ⟨r, hr⟩ : ∃ r, sameB a b = r := ⟨_, rfl⟩
  rw [hr]
  have HR := Lib.hid hr; clear hr
  by_cases hnm : n = m
  · subst hnm
    go_enter Try.func48, Try.ntmps48
    go_wp2
    go_loopg [5] n (fun gk i wr => EqRel w a b gk i wr)
    case atStart => exact ⟨0, by have := HN.out; omega, rfl, Lib.hid (Below.refl _ w), Lib.hid rfl⟩
    case round =>
      obtain ⟨q, hq, rfl, HB, HD⟩ := hrel
      rw [HN.out] at hq
      by_cases hlt : q < n
      · obtain ⟨⟨p, x⟩, hp⟩ := at_lt a q (by rw [HN.out]; exact hlt)
        obtain ⟨⟨s, y⟩, hs⟩ := at_lt b q (by rw [HM.out]; exact hlt)
        obtain ⟨bk, o, rfl, c0, c1⟩ := (HA.out.below HB.out) q _ hp
        obtain ⟨bk', o', rfl, d0, d1⟩ := (HBb.out.below HB.out) q _ hs
        simp only at c0 c1 d0 d1
        have HD2 : Hid (sameB a b = (eqM (p, x) (s, y) && sameB (a.drop (q + 1)) (b.drop (q + 1)))) := Lib.hid (by rw [HD.out, drop_at hp, drop_at hs, sameB_cons])
        clear hp hs HD
        by_cases heq : eqM (p, x) (s, y) = true
        · have HD3 : Hid (sameB a b = sameB (a.drop (q + 1)) (b.drop (q + 1))) := Lib.hid (by rw [HD2.out, heq]; rfl)
          cases p <;> cases s
          · clear heq
            go_wp2_with fail
            go_quiet (fail)
            go_wp2
            go_roundg (gk - 1)
            case measure => omega
            case rel => exact ⟨q + 1, by have := HN.out; omega, by go_num, Lib.hid (Ws.below_drewN HB.out _), HD3⟩
          · cases heq
          · cases heq
          · have hxy : x = y := by simpa [eqM] using heq
            subst hxy
            clear heq
            go_wp2_with fail
            go_quiet (fail)
            go_wp2
            go_roundg (gk - 1)
            case measure => omega
            case rel => exact ⟨q + 1, by have := HN.out; omega, by go_num, Lib.hid (Ws.below_drewN HB.out _), HD3⟩
        · have heq2 : eqM (p, x) (s, y) = false := by simpa using heq
          have e3 : r = false := by rw [← HR.out, HD2.out, heq2]; rfl
          subst e3
          clear HD2 HR heq
          cases p <;> cases s
          · cases heq2
          · clear heq2
            go_wp2_with fail
            go_quiet (fail)
            go_wp2
            go_ret
            exact ⟨rfl, Lib.hid (Ws.below_drewN HB.out _)⟩
          · clear heq2
            go_wp2_with fail
            go_quiet (fail)
            go_wp2
            go_ret
            exact ⟨rfl, Lib.hid (Ws.below_drewN HB.out _)⟩
          · have hxy : (x == y) = false := by simpa [eqM] using heq2
            have hne : ¬ x = y := by simpa using hxy
            clear heq2
            go_wp2_with fail
            go_quiet (fail)
            go_wp2
            go_ret
            exact ⟨rfl, Lib.hid (Ws.below_drewN HB.out _)⟩
      · have e3 : r = true := by
          rw [← HR.out, HD.out, List.drop_eq_nil_of_le (by rw [HN.out]; omega), List.drop_eq_nil_of_le (by rw [HM.out]; omega)]; rfl
        subst e3
        go_wp2
        go_ret
        exact ⟨rfl, HB⟩
  · have e3 : r = false := by rw [← HR.out]; exact sameB_len (by rw [HN.out, HM.out]; exact hnm)
    subst e3
    go_enter Try.func48, Try.ntmps48
    go_wp2
    go_ret
    exact ⟨rfl, Lib.hid (Below.refl _ w)⟩
end Go.Proofs.Ytfbfckdabbaocaa.In
