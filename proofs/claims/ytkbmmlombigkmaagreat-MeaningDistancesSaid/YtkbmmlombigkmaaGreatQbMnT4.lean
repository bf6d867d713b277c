/-
  What is proved here: contracts of paths.areHeldUp and paths.Tight. Conditions: counts fit an int.
-/
import Derived.Test.YtkbmmlombigkmaaGreatQbMnT3
import Derived.Test.YtkbmmlombigkmaaGreatQbPtG2
namespace Go.Proofs.YtkbmmlombigkmaaGreat.Pa
open Go.RowKit Gr Wd Ws Fx Lb
def HdRel (w : World) (r : List Bool) (l : List Int) (g : Nat) (gk : Nat) (i : Value) (wr : World) : Prop :=
  ∃ k : Nat, k + gk = l.length ∧ i = .int .i64 (k : Int) ∧ Hid (Below w.heap.size w wr) ∧ Hid (Br wr g r) ∧ Hid (heldB r l 0 l.length = heldB r l k gk)
set_option maxRecDepth 100000 in
set_option maxHeartbeats 600000 in
theorem held_any (A B : Option Addr) (c d s : Nat) (L : List Ed) (l : List Int) (w : World) (hL : EAt w A L) (hl : IAt w B l) (hn : L.length ≤ 9223372036854775807) (hm : l.length ≤ 512) (hF : FitsI l.length L) (hs : s < l.length) :
    Calls Tryz.prog 33 #[.agg #[.int .i64 (l.length : Int), .slice A L.length c], .int .i64 (s : Int), .slice B l.length d] w fun e w' =>
      e = .returned (.bool (heldB (rch l.length s L l) l 0 l.length)) ∧ Below w.heap.size w w' := by
  have HL := Lib.hid hL; have Hl := Lib.hid hl
  have HZ := Lib.hid ((Below.refl _ w).alloc (Nat.le_refl _) (.cells #[.int .i64 (l.length : Int), .slice A L.length c] 24))
  have HC := Lib.hid (fun W (hb : Below w.heap.size w W) => reached_any A B c d s L l W (hL.below hb) (hl.below hb) hn hm hF hs)
  clear hL hl hF
  obtain ⟨r, hr⟩ : ∃ r, rch l.length s L l = r := ⟨_, rfl⟩
  have hrl := rch_len l.length s L l
  rw [hr] at HC hrl ⊢
  have HRL := Lib.hid hrl
  clear hr hrl
  obtain ⟨n, hn'⟩ : ∃ n, n = L.length := ⟨_, rfl⟩
  obtain ⟨m, hm'⟩ : ∃ m, m = l.length := ⟨_, rfl⟩
  rw [← hn'] at hn HZ HC ⊢
  rw [← hm'] at hm hs HZ HC HRL ⊢
  have HN := Lib.hid hn'; have HM := Lib.hid hm'; clear hn' hm'
  obtain ⟨R, hR⟩ : ∃ R, heldB r l 0 m = R := ⟨_, rfl⟩
  rw [hR]
  have HR := Lib.hid hR; clear hR
  go_enter Tryz.func33, Tryz.ntmps33
  go_wp2_with fail
  refine (HC.out _ HZ.out).mono ?_
  rintro e w1 ⟨⟨g, rfl, HB1⟩, HW1⟩
  have HW2 := Lib.hid (step_below HZ.out HZ.out.size HW1.out)
  clear HW1
  go_wp2_with fail
  go_loopg [16] m (fun gk i wr => HdRel w r l g gk i wr)
  case atStart => exact ⟨0, by have := HM.out; omega, rfl, HW2, HB1, Lib.hid (by rw [← HM.out])⟩
  case round =>
    clear HW2 HB1
    obtain ⟨k, hk, rfl, HB, HBr, HD⟩ := hrel
    rw [← HM.out] at hk
    by_cases hlt : k < m
    · obtain ⟨bk, o, rfl, x0⟩ := iat_at (Hl.out.below HB.out) (show k < l.length by rw [← HM.out]; exact hlt)
      have v0 := HBr.out.cell (k := k) (by rw [HRL.out]; exact hlt)
      obtain ⟨G, hG⟩ : ∃ G, gk = G + 1 := ⟨gk - 1, by omega⟩
      subst hG
      obtain ⟨X, hX⟩ : ∃ X, vl l k = X := ⟨_, rfl⟩
      obtain ⟨b, hb⟩ : ∃ b, bt r k = b := ⟨_, rfl⟩
      have hd := HD.out
      rw [heldB, hX, hb] at hd
      rw [hX] at x0
      rw [hb] at v0
      have HD2 := Lib.hid hd
      clear hd hX hb HD
      by_cases hi : X = 4611686018427387904
      · subst hi
        go_wp2
        go_roundg G
        case measure => omega
        case rel => exact ⟨k + 1, by have := HM.out; omega, by go_num, HB, HBr, Lib.hid (by rw [HD2.out]; simp)⟩
      · cases b with
        | true =>
          go_wp2
          go_roundg G
          case measure => omega
          case rel => exact ⟨k + 1, by have := HM.out; omega, by go_num, HB, HBr, Lib.hid (by rw [HD2.out]; simp)⟩
        | false =>
          go_wp2
          go_ret
          refine ⟨ret_b ?_, HB.out⟩
          rw [← HR.out, HM.out, HD2.out]; simp [hi]
    · have HK : Hid (k = m) := Lib.hid (by omega)
      have HG0 : Hid (gk = 0) := Lib.hid (by omega)
      go_wp2
      go_ret
      refine ⟨ret_b ?_, HB.out⟩
      rw [← HR.out, HM.out, HD.out, HG0.out]; rfl
theorem okP_no (V : Int) (L : List Ed) (s : Int) (l : List Int) (h : ¬ (chk V L = 0 ∧ 0 ≤ s ∧ s < V ∧ (l.length : Int) = V)) : tgt V L s l = false := by
  unfold tgt
  cases ho : okP V L s l with
  | true => exact absurd ((okP_iff V L s l).1 ho) h
  | false => rfl
theorem okP_yes (V : Int) (L : List Ed) (s : Int) (l : List Int) (h : chk V L = 0 ∧ 0 ≤ s ∧ s < V ∧ (l.length : Int) = V) : tgt V L s l = inP L s.toNat l := by
  unfold tgt
  rw [(okP_iff V L s l).2 h]; rfl
theorem inP_at {L : List Ed} {s : Nat} {l : List Int} {D N H : Bool} {z : Int} (h1 : distB l = D) (h2 : vl l s = z) (h3 : nearB l L = N) (h4 : heldB (rch l.length s L l) l 0 l.length = H) : inP L s l = (D && decide (z = 0) && N && H) := by
  unfold inP; rw [h1, h2, h3, h4]
set_option maxRecDepth 100000 in
set_option maxHeartbeats 2000000 in
theorem tight_any (V s : Int) (A B : Option Addr) (c d : Nat) (L : List Ed) (l : List Int) (w : World) (hL : EAt w A L) (hl : IAt w B l) (hn : L.length ≤ 9223372036854775807) (hm : l.length ≤ 9223372036854775807) :
    Calls Tryz.prog 15 #[.agg #[.int .i64 V, .slice A L.length c], .int .i64 s, .slice B l.length d] w fun e w' =>
      e = .returned (.bool (tgt V L s l)) ∧ Below w.heap.size w w' := by
  have HX := Lib.hid (heap_alloc_new w (.cells #[.int .i64 V, .slice A L.length c] 24))
  have HZ := Lib.hid ((Below.refl _ w).alloc (Nat.le_refl _) (.cells #[.int .i64 V, .slice A L.length c] 24))
  have HC := Lib.hid (fun W (hb : Below w.heap.size w W) => check_any V A c L W (hL.below hb) hn)
  obtain ⟨W1, hW1⟩ : ∃ W1, W1 = w.alloc (.cells #[.int .i64 V, .slice A L.length c] 24) := ⟨_, rfl⟩
  rw [← hW1] at HX HZ
  obtain ⟨T, hT⟩ : ∃ T, tgt V L s l = T := ⟨_, rfl⟩
  rw [hT]
  obtain ⟨E, hE⟩ : ∃ E, chk V L = E := ⟨_, rfl⟩
  rw [hE] at HC
  by_cases hok : E = 0 ∧ 0 ≤ s ∧ s < V ∧ (l.length : Int) = V
  · obtain ⟨rfl, hs0, hs1, hlV⟩ := hok
    obtain ⟨q, rfl⟩ : ∃ q : Nat, s = (q : Int) := ⟨s.toNat, by omega⟩
    subst hlV
    have hq : q < l.length := by omega
    have hV := ((chk_zero _ _).1 hE).2.1
    have hFI := fitsI_of hE
    have hTT := okP_yes (l.length : Int) L q l ⟨hE, hs0, hs1, rfl⟩
    rw [hT] at hTT
    obtain ⟨D, hD⟩ : ∃ D, distB l = D := ⟨_, rfl⟩
    obtain ⟨z, hz⟩ : ∃ z, vl l q = z := ⟨_, rfl⟩
    obtain ⟨N, hN⟩ : ∃ N, nearB l L = N := ⟨_, rfl⟩
    obtain ⟨H, hH⟩ : ∃ H, heldB (rch l.length q L l) l 0 l.length = H := ⟨_, rfl⟩
    have h1 := inP_at hD hz hN hH
    rw [show (q : Int).toNat = q by omega, h1] at hTT
    have HTT := Lib.hid hTT
    have HD := Lib.hid (fun W (hb : Below w.heap.size w W) => dists_any B d l W (hl.below hb) hm)
    have HNn := Lib.hid (fun W (hb : Below w.heap.size w W) => near_any (l.length : Int) A B c d L l W (hL.below hb) (hl.below hb) hn hFI)
    have HH := Lib.hid (fun W (hb : Below w.heap.size w W) => held_any A B c d q L l W (hL.below hb) (hl.below hb) hn (by omega) hFI hq)
    rw [hD] at HD
    rw [hN] at HNn
    rw [hH] at HH
    have Hl := Lib.hid hl
    have HQ : Hid (∀ W, Below w.heap.size w W → ∃ bk o, B = some ⟨bk, o, none⟩ ∧ W.cell? ⟨bk, o + q, none⟩ = some (.int .i64 z)) := Lib.hid fun W hb => by
      have := iat_at (hl.below hb) hq
      rwa [hz] at this
    clear hT hE hV hFI hTT hD hz hN hH h1 hL hl Hl hs0
    obtain ⟨m, hm'⟩ : ∃ m, m = l.length := ⟨_, rfl⟩
    obtain ⟨n, hn'⟩ : ∃ n, n = L.length := ⟨_, rfl⟩
    rw [← hm'] at hm hq HX HC HD HNn HH hW1 hs1 ⊢
    rw [← hn'] at hn HX HC HNn HH hW1 ⊢
    clear hm' hn'
    obtain ⟨b, hb⟩ : ∃ b, b = w.heap.size := ⟨_, rfl⟩
    rw [← hb] at HX
    have HBb := Lib.hid hb; clear hb
    go_enter Tryz.func15, Tryz.ntmps15
    go_upto_region 1 with fail
    rw [← hW1, ← HBb.out]
    obtain ⟨k0, k1, _⟩ := Bx.cells HX.out
    clear hW1
    go_wp2_with fail
    refine (HC.out _ HZ.out).mono ?_
    rintro e w2 ⟨rfl, hw2⟩
    have HZ2 := Lib.hid (step_below HZ.out HZ.out.size hw2)
    have HX2 := Lib.hid ((hw2.block _ (lt_of_block HX.out)).trans HX.out)
    clear hw2 k0 k1 HX HZ HC
    obtain ⟨k0, k1, _⟩ := Bx.cells HX2.out
    go_wp2_with fail
    refine (HD.out _ HZ2.out).mono ?_
    rintro e w3 ⟨rfl, rfl⟩
    clear HD
    cases D with
    | false =>
      go_wp2
      go_ret
      exact ⟨ret_b (by rw [HTT.out]; rfl), HZ2.out⟩
    | true =>
      obtain ⟨bk, o, rfl, y0⟩ := HQ.out _ HZ2.out
      by_cases hz : z = 0
      · subst hz
        go_wp2_with fail
        refine (HNn.out _ HZ2.out).mono ?_
        rintro e w3 ⟨rfl, hw3⟩
        have HZ3 := Lib.hid (step_below HZ2.out HZ2.out.size hw3)
        have HX3 := Lib.hid ((hw3.block _ (lt_of_block HX2.out)).trans HX2.out)
        clear hw3 k0 k1 HX2 HZ2 y0
        obtain ⟨k0, k1, _⟩ := Bx.cells HX3.out
        cases N with
        | false =>
          go_wp2
          go_ret
          exact ⟨ret_b (by rw [HTT.out]; rfl), HZ3.out⟩
        | true =>
          go_wp2_with fail
          refine (HH.out _ HZ3.out).mono ?_
          rintro e w4 ⟨rfl, hw4⟩
          have HZ4 := Lib.hid (step_below HZ3.out HZ3.out.size hw4)
          clear hw4 k0 k1 HX3 HZ3
          go_wp2
          go_ret
          exact ⟨ret_b (by rw [HTT.out]; simp), HZ4.out⟩
      · go_wp2
        go_ret
        exact ⟨ret_b (by rw [HTT.out]; simp [hz]), HZ2.out⟩
  · have hF := okP_no V L s l (by rw [hE]; exact hok)
    rw [hT] at hF
    subst hF
    clear hT hE hL hl
    obtain ⟨m, hm'⟩ : ∃ m, m = l.length := ⟨_, rfl⟩
    obtain ⟨n, hn'⟩ : ∃ n, n = L.length := ⟨_, rfl⟩
    rw [← hm'] at hm hok ⊢
    rw [← hn'] at hn HX HC hW1 ⊢
    clear hm' hn'
    obtain ⟨b, hb⟩ : ∃ b, b = w.heap.size := ⟨_, rfl⟩
    rw [← hb] at HX
    have HBb := Lib.hid hb; clear hb
    rcases (show ¬ E = 0 ∨ (E = 0 ∧ s < 0) ∨ (E = 0 ∧ 0 ≤ s ∧ V ≤ s) ∨ (E = 0 ∧ 0 ≤ s ∧ s < V ∧ ¬ (m : Int) = V) by omega) with g1 | ⟨g1, g2⟩ | ⟨g1, g2, g3⟩ | ⟨g1, g2, g3, g4⟩
    all_goals
      clear hok
      try (have g5 : ((m : Int) != V) = true := by simpa using g4)
      go_enter Tryz.func15, Tryz.ntmps15
      go_upto_region 1 with fail
      rw [← hW1, ← HBb.out]
      obtain ⟨k0, k1, _⟩ := Bx.cells HX.out
      clear hW1
      go_wp2_with fail
      refine (HC.out _ HZ.out).mono ?_
      rintro e w2 ⟨rfl, hw2⟩
      have HZ2 := Lib.hid (step_below HZ.out HZ.out.size hw2)
      have HX2 := Lib.hid ((hw2.block _ (lt_of_block HX.out)).trans HX.out)
      clear hw2 k0 k1 HX HZ HC
      obtain ⟨k0, k1, _⟩ := Bx.cells HX2.out
      go_wp2
      go_ret
      exact ⟨rfl, HZ2.out⟩
end Go.Proofs.YtkbmmlombigkmaaGreat.Pa
