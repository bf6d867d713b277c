/-
  What is proved here: the law PathsOne walked: it returns true, and no block that was there has changed. Conditions: counts fit an int.
-/
import Derived.Test.YtiaihloncpkjbaaPaRx
namespace Go.Proofs.Ytiaihloncpkjbaa.Pa
open Go.RowKit Gr Wd Ws Fx Lb

theorem tgt_far {m q : Nat} {L : List Ed} (h : chk (m : Int) L = 0) (hq : q < m) : tgt (m : Int) L (q : Int) (far m q L) = true := by
  have hF := (fitsI_of h).fits
  have ht := far_tight hF hq
  rw [okP_yes (m : Int) L (q : Int) _ ⟨h, by omega, by omega, by rw [ht.len]⟩, show (q : Int).toNat = q by omega]
  exact (inP_iff hF hq ht.len).2 ht
theorem tgt_set {m q v : Nat} {L : List Ed} {x : Int} (h : chk (m : Int) L = 0) (hq : q < m) (hv : v < m) (hx : vl (far m q L) v ≠ x) : tgt (m : Int) L (q : Int) ((far m q L).set v x) = false := by
  have hF := (fitsI_of h).fits
  have ht := far_tight hF hq
  have hl : ((far m q L).set v x).length = m := by rw [List.length_set, ht.len]
  rw [okP_yes (m : Int) L (q : Int) _ ⟨h, by omega, by omega, by rw [hl]⟩, show (q : Int).toNat = q by omega]
  cases hi : inP L q ((far m q L).set v x) with
  | false => rfl
  | true =>
    have h2 := tight_one ((inP_iff hF hq hl).1 hi) ht
    have h3 := vl_set (far m q L) v x v (by rw [ht.len]; exact hv)
    rw [h2, if_pos rfl] at h3
    exact absurd h3 hx
theorem iown_iat {w : World} {B g cp n : Nat} {l : List Int} (hn : l.length = n) (h : IOwn w B (.slice (some ⟨g, 0, none⟩) n cp) l) : IAt w (some ⟨g, 0, none⟩) l := by
  intro k x hx
  refine ⟨g, 0, rfl, ?_⟩
  have := (iown_at hn h (k := k) (by rw [← hn]; exact lt_at hx)).1
  rw [vl_of hx] at this
  rw [Nat.zero_add]; exact this
theorem tight_n (V s : Int) (A B : Option Addr) (c d n m : Nat) (L : List Ed) (l : List Int) (w : World) (hN : n = L.length) (hM : l.length = m) (hL : EAt w A L) (hl : IAt w B l) (hn : n ≤ 9223372036854775807) (hm : m ≤ 9223372036854775807) (b : Bool) (hb : tgt V L s l = b) :
    Calls Try.prog 16 #[.agg #[.int .i64 V, .slice A n c], .int .i64 s, .slice B m d] w fun e w' => e = .returned (.bool b) ∧ Below w.heap.size w w' := by
  subst hN hM hb
  exact tight_any V s A B c d L l w hL hl hn hm

set_option maxRecDepth 100000 in
set_option maxHeartbeats 4000000 in
theorem law_one (V s i x : Int) (A : Option Addr) (c : Nat) (L : List Ed) (w : World) (hL : Hid (EAt w A L)) (hn : L.length ≤ 9223372036854775807) :
    Calls Try.prog 6 #[.agg #[.int .i64 V, .slice A L.length c], .int .i64 s, .int .i64 i, .int .i64 x] w fun e w' => e = .returned (.bool true) ∧ Below w.heap.size w w' := by
  have RC := Lib.hid (fun W (h : Below w.heap.size w W) => rcheck_any V A c L W (hL.out.below h) hn)
  obtain ⟨E, hE⟩ : ∃ E, chk V L = E := ⟨_, rfl⟩
  rw [hE] at RC
  have HE := Lib.hid hE; clear hE
  obtain ⟨n, hn'⟩ : ∃ n, n = L.length := ⟨_, rfl⟩
  rw [← hn'] at hn RC ⊢
  have HN := Lib.hid hn'
  clear hn'
  obtain ⟨W1, hW1⟩ : ∃ W1, W1 = w.alloc (.cells #[.int .i64 V, .slice A n c] 35) := ⟨_, rfl⟩
  have HB : Hid (Below w.heap.size w W1) := Lib.hid (by rw [hW1]; exact (Below.refl _ w).alloc (Nat.le_refl _) _)
  have HX : Hid (W1.heap[w.heap.size]? = some (.cells #[.int .i64 V, .slice A n c] 35 (0, 0))) := Lib.hid (by rw [hW1]; exact heap_alloc_new w _)
  obtain ⟨b, hb⟩ : ∃ b, b = w.heap.size := ⟨_, rfl⟩
  rw [← hb] at HX
  have HBb := Lib.hid hb; clear hb
  by_cases g1 : 100 < n
  · obtain ⟨k0, k1, _⟩ := Bx.cells HX.out
    go_enter Try.func6, Try.ntmps6
    go_upto_region 1 with fail
    rw [← hW1, ← HBb.out]
    clear hW1
    go_wp2_with fail
    refine (light_of V A n c 100 false 100 rfl (by simp; omega) _).mono ?_
    rintro e w2 ⟨rfl, h2⟩
    have HB2 := Lib.hid (step_below HB.out HB.out.size h2); clear h2 k0 k1
    go_wp2_with fail
    refine (works_any _).mono ?_
    rintro e w3 ⟨rfl, h3⟩
    have HB3 := Lib.hid (step_below HB2.out HB2.out.size h3.out); clear h3
    go_wp2
    go_ret
    exact ⟨rfl, HB3.out⟩
  · by_cases g2 : 12 < V
    · obtain ⟨k0, k1, _⟩ := Bx.cells HX.out
      go_enter Try.func6, Try.ntmps6
      go_upto_region 1 with fail
      rw [← hW1, ← HBb.out]
      clear hW1
      go_wp2_with fail
      refine (light_of V A n c 100 true 100 rfl (by simp; omega) _).mono ?_
      rintro e w2 ⟨rfl, h2⟩
      have HB2 := Lib.hid (step_below HB.out HB.out.size h2)
      have HX2 := Lib.hid ((h2.block _ (lt_of_block HX.out)).trans HX.out)
      clear h2 k0 k1
      obtain ⟨k0, k1, _⟩ := Bx.cells HX2.out
      go_wp2_with fail
      refine (works_any _).mono ?_
      rintro e w3 ⟨rfl, h3⟩
      have HB3 := Lib.hid (step_below HB2.out HB2.out.size h3.out); clear h3
      go_wp2
      go_ret
      exact ⟨rfl, HB3.out⟩
    · by_cases hok : E = 0 ∧ 0 ≤ s ∧ s < V
      · obtain ⟨rfl, hs0, hs1⟩ := hok
        obtain ⟨m, rfl⟩ : ∃ m : Nat, V = (m : Int) := ⟨V.toNat, by omega⟩
        obtain ⟨q, rfl⟩ : ∃ q : Nat, s = (q : Int) := ⟨s.toNat, by omega⟩
        have hm12 : m ≤ 12 := by omega
        have hq : q < m := by omega
        have hFI := fitsI_of HE.out
        have hT1 := tgt_far HE.out hq
        have hlen := (far_tight hFI.fits hq).len
        obtain ⟨v, hv, hpick⟩ := pick_any i m (by omega) (by omega) w
        have HPK := Lib.hid (fun W => (pick_any i m (by omega) (by omega) W))
        clear hv hpick v
        have RX := Lib.hid (fun W (h : Below w.heap.size w W) => relaxed_any m q A c L W (hL.out.below h) (by rw [← HN.out]; omega) (by omega) hFI hq)
        rw [← HN.out] at RX
        have T2 := Lib.hid (fun (v : Nat) (hv : v < m) (hx : vl (far m q L) v ≠ x) => tgt_set HE.out hq hv hx)
        obtain ⟨l, hl⟩ : ∃ l, far m q L = l := ⟨_, rfl⟩
        rw [hl] at hT1 hlen RX T2
        have HT1 := Lib.hid hT1; have HLEN := Lib.hid hlen
        clear hl hT1 hlen hFI
        have t1 : decide ((q : Int) < 0) = false := by simp
        have t2 : decide (m ≤ q) = false := by simp; omega
        obtain ⟨k0, k1, _⟩ := Bx.cells HX.out
        go_enter Try.func6, Try.ntmps6
        go_upto_region 1 with fail
        rw [← hW1, ← HBb.out]
        clear hW1
        go_wp2_with fail
        refine (light_of (m : Int) A n c 100 true 100 rfl (by simp; omega) _).mono ?_
        rintro e w2 ⟨rfl, h2⟩
        have HB2 := Lib.hid (step_below HB.out HB.out.size h2)
        have HX2 := Lib.hid ((h2.block _ (lt_of_block HX.out)).trans HX.out)
        clear h2 k0 k1 HB HX
        obtain ⟨k0, k1, _⟩ := Bx.cells HX2.out
        go_wp2_with fail
        refine (RC.out _ HB2.out).mono ?_
        rintro e w3 ⟨rfl, h3⟩
        have HB3 := Lib.hid (step_below HB2.out HB2.out.size h3)
        have HX3 := Lib.hid ((h3.block _ (lt_of_block HX2.out)).trans HX2.out)
        clear h3 k0 k1 HB2 HX2
        obtain ⟨k0, k1, hbl⟩ := Bx.cells HX3.out
        have HBL := Lib.hid hbl; clear hbl
        go_wp2_with fail
        refine (RX.out _ HB3.out).mono ?_
        rintro e w4 ⟨⟨g, cp, rfl, hg, ho⟩, h4⟩
        have HH4 : Hid (RxH w m b g cp (.slice A n c) l w4) := Lib.hid ⟨step_below HB3.out HB3.out.size h4.out, own_mono ho.out (by have := HBL.out; omega), (h4.out.block _ (lt_of_block HX3.out)).trans HX3.out, HLEN.out⟩
        have HGW : Hid (w.heap.size ≤ g) := Lib.hid (by have := hg.out; have := HBL.out; have := HBb.out; omega)
        have HBG : Hid (b ≠ g) := Lib.hid (by have := hg.out; have := HBL.out; omega)
        clear hg ho h4 k0 k1 HB3 HX3 HBL
        obtain ⟨k0, k1, _⟩ := Bx.cells HH4.out.box
        go_wp2_with fail
        refine (tight_n (m : Int) (q : Int) A (some ⟨g, 0, none⟩) c cp n m L l w4 HN.out HLEN.out (hL.out.below HH4.out.below) (iown_iat HLEN.out HH4.out.row) (by omega) (by omega) true HT1.out).mono ?_
        rintro e w5 ⟨rfl, h5⟩
        have HH5 := Lib.hid (HH4.out.step h5)
        clear h5 k0 k1 HH4
        obtain ⟨k0, k1, _⟩ := Bx.cells HH5.out.box
        obtain ⟨v, hv, hpick⟩ := HPK.out w5
        have HPICK := Lib.hid hpick
        clear hpick
        obtain ⟨X, hX⟩ : ∃ X, vl l v = X := ⟨_, rfl⟩
        have u0 := (iown_at HLEN.out HH5.out.row hv).1
        have u1 := (iown_at HLEN.out HH5.out.row hv).2
        rw [hX] at u0
        have HT2 : Hid (X ≠ x → tgt (m : Int) L (q : Int) (l.set v x) = false) := Lib.hid fun h => T2.out v hv (by rw [hX]; exact h)
        clear hX
        by_cases hxx : X = x
        · subst hxx
          go_wp2_with fail
          refine HPICK.out.mono ?_
          rintro e w6 ⟨rfl, rfl⟩
          go_wp2_with fail
          refine (works_any _).mono ?_
          rintro e w6 ⟨rfl, h6⟩
          have HB6 := Lib.hid (step_below HH5.out.below HH5.out.below.size h6.out); clear h6
          go_wp2
          go_ret
          exact ⟨rfl, HB6.out⟩
        · have HH6 : Hid (RxH w m b g cp (.slice A n c) (l.set v x) (w5.setCell ⟨g, v, none⟩ (.int .i64 x))) := Lib.hid (HH5.out.set HGW.out HBG.out v x)
          go_wp2_with fail
          refine HPICK.out.mono ?_
          rintro e w6 ⟨rfl, rfl⟩
          go_upto_region 10 with fail
          obtain ⟨W6, hW6⟩ : ∃ W6, W6 = w5.setCell ⟨g, v, none⟩ (.int .i64 x) := ⟨_, rfl⟩
          rw [← hW6] at HH6 ⊢
          clear hW6 k0 k1 u0 u1
          obtain ⟨k0, k1, _⟩ := Bx.cells HH6.out.box
          have HT3 := Lib.hid (HT2.out hxx)
          go_wp2_with fail
          refine (tight_n (m : Int) (q : Int) A (some ⟨g, 0, none⟩) c cp n m L (l.set v x) W6 HN.out HH6.out.len (hL.out.below HH6.out.below) (iown_iat HH6.out.len HH6.out.row) (by omega) (by omega) false HT3.out).mono ?_
          rintro e w7 ⟨rfl, h7⟩
          have HB7 := Lib.hid (step_below HH6.out.below HH6.out.below.size h7)
          clear h7 k0 k1
          go_wp2_with fail
          refine (works_any _).mono ?_
          rintro e w8 ⟨rfl, h8⟩
          have HB8 := Lib.hid (step_below HB7.out HB7.out.size h8.out); clear h8
          go_wp2
          go_ret
          exact ⟨rfl, HB8.out⟩
      · rcases (show ¬ E = 0 ∨ (E = 0 ∧ s < 0) ∨ (E = 0 ∧ 0 ≤ s ∧ V ≤ s) by omega) with g3 | ⟨g3, g4⟩ | ⟨g3, g4, g5⟩
        all_goals
          clear hok
          obtain ⟨k0, k1, _⟩ := Bx.cells HX.out
          go_enter Try.func6, Try.ntmps6
          go_upto_region 1 with fail
          rw [← hW1, ← HBb.out]
          clear hW1
          go_wp2_with fail
          refine (light_of V A n c 100 true 100 rfl (by simp; omega) _).mono ?_
          rintro e w2 ⟨rfl, h2⟩
          have HB2 := Lib.hid (step_below HB.out HB.out.size h2)
          have HX2 := Lib.hid ((h2.block _ (lt_of_block HX.out)).trans HX.out)
          clear h2 k0 k1
          obtain ⟨k0, k1, _⟩ := Bx.cells HX2.out
          go_wp2_with fail
          refine (RC.out _ HB2.out).mono ?_
          rintro e w3 ⟨rfl, h3⟩
          have HB3 := Lib.hid (step_below HB2.out HB2.out.size h3)
          have HX3 := Lib.hid ((h3.block _ (lt_of_block HX2.out)).trans HX2.out)
          clear h3 k0 k1
          obtain ⟨k0, k1, _⟩ := Bx.cells HX3.out
          go_wp2_with fail
          refine (works_any _).mono ?_
          rintro e w4 ⟨rfl, h4⟩
          have HB4 := Lib.hid (step_below HB3.out HB3.out.size h4.out); clear h4
          go_wp2
          go_ret
          exact ⟨rfl, HB4.out⟩

end Go.Proofs.Ytiaihloncpkjbaa.Pa
