/-
  What is proved here: a contract of the document's own Tight. Conditions: counts fit an int.
-/
import Derived.Test.YtiaihloncpkjbaaPaW4
import Derived.Test.YtiaihloncpkjbaaPtG4
namespace Go.Proofs.Ytiaihloncpkjbaa.Pa
open Go.RowKit Gr Wd Ws Fx Lb

/- The last check of the document's answer, place by place. -/
def lastB (r : List Bool) (l : List Int) : Nat → Nat → Bool
  | _, 0 => true
  | k, g + 1 => (decide (0 ≤ vl l k) && decide (vl l k ≤ 4611686018427387904) && (decide (vl l k = 4611686018427387904) || bt r k)) && lastB r l (k + 1) g
theorem lastB_iff (r : List Bool) (l : List Int) : ∀ g k, lastB r l k g = true ↔ ∀ j, k ≤ j → j < k + g → (0 ≤ vl l j ∧ vl l j ≤ 4611686018427387904) ∧ (vl l j = 4611686018427387904 ∨ bt r j = true)
  | 0, k => by simp only [lastB, true_iff]; intro j h1 h2; omega
  | g + 1, k => by
    rw [lastB, Bool.and_eq_true, Bool.and_eq_true, Bool.and_eq_true, Bool.or_eq_true, decide_eq_true_eq, decide_eq_true_eq, decide_eq_true_eq, lastB_iff r l g (k + 1)]
    constructor
    · rintro ⟨h1, h2⟩ j h3 h4
      rcases Nat.eq_or_lt_of_le h3 with h5 | h5
      · subst h5; exact h1
      · exact h2 j (by omega) (by omega)
    · intro h
      exact ⟨h k (by omega) (by omega), fun j h1 h2 => h j (by omega) (by omega)⟩
theorem last_is (r : List Bool) (l : List Int) : lastB r l 0 l.length = (distB l && heldB r l 0 l.length) := by
  rw [Bool.eq_iff_iff, lastB_iff, Bool.and_eq_true, distB_iff, heldB_iff]
  constructor
  · intro h
    exact ⟨fun k hk => (h k (by omega) (by omega)).1, fun j h1 h2 => (h j h1 h2).2⟩
  · rintro ⟨h1, h2⟩ j h3 h4
    exact ⟨h1 j (by omega), h2 j h3 h4⟩
def RnRel (w : World) (b : Nat) (V : Int) (S : Value) (l : List Int) (L : List Ed) (g : Nat) (i : Value) (wr : World) : Prop :=
  ∃ k : Nat, k + g = L.length ∧ i = .int .i64 (k : Int) ∧ Hid (Below w.heap.size w wr) ∧ Hid (wr.heap[b]? = some (.cells #[.int .i64 V, S] 35 (0, 0))) ∧ Hid (nearB l L = nearB l (L.drop k))
structure RrH (w : World) (m b g : Nat) (S : Value) (r : List Bool) (wr : World) : Prop where
  below : Below w.heap.size w wr
  row : Br wr g r
  box : wr.heap[b]? = some (.cells #[.int .i64 (m : Int), S] 35 (0, 0))
  len : r.length = m
def RoRel (w : World) (m b g s : Nat) (S : Value) (l : List Int) (L : List Ed) (gk : Nat) (i : Value) (wr : World) : Prop :=
  ∃ (q : Nat) (r : List Bool), q + gk = m ∧ i = .int .i64 (q : Int) ∧ Hid (r = itr (rstA L l) q (one m s)) ∧ Hid (RrH w m b g S r wr)
def RiRel (w : World) (m b g : Nat) (S : Value) (l : List Int) (L : List Ed) (r0 : List Bool) (gk : Nat) (i : Value) (wr : World) : Prop :=
  ∃ (k : Nat) (r : List Bool), k + gk = L.length ∧ i = .int .i64 (k : Int) ∧ Hid (r = rstA (L.take k) l r0) ∧ Hid (RrH w m b g S r wr)
def RlRel (w : World) (m b g : Nat) (S : Value) (l : List Int) (r : List Bool) (gk : Nat) (i : Value) (wr : World) : Prop :=
  ∃ k : Nat, k + gk = m ∧ i = .int .i64 (k : Int) ∧ Hid (lastB r l 0 m = lastB r l k gk) ∧ Hid (RrH w m b g S r wr)
theorem RrH.step {w w1 w2 : World} {m b g : Nat} {S : Value} {r : List Bool} (h : RrH w m b g S r w1) (hb : Below w1.heap.size w1 w2) : RrH w m b g S r w2 :=
  ⟨step_below h.below h.below.size hb, h.row.below hb, (hb.block _ (lt_of_block h.box)).trans h.box, h.len⟩
theorem RrH.set {w w1 : World} {m b g : Nat} {S : Value} {r : List Bool} (h : RrH w m b g S r w1) (hg : w.heap.size ≤ g) (hn : b ≠ g) (k : Nat) : RrH w m b g S (r.set k true) (w1.setCell ⟨g, k, none⟩ (.bool true)) :=
  ⟨h.below.setCell (p := ⟨g, k, none⟩) hg (.bool true), h.row.set k true, set_other h.box hn, by rw [List.length_set]; exact h.len⟩
/- The box just laid; a row of marks behind it. -/
theorem box_set {w : World} {b g k : Nat} {o : Obj} {v : Value} (h : w.heap[b]? = some o) (hn : b ≠ g) : (w.setCell ⟨g, k, none⟩ v).heap[b]? = some o := set_other h hn

set_option maxRecDepth 100000 in
set_option maxHeartbeats 8000000 in
theorem rtight_any (V s : Int) (A B : Option Addr) (c d : Nat) (L : List Ed) (l : List Int) (w : World) (hL : EAt w A L) (hl : IAt w B l) (hn : L.length ≤ 9223372036854775807) (hm : l.length ≤ 9223372036854775807) :
    Calls Try.prog 17 #[.agg #[.int .i64 V, .slice A L.length c], .int .i64 s, .slice B l.length d] w fun e w' =>
      e = .returned (.bool (tgt V L s l)) ∧ Below w.heap.size w w' := by
  have mixed := mixedP
  have HX := Lib.hid (heap_alloc_new w (.cells #[.int .i64 V, .slice A L.length c] 35))
  have HZ := Lib.hid ((Below.refl _ w).alloc (Nat.le_refl _) (.cells #[.int .i64 V, .slice A L.length c] 35))
  have HC := Lib.hid (fun W (hb : Below w.heap.size w W) => rcheck_any V A c L W (hL.below hb) hn)
  obtain ⟨W1, hW1⟩ : ∃ W1, W1 = w.alloc (.cells #[.int .i64 V, .slice A L.length c] 35) := ⟨_, rfl⟩
  rw [← hW1] at HX HZ
  obtain ⟨T, hT⟩ : ∃ T, tgt V L s l = T := ⟨_, rfl⟩
  rw [hT]
  obtain ⟨E, hE⟩ : ∃ E, chk V L = E := ⟨_, rfl⟩
  rw [hE] at HC
  by_cases hok : E = 0 ∧ 0 ≤ s ∧ s < V ∧ (l.length : Int) = V
  · obtain ⟨rfl, hs0, hs1, hlV⟩ := hok
    obtain ⟨q, rfl⟩ : ∃ q : Nat, s = (q : Int) := ⟨s.toNat, by omega⟩
    subst hlV
    have hq : q < l.length := by omega
    have hV := ((chk_zero _ _).1 hE).2.1
    have hV1 : l.length ≤ 512 := by omega
    have hFI := fitsI_of hE
    have hTT := okP_yes (l.length : Int) L q l ⟨hE, hs0, hs1, rfl⟩
    rw [hT] at hTT
    obtain ⟨z, hz⟩ : ∃ z, vl l q = z := ⟨_, rfl⟩
    obtain ⟨N, hN⟩ : ∃ N, nearB l L = N := ⟨_, rfl⟩
    have h1 := inP_at (D := distB l) rfl hz hN (H := heldB (rch l.length q L l) l 0 l.length) rfl
    have hla := last_is (rch l.length q L l) l
    rw [show (q : Int).toNat = q by omega, h1] at hTT
    have hTL : T = (decide (z = 0) && N && lastB (rch l.length q L l) l 0 l.length) := by
      rw [hTT, hla]
      cases distB l <;> cases N <;> cases decide (z = 0) <;> simp
    have HTT := Lib.hid hTL
    obtain ⟨RR, hRR⟩ : ∃ RR, rch l.length q L l = RR := ⟨_, rfl⟩
    rw [hRR] at HTT
    have HRR := Lib.hid hRR
    have HNN := Lib.hid hN
    have HL := Lib.hid hL; have Hl := Lib.hid hl; have HF := Lib.hid hFI
    have HQ : Hid (∀ W, Below w.heap.size w W → ∃ bk o, B = some ⟨bk, o, none⟩ ∧ W.cell? ⟨bk, o + q, none⟩ = some (.int .i64 z)) := Lib.hid fun W hb => by
      have := iat_at (hl.below hb) hq
      rwa [hz] at this
    clear hT hE hV hFI hTT hz hN h1 hL hl hs0 hla hTL hRR
    obtain ⟨m, hm'⟩ : ∃ m, m = l.length := ⟨_, rfl⟩
    obtain ⟨n, hn'⟩ : ∃ n, n = L.length := ⟨_, rfl⟩
    rw [← hm'] at hm hq HX HC hW1 hs1 hV1 HTT HRR HF ⊢
    rw [← hn'] at hn HX HC hW1 ⊢
    have HM := Lib.hid hm'; have HN := Lib.hid hn'
    clear hm' hn'
    obtain ⟨b, hb⟩ : ∃ b, b = w.heap.size := ⟨_, rfl⟩
    rw [← hb] at HX
    have HBb := Lib.hid hb; clear hb
    have hmk := make_b m (by omega)
    have t1 : decide ((q : Int) < 0) = false := by simp
    have t2 : decide (m ≤ q) = false := by simp; omega
    go_enter Try.func17, Try.ntmps17
    go_upto_region 1 with fail
    rw [← hW1, ← HBb.out]
    obtain ⟨k0, k1, _⟩ := Bx.cells HX.out
    clear hW1
    go_wp2_with fail
    refine (HC.out _ HZ.out).mono ?_
    rintro e w2 ⟨rfl, hw2⟩
    have HZ2 := Lib.hid (step_below HZ.out HZ.out.size hw2)
    have HX2 := Lib.hid ((hw2.block _ (lt_of_block HX.out)).trans HX.out)
    clear hw2 k0 k1 HX HZ HC
    obtain ⟨k0, k1, _⟩ := Bx.cells HX2.out
    obtain ⟨bv, ov, rfl, y0⟩ := HQ.out _ HZ2.out
    by_cases hz : z = 0
    · subst hz
      go_wp2_with fail
      clear k0 k1 y0
      go_loopg [7] n (fun g i wr => RnRel w b (m : Int) (.slice A n c) l L g i wr)
      case atStart => exact ⟨0, by have := HN.out; omega, rfl, HZ2, HX2, Lib.hid rfl⟩
      case round =>
        clear HZ2 HX2
        obtain ⟨k, hk, rfl, HB, HX, HD⟩ := hrel
        rw [← HN.out] at hk
        obtain ⟨k0, k1, _⟩ := Bx.cells HX.out
        by_cases hlt : k < n
        · obtain ⟨f, t, z, he, hf, ht⟩ := edge_nat HF.out (show k < L.length by rw [← HN.out]; exact hlt)
          obtain ⟨bk, o, rfl, c0, c1, c2⟩ := (HL.out.below HB.out) k _ he
          obtain ⟨_, _, e0, x0⟩ := iat_at (Hl.out.below HB.out) (show f < l.length by rw [← HM.out]; exact hf)
          cases e0
          obtain ⟨_, _, e0, y0⟩ := iat_at (Hl.out.below HB.out) (show t < l.length by rw [← HM.out]; exact ht)
          cases e0
          have hd := HD.out
          rw [near_cons he] at hd
          obtain ⟨x, hx⟩ : ∃ x, vl l f = x := ⟨_, rfl⟩
          obtain ⟨y, hy⟩ : ∃ y, vl l t = y := ⟨_, rfl⟩
          obtain ⟨G, hG⟩ : ∃ G, addI x z = G := ⟨_, rfl⟩
          rw [hx] at x0 hd
          rw [hy] at y0 hd
          rw [hG] at hd
          have HD2 := Lib.hid hd
          have hC := regr fun W (_ : Below wr.heap.size wr W) => rgive_any x (f : Int) (t : Int) z W
          rw [hG] at hC
          have C1 := Lib.hid hC
          clear hd hx hy he hC hG HD
          have q0 := cell_regrown x0; have q1 := cell_regrown y0
          have z0 := cell_regrown c0; have z1 := cell_regrown c1; have z2 := cell_regrown c2
          have u1 := cell_regrown k1
          go_wp2_with fail
          refine wp_region_quiet_below mixed (by kernel_rfl) ?_
          repeat (go_big_quiet_step ((with_reducible first | exact C1.out _ _)))
          refine wpQuiet_nil ?_
          intro _ hw'
          obtain ⟨⟨dq, osq⟩, hw''⟩ := hw'
          subst hw''
          have hb2 := below_regrown wr dq osq
          have HB2 := Lib.hid (step_below HB.out HB.out.size hb2)
          have HX2 := Lib.hid ((hb2.block _ (lt_of_block HX.out)).trans HX.out)
          clear q0 q1 z0 z1 z2 u1 hb2 x0 y0 c0 c1 c2 k0 k1
          by_cases hg : G < y
          · go_wp2
            go_ret
            refine ⟨ret_b ?_, HB2.out⟩
            have hNf : N = false := by rw [← HNN.out, HD2.out, decide_eq_false (by omega : ¬ y ≤ G)]; rfl
            rw [HTT.out, hNf]; simp
          · go_wp2
            go_roundg (gk - 1)
            case measure => omega
            case rel => exact ⟨k + 1, by have := HN.out; omega, by go_num, HB2, HX2, Lib.hid (by rw [HD2.out, decide_eq_true (by omega : y ≤ G)]; rfl)⟩
        · have HNT : Hid (N = true) := Lib.hid (by
            have : k = L.length := by rw [← HN.out]; omega
            rw [← HNN.out, HD.out, this, List.drop_length]; rfl)
          clear HD
          go_upto_region 9 with fail
          obtain ⟨W3, hW3⟩ : ∃ W3, W3 = wr.alloc (.cells (madeCells #[.bool false] m) 4) := ⟨_, rfl⟩
          have hr3 : Br W3 wr.heap.size (List.replicate m false) := by rw [hW3]; exact Br.made _ _
          have hb3 : Below wr.heap.size wr W3 := by rw [hW3]; exact (Below.refl _ wr).alloc (Nat.le_refl _) _
          rw [← hW3]
          obtain ⟨g, hg⟩ : ∃ g, g = wr.heap.size := ⟨_, rfl⟩
          rw [← hg] at hr3 ⊢
          have hgw : w.heap.size ≤ g := by rw [hg]; exact HB.out.size
          have hbg : b ≠ g := by have := lt_of_block HX.out; omega
          have HGW := Lib.hid hgw; have HBG := Lib.hid hbg
          have HH3 : Hid (RrH w m b g (.slice A n c) (List.replicate m false) W3) := Lib.hid ⟨step_below HB.out HB.out.size hb3, hr3, (hb3.block _ (lt_of_block HX.out)).trans HX.out, by simp⟩
          have HH4 : Hid (RrH w m b g (.slice A n c) (one m q) (W3.setCell ⟨g, q, none⟩ (.bool true))) := Lib.hid (HH3.out.set HGW.out HBG.out q)
          have v0 := HH3.out.row.cell (k := q) (by simp; exact hq)
          have v1 := HH3.out.row.free q
          clear hr3 hb3 hg hgw hbg hW3 k0 k1 hmk
          go_upto_region 10 with fail
          obtain ⟨W4, hW4⟩ : ∃ W4, W4 = W3.setCell ⟨g, q, none⟩ (.bool true) := ⟨_, rfl⟩
          rw [← hW4] at HH4 ⊢
          clear hW4 v0 v1 HH3 HB HX
          go_wp2_with fail
          obtain ⟨G0, rfl⟩ : ∃ G0 : Nat, G0 = gk := ⟨_, rfl⟩
          go_loopg [9] m (fun gk i wr => RoRel w m b g q (.slice A n c) l L gk i wr)
          case atStart => exact ⟨0, one m q, by omega, rfl, Lib.hid rfl, HH4⟩
          case round =>
            clear HH4
            obtain ⟨p, r0, hp, rfl, HI, HH⟩ := hrel
            obtain ⟨k0, k1, _⟩ := Bx.cells HH.out.box
            by_cases hpm : p < m
            · go_wp2_with fail
              clear k0 k1
              obtain ⟨G1, rfl⟩ : ∃ G1 : Nat, G1 = gk := ⟨_, rfl⟩
              go_loopg [10] n (fun gk i wr => RiRel w m b g (.slice A n c) l L r0 gk i wr)
              case atStart => exact ⟨0, r0, by have := HN.out; omega, rfl, Lib.hid (by simp [rstA]), HH⟩
              case round =>
                obtain ⟨k, r, hk, rfl, HK, HH1⟩ := hrel
                rw [← HN.out] at hk
                obtain ⟨k0, k1, _⟩ := Bx.cells HH1.out.box
                by_cases hlt : k < n
                · obtain ⟨f, t, z, he, hf, ht⟩ := edge_nat HF.out (show k < L.length by rw [← HN.out]; exact hlt)
                  obtain ⟨bk, o, rfl, c0, c1, c2⟩ := (HL.out.below HH1.out.below) k _ he
                  obtain ⟨_, _, e0, x0⟩ := iat_at (Hl.out.below HH1.out.below) (show f < l.length by rw [← HM.out]; exact hf)
                  cases e0
                  obtain ⟨_, _, e0, y0⟩ := iat_at (Hl.out.below HH1.out.below) (show t < l.length by rw [← HM.out]; exact ht)
                  cases e0
                  have HNX := Lib.hid (rst_next HK.out he)
                  obtain ⟨X, hX⟩ : ∃ X, vl l f = X := ⟨_, rfl⟩
                  obtain ⟨Y, hY⟩ : ∃ Y, vl l t = Y := ⟨_, rfl⟩
                  obtain ⟨G, hG⟩ : ∃ G, addI X z = G := ⟨_, rfl⟩
                  rw [hX] at x0
                  rw [hY] at y0
                  have HG : Hid (addI (vl l f) z = G) := Lib.hid (by rw [hX, hG])
                  have HY := Lib.hid hY
                  have HW : Hid (Below wr.heap.size wr (wr.alloc (.cells #[.int .i64 (f : Int), .int .i64 (t : Int), .int .i64 z] 23))) := Lib.hid ((Below.refl _ wr).alloc (Nat.le_refl _) _)
                  have HE := Lib.hid (eb_alloc wr (f : Int) (t : Int) z)
                  clear hX hY he
                  go_upto_region 17 with fail
                  obtain ⟨W1, hW1⟩ : ∃ W1, W1 = wr.alloc (.cells #[.int .i64 (f : Int), .int .i64 (t : Int), .int .i64 z] 23) := ⟨_, rfl⟩
                  rw [← hW1] at HW HE ⊢
                  obtain ⟨eb, heb⟩ : ∃ eb, eb = wr.heap.size := ⟨_, rfl⟩
                  rw [← heb] at HE ⊢
                  have HH5 := Lib.hid (HH1.out.step HW.out)
                  have q0 := cell_regrown ((HW.out.cell (block_lt_of_cell x0)).trans x0)
                  have q1 := cell_regrown ((HW.out.cell (block_lt_of_cell y0)).trans y0)
                  obtain ⟨p0, p1, p2, _⟩ := eb_cells HE.out
                  have z0 := cell_regrown p0; have z1 := cell_regrown p1; have z2 := cell_regrown p2
                  have hC := regr fun W (_ : Below W1.heap.size W1 W) => rgive_any X (f : Int) (t : Int) z W
                  rw [hG] at hC
                  have C1 := Lib.hid hC
                  obtain ⟨bf, hbf⟩ : ∃ bf, bt r f = bf := ⟨_, rfl⟩
                  have v0 := HH5.out.row.cell (k := f) (by rw [HH5.out.len]; exact hf)
                  rw [hbf] at v0
                  have v0 := cell_regrown v0
                  have HF0 := Lib.hid hbf
                  clear hC hG p0 p1 p2 x0 y0 c0 c1 c2 hW1 heb hbf k0 k1
                  cases bf with
                  | false =>
                    refine wp_region_quiet_below mixed (by kernel_rfl) ?_
                    repeat (go_big_quiet_step ((with_reducible first | exact C1.out _ _)))
                    refine wpQuiet_nil ?_
                    intro _ hw'
                    obtain ⟨⟨dq, osq⟩, hw''⟩ := hw'
                    subst hw''
                    have hb2 := below_regrown W1 dq osq
                    have HH6 := Lib.hid (HH5.out.step hb2)
                    have HE2 := Lib.hid ((hb2.block _ (lt_of_block HE.out)).trans HE.out)
                    clear hb2 q0 q1 z0 z1 z2 v0 C1
                    go_wp2
                    go_roundg (gk - 1)
                    case measure => omega
                    case rel => exact ⟨k + 1, r, by have := HN.out; omega, by go_num, Lib.hid (by rw [← HNX.out, rst_off HF0.out]), HH6⟩
                  | true =>
                    by_cases hgy : G = Y
                    · subst hgy
                      refine wp_region_quiet_below mixed (by kernel_rfl) ?_
                      repeat (go_big_quiet_step ((with_reducible first | exact C1.out _ _)))
                      refine wpQuiet_nil ?_
                      intro _ hw'
                      obtain ⟨⟨dq, osq⟩, hw''⟩ := hw'
                      subst hw''
                      have hb2 := below_regrown W1 dq osq
                      have HH6 := Lib.hid (HH5.out.step hb2)
                      have HE2 := Lib.hid ((hb2.block _ (lt_of_block HE.out)).trans HE.out)
                      clear hb2 q0 q1 z0 z1 z2 v0 C1
                      have v2 := HH6.out.row.cell (k := t) (by rw [HH6.out.len]; exact ht)
                      have v3 := HH6.out.row.free t
                      obtain ⟨_, v4, _, _⟩ := eb_cells HE2.out
                      have HH7 := Lib.hid (HH6.out.set HGW.out HBG.out t)
                      go_wp2
                      go_roundg (gk - 1)
                      case measure => omega
                      case rel => exact ⟨k + 1, r.set t true, by have := HN.out; omega, by go_num, Lib.hid (by rw [← HNX.out, rst_yes HF0.out (by rw [HG.out, HY.out])]), HH7⟩
                    · have HGY : Hid (¬ addI (vl l f) z = vl l t) := Lib.hid (by rw [HG.out, HY.out]; exact hgy)
                      refine wp_region_quiet_below mixed (by kernel_rfl) ?_
                      repeat (go_big_quiet_step ((with_reducible first | exact C1.out _ _)))
                      refine wpQuiet_nil ?_
                      intro _ hw'
                      obtain ⟨⟨dq, osq⟩, hw''⟩ := hw'
                      subst hw''
                      have hb2 := below_regrown W1 dq osq
                      have HH6 := Lib.hid (HH5.out.step hb2)
                      have HE2 := Lib.hid ((hb2.block _ (lt_of_block HE.out)).trans HE.out)
                      clear hb2 q0 q1 z0 z1 z2 v0 C1
                      go_wp2
                      go_roundg (gk - 1)
                      case measure => omega
                      case rel => exact ⟨k + 1, r, by have := HN.out; omega, by go_num, Lib.hid (by rw [← HNX.out, rst_un HGY.out]), HH6⟩
                · have HI2 : Hid (r = itr (rstA L l) (p + 1) (one m q)) := Lib.hid (by
                    have : k = L.length := by rw [← HN.out]; omega
                    rw [HK.out, this, List.take_length, itr_next, ← HI.out])
                  go_wp2
                  go_roundg (G1 - 1)
                  case measure => omega
                  case rel => exact ⟨p + 1, r, by omega, by go_num, HI2, HH1⟩
            · have HRr : Hid (r0 = RR) := Lib.hid (by
                have : p = m := by omega
                rw [HI.out, this]; exact HRR.out)
              go_wp2_with fail
              clear k0 k1
              obtain ⟨G1, rfl⟩ : ∃ G1 : Nat, G1 = gk := ⟨_, rfl⟩
              go_loopg [12] m (fun gk i wr => RlRel w m b g (.slice A n c) l r0 gk i wr)
              case atStart => exact ⟨0, by omega, rfl, Lib.hid rfl, HH⟩
              case round =>
                clear HH
                obtain ⟨k, hk, rfl, HD, HH⟩ := hrel
                obtain ⟨k0, k1, _⟩ := Bx.cells HH.out.box
                by_cases hlt : k < m
                · obtain ⟨_, _, e0, x0⟩ := iat_at (Hl.out.below HH.out.below) (show k < l.length by rw [← HM.out]; exact hlt)
                  cases e0
                  have v0 := HH.out.row.cell (k := k) (by rw [HH.out.len]; exact hlt)
                  obtain ⟨G, hG⟩ : ∃ G, gk = G + 1 := ⟨gk - 1, by omega⟩
                  subst hG
                  obtain ⟨X, hX⟩ : ∃ X, vl l k = X := ⟨_, rfl⟩
                  obtain ⟨b', hb'⟩ : ∃ b', bt r0 k = b' := ⟨_, rfl⟩
                  have hd := HD.out
                  rw [lastB, hX, hb'] at hd
                  rw [hX] at x0
                  rw [hb'] at v0
                  have HD2 := Lib.hid hd
                  clear hd hX hb' HD
                  rcases (show X < 0 ∨ (0 ≤ X ∧ 4611686018427387904 < X) ∨ (0 ≤ X ∧ X = 4611686018427387904) ∨ (0 ≤ X ∧ X < 4611686018427387904) by omega) with g1 | ⟨g0, g1⟩ | ⟨g0, g1⟩ | ⟨g0, g1⟩
                  · go_wp2
                    go_ret
                    refine ⟨ret_b ?_, HH.out.below⟩
                    rw [HTT.out, ← HRr.out, HD2.out, decide_eq_false (by omega : ¬ 0 ≤ X)]; simp
                  · go_wp2
                    go_ret
                    refine ⟨ret_b ?_, HH.out.below⟩
                    rw [HTT.out, ← HRr.out, HD2.out, decide_eq_false (by omega : ¬ X ≤ 4611686018427387904)]; simp
                  · subst g1
                    go_wp2
                    go_roundg G
                    case measure => omega
                    case rel => exact ⟨k + 1, by omega, by go_num, Lib.hid (by rw [HD2.out]; simp), HH⟩
                  · cases b' with
                    | true =>
                      go_wp2
                      go_roundg G
                      case measure => omega
                      case rel => exact ⟨k + 1, by omega, by go_num, Lib.hid (by rw [HD2.out, decide_eq_true g0, decide_eq_true (by omega : X ≤ 4611686018427387904)]; simp), HH⟩
                    | false =>
                      go_wp2
                      go_ret
                      refine ⟨ret_b ?_, HH.out.below⟩
                      rw [HTT.out, ← HRr.out, HD2.out, decide_eq_false (by omega : ¬ X = 4611686018427387904)]; simp
                · have HG0 : Hid (gk = 0) := Lib.hid (by omega)
                  go_wp2
                  go_ret
                  refine ⟨ret_b ?_, HH.out.below⟩
                  rw [HTT.out, ← HRr.out, HD.out, HG0.out, HNT.out]; rfl
    · go_wp2
      go_ret
      exact ⟨ret_b (by rw [HTT.out]; simp [hz]), HZ2.out⟩
  · have hF := okP_no V L s l (by rw [hE]; exact hok)
    rw [hT] at hF
    subst hF
    clear hT hE hL hl
    obtain ⟨m, hm'⟩ : ∃ m, m = l.length := ⟨_, rfl⟩
    obtain ⟨n, hn'⟩ : ∃ n, n = L.length := ⟨_, rfl⟩
    rw [← hm'] at hm hok ⊢
    rw [← hn'] at hn HX HC hW1 ⊢
    clear hm' hn'
    obtain ⟨b, hb⟩ : ∃ b, b = w.heap.size := ⟨_, rfl⟩
    rw [← hb] at HX
    have HBb := Lib.hid hb; clear hb
    rcases (show ¬ E = 0 ∨ (E = 0 ∧ s < 0) ∨ (E = 0 ∧ 0 ≤ s ∧ V ≤ s) ∨ (E = 0 ∧ 0 ≤ s ∧ s < V ∧ ¬ (m : Int) = V) by omega) with g1 | ⟨g1, g2⟩ | ⟨g1, g2, g3⟩ | ⟨g1, g2, g3, g4⟩
    all_goals
      clear hok
      try (have g5 : ((m : Int) != V) = true := by simpa using g4)
      go_enter Try.func17, Try.ntmps17
      go_upto_region 1 with fail
      rw [← hW1, ← HBb.out]
      obtain ⟨k0, k1, _⟩ := Bx.cells HX.out
      clear hW1
      go_wp2_with fail
      refine (HC.out _ HZ.out).mono ?_
      rintro e w2 ⟨rfl, hw2⟩
      have HZ2 := Lib.hid (step_below HZ.out HZ.out.size hw2)
      have HX2 := Lib.hid ((hw2.block _ (lt_of_block HX.out)).trans HX.out)
      clear hw2 k0 k1 HX HZ HC
      obtain ⟨k0, k1, _⟩ := Bx.cells HX2.out
      go_wp2
      go_ret
      exact ⟨rfl, HZ2.out⟩

end Go.Proofs.Ytiaihloncpkjbaa.Pa
