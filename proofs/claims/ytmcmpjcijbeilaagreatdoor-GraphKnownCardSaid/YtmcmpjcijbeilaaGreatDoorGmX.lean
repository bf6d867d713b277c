/-
  What is proved here: the texts GrKno of this seat, laid together (each says itself what it proves; no condition beyond theirs).
-/
import Derived.Test.YtmcmpjcijbeilaaGreatDoorGmV
import Derived.Test.YtmcmpjcijbeilaaGreatDoorGmW
import Derived.Deep.RegionHeld3
/-
  What is proved here: the law's examples: GraphKnown returns true. Condition: what the program's start has laid down.
-/
namespace Go.Proofs.YtmcmpjcijbeilaaGreatDoor.Gr
open Go.RowKit Wd Ws

def K1Rel (w : World) (b : Nat) (A : Option Addr) (c n : Nat) (gk : Nat) (vi : Value) (wr : World) : Prop := ∃ k : Nat, k + gk = n ∧ vi = .int .i64 (k : Int) ∧ Gb w wr b 6 A c millL
def K2Rel (w : World) (b : Nat) (A : Option Addr) (c g7 : Nat) (gk : Nat) (vi : Value) (wr : World) : Prop := ∃ j : Nat, j + gk = 7 ∧ vi = .int .i64 (j : Int) ∧ Oct wr g7 7 ∧ Gb w wr b 6 A c millL
theorem rprint_mill (A : Option Addr) (c : Nat) (w : World) (hL : Hid (EAt w A millL)) :
    Calls Tryz.prog 12 #[.agg #[.int .i64 6, .slice A 5 c]] w fun e w' => e = .returned (.tuple #[.string (sb (printB 6 millL)), .int .i64 0]) ∧ Hid (Below w.heap.size w w') := by
  have h := rprint_any 6 A c millL w hL.out (by decide)
  rw [mill_chk] at h
  exact h.mono fun _ _ hh => ⟨hh.1, Lib.hid hh.2⟩
theorem mill_text : (printB 6 millL).length ≤ 145 := by
  rw [print_text mill_chk]
  exact text_short mill_chk

def EL : List Ed := [(-1, 0, 0), (0, -1, 0), (6, 0, 0), (0, 6, 0), (0, 0, -1), (0, 0, 2147483648), (0, 0, 2147483647), (5, 5, 0), (0, 1, 4), (4, 4, 7)]
def K3Rel (w : World) (b : Nat) (A : Option Addr) (c gE : Nat) (gk : Nat) (vi : Value) (wr : World) : Prop := ∃ j : Nat, j + gk = 10 ∧ vi = .int .i64 (j : Int) ∧ EAt wr (some ⟨gE, 0, none⟩) EL ∧ Gb w wr b 6 A c millL
def K4Rel (w : World) (b : Nat) (A : Option Addr) (c gS : Nat) (gk : Nat) (vi : Value) (wr : World) : Prop := ∃ j : Nat, j + gk = 23 ∧ vi = .int .i64 (j : Int) ∧ Txs wr gS 23 ∧ Gb w wr b 6 A c millL
theorem row_EL {w : World} {g : Nat} (h : w.heap[g]? = some (.cells #[.int .i64 (-1), .int .i64 0, .int .i64 0, .int .i64 0, .int .i64 (-1), .int .i64 0, .int .i64 6, .int .i64 0, .int .i64 0, .int .i64 0, .int .i64 6, .int .i64 0, .int .i64 0, .int .i64 0, .int .i64 (-1), .int .i64 0, .int .i64 0, .int .i64 2147483648, .int .i64 0, .int .i64 0, .int .i64 2147483647, .int .i64 5, .int .i64 5, .int .i64 0, .int .i64 0, .int .i64 1, .int .i64 4, .int .i64 4, .int .i64 4, .int .i64 7] 42 (0, 0))) : EAt w (some ⟨g, 0, none⟩) EL := by
  intro k e hk
  rcases k with _ | _ | _ | _ | _ | _ | _ | _ | _ | _ | k
  all_goals (first | (simp [EL] at hk; done) | (simp only [EL, List.getElem?_cons_zero, List.getElem?_cons_succ, Option.some.injEq] at hk; subst hk; exact ⟨_, _, rfl, by rw [Lib.cell_of_heap h]; rfl, by rw [Lib.cell_of_heap h]; rfl, by rw [Lib.cell_of_heap h]; rfl⟩))
theorem Gb.mill {w W : World} {b c : Nat} {A : Option Addr} (h : Gb w W b 6 A c millL) : W.cell? ⟨b, 0, none⟩ = some (.int .i64 6) ∧ W.cell? ⟨b, 1, none⟩ = some (.slice A 5 c) ∧ b < W.heap.size := h.facts
theorem Gb.five {w W : World} {b c : Nat} {A : Option Addr} {V : Int} {L : List Ed} (h : Gb w W b V A c L) (h5 : L.length = 5) : W.cell? ⟨b, 0, none⟩ = some (.int .i64 V) ∧ W.cell? ⟨b, 1, none⟩ = some (.slice A 5 c) ∧ b < W.heap.size := by
  have := h.facts
  rwa [h5] at this
theorem five_check (A : Option Addr) (c : Nat) (L : List Ed) (w : World) (h5 : L.length = 5) (hL : Hid (EAt w A L)) (hLd : Hid (Laid w)) :
    Calls Tryz.prog 3 #[.agg #[.int .i64 6, .slice A 5 c]] w fun e w' => e = .returned (.bool true) ∧ Hid (Below w.heap.size w w') := by
  have h := law_check 6 A c L w hL (by omega) hLd
  rw [h5] at h
  exact h.mono fun _ _ hh => ⟨hh.1, Lib.hid hh.2⟩
theorem five_back (A : Option Addr) (c : Nat) (L : List Ed) (w : World) (h5 : L.length = 5) (hL : Hid (EAt w A L)) (hLd : Hid (Laid w)) :
    Calls Tryz.prog 5 #[.agg #[.int .i64 6, .slice A 5 c], .string ⟨#[]⟩] w fun e w' => e = .returned (.bool true) ∧ Hid (Below w.heap.size w w') := by
  have h := law_back 6 A c L ⟨#[]⟩ w hL (by omega) hLd (by decide)
  rw [h5] at h
  exact h.mono fun _ _ hh => ⟨hh.1, Lib.hid hh.2⟩
theorem five_edges (A : Option Addr) (c : Nat) (L : List Ed) (q : Int) (w : World) (h5 : L.length = 5) (hL : Hid (EAt w A L)) (hLd : Hid (Laid w)) :
    Calls Tryz.prog 6 #[.agg #[.int .i64 6, .slice A 5 c], .int .i64 q] w fun e w' => e = .returned (.bool true) ∧ Hid (Below w.heap.size w w') := by
  have h := law_edges 6 q A c L w hL hLd
  rw [h5] at h
  exact h.mono fun _ _ hh => ⟨hh.1, Lib.hid hh.2⟩
theorem five_same (A B : Option Addr) (c d : Nat) (L M : List Ed) (w : World) (h5 : L.length = 5) (k5 : M.length = 5) (hL : Hid (EAt w A L)) (hM : Hid (EAt w B M)) (hLd : Hid (Laid w)) :
    Calls Tryz.prog 7 #[.agg #[.int .i64 6, .slice A 5 c], .agg #[.int .i64 6, .slice B 5 d]] w fun e w' => e = .returned (.bool true) ∧ Hid (Below w.heap.size w w') := by
  have h := law_same 6 6 A B c d L M w hL hM (by omega) (by omega) hLd
  rw [h5, k5] at h
  exact h.mono fun _ _ hh => ⟨hh.1, Lib.hid hh.2⟩

set_option maxRecDepth 100000 in
set_option maxHeartbeats 4000000 in
theorem law_known (w : World) (hLd : Hid (Laid w)) : Calls Tryz.prog 8 #[] w fun e w' => e = .returned (.bool true) ∧ Below w.heap.size w w' := by
  have mixed := mixedO
  have HLd : Hid (∀ w', Below w.heap.size w w' → Laid w') := Lib.hid fun w' h => hLd.out.bel h
  obtain ⟨l, hl⟩ : ∃ l, printB 6 millL = l := ⟨_, rfl⟩
  have hll := mill_text
  have HP := Lib.hid (fun A c w hL => rprint_mill A c w hL)
  rw [hl] at hll HP
  clear hl
  have hsl := sb_size l
  go_enter Tryz.func8, Tryz.ntmps8
  go_wp2_with fail
  refine (mill_any w).mono ?_
  rintro e w1 ⟨⟨A, c, rfl, HA1⟩, HB1⟩
  obtain ⟨bk, o, hA, -, -, -⟩ := HA1.out 0 (0, 1, 4) rfl
  subst hA
  rw [show millL.length = 5 from rfl]
  obtain ⟨W1, hW1⟩ : ∃ W1, W1 = w1.alloc (.cells #[.int .i64 6, .slice (some ⟨bk, o, none⟩) 5 c] 24) := ⟨_, rfl⟩
  have hb1 : Below w1.heap.size w1 W1 := by rw [hW1]; exact (Below.refl _ w1).alloc (Nat.le_refl _) _
  have HM1 : Hid (Gb w W1 w1.heap.size 6 (some ⟨bk, o, none⟩) c millL) := Lib.hid ⟨HB1.out.trans (hb1.mono HB1.out.size), by rw [hW1]; exact heap_alloc_new w1 _, HA1.out.below hb1⟩
  have HW1 := Lib.hid hW1
  obtain ⟨b, hb⟩ : ∃ b, w1.heap.size = b := ⟨_, rfl⟩
  rw [hb] at HM1
  clear hW1 hb1 HA1 HB1
  go_wp2_with fail
  rw [← HW1.out]
  refine (HP.out (some ⟨bk, o, none⟩) c W1 (Lib.hid HM1.out.at_)).mono ?_
  rintro e w2 ⟨rfl, HB2⟩
  have HM2 := Lib.hid (HM1.out.step HB2.out)
  clear HM1 HB2
  go_wp2_with fail
  go_loopg [4] l.length (fun gk vi wr => K1Rel w b (some ⟨bk, o, none⟩) c l.length gk vi wr)
  case atStart => exact ⟨0, by omega, rfl, HM2.out⟩
  case round =>
    obtain ⟨G, hG⟩ : ∃ G : Nat, G = gk := ⟨_, rfl⟩
    obtain ⟨wo, hwo⟩ : ∃ wo : World, wo = wr := ⟨_, rfl⟩
    subst hG
    subst hwo
    obtain ⟨k, hk, rfl, hg⟩ := hrel
    have HG := Lib.hid hg
    clear hg HM2
    by_cases hlt : k < l.length
    · obtain ⟨W3, hW3⟩ : ∃ W3, W3 = wo.alloc (.cells #[.int .u8 32, .int .u8 10, .int .u8 35, .int .u8 48, .int .u8 57, .int .u8 120, .int .u8 200] 5) := ⟨_, rfl⟩
      have HO3 : Hid (Oct W3 wo.heap.size 7) := Lib.hid (by rw [hW3]; exact Oct.of wo [32, 10, 35, 48, 57, 120, 200] 5)
      have HG3 := Lib.hid (gb_also HG.out hW3)
      have HW3 := Lib.hid hW3
      obtain ⟨g7, hg7⟩ : ∃ g7, wo.heap.size = g7 := ⟨_, rfl⟩
      rw [hg7] at HO3
      clear hW3 HG
      go_wp2_with fail
      rw [← HW3.out]
      go_loopg [28] 7 (fun gk vi wr => K2Rel w b (some ⟨bk, o, none⟩) c g7 gk vi wr)
      case atStart => exact ⟨0, rfl, rfl, HO3.out, HG3.out⟩
      case round =>
        obtain ⟨j, hj, rfl, ho, hg⟩ := hrel
        by_cases hlj : j < 7
        · obtain ⟨r, hr⟩ := ho j hlj
          obtain ⟨k0, k1, hkz⟩ := hg.facts
          obtain ⟨W4, c4, hcv, hbt, hb4⟩ := bts_of wr l
          have hc4 := hbt.cell k hlt
          have hf4 := hbt.fz k hlt
          have hlt4 := hbt.lt
          have hbt5 := hbt.set k r
          obtain ⟨W5, hW5⟩ : ∃ W5, W5 = W4.setCell ⟨wr.heap.size, k, none⟩ (.int .u8 (r.toNat : Int)) := ⟨_, rfl⟩
          have hb5 : Below wr.heap.size wr W5 := by rw [hW5]; exact hb4.setCell (p := ⟨wr.heap.size, k, none⟩) (Nat.le_refl _) _
          have hbk := hbt5.back c4 l.length (by rw [List.length_set])
          rw [← hW5] at hbt5
          have HO5 := Lib.hid (ho.below hb5); have HG5 := Lib.hid (hg.step hb5); have HBT := Lib.hid hbt5; have HW5 := Lib.hid hW5
          obtain ⟨l5, hl5⟩ : ∃ l5, l.set k r = l5 := ⟨_, rfl⟩
          have hz5 : l5.length = l.length := by rw [← hl5, List.length_set]
          rw [hl5] at hbk HBT
          have hs5 := sb_size l5
          clear hl5 ho hg hbt hb4 hbt5 hW5 hb5
          go_wp2_with fail
          rw [← HW5.out]
          refine (law_parse (sb l5) W5 (Lib.hid (HLd.out _ HG5.out.below)) (by omega)).mono ?_
          rintro e w6 ⟨rfl, hb6⟩
          have HO6 := Lib.hid (HO5.out.below hb6); have HG6 := Lib.hid (HG5.out.step hb6)
          have hbk6 := (HBT.out.below hb6).back c4 l.length hz5
          clear hb6 HO5 HG5 HBT hbk hcv hc4 hf4 k0 k1 hkz
          obtain ⟨k0, k1, hkz⟩ := HG6.out.facts
          by_cases hr35 : (r.toNat : Int) = 35
          · go_wp2_with fail
            refine (law_back 6 (some ⟨bk, o, none⟩) c millL (sb l5) w6 (Lib.hid HG6.out.at_) (by decide) (Lib.hid (HLd.out _ HG6.out.below)) (by omega)).mono ?_
            rintro e w7 ⟨rfl, hb7⟩
            have HO7 := Lib.hid (HO6.out.below hb7); have HG7 := Lib.hid (HG6.out.step hb7)
            clear hb7 HO6 HG6 hbk6 k0 k1 hkz
            go_wp2
            go_roundg (gk - 1)
            case measure => omega
            case rel => exact ⟨j + 1, by omega, by go_num, HO7.out, HG7.out⟩
          · go_wp2
            go_roundg (gk - 1)
            case measure => omega
            case rel => exact ⟨j + 1, by omega, by go_num, HO6.out, HG6.out⟩
        · have HG8 := Lib.hid hg
          clear ho hg
          go_wp2
          go_roundg (G - 1)
          case measure => omega
          case rel => exact ⟨k + 1, by omega, by go_num, HG8.out⟩
    · have HG9 := Lib.hid HG.out
      clear HG
      go_wp2_with fail
      go_loopg [8] 5 (fun gk vi wr => K1Rel w b (some ⟨bk, o, none⟩) c 5 gk vi wr)
      case atStart => exact ⟨0, by omega, rfl, HG9.out⟩
      case round =>
        obtain ⟨H, hH⟩ : ∃ H : Nat, H = gk := ⟨_, rfl⟩
        obtain ⟨wp, hwp⟩ : ∃ wp : World, wp = wr := ⟨_, rfl⟩
        subst hH
        subst hwp
        obtain ⟨i, hi, rfl, hg⟩ := hrel
        by_cases hli : i < 5
        · obtain ⟨bk', o', hA', a0, a1, a2⟩ := hg.at_ 0 (0, 1, 4) rfl
          cases hA'
          obtain ⟨bk', o', hA', d0, d1, d2⟩ := hg.at_ 4 (4, 4, 7) rfl
          cases hA'
          obtain ⟨k0, k1, hkz⟩ := hg.facts
          rw [show millL.length = 5 from rfl] at k1
          simp only [Nat.zero_mul, Nat.add_zero, Nat.reduceMul] at a0 a1 a2 d0 d1 d2
          have HG := Lib.hid hg
          clear hg HG9
          go_wp2_with fail
          go_region_held3 (fun w' => w'.cell? ⟨b, 1, none⟩ = some (.slice (some ⟨bk, o, none⟩) 5 c) ∧ w'.cell? ⟨bk, o, none⟩ = some (.int .i64 0) ∧ w'.cell? ⟨bk, o + 1, none⟩ = some (.int .i64 1) ∧ w'.cell? ⟨bk, o + 2, none⟩ = some (.int .i64 4) ∧ w'.cell? ⟨bk, o + 12, none⟩ = some (.int .i64 4) ∧ w'.cell? ⟨bk, o + 12 + 1, none⟩ = some (.int .i64 4) ∧ w'.cell? ⟨bk, o + 12 + 2, none⟩ = some (.int .i64 7)) (go_keep) (fail)
          obtain ⟨W3, hW3⟩ : ∃ W3, W3 = (wp.alloc (.cells #[.int .i64 (-1), .int .i64 0, .int .i64 0, .int .i64 0, .int .i64 (-1), .int .i64 0, .int .i64 6, .int .i64 0, .int .i64 0, .int .i64 0, .int .i64 6, .int .i64 0, .int .i64 0, .int .i64 0, .int .i64 (-1), .int .i64 0, .int .i64 0, .int .i64 2147483648, .int .i64 0, .int .i64 0, .int .i64 2147483647, .int .i64 5, .int .i64 5, .int .i64 0, .int .i64 0, .int .i64 1, .int .i64 4, .int .i64 4, .int .i64 4, .int .i64 7] 42)).drew := ⟨_, rfl⟩
          have hb3 : Below wp.heap.size wp W3 := by rw [hW3]; exact ((Below.refl _ wp).alloc (Nat.le_refl _) _).drew
          have hE3 : EAt W3 (some ⟨wp.heap.size, 0, none⟩) EL := by
            have hy := heap_alloc_new wp (.cells #[.int .i64 (-1), .int .i64 0, .int .i64 0, .int .i64 0, .int .i64 (-1), .int .i64 0, .int .i64 6, .int .i64 0, .int .i64 0, .int .i64 0, .int .i64 6, .int .i64 0, .int .i64 0, .int .i64 0, .int .i64 (-1), .int .i64 0, .int .i64 0, .int .i64 2147483648, .int .i64 0, .int .i64 0, .int .i64 2147483647, .int .i64 5, .int .i64 5, .int .i64 0, .int .i64 0, .int .i64 1, .int .i64 4, .int .i64 4, .int .i64 4, .int .i64 7] 42)
            rw [hW3]
            exact row_EL hy
          have HG3 := Lib.hid (HG.out.step hb3); have HE3 := Lib.hid hE3; have HW3 := Lib.hid hW3
          clear hW3 hb3 hE3 a0 a1 a2 d0 d1 d2 k0 k1 hkz
          rw [← HW3.out]
          go_wp2_with fail
          go_loopg [79] 10 (fun gk vi wr => K3Rel w b (some ⟨bk, o, none⟩) c wp.heap.size gk vi wr)
          case atStart => exact ⟨0, rfl, rfl, HE3.out, HG3.out⟩
          case round =>
            obtain ⟨j, hj, rfl, he, hg⟩ := hrel
            by_cases hlj : j < 10
            · obtain ⟨⟨x, y, z⟩, hxyz⟩ := at_lt EL j (by show j < 10; exact hlj)
              obtain ⟨bk2, o2, hA2, e0, e1, e2⟩ := he j (x, y, z) hxyz
              cases hA2
              rw [Nat.zero_add] at e0 e1 e2
              obtain ⟨n, hn⟩ : ∃ n, wr.heap.size = n := ⟨_, rfl⟩
              obtain ⟨W5, hW5⟩ : ∃ W5, W5 = (wr.alloc (.cells #[.int .i64 x, .int .i64 y, .int .i64 z] 42)).alloc (.cells #[.int .i64 6, .slice none 0 0] 24) := ⟨_, rfl⟩
              have hb5 : Below wr.heap.size wr W5 := by rw [hW5]; exact two_boxes wr _ _
              have hx5 : W5.heap[n]? = some (.cells #[.int .i64 x, .int .i64 y, .int .i64 z] 42 (0, 0)) := by
                rw [hW5, ← hn, Lib.alloc_old _ _ _ (by simp)]; exact heap_alloc_new wr _
              have hy5 : W5.heap[n + 1]? = some (.cells #[.int .i64 6, .slice none 0 0] 24 (0, 0)) := by
                rw [hW5, ← hn]; have := heap_alloc_new (wr.alloc (.cells #[.int .i64 x, .int .i64 y, .int .i64 z] 42)) (.cells #[.int .i64 6, .slice none 0 0] 24)
                simpa using this
              have HE5 := Lib.hid (he.below hb5); have HG5 := Lib.hid (hg.step hb5); have HB5 := Lib.hid hb5; have HX5 := Lib.hid hx5; have HY5 := Lib.hid hy5
              have HW5 := Lib.hid hW5
              have hs5 := hb5.size
              have hn5 := lt_of_block hy5
              have HGr := Lib.hid hg; have HEr := Lib.hid he
              clear he hg hW5 hb5 hx5 hy5 hxyz
              go_upto_region 21 with fail
              rw [← HW5.out]
              obtain ⟨k0, k1, hkz⟩ := HG5.out.mill
              obtain ⟨y0, y1, hys⟩ := Bx.cells HY5.out
              go_wp2_with (at_builtin; refine app_copy rfl (.tmp 85) (.tmp 87) rfl W5.heap.size millL rfl (some ⟨bk, o, none⟩) c rfl HG5.out.at_ (by decide) (Nat.le_refl _) ?_)
              intro v' w7 ho7 hg7
              obtain ⟨A7, c7, hv7, -, -, -⟩ := ho7.form
              subst hv7
              rw [show millL.length = 5 from rfl]
              have hb7 : Below W5.heap.size W5 w7 := ⟨hg7.os, hg7.tape, hg7.output, hg7.size, fun i hi => hg7.block i hi nofun⟩
              have hs7 := hb7.size
              have hY7 := (hb7.block _ hn5).trans HY5.out
              have hX7 := (hb7.block n (by omega)).trans HX5.out
              obtain ⟨W8, hW8⟩ : ∃ W8, W8 = w7.setCell ⟨n + 1, 1, none⟩ (.slice A7 5 c7) := ⟨_, rfl⟩
              have hY8 : W8.heap[n + 1]? = some (.cells #[.int .i64 6, .slice A7 5 c7] 24 (0, 0)) := by rw [hW8]; exact heap_setCell_same w7 (n + 1) 1 _ _ _ hY7
              have hX8 : W8.heap[n]? = some (.cells #[.int .i64 x, .int .i64 y, .int .i64 z] 42 (0, 0)) := by rw [hW8]; exact (heap_setCell_other w7 ⟨n + 1, 1, none⟩ n _ (by show n ≠ n + 1; omega)).trans hX7
              have ho8 : EOwn W8 W5.heap.size (.slice A7 millL.length c7) millL := by rw [hW8]; exact ownsRow_setCell_below ho7 (a := ⟨n + 1, 1, none⟩) (by show n + 1 < _; exact hn5) _
              have hb8 : Below wr.heap.size wr W8 := by rw [hW8]; exact (HB5.out.trans (hb7.mono hs5)).setCell (p := ⟨n + 1, 1, none⟩) (by rw [hn]; show n ≤ n + 1; omega) _
              obtain ⟨A8, c8, hv8, hA8, hor8, -⟩ := ho8.form
              cases hv8
              rcases hor8 with h | ⟨g, h, hgB, hgs, hgf⟩
              · rw [h] at hA8
                have := eat_none hA8
                cases this
              subst h
              clear k0 k1 hkz y0 y1 hys
              obtain ⟨y0, y1, hys⟩ := Bx.cells hY7
              have yf := Gx.cells hY7
              have HY8 := Lib.hid hY8; have HX8 := Lib.hid hX8; have HB8 := Lib.hid hb8; have HA8 := Lib.hid hA8; have HW8 := Lib.hid hW8
              clear hg7 hb7 hY7 hX7 ho7 ho8 hY8 hX8 hb8 hA8 hW8
              go_upto_region 22 with fail
              rw [← HW8.out]
              clear y0 y1 yf
              obtain ⟨y0, y1, hys8⟩ := Bx.cells HY8.out
              obtain ⟨x0, x1, x2, hxs8⟩ := eb_cells HX8.out
              obtain ⟨e', hed⟩ := at_lt millL i hli
              obtain ⟨g', o', hA', r0, r1, r2⟩ := HA8.out i e' hed
              cases hA'
              rw [Nat.zero_add] at r0 r1 r2
              have rf := hgf
              obtain ⟨W9, hW9⟩ : ∃ W9, W9 = ((W8.setCell ⟨g, i * 3, none⟩ (.int .i64 x)).setCell ⟨g, i * 3 + 1, none⟩ (.int .i64 y)).setCell ⟨g, i * 3 + 2, none⟩ (.int .i64 z) := ⟨_, rfl⟩
              have hA9 := eat_put HA8.out i x y z hli
              rw [← hW9] at hA9
              have hY9 : W9.heap[n + 1]? = some (.cells #[.int .i64 6, .slice (some ⟨g, 0, none⟩) 5 c7] 24 (0, 0)) := by
                rw [hW9]
                exact (heap_setCell_other _ ⟨g, i * 3 + 2, none⟩ (n + 1) _ (by show n + 1 ≠ g; omega)).trans ((heap_setCell_other _ ⟨g, i * 3 + 1, none⟩ (n + 1) _ (by show n + 1 ≠ g; omega)).trans ((heap_setCell_other _ ⟨g, i * 3, none⟩ (n + 1) _ (by show n + 1 ≠ g; omega)).trans HY8.out))
              have hX9 : W9.heap[n]? = some (.cells #[.int .i64 x, .int .i64 y, .int .i64 z] 42 (0, 0)) := by
                rw [hW9]
                exact (heap_setCell_other _ ⟨g, i * 3 + 2, none⟩ n _ (by show n ≠ g; omega)).trans ((heap_setCell_other _ ⟨g, i * 3 + 1, none⟩ n _ (by show n ≠ g; omega)).trans ((heap_setCell_other _ ⟨g, i * 3, none⟩ n _ (by show n ≠ g; omega)).trans HX8.out))
              have hb9 : Below wr.heap.size wr W9 := by
                rw [hW9]
                exact ((HB8.out.setCell (p := ⟨g, i * 3, none⟩) (by show _ ≤ g; omega) _).setCell (p := ⟨g, i * 3 + 1, none⟩) (by show _ ≤ g; omega) _).setCell (p := ⟨g, i * 3 + 2, none⟩) (by show _ ≤ g; omega) _
              obtain ⟨M, hM⟩ : ∃ M, millL.set i (x, y, z) = M := ⟨_, rfl⟩
              have h5 : M.length = 5 := by rw [← hM, List.length_set]; rfl
              rw [hM] at hA9
              have HM9 := Lib.hid (HGr.out.step hb9)
              have HE9 := Lib.hid (HEr.out.below hb9)
              have HQ9 : Hid (Gb w W9 (n + 1) 6 (some ⟨g, 0, none⟩) c7 M) := Lib.hid ⟨HM9.out.below, by rw [h5]; exact hY9, hA9⟩
              have HX9 := Lib.hid hX9; have HW9 := Lib.hid hW9
              clear hA9 hY9 hX9 hb9 hW9 hM hed
              go_upto_region 23 with fail
              rw [← HW9.out]
              clear y0 y1 hys8 x0 x1 x2 hxs8 r0 r1 r2 rf hgf
              obtain ⟨k0, k1, hkz⟩ := HQ9.out.five h5
              go_wp2_with fail
              refine (five_check _ c7 M W9 h5 (Lib.hid HQ9.out.at_) (Lib.hid (HLd.out _ HQ9.out.below))).mono ?_
              rintro e w10 ⟨rfl, HB10⟩
              have HQ10 := Lib.hid (HQ9.out.step HB10.out); have HM10 := Lib.hid (HM9.out.step HB10.out); have HE10 := Lib.hid (HE9.out.below HB10.out)
              have HX10 := Lib.hid ((HB10.out.block n (lt_of_block HX9.out)).trans HX9.out)
              clear HB10 HQ9 HM9 HE9 HX9 k0 k1 hkz
              obtain ⟨k0, k1, hkz⟩ := HQ10.out.five h5
              go_wp2_with fail
              refine (five_back _ c7 M w10 h5 (Lib.hid HQ10.out.at_) (Lib.hid (HLd.out _ HQ10.out.below))).mono ?_
              rintro e w11 ⟨rfl, HB11⟩
              have HQ11 := Lib.hid (HQ10.out.step HB11.out); have HM11 := Lib.hid (HM10.out.step HB11.out); have HE11 := Lib.hid (HE10.out.below HB11.out)
              have HX11 := Lib.hid ((HB11.out.block n (lt_of_block HX10.out)).trans HX10.out)
              clear HB11 HQ10 HM10 HE10 HX10 k0 k1 hkz
              obtain ⟨k0, k1, hkz⟩ := HQ11.out.five h5
              obtain ⟨x0, x1, x2, hxz⟩ := eb_cells HX11.out
              go_wp2_with fail
              refine (five_edges _ c7 M x w11 h5 (Lib.hid HQ11.out.at_) (Lib.hid (HLd.out _ HQ11.out.below))).mono ?_
              rintro e w12 ⟨rfl, HB12⟩
              have HQ12 := Lib.hid (HQ11.out.step HB12.out); have HM12 := Lib.hid (HM11.out.step HB12.out); have HE12 := Lib.hid (HE11.out.below HB12.out)
              clear HB12 HQ11 HM11 HE11 HX11 k0 k1 hkz x0 x1 x2 hxz
              obtain ⟨k0, k1, hkz⟩ := HQ12.out.five h5
              go_wp2_with fail
              refine (five_edges _ c7 M (i : Int) w12 h5 (Lib.hid HQ12.out.at_) (Lib.hid (HLd.out _ HQ12.out.below))).mono ?_
              rintro e w13 ⟨rfl, HB13⟩
              have HQ13 := Lib.hid (HQ12.out.step HB13.out); have HM13 := Lib.hid (HM12.out.step HB13.out); have HE13 := Lib.hid (HE12.out.below HB13.out)
              clear HB13 HQ12 HM12 HE12 k0 k1 hkz
              obtain ⟨k0, k1, hkz⟩ := HQ13.out.five h5
              obtain ⟨m0, m1, hmz⟩ := HM13.out.mill
              go_wp2_with fail
              refine (five_same _ _ c7 c M millL w13 h5 rfl (Lib.hid HQ13.out.at_) (Lib.hid HM13.out.at_) (Lib.hid (HLd.out _ HQ13.out.below))).mono ?_
              rintro e w14 ⟨rfl, HB14⟩
              have HM14 := Lib.hid (HM13.out.step HB14.out); have HE14 := Lib.hid (HE13.out.below HB14.out)
              clear HB14 HQ13 HM13 HE13 k0 k1 hkz m0 m1 hmz
              go_wp2
              go_roundg (gk - 1)
              case measure => omega
              case rel => exact ⟨j + 1, by omega, by go_num, HE14.out, HM14.out⟩
            · have HGe := Lib.hid hg
              clear he hg
              go_wp2
              go_roundg (H - 1)
              case measure => omega
              case rel => exact ⟨i + 1, by omega, by go_num, HGe.out⟩
        · have HGx := Lib.hid hg
          clear hg
          obtain ⟨k0, k1, hkz⟩ := HGx.out.mill
          go_wp2_with fail
          clear k0 k1 hkz
          go_loopg [125] 23 (fun gk vi wr => K4Rel w b (some ⟨bk, o, none⟩) c wp.heap.size gk vi wr)
          case atStart =>
            refine ⟨0, rfl, rfl, Txs.of _ _ _ _ ?_, HGx.out.step ((Below.refl _ wp).alloc (Nat.le_refl _) _)⟩
            intro j hj
            rcases j with _ | _ | _ | _ | _ | _ | _ | _ | _ | _ | _ | _ | _ | _ | _ | _ | _ | _ | _ | _ | _ | _ | _ | j
            all_goals first
              | (exfalso; omega)
              | exact ⟨_, rfl, by decide⟩
          case round =>
            obtain ⟨j, hj, rfl, ht, hg⟩ := hrel
            by_cases hlj : j < 23
            · obtain ⟨s, hs, hsz⟩ := ht j hlj
              have HT := Lib.hid ht; have HGr := Lib.hid hg
              clear ht hg
              go_wp2_with fail
              refine (law_parse s wr (Lib.hid (HLd.out _ HGr.out.below)) (by omega)).mono ?_
              rintro e w5 ⟨rfl, hb5⟩
              have HT5 := Lib.hid (HT.out.below hb5); have HG5 := Lib.hid (HGr.out.step hb5)
              clear hb5 HT HGr hs
              go_wp2_with fail
              refine (law_back 0 none 0 [] s w5 (Lib.hid (EAt.nil _ _)) (by simp) (Lib.hid (HLd.out _ HG5.out.below)) (by omega)).mono ?_
              rintro e w6 ⟨rfl, hb6⟩
              have HT6 := Lib.hid (HT5.out.below hb6); have HG6 := Lib.hid (HG5.out.step hb6)
              clear hb6 HT5 HG5
              go_wp2
              go_roundg (gk - 1)
              case measure => omega
              case rel => exact ⟨j + 1, by omega, by go_num, HT6.out, HG6.out⟩
            · have HGr := Lib.hid hg
              clear ht hg
              go_wp2_with fail
              refine (limits_any wr (Lib.hid (HLd.out _ HGr.out.below))).mono ?_
              rintro e w5 ⟨rfl, HB5⟩
              have HG5 := Lib.hid (HGr.out.step HB5.out)
              clear HB5 HGr
              go_wp2_with fail
              refine (works_any w5 (Lib.hid (HLd.out _ HG5.out.below))).mono ?_
              rintro e w6 ⟨rfl, HB6⟩
              have HG6 := Lib.hid (HG5.out.step HB6.out)
              clear HB6 HG5
              go_wp2
              go_ret
              exact ⟨rfl, HG6.out.below⟩

end Go.Proofs.YtmcmpjcijbeilaaGreatDoor.Gr
