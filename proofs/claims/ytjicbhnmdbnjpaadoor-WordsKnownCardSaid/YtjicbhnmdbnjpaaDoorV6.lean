/-
  What is proved here: the walk of WordsKnown: it returns true. Condition: the package variables lie as their texts lay them.
-/
import Derived.Test.YtjicbhnmdbnjpaaDoorV5
import Derived.Laws.IdiomStrings
import Derived.Laws.Cover4
namespace Go.Proofs.YtjicbhnmdbnjpaaDoor
open Go.RowKit Wd

/- A row of n texts, each short. -/
def Shorts (w : World) (b n : Nat) : Prop := ∀ k < n, ∃ s : ByteArray, w.cell? ⟨b, k, none⟩ = some (.string s) ∧ s.size ≤ 1000
theorem Shorts.below {w w' : World} {b n : Nat} (h : Shorts w b n) (hb : Below w.heap.size w w') : Shorts w' b n := by
  intro k hk
  obtain ⟨s, h1, h2⟩ := h k hk
  exact ⟨s, (hb.cell (p := ⟨b, k, none⟩) (block_lt_of_cell h1)).trans h1, h2⟩
theorem Shorts.of (w : World) (cs : Array Value) (t : TypeId) (n : Nat) (h : ∀ k < n, ∃ s : ByteArray, cs[k]? = some (.string s) ∧ s.size ≤ 1000) : Shorts (w.alloc (.cells cs t)) w.heap.size n := by
  intro k hk
  obtain ⟨s, h1, h2⟩ := h k hk
  exact ⟨s, by rw [Lib.cell_of_heap (heap_alloc_new w _), h1], h2⟩

theorem conv_one (w : World) (k : Nat) (hk : k < 256) : (convert 36 9 (.slice (some ⟨w.heap.size, 0, none⟩) 1 1)).run Tryd.prog (w.alloc (.cells #[.int .u8 (k : Int)] 5)) = .ok (.string (sb [UInt8.ofNat k])) (w.alloc (.cells #[.int .u8 (k : Int)] 5)) := by
  refine run_convert_bytes_back (P := Tryd.prog) _ 36 9 5 ⟨w.heap.size, 0, none⟩ 1 [UInt8.ofNat k] Tryd.underlying36 Tryd.underlying5 Tryd.underlying9 ?_
  intro j hj
  obtain rfl : j = 0 := by simpa using hj
  rw [add_plain, Lib.cell_of_heap (heap_alloc_new w _)]
  have : (UInt8.ofNat k).toNat = k := by rw [UInt8.toNat_ofNat']; omega
  simp [this]

theorem Shorts.of2 (w : World) (o : Obj) (cs : Array Value) (t : TypeId) (n : Nat) (h : ∀ k < n, ∃ s : ByteArray, cs[k]? = some (.string s) ∧ s.size ≤ 1000) : Shorts ((w.alloc o).alloc (.cells cs t)) (w.heap.size + 1) n := by
  have := Shorts.of (w.alloc o) cs t n h
  rw [show (w.alloc o).heap.size = w.heap.size + 1 by simp] at this
  exact this
theorem size_cc (a b : ByteArray) : (a ++ b).size = a.size + b.size := ByteArray.size_append

/- A row of n numbers of a kind. -/
def Nums (w : World) (b n : Nat) (q : IntKind) : Prop := ∀ k < n, ∃ r : Int, w.cell? ⟨b, k, none⟩ = some (.int q r) ∧ q.min ≤ r ∧ r ≤ q.max
theorem Nums.below {w w' : World} {b n : Nat} {q : IntKind} (h : Nums w b n q) (hb : Below w.heap.size w w') : Nums w' b n q := by
  intro k hk
  obtain ⟨s, h1, h2⟩ := h k hk
  exact ⟨s, (hb.cell (p := ⟨b, k, none⟩) (block_lt_of_cell h1)).trans h1, h2⟩
theorem Nums.of (w : World) (l : List Int) (t : TypeId) (q : IntKind) (h : ∀ r ∈ l, q.min ≤ r ∧ r ≤ q.max) : Nums (w.alloc (.cells (l.map (Value.int q)).toArray t)) w.heap.size l.length q := by
  intro k hk
  refine ⟨l[k], ?_, h _ (List.getElem_mem _)⟩
  rw [Lib.cell_of_heap (heap_alloc_new w _)]
  simp [List.getElem?_eq_getElem hk]

theorem law_str (f : Nat) (hf : ∀ (s : ByteArray) (w : World), Laid w → s.size ≤ 9223372036854775807 → Calls Tryd.prog f #[.string s] w fun e w' => e = .returned (.bool true) ∧ Below w.heap.size w w') (s : ByteArray) (w0 w : World) (hL : Hid (Laid w0)) (hb : Hid (Below w0.heap.size w0 w)) (hs : s.size ≤ 100000) :
    Calls Tryd.prog f #[.string s] w fun e w' => e = .returned (.bool true) ∧ Hid (Below w.heap.size w w') :=
  (hf s w (hL.out.bel hb.out) (by omega)).mono fun _ _ ⟨h1, h2⟩ => ⟨h1, Lib.hid h2⟩

theorem law_dig (r : Int) (w0 w : World) (hL : Hid (Laid w0)) (hb : Hid (Below w0.heap.size w0 w)) (h0 : -2147483648 ≤ r) (h1 : r ≤ 2147483647) :
    Calls Tryd.prog 5 #[.int .i32 r] w fun e w' => e = .returned (.bool true) ∧ Hid (Below w.heap.size w w') :=
  (digit_law r w (hL.out.bel hb.out) h0 h1).mono fun _ _ ⟨h1, h2⟩ => ⟨h1, Lib.hid h2⟩
theorem law_prt (n k : Int) (w0 w : World) (hL : Hid (Laid w0)) (hb : Hid (Below w0.heap.size w0 w)) (h0 : -9223372036854775808 ≤ n) (h1 : n ≤ 9223372036854775807) :
    Calls Tryd.prog 7 #[.int .i64 n, .int .i64 k] w fun e w' => e = .returned (.bool true) ∧ Hid (Below w.heap.size w w') :=
  (print_law n k w (hL.out.bel hb.out) h0 h1).mono fun _ _ ⟨h1, h2⟩ => ⟨h1, Lib.hid h2⟩

theorem lz0 : (⟨#[48]⟩ : ByteArray).size = 1 := rfl
theorem lz1 : (⟨#[217, 161]⟩ : ByteArray).size = 2 := rfl
theorem lz2 : (⟨#[97]⟩ : ByteArray).size = 1 := rfl
theorem lz3 : (⟨#[98]⟩ : ByteArray).size = 1 := rfl
theorem lz4 : (⟨#[97, 32]⟩ : ByteArray).size = 2 := rfl

def K1Rel (w0 : World) (g : Nat) (i : Value) (wr : World) : Prop := ∃ k : Nat, k + g = 256 ∧ i = .int .i64 (k : Int) ∧ Below w0.heap.size w0 wr
def K2Rel (w0 : World) (b n : Nat) (g : Nat) (i : Value) (wr : World) : Prop := ∃ k : Nat, k + g = n ∧ i = .int .i64 (k : Int) ∧ Shorts wr b n ∧ Below w0.heap.size w0 wr
def K3Rel (w0 : World) (b n : Nat) (q : IntKind) (g : Nat) (i : Value) (wr : World) : Prop := ∃ k : Nat, k + g = n ∧ i = .int .i64 (k : Int) ∧ Nums wr b n q ∧ Below w0.heap.size w0 wr
def K5Rel (w0 : World) (b n : Nat) (q : IntKind) (g : Nat) (i : Value) (wr : World) : Prop := ∃ k : Nat, k + g = 5 ∧ i = .int .i64 ((k : Int) - 1) ∧ Nums wr b n q ∧ Below w0.heap.size w0 wr

set_option maxRecDepth 100000 in
set_option maxHeartbeats 4000000 in
theorem known_law (w : World) (hL : Laid w) : Calls Tryd.prog 8 #[] w fun e w' => e = .returned (.bool true) ∧ Below w.heap.size w w' := by
  have HL := Lib.hid hL; clear hL
  go_enter Tryd.func8, Tryd.ntmps8
  go_wp2
  go_loopg [1] 256 (fun g i wr => K1Rel w g i wr)
  case atStart => exact ⟨0, rfl, rfl, Below.refl _ _⟩
  case round =>
    obtain ⟨G, rfl⟩ : ∃ G : Nat, G = gk := ⟨_, rfl⟩
    obtain ⟨wo, rfl⟩ : ∃ wo : World, wo = wr := ⟨_, rfl⟩
    obtain ⟨k, hk, rfl, hb⟩ := hrel
    have HB := Lib.hid hb; clear hb
    by_cases hk2 : k < 256
    · have hkd : decide ((k : Int) < 256) = true := by simp; omega
      have hcv := conv_one wo k hk2
      have hz : (sb [UInt8.ofNat k]).size = 1 := sb_size _
      obtain ⟨c, hc⟩ : ∃ c, c = sb [UInt8.ofNat k] := ⟨_, rfl⟩
      rw [← hc] at hcv hz
      clear hc
      go_wp2
      go_loopg [47] 11 (fun g i wr2 => K2Rel w (wo.heap.size + 1) 11 g i wr2)
      case atStart =>
        refine ⟨0, rfl, rfl, Shorts.of2 _ _ _ _ _ ?_, (HB.out.alloc HB.out.size _).alloc (Nat.le_trans HB.out.size (by simp)) _⟩
        intro j hj
        rcases j with _ | _ | _ | _ | _ | _ | _ | _ | _ | _ | _ | j
        all_goals first
          | (exfalso; omega)
          | exact ⟨_, rfl, by first | (rw [hz]; decide) | (simp only [size_cc, hz]; decide)⟩
      case round =>
        obtain ⟨j, hj, rfl, hr, hb⟩ := hrel
        clear HB hcv
        by_cases hj2 : j < 11
        · obtain ⟨s, hc, hs⟩ := hr j hj2
          have HR0 := Lib.hid hr
          have HB0 := Lib.hid hb; clear hr hb
          go_wp2_with fail
          refine (law_str 3 lines_law _ w _ HL HB0 (by first | omega | (simp only [size_cc]; omega))).mono ?_
          rintro e w1 ⟨rfl, HBN⟩
          have HR1 := Lib.hid (HR0.out.below HBN.out)
          have HB1 := Lib.hid (below_trans HB0.out HBN.out); clear HBN HB0 HR0
          go_wp2_with fail
          refine (law_str 4 words_law _ w _ HL HB1 (by first | omega | (simp only [size_cc]; omega))).mono ?_
          rintro e w2 ⟨rfl, HBN⟩
          have HR2 := Lib.hid (HR1.out.below HBN.out)
          have HB2 := Lib.hid (below_trans HB1.out HBN.out); clear HBN HB1 HR1
          go_wp2_with fail
          refine (law_str 6 number_law _ w _ HL HB2 (by first | omega | (simp only [size_cc]; omega))).mono ?_
          rintro e w3 ⟨rfl, HBN⟩
          have HR3 := Lib.hid (HR2.out.below HBN.out)
          have HB3 := Lib.hid (below_trans HB2.out HBN.out); clear HBN HB2 HR2
          go_wp2
          all_goals (try (exfalso; omega))
          go_roundg (gk - 1)
          case measure => omega
          case rel => exact ⟨j + 1, by omega, by go_num, HR3.out, HB3.out⟩
        · have HB0 := Lib.hid hb; clear hr hb
          go_wp2
          all_goals (try (exfalso; omega))
          go_roundg (G - 1)
          case measure => omega
          case rel => exact ⟨k + 1, by omega, by go_num, HB0.out⟩
    · have hk3 : 256 ≤ k := by omega
      clear hk2
      go_wp2
      all_goals (try (exfalso; omega))
      go_loopg [67] 23 (fun g i wr2 => K3Rel w wo.heap.size 23 .i32 g i wr2)
      case atStart =>
        refine ⟨0, rfl, rfl, Nums.of _ [-1, 0, 47, 48, 57, 58, 159, 160, 161, 1631, 1632, 1633, 1641, 1642, 65295, 65296, 65305, 65306, 65533, 1114111, 127, 128, 8232] _ _ (by decide), HB.out.alloc HB.out.size _⟩
      case round =>
        obtain ⟨j, hj, rfl, hr, hb⟩ := hrel
        clear HB
        by_cases hj2 : j < 23
        · obtain ⟨r, hc, hr1, hr2⟩ := hr j hj2
          have hr1 : -2147483648 ≤ r := hr1
          have hr2 : r ≤ 2147483647 := hr2
          have HR0 := Lib.hid hr
          have HB0 := Lib.hid hb; clear hr hb
          obtain ⟨s, hs, hz⟩ : ∃ s, s = Utf8.encode r ∧ s.size ≤ 4 := ⟨_, rfl, encode_size_le r⟩
          have hcv : ∀ w : World, (convert 21 9 (.int .i32 r)).run Tryd.prog w = .ok (.string s) w := fun w => by
            rw [run_convert_int_string w 21 9 .i32 _ (by rw [Tryd.underlying21]; rfl) Tryd.underlying9, ← hs]
          clear hs
          obtain ⟨z, hz0, hz4⟩ : ∃ z, s.size = z ∧ z ≤ 4 := ⟨_, rfl, hz⟩
          go_wp2_with fail
          refine (law_dig r w _ HL HB0 hr1 hr2).mono ?_
          rintro e w1 ⟨rfl, HBN⟩
          have HR1 := Lib.hid (HR0.out.below HBN.out)
          have HB1 := Lib.hid (below_trans HB0.out HBN.out); clear HBN HB0 HR0
          go_wp2_with fail
          refine (law_str 6 number_law _ w _ HL HB1 ?_).mono ?_
          · have _q0 := lz0; have _q1 := lz1; have _q2 := lz2; have _q3 := lz3; have _q4 := lz4; first | omega | (rw [size_cc]; omega) | (rw [size_cc, size_cc]; omega)
          rintro e w2 ⟨rfl, HBN⟩
          have HR2 := Lib.hid (HR1.out.below HBN.out)
          have HB2 := Lib.hid (below_trans HB1.out HBN.out); clear HBN HB1 HR1
          go_wp2_with fail
          refine (law_str 6 number_law _ w _ HL HB2 ?_).mono ?_
          · have _q0 := lz0; have _q1 := lz1; have _q2 := lz2; have _q3 := lz3; have _q4 := lz4; first | omega | (rw [size_cc]; omega) | (rw [size_cc, size_cc]; omega)
          rintro e w3 ⟨rfl, HBN⟩
          have HR3 := Lib.hid (HR2.out.below HBN.out)
          have HB3 := Lib.hid (below_trans HB2.out HBN.out); clear HBN HB2 HR2
          go_wp2_with fail
          refine (law_str 6 number_law _ w _ HL HB3 ?_).mono ?_
          · have _q0 := lz0; have _q1 := lz1; have _q2 := lz2; have _q3 := lz3; have _q4 := lz4; first | omega | (rw [size_cc]; omega) | (rw [size_cc, size_cc]; omega)
          rintro e w4 ⟨rfl, HBN⟩
          have HR4 := Lib.hid (HR3.out.below HBN.out)
          have HB4 := Lib.hid (below_trans HB3.out HBN.out); clear HBN HB3 HR3
          go_wp2_with fail
          refine (law_str 6 number_law _ w _ HL HB4 ?_).mono ?_
          · have _q0 := lz0; have _q1 := lz1; have _q2 := lz2; have _q3 := lz3; have _q4 := lz4; first | omega | (rw [size_cc]; omega) | (rw [size_cc, size_cc]; omega)
          rintro e w5 ⟨rfl, HBN⟩
          have HR5 := Lib.hid (HR4.out.below HBN.out)
          have HB5 := Lib.hid (below_trans HB4.out HBN.out); clear HBN HB4 HR4
          go_wp2_with fail
          refine (law_str 4 words_law _ w _ HL HB5 ?_).mono ?_
          · have _q0 := lz0; have _q1 := lz1; have _q2 := lz2; have _q3 := lz3; have _q4 := lz4; first | omega | (rw [size_cc]; omega) | (rw [size_cc, size_cc]; omega)
          rintro e w6 ⟨rfl, HBN⟩
          have HR6 := Lib.hid (HR5.out.below HBN.out)
          have HB6 := Lib.hid (below_trans HB5.out HBN.out); clear HBN HB5 HR5
          go_wp2_with fail
          refine (law_str 4 words_law _ w _ HL HB6 ?_).mono ?_
          · have _q0 := lz0; have _q1 := lz1; have _q2 := lz2; have _q3 := lz3; have _q4 := lz4; first | omega | (rw [size_cc]; omega) | (rw [size_cc, size_cc]; omega)
          rintro e w7 ⟨rfl, HBN⟩
          have HR7 := Lib.hid (HR6.out.below HBN.out)
          have HB7 := Lib.hid (below_trans HB6.out HBN.out); clear HBN HB6 HR6
          go_wp2
          all_goals (try (exfalso; omega))
          go_roundg (gk - 1)
          case measure => omega
          case rel => exact ⟨j + 1, by omega, by go_num, HR7.out, HB7.out⟩
        · have HB0 := Lib.hid hb; clear hr hb
          obtain ⟨j3, rfl⟩ : ∃ j3 : Nat, j3 = j := ⟨_, rfl⟩
          have hj3 : 23 ≤ j3 := by omega
          clear hj2
          obtain ⟨W3, rfl⟩ : ∃ W3 : World, W3 = wr := ⟨_, rfl⟩
          go_wp2
          all_goals (try (exfalso; omega))
          go_loopg [118] 12 (fun g i wr2 => K3Rel w W3.heap.size 12 .i64 g i wr2)
          case atStart =>
            refine ⟨0, rfl, rfl, Nums.of _ [0, 1, 9, 10, 99, 100, 4611686018427387904, 4611686018427387905, 9223372036854775807, -1, -9223372036854775808, 4611686018427387899] _ _ (by decide), HB0.out.alloc HB0.out.size _⟩
          case round =>
            obtain ⟨G4, rfl⟩ : ∃ G4 : Nat, G4 = gk := ⟨_, rfl⟩
            obtain ⟨W4, rfl⟩ : ∃ W4 : World, W4 = wr := ⟨_, rfl⟩
            obtain ⟨j, hj, rfl, hr, hb⟩ := hrel
            clear HB0
            by_cases hj2 : j < 12
            · obtain ⟨m, hc, hm1, hm2⟩ := hr j hj2
              have hm1 : -9223372036854775808 ≤ m := hm1
              have hm2 : m ≤ 9223372036854775807 := hm2
              have HR0 := Lib.hid hr
              have HB0 := Lib.hid hb; clear hr hb
              have hjd : decide ((j : Int) < 12) = true := by simp; omega
              go_wp2
              all_goals (try (exfalso; omega))
              go_loopg [10] 5 (fun g i wr2 => K5Rel w W3.heap.size 12 .i64 g i wr2)
              case atStart => exact ⟨0, rfl, rfl, HR0.out, HB0.out⟩
              case round =>
                obtain ⟨i, hi, rfl, hr, hb⟩ := hrel
                clear HR0 HB0 hc
                have HR0 := Lib.hid hr
                have HB0 := Lib.hid hb; clear hr hb
                by_cases hi2 : i < 5
                · go_wp2_with fail
                  all_goals (try (exfalso; omega))
                  refine (law_prt m _ w _ HL HB0 hm1 hm2).mono ?_
                  rintro e w1 ⟨rfl, HBN⟩
                  have HR1 := Lib.hid (HR0.out.below HBN.out)
                  have HB1 := Lib.hid (below_trans HB0.out HBN.out); clear HBN HB0 HR0
                  go_wp2
                  all_goals (try (exfalso; omega))
                  go_roundg (gk - 1)
                  case measure => omega
                  case rel => exact ⟨i + 1, by omega, by go_num, HR1.out, HB1.out⟩
                · go_wp2
                  all_goals (try (exfalso; omega))
                  go_roundg (G4 - 1)
                  case measure => omega
                  case rel => exact ⟨j + 1, by omega, by go_num, HR0.out, HB0.out⟩
            · have HB0 := Lib.hid hb; clear hr hb
              obtain ⟨j4, rfl⟩ : ∃ j4 : Nat, j4 = j := ⟨_, rfl⟩
              have hj4 : 12 ≤ j4 := by omega
              clear hj2
              go_wp2
              all_goals (try (exfalso; omega))
              go_loopg [133] 15 (fun g i wr2 => K2Rel w W4.heap.size 15 g i wr2)
              case atStart =>
                refine ⟨0, rfl, rfl, Shorts.of _ _ _ _ ?_, HB0.out.alloc HB0.out.size _⟩
                intro i hi
                rcases i with _ | _ | _ | _ | _ | _ | _ | _ | _ | _ | _ | _ | _ | _ | _ | i
                all_goals first
                  | (exfalso; omega)
                  | exact ⟨_, rfl, by decide⟩
              case round =>
                obtain ⟨i, hi, rfl, hr, hb⟩ := hrel
                clear HB0
                by_cases hi2 : i < 15
                · obtain ⟨s, hc, hs⟩ := hr i hi2
                  have HR0 := Lib.hid hr
                  have HB0 := Lib.hid hb; clear hr hb
                  go_wp2_with fail
                  all_goals (try (exfalso; omega))
                  refine (law_str 6 number_law _ w _ HL HB0 (by omega)).mono ?_
                  rintro e w1 ⟨rfl, HBN⟩
                  have HR1 := Lib.hid (HR0.out.below HBN.out)
                  have HB1 := Lib.hid (below_trans HB0.out HBN.out); clear HBN HB0 HR0
                  go_wp2
                  all_goals (try (exfalso; omega))
                  go_roundg (gk - 1)
                  case measure => omega
                  case rel => exact ⟨i + 1, by omega, by go_num, HR1.out, HB1.out⟩
                · have HB0 := Lib.hid hb; clear hr hb
                  go_wp2_with fail
                  all_goals (try (exfalso; omega))
                  refine (law_str 3 lines_law _ w _ HL HB0 (by decide)).mono ?_
                  rintro e w1 ⟨rfl, HBN⟩
                  have HB1 := Lib.hid (below_trans HB0.out HBN.out); clear HBN HB0
                  go_wp2_with fail
                  all_goals (try (exfalso; omega))
                  refine (law_str 3 lines_law _ w _ HL HB1 (by decide)).mono ?_
                  rintro e w2 ⟨rfl, HBN⟩
                  have HB2 := Lib.hid (below_trans HB1.out HBN.out); clear HBN HB1
                  go_wp2_with fail
                  all_goals (try (exfalso; omega))
                  refine (law_str 3 lines_law _ w _ HL HB2 (by decide)).mono ?_
                  rintro e w3 ⟨rfl, HBN⟩
                  have HB3 := Lib.hid (below_trans HB2.out HBN.out); clear HBN HB2
                  go_wp2_with fail
                  all_goals (try (exfalso; omega))
                  refine (law_str 3 lines_law _ w _ HL HB3 (by decide)).mono ?_
                  rintro e w4 ⟨rfl, HBN⟩
                  have HB4 := Lib.hid (below_trans HB3.out HBN.out); clear HBN HB3
                  go_wp2_with fail
                  refine (works_any _ (HL.out.bel HB4.out)).mono ?_
                  rintro e w5 ⟨rfl, hb⟩
                  have HB5 := Lib.hid (below_trans HB4.out hb); clear hb HB4
                  go_wp2
                  go_ret
                  exact ⟨rfl, HB5.out⟩

end Go.Proofs.YtjicbhnmdbnjpaaDoor
