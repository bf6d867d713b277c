/-
  What is proved here: the law PathsKnown walked: it returns true, and no block that was there has changed. No condition.
-/
import Derived.Test.YtiaihloncpkjbaaPaL3
import Derived.Test.YtiaihloncpkjbaaPaRing
namespace Go.Proofs.Ytiaihloncpkjbaa.Pa
open Go.RowKit Gr Wd Ws Fx Lb

/- A graph in a row of graphs. -/
structure GrAt (w : World) (gb k : Nat) (V : Nat) (A : Option Addr) (n c : Nat) (L : List Ed) : Prop where
  c0 : w.cell? ⟨gb, k * 2, none⟩ = some (.int .i64 (V : Int))
  c1 : w.cell? ⟨gb, k * 2 + 1, none⟩ = some (.slice A n c)
  len : n = L.length
  row : EAt w A L
  ok : chk (V : Int) L = 0
  few : V ≤ 6 ∧ n ≤ 5
def Gs (w : World) (gb : Nat) : Prop := gb < w.heap.size ∧ ∀ k, k < 5 → ∃ V A n c L, GrAt w gb k V A n c L
theorem Gs.below {w w' : World} {gb : Nat} (h : Gs w gb) (hb : Below w.heap.size w w') : Gs w' gb :=
  ⟨by have := hb.size; have := h.1; omega, fun k hk => by
    obtain ⟨V, A, n, c, L, g⟩ := h.2 k hk
    exact ⟨V, A, n, c, L, (hb.cell (by exact h.1)).trans g.c0, (hb.cell (by exact h.1)).trans g.c1, g.len, g.row.below hb, g.ok, g.few⟩⟩
def twoL : List Ed := [(0, 1, 0), (1, 0, 0)]
def triL : List Ed := [(0, 0, 2147483647), (1, 2, 0), (2, 1, 0)]
theorem chk_mill : chk ((6 : Nat) : Int) millL = 0 := by decide +kernel
theorem chk_five : chk ((5 : Nat) : Int) (ringL 5 5) = 0 := by decide +kernel
theorem chk_one : chk ((1 : Nat) : Int) (ringL 1 1) = 0 := by decide +kernel
theorem chk_two : chk ((2 : Nat) : Int) twoL = 0 := by decide +kernel
theorem chk_tri : chk ((3 : Nat) : Int) triL = 0 := by decide +kernel
theorem gs_made {W : World} {A1 A2 A3 : Option Addr} {c1 c2 c3 g4 g5 : Nat} (h1 : EAt W A1 millL) (h2 : EAt W A2 (ringL 5 5)) (h3 : EAt W A3 (ringL 1 1)) (h4 : EAt W (some ⟨g4, 0, none⟩) twoL) (h5 : EAt W (some ⟨g5, 0, none⟩) triL) :
    Gs (W.alloc (.cells #[.int .i64 6, .slice A1 5 c1, .int .i64 5, .slice A2 5 c2, .int .i64 1, .slice A3 1 c3, .int .i64 2, .slice (some ⟨g4, 0, none⟩) 2 2, .int .i64 3, .slice (some ⟨g5, 0, none⟩) 3 3] 35)) W.heap.size := by
  have hb : Below W.heap.size W (W.alloc (.cells #[.int .i64 6, .slice A1 5 c1, .int .i64 5, .slice A2 5 c2, .int .i64 1, .slice A3 1 c3, .int .i64 2, .slice (some ⟨g4, 0, none⟩) 2 2, .int .i64 3, .slice (some ⟨g5, 0, none⟩) 3 3] 35)) := (Below.refl _ W).alloc (Nat.le_refl _) _
  have hh := heap_alloc_new W (.cells #[.int .i64 6, .slice A1 5 c1, .int .i64 5, .slice A2 5 c2, .int .i64 1, .slice A3 1 c3, .int .i64 2, .slice (some ⟨g4, 0, none⟩) 2 2, .int .i64 3, .slice (some ⟨g5, 0, none⟩) 3 3] 35)
  refine ⟨lt_of_block hh, fun k hk => ?_⟩
  rcases (show k = 0 ∨ k = 1 ∨ k = 2 ∨ k = 3 ∨ k = 4 by omega) with rfl | rfl | rfl | rfl | rfl
  · exact ⟨6, _, 5, _, millL, by rw [Lib.cell_of_heap hh]; rfl, by rw [Lib.cell_of_heap hh]; rfl, rfl, h1.below hb, chk_mill, by omega⟩
  · exact ⟨5, _, 5, _, ringL 5 5, by rw [Lib.cell_of_heap hh]; rfl, by rw [Lib.cell_of_heap hh]; rfl, rfl, h2.below hb, chk_five, by omega⟩
  · exact ⟨1, _, 1, _, ringL 1 1, by rw [Lib.cell_of_heap hh]; rfl, by rw [Lib.cell_of_heap hh]; rfl, rfl, h3.below hb, chk_one, by omega⟩
  · exact ⟨2, _, 2, _, twoL, by rw [Lib.cell_of_heap hh]; rfl, by rw [Lib.cell_of_heap hh]; rfl, rfl, h4.below hb, chk_two, by omega⟩
  · exact ⟨3, _, 3, _, triL, by rw [Lib.cell_of_heap hh]; rfl, by rw [Lib.cell_of_heap hh]; rfl, rfl, h5.below hb, chk_tri, by omega⟩

/- The numbers that are tried, in their block. -/
def nine : List Int := [0, 1, 2, 3, 9, -1, 4611686018427387904, 4611686018427387903, 4611686018427387905]
def six : List Int := [0, 5, 4611686018427387904, 4611686018427387909, 9223372036854775807, -9223372036854775808]
def Nb (w : World) (nb : Nat) (l : List Int) : Prop := w.heap[nb]? = some (.cells (ints l).toArray 2 (0, 0))
theorem Nb.below {w w' : World} {nb : Nat} {l : List Int} (h : Nb w nb l) (hb : Below w.heap.size w w') : Nb w' nb l := (hb.block _ (lt_of_block h)).trans h
theorem Nb.at_ {w : World} {nb k : Nat} {l : List Int} (h : Nb w nb l) (hk : k < l.length) : w.cell? ⟨nb, k, none⟩ = some (.int .i64 (vl l k)) := by
  rw [cell_of_row w nb k _ 2 (0, 0) h, List.getElem?_toArray, ints_at, vl_at hk]; rfl
theorem tight_law_n (V s : Int) (A B : Option Addr) (c d n m : Nat) (L : List Ed) (l : List Int) (w : World) (hN : n = L.length) (hM : l.length = m) (hL : EAt w A L) (hl : IAt w B l) (hn : n ≤ 9223372036854775807) (hm : m ≤ 9223372036854775807) :
    Calls Try.prog 5 #[.agg #[.int .i64 V, .slice A n c], .int .i64 s, .slice B m d] w fun e w' => e = .returned (.bool true) ∧ Below w.heap.size w w' := by
  subst hN hM
  exact law_tight V s A B c d L l w (Lib.hid hL) (Lib.hid hl) hn hm
theorem one_law_n (V s i x : Int) (A : Option Addr) (c n : Nat) (L : List Ed) (w : World) (hN : n = L.length) (hL : EAt w A L) (hn : n ≤ 9223372036854775807) :
    Calls Try.prog 6 #[.agg #[.int .i64 V, .slice A n c], .int .i64 s, .int .i64 i, .int .i64 x] w fun e w' => e = .returned (.bool true) ∧ Hid (Below w.heap.size w w') := by
  subst hN
  exact (law_one V s i x A c L w (Lib.hid hL) hn).mono fun _ _ k => ⟨k.1, Lib.hid k.2⟩
theorem relaxed_n (m s : Nat) (A : Option Addr) (c n : Nat) (L : List Ed) (w : World) (hN : n = L.length) (hL : EAt w A L) (hn : n ≤ 9223372036854775807) (hm : m ≤ 512) (hk : chk (m : Int) L = 0) (hs : s < m) :
    Calls Try.prog 20 #[.agg #[.int .i64 (m : Int), .slice A n c], .int .i64 (s : Int)] w fun e w' =>
      (∃ g cp, e = .returned (.slice (some ⟨g, 0, none⟩) m cp) ∧ Hid (w.heap.size + 1 ≤ g) ∧ Hid (IOwn w' (w.heap.size + 1) (.slice (some ⟨g, 0, none⟩) m cp) (far m s L))) ∧ Hid (Below w.heap.size w w') := by
  subst hN
  exact relaxed_any m s A c L w hL hn hm (fitsI_of hk) hs

def heldL : List Ed := [(1, 2, 0), (2, 1, 0)]
theorem mill5 (w : World) : Calls Try.prog 22 #[] w fun e w' => (∃ A c, e = .returned (.agg #[.int .i64 6, .slice A 5 c]) ∧ Hid (EAt w' A millL)) ∧ Hid (Below w.heap.size w w') := mill_any w
/- What stays all the while: the row of graphs, the graph at hand, its edges. -/
structure KSt (w W : World) (gb bx : Nat) (V : Nat) (A : Option Addr) (n c : Nat) (L : List Ed) : Prop where
  below : Below w.heap.size w W
  gs : Gs W gb
  box : W.heap[bx]? = some (.cells #[.int .i64 (V : Int), .slice A n c] 35 (0, 0))
  row : EAt W A L
theorem KSt.step {w W W' : World} {gb bx V n c : Nat} {A : Option Addr} {L : List Ed} (h : KSt w W gb bx V A n c L) (hb : Below W.heap.size W W') : KSt w W' gb bx V A n c L :=
  ⟨step_below h.below h.below.size hb, h.gs.below hb, (hb.block _ (lt_of_block h.box)).trans h.box, h.row.below hb⟩
def K1Rel (w : World) (gb : Nat) (gk : Nat) (i : Value) (wr : World) : Prop := ∃ k : Nat, k + gk = 5 ∧ i = .int .i64 (k : Int) ∧ Hid (Below w.heap.size w wr) ∧ Hid (Gs wr gb)
def K2Rel (w : World) (gb bx V : Nat) (A : Option Addr) (n c : Nat) (L : List Ed) (gk : Nat) (i : Value) (wr : World) : Prop := ∃ y : Int, y + (gk : Int) = (V : Int) + 1 ∧ -1 ≤ y ∧ i = .int .i64 y ∧ Hid (KSt w wr gb bx V A n c L)
def K3Rel (w : World) (gb bx V : Nat) (A : Option Addr) (n c : Nat) (L : List Ed) (gk : Nat) (i : Value) (wr : World) : Prop := ∃ v : Nat, v + gk = V ∧ i = .int .i64 (v : Int) ∧ Hid (KSt w wr gb bx V A n c L)
def K4Rel (w : World) (gb bx nb V : Nat) (A : Option Addr) (n c : Nat) (L : List Ed) (gk : Nat) (i : Value) (wr : World) : Prop := ∃ j : Nat, j + gk = 9 ∧ i = .int .i64 (j : Int) ∧ Hid (KSt w wr gb bx V A n c L) ∧ Hid (Nb wr nb nine)
def K5Rel (w : World) (bx g nb : Nat) (gk : Nat) (i : Value) (wr : World) : Prop := ∃ j : Nat, j + gk = 6 ∧ i = .int .i64 (j : Int) ∧ Hid (Below w.heap.size w wr) ∧ Hid (wr.heap[bx]? = some (.cells #[.int .i64 3, .slice (some ⟨g, 0, none⟩) 2 2] 35 (0, 0))) ∧ Hid (EAt wr (some ⟨g, 0, none⟩) heldL) ∧ Hid (Nb wr nb six)
theorem iown_cap {w : World} {B g cp n : Nat} {l : List Int} (hn : l.length = n) (h : IOwn w B (.slice (some ⟨g, 0, none⟩) n cp) l) : n ≤ cp := by
  subst hn
  obtain ⟨_, h1 | ⟨g', cap, cur, h1, _, _, h4, _⟩⟩ := h
  · exact absurd h1.1 (by simp)
  · simp only [Value.slice.injEq, Option.some.injEq, Addr.mk.injEq, and_true, true_and] at h1
    omega
theorem iat_drop {w : World} {g : Nat} {l : List Int} (h : IAt w (some ⟨g, 0, none⟩) l) : IAt w (some ⟨g, 1, none⟩) (l.drop 1) := by
  intro k x hx
  rw [List.getElem?_drop] at hx
  obtain ⟨bk, o, e, c⟩ := h (1 + k) x hx
  cases e
  exact ⟨g, 1, rfl, by rw [Nat.zero_add] at c; exact c⟩

theorem held_lit (x : Int) (g : Nat) (W : World) (h : Hid (EAt W (some ⟨g, 0, none⟩) heldL)) :
    Calls Try.prog 5 #[.agg #[.int .i64 3, .slice (some ⟨g, 0, none⟩) 2 2], .int .i64 0, .slice (some ⟨W.heap.size, 0, none⟩) 3 3] (W.alloc (.cells #[.int .i64 0, .int .i64 x, .int .i64 x] 2)) fun e w' => e = .returned (.bool true) ∧ Hid (Below W.heap.size W w') := by
  have hb : Below W.heap.size W (W.alloc (.cells #[.int .i64 0, .int .i64 x, .int .i64 x] 2)) := (Below.refl _ W).alloc (Nat.le_refl _) _
  have hv : Nb (W.alloc (.cells #[.int .i64 0, .int .i64 x, .int .i64 x] 2)) W.heap.size [0, x, x] := heap_alloc_new W _
  have := law_tight 3 0 (some ⟨g, 0, none⟩) (some ⟨W.heap.size, 0, none⟩) 2 3 heldL [0, x, x] _ (Lib.hid (h.out.below hb)) (Lib.hid (iat_block hv)) (by decide) (by simp)
  exact this.mono fun e w' k => ⟨k.1, Lib.hid (step_below hb hb.size k.2)⟩
theorem held_is : tgt 3 heldL 0 [0, 5, 5] = false := by decide +kernel
theorem held_no (g : Nat) (W : World) (h : Hid (EAt W (some ⟨g, 0, none⟩) heldL)) :
    Calls Try.prog 16 #[.agg #[.int .i64 3, .slice (some ⟨g, 0, none⟩) 2 2], .int .i64 0, .slice (some ⟨W.heap.size, 0, none⟩) 3 3] (W.alloc (.cells #[.int .i64 0, .int .i64 5, .int .i64 5] 2)) fun e w' => e = .returned (.bool false) ∧ Hid (Below W.heap.size W w') := by
  have hb : Below W.heap.size W (W.alloc (.cells #[.int .i64 0, .int .i64 5, .int .i64 5] 2)) := (Below.refl _ W).alloc (Nat.le_refl _) _
  have hv : Nb (W.alloc (.cells #[.int .i64 0, .int .i64 5, .int .i64 5] 2)) W.heap.size [0, 5, 5] := heap_alloc_new W _
  have := tight_any 3 0 (some ⟨g, 0, none⟩) (some ⟨W.heap.size, 0, none⟩) 2 3 heldL [0, 5, 5] _ (h.out.below hb) (iat_block hv) (by decide) (by decide)
  rw [held_is] at this
  exact this.mono fun e w' k => ⟨k.1, Lib.hid (step_below hb hb.size k.2)⟩
theorem tight_none (w : World) : Calls Try.prog 5 #[.agg #[.int .i64 0, .slice none 0 0], .int .i64 0, .slice none 0 0] w fun e w' => e = .returned (.bool true) ∧ Hid (Below w.heap.size w w') :=
  (law_tight 0 0 none none 0 0 [] [] w (Lib.hid (EAt.nil _ _)) (Lib.hid (IAt.nil _ _)) (by decide) (by decide)).mono fun e w' k => ⟨k.1, Lib.hid k.2⟩

set_option maxRecDepth 100000 in
set_option maxHeartbeats 8000000 in
theorem known_law (w : World) : Calls Try.prog 7 #[] w fun e w' => e = .returned (.bool true) ∧ Below w.heap.size w w' := by
  have mixed := mixedP
  go_enter Try.func7, Try.ntmps7
  go_wp2_with fail
  refine (mill5 _).mono ?_
  rintro e w1 ⟨⟨A1, c1, rfl, hA1⟩, hb1⟩
  have HB1 := hb1; have HA1 := hA1
  clear hb1 hA1
  go_wp2_with fail
  refine (ring_any 5 (by decide) _).mono ?_
  rintro e w2 ⟨⟨A2, c2, rfl, hA2⟩, hb2⟩
  have HB2 := Lib.hid (step_below HB1.out HB1.out.size hb2.out); have HA12 := Lib.hid (HA1.out.below hb2.out); have HA2 := hA2
  clear hb2 hA2 HB1 HA1
  go_wp2_with fail
  refine (ring_any 1 (by decide) _).mono ?_
  rintro e w3 ⟨⟨A3, c3, rfl, hA3⟩, hb3⟩
  have HB3 := Lib.hid (step_below HB2.out HB2.out.size hb3.out); have HA13 := Lib.hid (HA12.out.below hb3.out); have HA23 := Lib.hid (HA2.out.below hb3.out); have HA33 := hA3
  clear hb3 hA3 HB2 HA12 HA2
  go_upto_region 2 with fail
  obtain ⟨W4, hW4⟩ : ∃ W4, W4 = w3.alloc (.cells #[.int .i64 0, .int .i64 1, .int .i64 0, .int .i64 1, .int .i64 0, .int .i64 0] 23) := ⟨_, rfl⟩
  have b4 : Below w3.heap.size w3 W4 := by rw [hW4]; exact (Below.refl _ w3).alloc (Nat.le_refl _) _
  have e4 : EAt W4 (some ⟨w3.heap.size, 0, none⟩) twoL := eat_block (by rw [hW4]; exact heap_alloc_new w3 _)
  have s4 : W4.heap.size = w3.heap.size + 1 := by rw [hW4]; simp
  rw [← hW4]
  obtain ⟨W5, hW5⟩ : ∃ W5, W5 = W4.alloc (.cells #[.int .i64 0, .int .i64 0, .int .i64 2147483647, .int .i64 1, .int .i64 2, .int .i64 0, .int .i64 2, .int .i64 1, .int .i64 0] 23) := ⟨_, rfl⟩
  have b5 : Below W4.heap.size W4 W5 := by rw [hW5]; exact (Below.refl _ W4).alloc (Nat.le_refl _) _
  have e5 : EAt W5 (some ⟨W4.heap.size, 0, none⟩) triL := eat_block (by rw [hW5]; exact heap_alloc_new W4 _)
  have s5 : W5.heap.size = w3.heap.size + 1 + 1 := by rw [hW5]; simp [s4]
  rw [← hW5]
  have b35 : Below w3.heap.size w3 W5 := step_below b4 b4.size b5
  have hgs := gs_made (c1 := c1) (c2 := c2) (c3 := c3) (HA13.out.below b35) (HA23.out.below b35) (HA33.out.below b35) (e4.below b5) e5
  rw [s4, s5] at hgs
  obtain ⟨W6, hW6⟩ : ∃ W6, W6 = W5.alloc (.cells #[.int .i64 6, .slice A1 5 c1, .int .i64 5, .slice A2 5 c2, .int .i64 1, .slice A3 1 c3, .int .i64 2, .slice (some ⟨w3.heap.size, 0, none⟩) 2 2, .int .i64 3, .slice (some ⟨w3.heap.size + 1, 0, none⟩) 3 3] 35) := ⟨_, rfl⟩
  have b6 : Below W5.heap.size W5 W6 := by rw [hW6]; exact (Below.refl _ W5).alloc (Nat.le_refl _) _
  rw [← hW6] at hgs ⊢
  have hb6 := step_below HB3.out HB3.out.size (step_below b35 b35.size b6)
  have HB6 := Lib.hid hb6
  obtain ⟨gb, hgb⟩ : ∃ gb, gb = w3.heap.size + 1 + 1 := ⟨_, rfl⟩
  rw [← hgb] at hgs ⊢
  have HGS := Lib.hid hgs
  clear hW4 hW5 hW6 b4 b5 b6 b35 e4 e5 s4 s5 hgs hb6 hgb HA13 HA23 HA33 HB3
  go_wp2_with fail
  go_loopg [25] 5 (fun gk i wr => K1Rel w gb gk i wr)
  case atStart => exact ⟨0, rfl, rfl, HB6, HGS⟩
  case round =>
    clear HB6 HGS
    obtain ⟨k, hk, rfl, HB, HGS⟩ := hrel
    by_cases hk5 : k < 5
    · obtain ⟨V, A, n, c, L, hG⟩ := HGS.out.2 k hk5
      have HG := Lib.hid hG
      have q0 := hG.c0; have q1 := hG.c1
      have hV6 := hG.few.1; have hn5 := hG.few.2
      have HN := Lib.hid hG.len; have HCK := Lib.hid hG.ok
      have hV1 : 1 ≤ V := by have := ((chk_zero _ _).1 hG.ok).1; omega
      clear hG
      have tk : decide ((k : Int) < 5) = true := by simp; omega
      go_upto_region 4 with fail
      obtain ⟨W1, hW1⟩ : ∃ W1, W1 = wr.alloc (.cells #[.int .i64 (V : Int), .slice A n c] 35) := ⟨_, rfl⟩
      have b1 : Below wr.heap.size wr W1 := by rw [hW1]; exact (Below.refl _ wr).alloc (Nat.le_refl _) _
      have x1 : W1.heap[wr.heap.size]? = some (.cells #[.int .i64 (V : Int), .slice A n c] 35 (0, 0)) := by rw [hW1]; exact heap_alloc_new wr _
      rw [← hW1]
      obtain ⟨bx, hbx⟩ : ∃ bx, bx = wr.heap.size := ⟨_, rfl⟩
      rw [← hbx] at x1 ⊢
      have HS : Hid (KSt w W1 gb bx V A n c L) := Lib.hid ⟨step_below HB.out HB.out.size b1, HGS.out.below b1, x1, HG.out.row.below b1⟩
      clear hW1 b1 x1 hbx q0 q1 HG HB HGS
      go_wp2_with fail
      obtain ⟨G0, rfl⟩ : ∃ G0 : Nat, G0 = gk := ⟨_, rfl⟩
      go_loopg [3] (V + 2) (fun gk i wr => K2Rel w gb bx V A n c L gk i wr)
      case atStart => exact ⟨-1, by omega, by omega, rfl, HS⟩
      case round =>
        clear HS
        obtain ⟨y, hy, hy1, rfl, HS⟩ := hrel
        obtain ⟨k0, k1, _⟩ := Bx.cells HS.out.box
        by_cases hyV : y ≤ (V : Int)
        · go_wp2_with fail
          clear k0 k1
          obtain ⟨G1, rfl⟩ : ∃ G1 : Nat, G1 = gk := ⟨_, rfl⟩
          go_loopg [4] V (fun gk i wr => K3Rel w gb bx V A n c L gk i wr)
          case atStart => exact ⟨0, by omega, rfl, HS⟩
          case round =>
            clear HS
            obtain ⟨v, hv, rfl, HS⟩ := hrel
            obtain ⟨k0, k1, _⟩ := Bx.cells HS.out.box
            by_cases hvV : v < V
            · go_upto_region 11 with fail
              obtain ⟨W2, hW2⟩ : ∃ W2, W2 = wr.alloc (.cells #[.int .i64 0, .int .i64 1, .int .i64 2, .int .i64 3, .int .i64 9, .int .i64 (-1), .int .i64 4611686018427387904, .int .i64 4611686018427387903, .int .i64 4611686018427387905] 2) := ⟨_, rfl⟩
              have b2 : Below wr.heap.size wr W2 := by rw [hW2]; exact (Below.refl _ wr).alloc (Nat.le_refl _) _
              have x2 : Nb W2 wr.heap.size nine := by rw [hW2]; exact heap_alloc_new wr _
              rw [← hW2]
              obtain ⟨nb, hnb⟩ : ∃ nb, nb = wr.heap.size := ⟨_, rfl⟩
              rw [← hnb] at x2 ⊢
              have HS2 := Lib.hid (HS.out.step b2); have HNB := Lib.hid x2
              clear hW2 b2 x2 hnb k0 k1 HS
              go_wp2_with fail
              obtain ⟨G2, rfl⟩ : ∃ G2 : Nat, G2 = gk := ⟨_, rfl⟩
              go_loopg [43] 9 (fun gk i wr => K4Rel w gb bx nb V A n c L gk i wr)
              case atStart => exact ⟨0, rfl, rfl, HS2, HNB⟩
              case round =>
                clear HS2 HNB
                obtain ⟨j, hj, rfl, HS, HNB⟩ := hrel
                by_cases hj9 : j < 9
                · obtain ⟨k0, k1, _⟩ := Bx.cells HS.out.box
                  have x0 := HNB.out.at_ (k := j) hj9
                  obtain ⟨x, hx⟩ : ∃ x, vl nine j = x := ⟨_, rfl⟩
                  rw [hx] at x0
                  clear hx
                  go_wp2_with fail
                  refine (one_law_n (V : Int) y (v : Int) x A c n L wr HN.out HS.out.row (by omega)).mono ?_
                  rintro e w5 ⟨rfl, h5⟩
                  have HS5 := Lib.hid (HS.out.step h5.out); have HNB5 := Lib.hid (HNB.out.below h5.out)
                  clear h5 k0 k1 x0 HS HNB
                  obtain ⟨k0, k1, _⟩ := Bx.cells HS5.out.box
                  rcases (show y < 0 ∨ (0 ≤ y ∧ y = (V : Int)) ∨ (0 ≤ y ∧ y < (V : Int)) by omega) with g1 | ⟨g1, g2⟩ | ⟨g1, g2⟩
                  · go_wp2
                    go_roundg (8 - j)
                    case measure => omega
                    case rel => exact ⟨j + 1, by omega, by go_num, HS5, HNB5⟩
                  · subst g2
                    go_wp2
                    go_roundg (8 - j)
                    case measure => omega
                    case rel => exact ⟨j + 1, by omega, by go_num, HS5, HNB5⟩
                  · obtain ⟨s, rfl⟩ : ∃ s : Nat, y = (s : Int) := ⟨y.toNat, by omega⟩
                    have hsV : s < V := by omega
                    have t1 : decide ((s : Int) < 0) = false := by simp
                    have t2 : ((s : Int) == (V : Int)) = false := by simp; omega
                    have t3 : (s == V) = false := by simp; omega
                    go_wp2_with fail
                    refine (relaxed_n V s A c n L w5 HN.out HS5.out.row (by omega) (by omega) HCK.out hsV).mono ?_
                    rintro e w6 ⟨⟨g, cp, rfl, hg, ho⟩, h6⟩
                    have hlen : (far V s L).length = V := (far_tight (fitsI_of HCK.out).fits hsV).len
                    have HLEN := Lib.hid hlen
                    obtain ⟨l, hl⟩ : ∃ l, far V s L = l := ⟨_, rfl⟩
                    rw [hl] at HLEN ho
                    have hcp := iown_cap HLEN.out ho.out
                    have u0 := (iown_at HLEN.out ho.out hvV).1
                    have u1 := (iown_at HLEN.out ho.out hvV).2
                    have HO7 := Lib.hid (iown_set HLEN.out ho.out v x)
                    have HB7 := Lib.hid (h6.out.setCell (p := ⟨g, v, none⟩) (show w5.heap.size ≤ g by have := hg.out; omega) (.int .i64 x))
                    have HLS : Hid ((l.set v x).length = V) := Lib.hid (by rw [List.length_set]; exact HLEN.out)
                    obtain ⟨k2, k3, _⟩ := Bx.cells (HS5.out.step h6.out).box
                    clear hlen hl k0 k1 ho
                    go_upto_region 18 with fail
                    obtain ⟨W7, hW7⟩ : ∃ W7, W7 = w6.setCell ⟨g, v, none⟩ (.int .i64 x) := ⟨_, rfl⟩
                    rw [← hW7] at HO7 HB7 ⊢
                    have HS7 := Lib.hid (HS5.out.step HB7.out); have HNB7 := Lib.hid (HNB5.out.below HB7.out)
                    clear hW7 k2 k3 u0 u1 HS5 HNB5 h6 HLEN
                    obtain ⟨k0, k1, _⟩ := Bx.cells HS7.out.box
                    have z0 := cell_regrown k0; have z1 := cell_regrown k1
                    have hw1 : IntKind.i64.wrap ((s : Int) - 1) = (s : Int) - 1 := IntWalk.i64_in _ (by omega)
                    have C1 := Lib.hid (regr fun W (h : Below W7.heap.size W7 W) => tight_law_n (V : Int) (s : Int) A (some ⟨g, 0, none⟩) c cp n V L (l.set v x) W HN.out HLS.out (HS7.out.row.below h) ((iown_iat HLS.out HO7.out).below h) (by omega) (by omega))
                    have C3 := Lib.hid (regr fun W (h : Below W7.heap.size W7 W) => tight_law_n (V : Int) ((s : Int) - 1) A (some ⟨g, 0, none⟩) c cp n V L (l.set v x) W HN.out HLS.out (HS7.out.row.below h) ((iown_iat HLS.out HO7.out).below h) (by omega) (by omega))
                    have C2 := Lib.hid (regr fun W (h : Below W7.heap.size W7 W) => tight_law_n (V : Int) (s : Int) A (some ⟨g, 1, none⟩) c (cp - 1) n (V - 1) L ((l.set v x).drop 1) W HN.out (by rw [List.length_drop, HLS.out]) (HS7.out.row.below h) ((iat_drop (iown_iat HLS.out HO7.out)).below h) (by omega) (by omega))
                    clear k0 k1
                    by_cases hc1 : cp = 1
                    · have HV0 : Hid (V = 1) := Lib.hid (by omega)
                      have C4 := Lib.hid (regr fun W (h : Below W7.heap.size W7 W) => tight_law_n (V : Int) (s : Int) A (some ⟨g, 0, none⟩) c 0 n 0 L [] W HN.out rfl (HS7.out.row.below h) (IAt.nil _ _) (by omega) (by omega))
                      subst hc1
                      refine wp_region_quiet_below mixed (by kernel_rfl) ?_
                      repeat (go_big_quiet_step ((with_reducible first | exact C1.out _ _ | exact C4.out _ _ | exact C3.out _ _)))
                      refine wpQuiet_nil ?_
                      intro _ hw'
                      obtain ⟨⟨dq, osq⟩, hw''⟩ := hw'
                      subst hw''
                      have hb8 := below_regrown W7 dq osq
                      have HS8 := Lib.hid (HS7.out.step hb8); have HNB8 := Lib.hid (HNB7.out.below hb8)
                      clear hb8 z0 z1 hw1 C1 C2 C3
                      go_wp2
                      go_roundg (8 - j)
                      case measure => omega
                      case rel => exact ⟨j + 1, by omega, by go_num, HS8, HNB8⟩
                    · refine wp_region_quiet_below mixed (by kernel_rfl) ?_
                      repeat (go_big_quiet_step ((with_reducible first | exact C1.out _ _ | exact C2.out _ _ | exact C3.out _ _)))
                      refine wpQuiet_nil ?_
                      intro _ hw'
                      obtain ⟨⟨dq, osq⟩, hw''⟩ := hw'
                      subst hw''
                      have hb8 := below_regrown W7 dq osq
                      have HS8 := Lib.hid (HS7.out.step hb8); have HNB8 := Lib.hid (HNB7.out.below hb8)
                      clear hb8 z0 z1 hw1 C1 C2 C3
                      go_wp2
                      go_roundg (8 - j)
                      case measure => omega
                      case rel => exact ⟨j + 1, by omega, by go_num, HS8, HNB8⟩
                · have HJ : Hid (j = 9) := Lib.hid (by omega)
                  go_wp2
                  go_roundg (G2 - 1)
                  case measure => omega
                  case rel => exact ⟨v + 1, by omega, by go_num, HS⟩
            · go_wp2
              go_roundg (G1 - 1)
              case measure => omega
              case rel => exact ⟨y + 1, by omega, by omega, by go_num, HS⟩
        · go_wp2
          go_roundg (G0 - 1)
          case measure => omega
          case rel => exact ⟨k + 1, by omega, by go_num, Lib.hid HS.out.below, Lib.hid HS.out.gs⟩
    · have tk : decide ((k : Int) < 5) = false := by simp; omega
      go_upto_region 23 with fail
      obtain ⟨W4, hW4⟩ : ∃ W4, W4 = wr.alloc (.cells #[.int .i64 1, .int .i64 2, .int .i64 0, .int .i64 2, .int .i64 1, .int .i64 0] 23) := ⟨_, rfl⟩
      have b4 : Below wr.heap.size wr W4 := by rw [hW4]; exact (Below.refl _ wr).alloc (Nat.le_refl _) _
      have e4 : EAt W4 (some ⟨wr.heap.size, 0, none⟩) heldL := eat_block (by rw [hW4]; exact heap_alloc_new wr _)
      have s4 : W4.heap.size = wr.heap.size + 1 := by rw [hW4]; simp
      rw [← hW4]
      obtain ⟨W5, hW5⟩ : ∃ W5, W5 = W4.alloc (.cells #[.int .i64 3, .slice (some ⟨wr.heap.size, 0, none⟩) 2 2] 35) := ⟨_, rfl⟩
      have b5 : Below W4.heap.size W4 W5 := by rw [hW5]; exact (Below.refl _ W4).alloc (Nat.le_refl _) _
      have x5 : W5.heap[W4.heap.size]? = some (.cells #[.int .i64 3, .slice (some ⟨wr.heap.size, 0, none⟩) 2 2] 35 (0, 0)) := by rw [hW5]; exact heap_alloc_new W4 _
      rw [s4] at x5
      rw [← hW5]
      have HB5 := Lib.hid (step_below HB.out HB.out.size (step_below b4 b4.size b5))
      have e5 := e4.below b5
      obtain ⟨bx, hbx⟩ : ∃ bx, bx = wr.heap.size + 1 := ⟨_, rfl⟩
      obtain ⟨g, hg⟩ : ∃ g, g = wr.heap.size := ⟨_, rfl⟩
      rw [← hbx] at x5 ⊢
      rw [← hg] at x5 e5
      have HX5 := Lib.hid x5; have HE5 := Lib.hid e5
      clear hW4 hW5 b4 b5 e4 e5 s4 x5 hbx hg HB HGS
      go_upto_region 24 with fail
      obtain ⟨W6, hW6⟩ : ∃ W6, W6 = W5.alloc (.cells #[.int .i64 0, .int .i64 5, .int .i64 4611686018427387904, .int .i64 4611686018427387909, .int .i64 9223372036854775807, .int .i64 (-9223372036854775808)] 2) := ⟨_, rfl⟩
      have b6 : Below W5.heap.size W5 W6 := by rw [hW6]; exact (Below.refl _ W5).alloc (Nat.le_refl _) _
      have x6 : Nb W6 W5.heap.size six := by rw [hW6]; exact heap_alloc_new W5 _
      rw [← hW6]
      obtain ⟨nb, hnb⟩ : ∃ nb, nb = W5.heap.size := ⟨_, rfl⟩
      rw [← hnb] at x6 ⊢
      have HB6 := Lib.hid (step_below HB5.out HB5.out.size b6); have HX6 := Lib.hid ((b6.block _ (lt_of_block HX5.out)).trans HX5.out); have HE6 := Lib.hid (HE5.out.below b6); have HNB6 := Lib.hid x6
      clear hW6 b6 x6 hnb HB5 HX5 HE5
      go_wp2_with fail
      obtain ⟨G0, rfl⟩ : ∃ G0 : Nat, G0 = gk := ⟨_, rfl⟩
      go_loopg [97] 6 (fun gk i wr => K5Rel w bx g nb gk i wr)
      case atStart => exact ⟨0, rfl, rfl, HB6, HX6, HE6, HNB6⟩
      case round =>
        clear HB6 HX6 HE6 HNB6
        obtain ⟨j, hj, rfl, HB, HX, HE, HNB⟩ := hrel
        obtain ⟨k0, k1, _⟩ := Bx.cells HX.out
        by_cases hj6 : j < 6
        · have x0 := HNB.out.at_ (k := j) hj6
          obtain ⟨x, hx⟩ : ∃ x, vl six j = x := ⟨_, rfl⟩
          rw [hx] at x0
          clear hx
          go_wp2_with fail
          refine (held_lit x g wr HE).mono ?_
          rintro e w5 ⟨rfl, h5⟩
          have HB5 := Lib.hid (step_below HB.out HB.out.size h5.out); have HX5 := Lib.hid ((h5.out.block _ (lt_of_block HX.out)).trans HX.out); have HE5 := Lib.hid (HE.out.below h5.out); have HNB5 := Lib.hid (HNB.out.below h5.out)
          clear h5 k0 k1 x0 HB HX HE HNB
          go_wp2_with fail
          refine (law_take x 5 true _).mono ?_
          rintro e w6 ⟨rfl, h6⟩
          go_wp2_with fail
          refine (law_take 5 x true _).mono ?_
          rintro e w7 ⟨rfl, h7⟩
          go_wp2_with fail
          refine (law_take x 1 false _).mono ?_
          rintro e w8 ⟨rfl, h8⟩
          go_wp2_with fail
          refine (law_give 1 1 x 0 0 x _).mono ?_
          rintro e w9 ⟨rfl, h9⟩
          go_wp2_with fail
          refine (law_give 0 1 x 0 0 3 _).mono ?_
          rintro e wa ⟨rfl, ha⟩
          have hb := below_trans (below_trans (below_trans (below_trans h6 h7) h8) h9) ha
          have HBa := Lib.hid (step_below HB5.out HB5.out.size hb); have HXa := Lib.hid ((hb.block _ (lt_of_block HX5.out)).trans HX5.out); have HEa := Lib.hid (HE5.out.below hb); have HNBa := Lib.hid (HNB5.out.below hb)
          clear h6 h7 h8 h9 ha hb HB5 HX5 HE5 HNB5
          go_wp2
          go_roundg (5 - j)
          case measure => omega
          case rel => exact ⟨j + 1, by omega, by go_num, HBa, HXa, HEa, HNBa⟩
        · have HJ : Hid (j = 6) := Lib.hid (by omega)
          go_wp2_with fail
          refine (held_no g wr HE).mono ?_
          rintro e w5 ⟨rfl, h5⟩
          have HB5 := Lib.hid (step_below HB.out HB.out.size h5.out)
          clear h5 k0 k1 HX HE HNB
          go_wp2_with fail
          refine (tight_none _).mono ?_
          rintro e w6 ⟨rfl, h6⟩
          have HB6 := Lib.hid (step_below HB5.out HB5.out.size h6.out)
          clear h6
          go_wp2_with fail
          refine (works_any _).mono ?_
          rintro e w7 ⟨rfl, h7⟩
          have HB7 := Lib.hid (step_below HB6.out HB6.out.size h7.out)
          clear h7
          go_wp2
          go_ret
          exact ⟨rfl, HB7.out⟩

end Go.Proofs.Ytiaihloncpkjbaa.Pa
