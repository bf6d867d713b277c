/-
  What is proved here: the contract of the document's function Rest: of any slice of at least one and at most 100000 bools it returns what the row leaves ('hr'), and no block that was there has changed.
-/
import Derived.Test.YtgfofmcgfmhaeaaW4
import Derived.Test.YtgfofmcgfmhaeaaMath2
import Derived.IntWalk
namespace Go.Proofs.Ytgfofmcgfmhaeaa
open Go.RowKit

def bv (R : List Bool) : List Value := R.map Value.bool
/- A row of bools of the call's own. -/
def BR (B : Nat) (wr : World) (g n cap : Nat) (R : List Bool) : Prop := R.length = n ∧ wr.ownsRow B 4 1 (.slice (some ⟨g, 0, none⟩) n cap) n (bv R)
theorem bv_one (R : List Bool) : ∀ u ∈ bv R, u.oneCell' = true := by
  intro u hu
  simp only [bv, List.mem_map] at hu
  obtain ⟨x, _, rfl⟩ := hu
  rfl
theorem bv_length (R : List Bool) : (bv R).length = R.length := by simp [bv]
theorem BR.cell {B : Nat} {wr : World} {g n cap : Nat} {R : List Bool} (h : BR B wr g n cap R) (j : Nat) (b : Bool) (hb : R[j]? = some b) : wr.cell? ⟨g, j, none⟩ = some (.bool b) := by
  have hj : j < n := by
    rcases Nat.lt_or_ge j R.length with h1 | h1
    · have := h.1; omega
    · rw [List.getElem?_eq_none h1] at hb; cases hb
  rw [h.2.cellAt j (by omega)]
  unfold bv; rw [List.getElem?_map, hb]; rfl
theorem BR.free {B : Nat} {wr : World} {g n cap : Nat} {R : List Bool} (h : BR B wr g n cap R) (j : Nat) : wr.frozen? ⟨g, j, none⟩ = false := h.2.frozenAt j
theorem BR.store {B : Nat} {wr : World} {g n cap : Nat} {R : List Bool} (h : BR B wr g n cap R) (j : Nat) (b : Bool) : BR B (wr.setCell ⟨g, j, none⟩ (.bool b)) g n cap (R.set j b) := by
  refine ⟨by rw [List.length_set]; exact h.1, ?_⟩
  have := (h.2.stored j (.bool b)).1
  have e : bv (R.set j b) = (bv R).set j (.bool b) := by unfold bv; rw [List.map_set]
  rw [e]; exact this
theorem own_kept {w w' : World} {base e size : Nat} {v : Value} {n : Nat} {xs : List Value} (h : w.ownsRow base e size v n xs) (hb : Below w.heap.size w w') : w'.ownsRow base e size v n xs := by
  obtain ⟨h1, h2⟩ := h
  refine ⟨h1, ?_⟩
  rcases h2 with h2 | ⟨g, cap, cur, e1, e2, e3, e4⟩
  · exact Or.inl h2
  · have hg : g < w.heap.size := by
      rcases Nat.lt_or_ge g w.heap.size with h | h
      · exact h
      · rw [Array.getElem?_eq_none h] at e3; cases e3
    exact Or.inr ⟨g, cap, cur, e1, e2, (hb.block g hg).trans e3, e4⟩
theorem BR.below {B : Nat} {w w' : World} {g n cap : Nat} {R : List Bool} (h : BR B w g n cap R) (hb : Below w.heap.size w w') : BR B w' g n cap R := ⟨h.1, own_kept h.2 hb⟩
theorem BR.lt {B : Nat} {wr : World} {g n cap : Nat} {R : List Bool} (h : BR B wr g n cap R) : B ≤ g ∧ g < wr.heap.size := h.2.lt g rfl
theorem own_form {w : World} {base e size : Nat} {v : Value} {n : Nat} {xs : List Value} (h : w.ownsRow base e size v n xs) (hn : 0 < n) : ∃ g cap, v = .slice (some ⟨g, 0, none⟩) n cap := by
  rcases h.2 with ⟨_, h0⟩ | ⟨g, cap, cur, e1, _⟩
  · omega
  · exact ⟨g, cap, e1⟩

theorem info4 : (Try.prog.info? 4).map (fun i => (i.zero, i.size, i.bytes)) = some (some (.bool false), 1, 1) := by kernel_rfl

def pArr : Array Value := #[.int .i64 32, .int .i64 28, .int .i64 27, .int .i64 26, .int .i64 25, .int .i64 23, .int .i64 22, .int .i64 20, .int .i64 19, .int .i64 18, .int .i64 14, .int .i64 13, .int .i64 11, .int .i64 10, .int .i64 9, .int .i64 8, .int .i64 6, .int .i64 0]
theorem pArr_at (k : Nat) (hk : k < 18) : pArr[k]? = some (.int .i64 ((Crc.pk k : Nat) : Int)) := by
  rcases k with _|_|_|_|_|_|_|_|_|_|_|_|_|_|_|_|_|_|k <;> first | rfl | omega

set_option maxHeartbeats 400000 in
theorem p_any (w : World) : Calls Try.prog 24 #[] w fun e w' => e = .returned (.slice (some ⟨w.heap.size, 0, none⟩) 18 18) ∧ w' = w.alloc (.cells pArr 3) := by
  go_enter Try.func24, Try.ntmps24
  go_wp2
  go_ret
  exact ⟨rfl, rfl⟩

def PadRel (L : List Bool) (w : World) (k : Nat) (v : Value) (wr : World) : Prop :=
  ∃ m g cap : Nat, v = .slice (some ⟨g, 0, none⟩) (m + L.length) cap ∧ BR w.heap.size wr g (m + L.length) cap (List.replicate m false ++ L) ∧ Below w.heap.size w wr ∧ k = 32 - (m + L.length) ∧ (m = 0 ∨ m + L.length ≤ 32)

/- The powers of P as cells. -/
def PC (w : World) (q : Nat) : Prop := ∀ k, k < 18 → w.cell? ⟨q, k, none⟩ = some (.int .i64 ((Crc.pk k : Nat) : Int))

/- One power's turn: its first places are noughts. -/
def St (X : BitVec 32) (N j t : Nat) (R : List Bool) : Prop :=
  R.length = N ∧ Crc.hr R = X ^^^ Crc.rp (N - 33 - j) (Crc.ps t) ∧ (∀ u, u < j → R[u]? = some false) ∧ R[j]? = some (decide (t = 0))
theorem St.start {X : BitVec 32} {N j : Nat} {R : List Bool} (h1 : R.length = N) (h2 : Crc.hr R = X) (h3 : ∀ u, u < j → R[u]? = some false) (h4 : R[j]? = some true) : St X N j 0 R :=
  ⟨h1, by rw [h2]; show X = X ^^^ Crc.rp _ 0#32; rw [Crc.rp_zero, BitVec.xor_zero], h3, h4⟩
theorem St.step {X : BitVec 32} {N j t : Nat} {R : List Bool} (hj : j + 32 < N) (ht : t < 18) (h : St X N j t R) :
    ∃ (a : Nat) (b : Bool), a + Crc.pk t = j + 32 ∧ a < N ∧ R[a]? = some b ∧ St X N j (t + 1) (R.set a (!b)) := by
  obtain ⟨h1, h2, h3, h4⟩ := h
  have hp := Crc.pk_le t ht
  obtain ⟨a, ea⟩ : ∃ a, a = j + 32 - Crc.pk t := ⟨_, rfl⟩
  have ha : a < R.length := by omega
  obtain ⟨b, hb⟩ : ∃ b, R[a]? = some b := ⟨_, List.getElem?_eq_getElem ha⟩
  refine ⟨a, b, by omega, by omega, hb, by rw [List.length_set]; exact h1, ?_, ?_, ?_⟩
  · rw [Crc.hr_flip R _ _ hb, h2, h1]
    show _ = X ^^^ Crc.rp (N - 33 - j) (Crc.ps t ^^^ Crc.pw (Crc.pk t))
    rw [Crc.rp_xor, Crc.rp_pw]
    have e : N - 1 - a = N - 33 - j + Crc.pk t := by omega
    rw [e, BitVec.xor_assoc]
  · intro u hu
    rw [List.getElem?_set, if_neg (by omega)]; exact h3 u hu
  · rcases Nat.eq_zero_or_pos t with e | e
    · subst e
      have e1 : a = j := by rw [ea, Crc.pk_zero]; omega
      subst e1
      rw [h4] at hb
      have h5 : b = true := by simpa using hb.symm
      rw [h5, List.getElem?_set, if_pos rfl, if_pos ha]; rfl
    · have := Crc.pk_lt t ht e
      rw [List.getElem?_set, if_neg (by omega), h4]
      congr 1
      rw [decide_eq_false (by omega), decide_eq_false (by omega)]
theorem St.done {X : BitVec 32} {N j : Nat} {R : List Bool} (h : St X N j 18 R) : R.length = N ∧ Crc.hr R = X ∧ ∀ u, u < j + 1 → R[u]? = some false := by
  obtain ⟨h1, h2, h3, h4⟩ := h
  refine ⟨h1, by rw [h2, Crc.ps_all, Crc.rp_zero, BitVec.xor_zero], fun u hu => ?_⟩
  rcases Nat.lt_or_ge u j with h | h
  · exact h3 u h
  · obtain rfl : u = j := by omega
    exact h4

theorem last_32 (R : List Bool) (N : Nat) (hz : ∀ t, t < N - 32 → R[t]? = some false) : Crc.hr (R.drop (N - 32)) = Crc.hr R := by
  have e : R = List.replicate (N - 32) false ++ R.drop (N - 32) := by
    apply List.ext_getElem?
    intro i
    by_cases hi : i < N - 32
    · rw [List.getElem?_append_left (by simpa using hi), List.getElem?_replicate, if_pos hi]; exact hz i hi
    · rw [List.getElem?_append_right (by simp; omega), List.length_replicate, List.getElem?_drop]
      congr 1; omega
  conv => rhs; rw [e]
  rw [Crc.hr_pad]

theorem num_step (T : List Bool) (t : Nat) (ht : t < 32) (hT : T.length = 32) (h : T[t]? = some true) :
    (iv (Crc.nb T t) + (2 : Int) ^ t % 4294967296) % 4294967296 = iv (Crc.nb T (t + 1)) := by
  have h1 := iv_lt (Crc.nb T (t + 1))
  have h0 := iv_ge (Crc.nb T (t + 1))
  have h2 : iv (Crc.nb T (t + 1)) = iv (Crc.nb T t) + (2 : Int) ^ t := by
    unfold iv; rw [Crc.nb_add T t ht hT h]; push_cast; rfl
  have h3 : (2 : Int) ^ t < 4294967296 := by
    have : (2 : Nat) ^ t < 2 ^ 32 := Nat.pow_lt_pow_right (by decide) ht
    have h4 : ((2 ^ t : Nat) : Int) = (2 : Int) ^ t := by push_cast; rfl
    rw [← h4]; omega
  have h5 : (0 : Int) ≤ (2 : Int) ^ t := Int.pow_nonneg (by decide)
  rw [h2] at h1 h0 ⊢
  generalize (2 : Int) ^ t = z at h1 h0 h3 h5 ⊢
  generalize iv (Crc.nb T t) = y at h1 h0 ⊢
  omega

def MainRel (X : BitVec 32) (w : World) (N g cap q : Nat) (k : Nat) (i : Value) (wr : World) : Prop :=
  ∃ (j : Nat) (R : List Bool), j + k = N ∧ i = .int .i64 (j : Int) ∧ BR w.heap.size wr g N cap R ∧ Crc.hr R = X ∧ (∀ t, t < j → R[t]? = some false) ∧ Below w.heap.size w wr ∧ PC wr q ∧ j + 32 ≤ N
def TurnRel (X : BitVec 32) (w : World) (N g cap q j : Nat) (k : Nat) (i : Value) (wr : World) : Prop :=
  ∃ (t : Nat) (R : List Bool), t + k = 18 ∧ i = .int .i64 (t : Int) ∧ BR w.heap.size wr g N cap R ∧ St X N j t R ∧ Below w.heap.size w wr ∧ PC wr q

set_option maxRecDepth 100000 in
set_option maxHeartbeats 1000000 in
theorem rest_any (ad : Addr) (c : Nat) (L : List Bool) (w : World) (h1 : 0 < L.length) (h2 : L.length ≤ 100000)
    (hl : ∀ (j : Nat) (u : Value), (bv L)[j]? = some u → w.cell? (ad.add j) = some u) :
    Calls Try.prog 20 #[.slice (some ad) L.length c] w fun e w' => e = .returned (.int .u32 (iv (Crc.hr L))) ∧ Below w.heap.size w w' := by
  have HL := Lib.hid hl; clear hl
  obtain ⟨i0, hi, hz0, hz1, hz2⟩ := info_parts info4
  have h0 : w.ownsRow w.heap.size 4 1 (.slice none 0 0) 0 [] := ⟨rfl, Or.inl ⟨rfl, rfl⟩⟩
  have H0 := Lib.hid h0; clear h0
  go_enter Try.func20, Try.ntmps20
  go_wp2_with (at_builtin; refine wpList_append_own _ rfl (.tmp 10) (.tmp 11) 40 rfl w.heap.size 4 i0 (.bool false) 1 1 Try.underlying40 hi hz0 hz1 hz2 rfl (by decide) _ 0 [] rfl H0.out ad _ _ (bv L) rfl (by rw [bv_length, Nat.mul_one]) HL.out (bv_one _) ?c1 ?c2 ?c3 ?_)
  case c1 => unfold maxLen; omega
  case c2 => omega
  case c3 => exact Nat.le_refl _
  intro v' w1 hown hgrow _
  have hB1 : Below w.heap.size w w1 := Below.grown (Below.refl _ _) hgrow (Nat.le_refl _) (fun k hk => by cases hk)
  obtain ⟨g0, cap0, rfl⟩ := own_form hown h1
  have HO := Lib.hid hown; clear hown
  have HB := Lib.hid hB1; clear hB1 hgrow
  go_wp2
  go_loopg [3] (32 - L.length) (fun k v wr => PadRel L w k v wr)
  case atStart => exact ⟨0, g0, cap0, by rw [Nat.zero_add], ⟨by simp, by rw [Nat.zero_add]; simpa using HO.out⟩, HB.out, by omega, Or.inl rfl⟩
  case round =>
    clear HO HB
    obtain ⟨m, g, cap, rfl, hbr, hbw, hk, hm⟩ := hrel
    have HR := Lib.hid hbr; clear hbr
    have HW := Lib.hid hbw; clear hbw
    by_cases hlt : m + L.length < 32
    · have hnew : (wr.alloc (.cells #[.bool false] 4)).ownsRow w.heap.size 4 1 (.slice (some ⟨wr.heap.size, 0, none⟩) 1 1) 1 [.bool false] := ⟨rfl, Or.inr ⟨wr.heap.size, 1, #[.bool false], rfl, HW.out.size, heap_alloc_new _ _, Nat.le_refl _, by unfold maxLen; omega, rfl, rfl⟩⟩
      have HN := Lib.hid hnew; clear hnew
      have hsrc : ∀ (j : Nat) (u : Value), (bv (List.replicate m false ++ L))[j]? = some u → (wr.alloc (.cells #[.bool false] 4)).cell? ((⟨g, 0, none⟩ : Addr).add j) = some u := (HR.out.2.alloc _).cells (g := g) rfl
      have HS := Lib.hid hsrc; clear hsrc
      go_wp2_with (at_builtin; refine wpList_append_own _ rfl (.tmp 16) (.tmp 17) 40 rfl w.heap.size 4 i0 (.bool false) 1 1 Try.underlying40 hi hz0 hz1 hz2 rfl (by decide) _ 1 [.bool false] rfl HN.out ⟨g, 0, none⟩ _ _ (bv (List.replicate m false ++ L)) rfl (by rw [bv_length, List.length_append, List.length_replicate, Nat.mul_one]) HS.out (bv_one _) ?c1 ?c2 ?c3 ?_)
      case c1 => unfold maxLen; omega
      case c2 => omega
      case c3 => have := HW.out.size; simp; omega
      intro v' w2 hown hgrow _
      have hB2 : Below w.heap.size w w2 := Below.grown (HW.out.alloc HW.out.size _) hgrow (by have := HW.out.size; simp; omega) (fun k hk => (HN.out.lt k hk).1)
      obtain ⟨g2, cap2, rfl⟩ := own_form hown (by omega)
      have HO := Lib.hid hown; clear hown
      have HB2 := Lib.hid hB2; clear hB2 hgrow
      go_wp2
      go_roundg (gk - 1)
      case measure => omega
      case rel =>
        refine ⟨m + 1, g2, cap2, by congr 1; omega, ⟨by simp, ?_⟩, HB2.out, by omega, by omega⟩
        have h := HO.out
        have e1 : 1 + (m + L.length) = m + 1 + L.length := by omega
        rw [e1] at h
        exact h
    · obtain ⟨N, eN⟩ : ∃ N, m + L.length = N := ⟨_, rfl⟩
      have hX : Crc.hr (List.replicate m false ++ L) = Crc.hr L := Crc.hr_pad m L
      have HX := Lib.hid hX; clear hX
      have hN1 : 32 ≤ N := by omega
      have hN2 : N ≤ 100032 := by omega
      rw [eN] at HR ⊢
      clear eN hk hm hlt
      go_wp2_with fail
      refine (p_any _).mono ?_
      rintro e w2 ⟨rfl, rfl⟩
      have hg := HR.out.lt
      obtain ⟨q, eq⟩ : ∃ q, wr.heap.size = q := ⟨_, rfl⟩
      have hR2 := HR.out.below ((Below.refl wr.heap.size wr).alloc (Nat.le_refl _) (.cells pArr 3))
      have hW2 := HW.out.alloc HW.out.size (.cells pArr 3)
      have hP : PC (wr.alloc (.cells pArr 3)) q := by
        intro k hk
        rw [← eq, cell_of_row _ _ _ _ _ _ (heap_alloc_new wr _)]
        exact pArr_at k hk
      rw [eq] at hg ⊢
      obtain ⟨w3, ew3⟩ : ∃ w3, wr.alloc (.cells pArr 3) = w3 := ⟨_, rfl⟩
      rw [ew3] at hR2 hW2 hP ⊢
      clear ew3 eq HR HW wr
      have HR := Lib.hid hR2; clear hR2
      have HW := Lib.hid hW2; clear hW2
      have HP := Lib.hid hP; clear hP
      go_wp2
      go_loopg [5] N (fun k i wr => MainRel (Crc.hr L) w N g cap q k i wr)
      case atStart => exact ⟨0, _, by omega, rfl, HR.out, HX.out, fun t ht => by omega, HW.out, HP.out, by omega⟩
      case round =>
        clear HR HW HP HX
        obtain ⟨j, R, hk, rfl, hbr, hX, hz, hbw, hp, hj⟩ := hrel
        have HR := Lib.hid hbr
        have HX := Lib.hid hX
        have HZ := Lib.hid hz
        have HW := Lib.hid hbw
        have HP := Lib.hid hp
        clear hbr hX hz hbw hp
        by_cases hlt : j + 32 < N
        · have hRj : j < R.length := by have := HR.out.1; omega
          cases hb : R[j] with
          | false =>
            have hRb : R[j]? = some false := by rw [List.getElem?_eq_getElem hRj, hb]
            have hc := HR.out.cell j false hRb
            have HB := Lib.hid hRb; clear hRb hb
            go_wp2
            go_roundg (gk - 1)
            case measure => omega
            case rel => exact ⟨j + 1, R, by omega, by go_num, HR.out, HX.out, fun t ht => by rcases Nat.lt_or_ge t j with h | h; exact HZ.out t h; (obtain rfl : t = j := by omega); exact HB.out, HW.out, HP.out, by omega⟩
          | true =>
            have hRb : R[j]? = some true := by rw [List.getElem?_eq_getElem hRj, hb]
            have hc := HR.out.cell j true hRb
            have hst := St.start (X := Crc.hr L) HR.out.1 HX.out HZ.out hRb
            have HS := Lib.hid hst; clear hst hRb hb hRj HX HZ
            obtain ⟨G, hG⟩ : ∃ G, gk = G + 1 := ⟨gk - 1, by omega⟩
            go_wp2
            go_loopg [6] 18 (fun k i wr => TurnRel (Crc.hr L) w N g cap q j k i wr)
            case atStart => exact ⟨0, R, by omega, rfl, HR.out, HS.out, HW.out, HP.out⟩
            case round =>
              clear HR HS HW HP hc
              obtain ⟨t, R2, ht, rfl, hbr, hst, hbw, hp⟩ := hrel
              by_cases hlt2 : t < 18
              · obtain ⟨a, b, ea, ha, hab, hst2⟩ := hst.step hlt hlt2
                have hc := hbr.cell a b hab
                have hf := hbr.free a
                have hpc := hp t hlt2
                have hP := Crc.pk_le t hlt2
                have hsum : (j : Int) + 32 - ((Crc.pk t : Nat) : Int) = (a : Int) := by omega
                have hbr2 := hbr.store a (!b)
                have hbw2 := hbw.setCell (p := ⟨g, a, none⟩) hg.1 (.bool (!b))
                have hp2 : PC (wr.setCell ⟨g, a, none⟩ (.bool (!b))) q := fun k hk => (World.cell?_setCell_other wr ⟨g, a, none⟩ ⟨q, k, none⟩ _ (fun e => by have := congrArg Addr.block e; simp at this; omega)).trans (hp k hk)
                have HR2 := Lib.hid hbr2
                have HW2 := Lib.hid hbw2
                have HP2 := Lib.hid hp2
                have HS2 := Lib.hid hst2
                clear hbr2 hbw2 hp2 hst2 hbr hbw hp hst hab
                generalize Crc.pk t = P at hpc hP hsum ea
                have ha0 : (a : Int) < (N : Int) := by omega
                go_wp2
                go_roundg (gk - 1)
                case measure => omega
                case rel => exact ⟨t + 1, _, by omega, by go_num, HR2.out, HS2.out, HW2.out, HP2.out⟩
              · obtain rfl : t = 18 := by omega
                have HR := Lib.hid hbr
                have HD := Lib.hid hst.done
                have HW := Lib.hid hbw
                have HP := Lib.hid hp
                clear hbr hst hbw hp
                go_wp2
                go_roundg G
                case measure => omega
                case rel => exact ⟨j + 1, R2, by omega, by go_num, HR.out, HD.out.2.1, HD.out.2.2, HW.out, HP.out, by omega⟩
        · obtain rfl : j = N - 32 := by omega
          have hT : (R.drop (N - 32)).length = 32 := by rw [List.length_drop, HR.out.1]; omega
          have hTX := last_32 R N HZ.out
          rw [HX.out] at hTX
          have HT := Lib.hid hT
          have HTX := Lib.hid hTX
          clear hT hTX HX HZ HP
          go_wp2
          go_loopg [8, 9] 32 (fun k n i wr' => ∃ t : Nat, t + k = 32 ∧ i = .int .i64 (t : Int) ∧ n = .int .u32 (iv (Crc.nb (R.drop (N - 32)) t)) ∧ wr = wr')
          case atStart => exact ⟨0, by omega, rfl, by rw [Crc.nb_zero]; rfl, rfl⟩
          case round =>
            obtain ⟨t, ht, rfl, rfl, rfl⟩ := hrel
            by_cases hlt2 : t < 32
            · have hl : t < (R.drop (N - 32)).length := by rw [HT.out]; exact hlt2
              obtain ⟨b, hb⟩ : ∃ b, (R.drop (N - 32))[t]? = some b := ⟨_, List.getElem?_eq_getElem hl⟩
              have hb2 : R[N - 32 + t]? = some b := by rw [← List.getElem?_drop]; exact hb
              have hc := HR.out.cell _ b hb2
              obtain ⟨a, ea⟩ : ∃ a, N - 32 + t = a := ⟨_, rfl⟩
              rw [ea] at hc
              have hsum : (N : Int) - 32 + (t : Int) = (a : Int) := by omega
              have HB := Lib.hid hb
              clear hb hb2 hl ea
              have ha0 : (a : Int) < (N : Int) := by omega
              cases b with
              | false =>
                go_wp2
                go_roundg (gk - 1)
                case measure => omega
                case rel => exact ⟨t + 1, by omega, by go_num, by rw [Crc.nb_succ _ t false hlt2 HB.out]; simp [Crc.wt], rfl⟩
              | true =>
                go_wp2
                go_roundg (gk - 1)
                case measure => omega
                case rel =>
                  exact ⟨t + 1, by omega, by go_num, by rw [num_step _ t hlt2 HT.out HB.out], rfl⟩
            · obtain rfl : t = 32 := by omega
              go_wp2
              go_ret
              exact ⟨ret_int (by rw [Crc.nb_all _ HT.out, HTX.out]), HW.out⟩

end Go.Proofs.Ytgfofmcgfmhaeaa
