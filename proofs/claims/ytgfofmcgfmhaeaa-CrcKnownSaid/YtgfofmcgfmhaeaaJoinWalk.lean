/-
  What is proved here: the walk of the law CrcJoins: of any slice of slices of bytes and any number the law's function returns true, and no block that was there has changed.
-/
import Derived.Test.YtgfofmcgfmhaeaaJoinBase
import Derived.Deep.RegionHeld3
import Derived.Laws.AppendOwnNone
import Derived.IntWalk
namespace Go.Proofs.Ytgfofmcgfmhaeaa
open Go.RowKit

def LongRel (n : Nat) (w : World) (g : Nat) (s i : Value) (wr : World) : Prop :=
  ∃ (j : Nat) (m : Int), j + g = n ∧ i = .int .i64 (j : Int) ∧ s = .int .i64 m ∧ wr = w

set_option maxRecDepth 100000 in
set_option maxHeartbeats 1000000 in
theorem joins_long (A : Option Addr) (c : Nat) (ls : List (List Nat)) (at_ : Int) (w : World) (h1 : 20 < ls.length) (h2 : ls.length ≤ 9223372036854775807)
    (hl : ∀ (i : Nat) (l : List Nat), ls[i]? = some l → RowAt w A i l) :
    Calls Try.prog 7 #[.slice A ls.length c, .int .i64 at_] w fun e w' => e = .returned (.bool true) ∧ Below w.heap.size w w' := by
  have HL := Lib.hid hl; clear hl
  go_enter Try.func7, Try.ntmps7
  go_wp2
  go_loopg [5, 6] ls.length (fun g s i wr => LongRel ls.length w g s i wr)
  case atStart => exact ⟨0, 0, by omega, rfl, rfl, rfl⟩
  case round =>
    obtain ⟨j, m, hj, rfl, rfl, rfl⟩ := hrel
    by_cases hlt : j < ls.length
    · obtain ⟨_, ad, B, d, rfl, hc, _, _⟩ := HL.out j ls[j] (List.getElem?_eq_getElem hlt)
      go_wp2
      go_roundg (gk - 1)
      case measure => omega
      case rel => exact ⟨j + 1, _, by omega, by go_num, rfl, rfl⟩
    · obtain rfl : j = ls.length := by omega
      go_wp2_with (go_at_call 10; refine (works_any _).mono ?_; rintro e w' ⟨rfl, hb⟩)
      go_ret
      exact ⟨rfl, hb⟩

theorem fl_take_le (ls : List (List Nat)) (i : Nat) : (fl (ls.take i)).length ≤ (fl ls).length := by
  have h : fl ls = fl (ls.take i) ++ fl (ls.drop i) := by unfold fl; rw [← List.flatten_append, List.take_append_drop]
  rw [h, List.length_append]; omega
theorem fl_bound (ls : List (List Nat)) (n m : Nat) (h1 : ls.length ≤ n) (h : ∀ l ∈ ls, l.length ≤ m) : (fl ls).length ≤ n * m := by
  induction ls generalizing n with
  | nil => simp [fl]
  | cons l ls ih =>
    obtain ⟨k, rfl⟩ : ∃ k, n = k + 1 := ⟨n - 1, by simp at h1; omega⟩
    have h2 := ih k (by simpa using h1) (fun l hl => h l (List.mem_cons_of_mem _ hl))
    have h3 := h l (List.mem_cons_self ..)
    have e : fl (l :: ls) = l ++ fl ls := by simp [fl]
    rw [e, List.length_append, Nat.succ_mul]; omega

def CountRel (ls : List (List Nat)) (w : World) (g : Nat) (s i : Value) (wr : World) : Prop :=
  ∃ (j : Nat), j + g = ls.length ∧ i = .int .i64 (j : Int) ∧ s = .int .i64 (((fl (ls.take j)).length : Nat) : Int) ∧ w = wr

def FrontRel (ls : List (List Nat)) (w : World) (g : Nat) (all front i : Value) (wr : World) : Prop :=
  ∃ (j : Nat), j + g = ls.length ∧ i = .int .i64 (j : Int) ∧ front = .int .u32 (iv (Crc.sumB (fl (ls.take j)))) ∧
    wr.ownsRow w.heap.size 5 1 all (fl (ls.take j)).length (vals (fl (ls.take j))) ∧ Below w.heap.size w wr

def BackRel (ls : List (List Nat)) (w : World) (all : Value) (N g : Nat) (back long i : Value) (wr : World) : Prop :=
  ∃ (I : Int), i = .int .i64 I ∧ I + 1 = (g : Int) ∧ back = .int .u32 (iv (Crc.sumB (fl (ls.drop g)))) ∧ long = .int .i64 (((fl (ls.drop g)).length : Nat) : Int) ∧ g ≤ ls.length ∧
    wr.ownsRow w.heap.size 5 1 all N (vals (fl ls)) ∧ Below w.heap.size w wr
theorem fl_drop_le (ls : List (List Nat)) (i : Nat) : (fl (ls.drop i)).length ≤ (fl ls).length := by
  have h : fl ls = fl (ls.take i) ++ fl (ls.drop i) := by unfold fl; rw [← List.flatten_append, List.take_append_drop]
  rw [h, List.length_append]; omega

theorem keep_b {w w1 w2 : World} (h : Below w.heap.size w w1) (h2 : Below w1.heap.size w1 w2) : Below w.heap.size w w2 := h.trans (h2.mono h.size)
theorem k_join0 : (iv (Crc.joinB (Crc.sumB []) (Crc.sumB []) 0) == iv (Crc.sumB [])) = true := by decide +kernel
theorem join_zero (a b : BitVec 32) (w : World) : Calls Try.prog 17 #[.int .u32 (iv a), .int .u32 (iv b), .int .i64 0] w fun e w' => e = .returned (.int .u32 (iv (Crc.joinB a b 0))) ∧ w = w' :=
  join_any a b 0 w (by decide)
theorem join_sub (a b : BitVec 32) (n k : Nat) (w : World) (h : k ≤ n) (h2 : n ≤ 4000) : Calls Try.prog 17 #[.int .u32 (iv a), .int .u32 (iv b), .int .i64 ((n : Int) - (k : Int))] w fun e w' => e = .returned (.int .u32 (iv (Crc.joinB a b (n - k)))) ∧ w = w' := by
  have := join_any a b (n - k) w (by omega)
  rw [Int.ofNat_sub h] at this
  exact this
theorem join_cut (F : List Nat) (N K : Nat) (h : F.length = N) : (iv (Crc.joinB (Crc.sumB (F.take K)) (Crc.sumB (F.drop K)) (N - K)) == iv (Crc.sumB F)) = true := by
  have := Crc.joinB_sum (F.take K) (F.drop K)
  rw [List.take_append_drop, List.length_drop, h] at this
  rw [this]; simp
theorem small_all {w : World} {A : Option Addr} {ls : List (List Nat)} (h : ∀ (i : Nat) (l : List Nat), ls[i]? = some l → RowAt w A i l) : ∀ x ∈ fl ls, x < 256 := by
  intro x hx
  unfold fl at hx
  rw [List.mem_flatten] at hx
  obtain ⟨l, hl, hx⟩ := hx
  obtain ⟨i, hi⟩ := List.getElem?_of_mem hl
  obtain ⟨_, ad, B, d, _, _, _, ha⟩ := h i l hi
  obtain ⟨k, hk⟩ := List.getElem?_of_mem hx
  exact (ha k x hk).1
theorem own_at {w : World} {base g N cap : Nat} {F : List Nat} (h : w.ownsRow base 5 1 (.slice (some ⟨g, 0, none⟩) N cap) N (vals F)) (hs : ∀ x ∈ F, x < 256) : At w (some ⟨g, 0, none⟩) F := by
  intro k x hx
  refine ⟨hs x (List.mem_of_getElem? hx), _, rfl, ?_⟩
  refine h.cells (g := g) rfl k _ ?_
  unfold vals; rw [List.getElem?_map, hx]; rfl
theorem At.take_bytes {w : World} {B : Option Addr} {F : List Nat} (h : At w B F) (K cap N : Nat) (hN : F.length = N) (hk : K ≤ N) : Bytes w (.slice B K cap) (F.take K) := by
  refine ⟨B, cap, by rw [List.length_take]; congr 1; omega, fun k x hx => ?_⟩
  rw [List.getElem?_take] at hx
  split at hx
  · exact h k x hx
  · cases hx
theorem At.drop_bytes {w : World} {g : Nat} {F : List Nat} (h : At w (some ⟨g, 0, none⟩) F) (K c N : Nat) (hN : F.length = N) : Bytes w (.slice (some ⟨g, K, none⟩) (N - K) c) (F.drop K) := by
  refine ⟨_, c, by rw [List.length_drop, hN], fun k x hx => ?_⟩
  rw [List.getElem?_drop] at hx
  obtain ⟨h1, bd, e, h2⟩ := h (K + k) x hx
  cases e
  refine ⟨h1, _, rfl, ?_⟩
  have e : (⟨g, K, none⟩ : Addr).add k = (⟨g, 0, none⟩ : Addr).add (K + k) := by
    unfold Addr.add; by_cases h0 : k = 0 <;> by_cases h1 : K = 0 <;> simp [h0, h1]
  rw [e]; exact h2

theorem sum_take (g K cap N : Nat) (F : List Nat) (w : World) (h : At w (some ⟨g, 0, none⟩) F) (hN : F.length = N) (hk : K < N) (h4 : ¬ 4000 < N) :
    Calls Try.prog 11 #[.slice (some ⟨g, 0, none⟩) K cap] w fun e w' => e = .returned (.int .u32 (iv (Crc.sumB (F.take K)))) ∧ Below w.heap.size w w' :=
  sum_any _ _ w (by rw [List.length_take]; omega) (h.take_bytes K cap N hN (by omega))
theorem sum_drop (g K cap N : Nat) (F : List Nat) (w : World) (h : At w (some ⟨g, 0, none⟩) F) (hN : F.length = N) (h4 : ¬ 4000 < N) :
    Calls Try.prog 11 #[.slice (some ⟨g, K, none⟩) (N - K) (cap - K)] w fun e w' => e = .returned (.int .u32 (iv (Crc.sumB (F.drop K)))) ∧ Below w.heap.size w w' :=
  sum_any _ _ w (by rw [List.length_drop]; omega) (h.drop_bytes K _ N hN)

theorem sum_full (g cap N : Nat) (F : List Nat) (w : World) (h : At w (some ⟨g, 0, none⟩) F) (hN : F.length = N) (h4 : ¬ 4000 < N) :
    Calls Try.prog 11 #[.slice (some ⟨g, 0, none⟩) N cap] w fun e w' => e = .returned (.int .u32 (iv (Crc.sumB F))) ∧ Below w.heap.size w w' := by
  subst hN
  exact sum_any _ _ w (by omega) (h.bytes cap)
theorem sum_empty (A : Option Addr) (c : Nat) (w : World) : Calls Try.prog 11 #[.slice A 0 c] w fun e w' => e = .returned (.int .u32 (iv (Crc.sumB []))) ∧ Below w.heap.size w w' :=
  sum_any _ _ w (by decide) ⟨A, c, rfl, fun k x hx => by simp at hx⟩
theorem cut_at (at_ : Int) (N : Nat) (h0 : 0 < N) (h4 : N ≤ 4000) : ∃ K : Nat, K < N ∧ (wrap64 (at_.tmod (N : Int) + (N : Int))).tmod (N : Int) = (K : Int) := by
  have h1 : at_.tmod (N : Int) < (N : Int) := Int.tmod_lt_of_pos _ (by omega)
  have h2 : -(N : Int) < at_.tmod (N : Int) := by
    have := Int.lt_tmod_of_pos at_ (b := (N : Int)) (by omega)
    omega
  have e : wrap64 (at_.tmod (N : Int) + (N : Int)) = at_.tmod (N : Int) + (N : Int) := by unfold wrap64; omega
  rw [e]
  generalize at_.tmod (N : Int) = t at h1 h2
  have h3 : 0 ≤ (t + (N : Int)).tmod (N : Int) := Int.tmod_nonneg _ (by omega)
  have h5 : (t + (N : Int)).tmod (N : Int) < (N : Int) := Int.tmod_lt_of_pos _ (by omega)
  exact ⟨((t + (N : Int)).tmod (N : Int)).toNat, by omega, by omega⟩

theorem RowAt.below_to {w w' : World} {A : Option Addr} {i : Nat} {l : List Nat} (h : RowAt w A i l) (hb : Below w.heap.size w w') : RowAt w' A i l := h.below hb
theorem keep_row {w w1 w2 : World} {p : Addr} {v : Value} (h : w1.cell? p = some v) (hb : Below w.heap.size w w1) (hb2 : Below w1.heap.size w1 w2) : w2.cell? p = some v ∧ Below w.heap.size w w2 :=
  ⟨(hb2.cell (block_lt_of_cell h)).trans h, hb.trans (hb2.mono hb.size)⟩

theorem info5 : (Try.prog.info? 5).map (fun i => (i.zero, i.size, i.bytes)) = some (some (.int .u8 0), 1, 1) := by kernel_rfl

set_option maxRecDepth 100000 in
set_option maxHeartbeats 1000000 in
theorem joins_in (A : Option Addr) (c : Nat) (ls : List (List Nat)) (at_ : Int) (w : World) (h1 : ls.length ≤ 20)
    (hl : ∀ (i : Nat) (l : List Nat), ls[i]? = some l → RowAt w A i l) :
    Calls Try.prog 7 #[.slice A ls.length c, .int .i64 at_] w fun e w' => e = .returned (.bool true) ∧ Below w.heap.size w w' := by
  have htot : (fl ls).length ≤ 2814749767106560 := by
    have := fl_bound ls 20 140737488355328 h1 (fun l hm => by
      obtain ⟨i, hi⟩ := List.getElem?_of_mem hm
      exact (hl i l hi).1)
    omega
  have HL := Lib.hid hl; clear hl
  obtain ⟨i0, hi, hz0, hz1, hz2⟩ := info_parts info5
  go_enter Try.func7, Try.ntmps7
  go_wp2
  go_loopg [5, 6] ls.length (fun g s i wr => CountRel ls w g s i wr)
  case atStart => exact ⟨0, by omega, rfl, rfl, rfl⟩
  case round =>
    obtain ⟨j, hj, rfl, rfl, rfl⟩ := hrel
    have hle := fl_take_le ls j
    by_cases hlt : j < ls.length
    · obtain ⟨hlen, ad, B, d, rfl, hc, _, _⟩ := HL.out j ls[j] (List.getElem?_eq_getElem hlt)
      have HT := Lib.hid (fl_take ls j hlt)
      go_wp2
      go_roundg (gk - 1)
      case measure => omega
      case rel => exact ⟨j + 1, by omega, by go_num, by rw [HT.out, List.length_append]; go_num, rfl⟩
    · obtain rfl : j = ls.length := by omega
      clear hlt hj hle
      rw [fl_all]
      by_cases hn : 4000 < (fl ls).length
      · go_wp2_with (go_at_call 10; refine (works_any _).mono ?_; rintro e w' ⟨rfl, hb⟩)
        go_ret
        exact ⟨rfl, hb⟩
      · obtain ⟨N, eN⟩ : ∃ N, (fl ls).length = N := ⟨_, rfl⟩
        rw [eN] at hn htot ⊢
        have EN := Lib.hid eN; clear eN
        go_wp2
        go_loopg [7, 8, 9] ls.length (fun g s f i wr => FrontRel ls w g s f i wr)
        case atStart => exact ⟨0, by omega, rfl, by rw [← k_nil]; rfl, ⟨rfl, Or.inl ⟨rfl, rfl⟩⟩, Below.refl _ _⟩
        case round =>
          obtain ⟨j, hj, rfl, rfl, hown, hbw⟩ := hrel
          have HO := Lib.hid hown; clear hown
          have HW := Lib.hid hbw; clear hbw
          by_cases hlt : j < ls.length
          · obtain ⟨hlen, ad, B, d, rfl, hc, hnil, hat⟩ := (HL.out j ls[j] (List.getElem?_eq_getElem hlt)).below_to HW.out
            have HT := Lib.hid (fl_take ls j hlt)
            have hle := fl_take_le ls (j + 1)
            rw [HT.out, List.length_append, EN.out] at hle
            have HAt := Lib.hid hat; clear hat
            have HN := Lib.hid hnil; clear hnil
            have b2 : (0 : Int) ≤ (j : Int) := by omega
            have b3 : (j : Int) < (ls.length : Int) := by omega
            go_wp2
            go_region_held3 (fun w' => w'.cell? (ad.add j) = some (.slice B ls[j].length d) ∧ Below wr.heap.size wr w')
              (first | exact ⟨hc, (Below.refl _ _).drew⟩ | (go_split_ands; refine ⟨?_, ?_⟩ <;> assumption) | (go_split_ands; exact keep_row (by assumption) (by assumption) hb2))
              (first
                | (go_at_call 11; go_split_ands; refine (sum_any _ _ _ (by omega) ((HAt.out.below (by assumption) rfl).bytes d)).mono ?_; rintro e w2 ⟨rfl, hb2⟩)
                | (go_at_call 17; refine (join_any _ _ _ _ (by omega)).mono ?_; rintro e w2 ⟨rfl, rfl⟩))
            rename w2.cell? (ad.add j) = some (.slice B ls[j].length d) ∧ Below wr.heap.size wr w2 => hS
            obtain ⟨hc2, hB2⟩ := hS
            have hB3 : Below w.heap.size w w2 := HW.out.trans (hB2.mono HW.out.size)
            have hO2 := own_below HO.out hB2
            have hA2 : At w2 B ls[j] := HAt.out.below hB2 rfl
            have HS := Lib.hid (Crc.joinB_sum (fl (ls.take j)) ls[j])
            clear HO HAt hc
            have HO := Lib.hid hO2; clear hO2
            have HB3 := Lib.hid hB3; clear hB3 hB2 hb2
            rcases B with _ | bd
            · have hz := hA2.nil
              obtain rfl : d = 0 := HN.out rfl
              rw [hz] at hc2 HS HT ⊢
              clear hA2 HN hz hle hlen
              go_wp2_with (at_builtin; refine wpList_append_own_none rfl (.tmp 54) (.tmp 58) 22 rfl w.heap.size 5 i0 1 Try.underlying22 hi u7 _ _ rfl HO.out rfl ?_)
              go_roundg (gk - 1)
              case measure => omega
              case rel =>
                refine ⟨j + 1, by omega, by go_num, ?_, ?_, HB3.out⟩
                · rw [HT.out, ← HS.out]; rfl
                · rw [HT.out, List.append_nil]; exact HO.out
            · clear HN
              have hv := hA2.vals
              have HV := Lib.hid hv; clear hv hA2
              go_wp2_with (at_builtin; refine wpList_append_own _ rfl (.tmp 54) (.tmp 58) 22 rfl w.heap.size 5 i0 (.int .u8 0) 1 1 Try.underlying22 hi hz0 hz1 hz2 rfl (by decide) u7 _ _ rfl HO.out bd _ _ (vals ls[j]) rfl (by rw [vals_length, Nat.mul_one]) HV.out (vals_one _) ?c1 ?c2 ?c3 ?_)
              case c1 => unfold maxLen; omega
              case c2 => omega
              case c3 => exact HB3.out.size
              intro v' w3 hown' hgrow _
              have hB4 : Below w.heap.size w w3 := Below.grown HB3.out hgrow HB3.out.size (fun k hk => (HO.out.lt k hk).1)
              have HO' := Lib.hid hown'; clear hown'
              have HB4 := Lib.hid hB4; clear hB4 hgrow
              go_wp2
              go_roundg (gk - 1)
              case measure => omega
              case rel =>
                refine ⟨j + 1, by omega, by go_num, ?_, ?_, HB4.out⟩
                · rw [HT.out, ← HS.out]
                · rw [HT.out, List.length_append, vals_append]; exact HO'.out
          · obtain rfl : j = ls.length := by omega
            clear hlt hj
            rw [fl_all] at HO ⊢
            rw [EN.out] at HO
            go_wp2
            go_loopg [10, 11, 12] ls.length (fun g b n i wr => BackRel ls w u7 N g b n i wr)
            case atStart => exact ⟨_, rfl, by omega, by rw [List.drop_length, ← k_nil]; rfl, by rw [List.drop_length]; rfl, Nat.le_refl _, HO.out, HW.out⟩
            case round =>
              clear HO HW
              obtain ⟨I, rfl, hI, rfl, rfl, hg, hown, hbw⟩ := hrel
              have HO := Lib.hid hown; clear hown
              have HW := Lib.hid hbw; clear hbw
              by_cases hz : gk = 0
              · subst hz
                obtain rfl : I = -1 := by omega
                rw [List.drop_zero]
                clear hI hg
                obtain ⟨_, hform⟩ := HO.out
                rcases hform with ⟨rfl, rfl⟩ | ⟨g, cap, cur, rfl, hbase, hheap, hNc, hcm, hsz, hcur⟩
                · have hF : fl ls = [] := List.eq_nil_of_length_eq_zero EN.out
                  rw [hF]
                  have HJ := Lib.hid k_join0
                  clear HO
                  go_wp2
                  have g5 : IntKind.i64.wrap 0 = 0 := by decide
                  go_region_held3 (fun w' => Below wr.heap.size wr w')
                    (first | exact (Below.refl _ _).drew | assumption | exact keep_b (by assumption) hb2)
                    (first
                      | (go_at_call 11; (with_reducible refine (sum_empty _ _ _).mono ?_); rintro e w2 ⟨rfl, hb2⟩)
                      | (go_at_call 17; (with_reducible refine (join_zero _ _ _).mono ?_); rintro e w2 ⟨rfl, rfl⟩))
                  rename Below wr.heap.size wr w2 => hS
                  have hB3 : Below w.heap.size w w2 := HW.out.trans (hS.mono HW.out.size)
                  skip
                  clear hS
                  have HB3 := Lib.hid hB3; clear hB3
                  have hJ := HJ.out
                  go_wp2_with fail
                  refine (sum_empty _ _ _).mono ?_
                  rintro e w4 ⟨rfl, hb4⟩
                  have HB4 := Lib.hid hb4; clear hb4
                  go_wp2_with fail
                  refine (works_any _).mono ?_
                  rintro e w5 ⟨rfl, hb5⟩
                  have HB5 := Lib.hid hb5; clear hb5
                  go_wp2
                  go_ret
                  exact ⟨rfl, keep_b (w1 := w4) (keep_b (w1 := w2) HB3.out HB4.out) HB5.out⟩
                · by_cases hN : N = 0
                  · subst hN
                    clear hNc hcm hsz hcur hheap hbase
                    have hF : fl ls = [] := List.eq_nil_of_length_eq_zero EN.out
                    rw [hF]
                    have HJ := Lib.hid k_join0
                    clear HO
                    go_wp2
                    have g5 : IntKind.i64.wrap 0 = 0 := by decide
                    go_region_held3 (fun w' => Below wr.heap.size wr w')
                      (first | exact (Below.refl _ _).drew | assumption | exact keep_b (by assumption) hb2)
                      (first
                        | (go_at_call 11; (with_reducible refine (sum_empty _ _ _).mono ?_); rintro e w2 ⟨rfl, hb2⟩)
                        | (go_at_call 17; (with_reducible refine (join_zero _ _ _).mono ?_); rintro e w2 ⟨rfl, rfl⟩))
                    rename Below wr.heap.size wr w2 => hS
                    have hB3 : Below w.heap.size w w2 := HW.out.trans (hS.mono HW.out.size)
                    skip
                    clear hS
                    have HB3 := Lib.hid hB3; clear hB3
                    have hJ := HJ.out
                    go_wp2_with fail
                    refine (sum_empty _ _ _).mono ?_
                    rintro e w4 ⟨rfl, hb4⟩
                    have HB4 := Lib.hid hb4; clear hb4
                    go_wp2_with fail
                    refine (works_any _).mono ?_
                    rintro e w5 ⟨rfl, hb5⟩
                    have HB5 := Lib.hid hb5; clear hb5
                    go_wp2
                    go_ret
                    exact ⟨rfl, keep_b (w1 := w4) (keep_b (w1 := w2) HB3.out HB4.out) HB5.out⟩
                  · have hat : At wr (some ⟨g, 0, none⟩) (fl ls) := own_at HO.out (small_all HL.out)
                    obtain ⟨K, h3, h4⟩ := cut_at at_ N (by omega) (by omega)
                    have g1 : (0 : Int) ≤ (K : Int) := by omega
                    have g2 : (K : Int) ≤ (N : Int) := by omega
                    have g3 : (K : Int) ≤ (cap : Int) := by omega
                    have g4 : (N : Int) ≤ (cap : Int) := by omega
                    have HAt := Lib.hid hat; clear hat
                    have HK := Lib.hid h3
                    have HN4 := Lib.hid hn
                    have HJ := Lib.hid (join_cut (fl ls) N K EN.out)
                    clear hcm hsz hcur hheap hbase HO
                    go_wp2
                    have g5 : IntKind.i64.wrap ((N : Int) - (K : Int)) = (N : Int) - (K : Int) := IntWalk.i64_in _ (by omega)
                    go_region_held3 (fun w' => Below wr.heap.size wr w')
                      (first | exact (Below.refl _ _).drew | assumption | exact keep_b (by assumption) hb2)
                      (first
                        | (go_at_call 11; (with_reducible refine (sum_take g K cap N (fl ls) _ ?_ EN.out HK.out HN4.out).mono ?_); (exact HAt.out.below (by assumption) rfl); rintro e w2 ⟨rfl, hb2⟩)
                        | (go_at_call 11; (with_reducible refine (sum_drop g K cap N (fl ls) _ ?_ EN.out HN4.out).mono ?_); (exact HAt.out.below (by assumption) rfl); rintro e w2 ⟨rfl, hb2⟩)
                        | (go_at_call 17; (with_reducible refine (join_sub _ _ N K _ ?_ ?_).mono ?_); (exact Nat.le_of_lt HK.out); (exact Nat.le_of_not_lt HN4.out); rintro e w2 ⟨rfl, rfl⟩))
                    clear g5
                    rename Below wr.heap.size wr w2 => hS
                    have hB3 : Below w.heap.size w w2 := HW.out.trans (hS.mono HW.out.size)
                    have hA3 := HAt.out.below hS rfl
                    have HA3 := Lib.hid hA3; clear hA3 HAt
                    clear hS
                    have HB3 := Lib.hid hB3; clear hB3
                    have hJ := HJ.out
                    go_wp2_with fail
                    refine (sum_full g cap N (fl ls) _ HA3.out EN.out HN4.out).mono ?_
                    rintro e w4 ⟨rfl, hb4⟩
                    have HB4 := Lib.hid hb4; clear hb4
                    go_wp2_with fail
                    refine (works_any _).mono ?_
                    rintro e w5 ⟨rfl, hb5⟩
                    have HB5 := Lib.hid hb5; clear hb5
                    go_wp2
                    go_ret
                    exact ⟨rfl, keep_b (w1 := w4) (keep_b (w1 := w2) HB3.out HB4.out) HB5.out⟩
              · obtain ⟨j, rfl⟩ : ∃ j, gk = j + 1 := ⟨gk - 1, by omega⟩
                obtain rfl : I = (j : Int) := by omega
                obtain ⟨hlen, ad, B, d, rfl, hc, hnil, hat⟩ := (HL.out j ls[j] (List.getElem?_eq_getElem (by omega))).below_to HW.out
                have HT := Lib.hid (fl_drop ls j (by omega))
                have HS := Lib.hid (Crc.joinB_sum ls[j] (fl (ls.drop (j + 1))))
                have hle := fl_drop_le ls j
                rw [HT.out, List.length_append, EN.out] at hle
                have HAt := Lib.hid hat; clear hat hnil
                go_wp2_with fail
                refine (sum_any _ _ _ (by omega) (HAt.out.bytes d)).mono ?_
                rintro e w2 ⟨rfl, hb2⟩
                have hc2 := (hb2.cell (block_lt_of_cell hc)).trans hc
                have hB3 : Below w.heap.size w w2 := HW.out.trans (hb2.mono HW.out.size)
                have hO2 := own_below HO.out hb2
                clear HO HAt hc
                have HO := Lib.hid hO2; clear hO2
                have HB3 := Lib.hid hB3; clear hB3 hb2
                go_wp2_with fail
                refine (join_any _ _ _ _ (by omega)).mono ?_
                rintro e w3 ⟨rfl, rfl⟩
                go_wp2
                go_roundg j
                case measure => omega
                case rel =>
                  exact ⟨_, rfl, by omega, by rw [HT.out, ← HS.out], by rw [HT.out, List.length_append]; go_num, by omega, HO.out, HB3.out⟩

end Go.Proofs.Ytgfofmcgfmhaeaa
