/-
  What is proved here: the law RankTotal walked: it returns true, and no block that was there has changed. Conditions: the values and the counts can be read.
-/
import Derived.Test.YtjmbfngpaifheaaRkMem
import Derived.Lib.QuietBelow
import Derived.BigQuiet
namespace Go.Proofs.Ytjmbfngpaifheaa.Rk
open Go.RowKit Fx

theorem mixedT : Try.prog.follows .mixedOrders = true := by kernel_rfl
/- The mail M of n vertices, and what is lost, S, together not more than T. -/
def Mail (n : Nat) (M : List Int) (S T : Int) : Prop := M.length = n ∧ (∀ x ∈ M, 0 ≤ x) ∧ 0 ≤ S ∧ sm M + S ≤ T
theorem Mail.nil (n : Nat) (q : Int) : Mail n (List.replicate n 0) 0 (((0 : Nat) : Int) * q) := ⟨List.length_replicate .., fun x hx => by rw [List.eq_of_mem_replicate hx]; exact Int.le_refl 0, Int.le_refl 0, by rw [sm_zero]; simp⟩
theorem Mail.lost {n : Nat} {M : List Int} {S T v : Int} (h : Mail n M S T) (hv : 0 ≤ v) : Mail n M (S + v) (T + v) := ⟨h.1, h.2.1, by have := h.2.2.1; omega, by have := h.2.2.2; omega⟩
theorem Mail.up {n : Nat} {M : List Int} {S T U : Int} (h : Mail n M S T) (hu : T ≤ U) : Mail n M S U := ⟨h.1, h.2.1, h.2.2.1, Int.le_trans h.2.2.2 hu⟩
theorem Mail.put {n : Nat} {M : List Int} {S T x g : Int} {t : Nat} (h : Mail n M S T) (hx : M[t]? = some x) (hg : 0 ≤ g) : Mail n (M.set t (x + g)) S (T + g) := by
  obtain ⟨h1, h2, h3, h4⟩ := h
  have h5 := sm_at M t x h2 hx
  exact ⟨by rw [List.length_set]; exact h1, nonneg_set h2 t (by omega), h3, by rw [sm_set M t x _ hx]; omega⟩
theorem Mail.at_ {n : Nat} {M : List Int} {S T x : Int} {t : Nat} (h : Mail n M S T) (hx : M[t]? = some x) : 0 ≤ x ∧ x ≤ T := by
  have h5 := sm_at M t x h.2.1 hx
  have := h.2.2.1; have := h.2.2.2
  omega
theorem Mail.sum {n : Nat} {M : List Int} {S T : Int} (h : Mail n M S T) : 0 ≤ S ∧ S ≤ T := by
  have h5 := sm_nonneg M h.2.1
  have := h.2.2.1; have := h.2.2.2
  omega
def ToRel (w : World) (n b : Nat) (q : Int) (g : Nat) (s i : Value) (wr : World) : Prop :=
  ∃ (j : Nat) (S : Int) (M : List Int), j + g = n ∧ i = .int .i64 (j : Int) ∧ s = .int .i64 S ∧ Hid (Mail n M S ((j : Int) * q)) ∧ Hid (Below w.heap.size w wr) ∧ Hid (Mr wr b M)
def TiRel (w : World) (n b : Nat) (S T e : Int) (k : Nat) (g : Nat) (i : Value) (wr : World) : Prop :=
  ∃ (j : Nat) (M : List Int), j + g = k ∧ i = .int .i64 (j : Int) ∧ Hid (Mail n M S (T + (j : Int) * e)) ∧ Hid (Below w.heap.size w wr) ∧ Hid (Mr wr b M)
def TaRel (w : World) (n b : Nat) (d S : Int) (M : List Int) (g : Nat) (a i : Value) (wr : World) : Prop :=
  ∃ (j : Nat) (t : Int), j + g = n ∧ i = .int .i64 (j : Int) ∧ a = .int .i64 t ∧ Hid (tk n d S (M.take j) = t) ∧ Hid (Below w.heap.size w wr) ∧ Hid (Mr wr b M)

set_option maxRecDepth 100000 in
set_option maxHeartbeats 4000000 in
theorem total_law (V C : List Int) (D : Int) (A B : Option Addr) (ca cb : Nat) (w : World) (hV : Hid (A32 w A V)) (hC : Hid (A8 w B C)) (hlV : V.length ≤ 9223372036854775807) (hD0 : 0 ≤ D) :
    Calls Try.prog 5 #[.slice A V.length ca, .slice B C.length cb, .int .u64 D] w fun e w' => e = .returned (.bool true) ∧ Below w.heap.size w w' := by
  have mixed := mixedT
  obtain ⟨n, hn⟩ : ∃ n, n = V.length := ⟨_, rfl⟩
  obtain ⟨c, hc⟩ : ∃ c, c = C.length := ⟨_, rfl⟩
  rw [← hn, ← hc]
  rw [← hn] at hlV
  have HN := Lib.hid hn; have HC0 := Lib.hid hc
  clear hn hc
  by_cases hbad : n < 1 ∨ 40 < n ∨ c < n
  · rcases (show n < 1 ∨ (1 ≤ n ∧ 40 < n) ∨ (1 ≤ n ∧ n ≤ 40 ∧ c < n) by omega) with g1 | ⟨g1, g2⟩ | ⟨g1, g2, g3⟩
    all_goals
      clear hbad
      go_enter Try.func5, Try.ntmps5
      go_wp2_with fail
      refine (works_any _).mono ?_
      rintro r w5 ⟨rfl, HB5⟩
      go_wp2
      go_ret
      exact ⟨rfl, HB5.out⟩
  · have n1 : 1 ≤ n := by omega
    have n40 : n ≤ 40 := by omega
    have hcn : n ≤ c := by omega
    clear hbad
    have tb : decide (c < n) = false := by simpa using hcn
    obtain ⟨d, hd⟩ : ∃ d, D % 4294967297 = d := ⟨_, rfl⟩
    have d0 : 0 ≤ d := by omega
    have d1 : d ≤ 4294967296 := by omega
    have t1 : D.tmod 4294967297 = d := by rw [Int.tmod_eq_emod_of_nonneg hD0]; exact hd
    have t2 : IntKind.i64.wrap d = d := IntWalk.i64_in _ (by omega)
    clear hd
    have hmk := make_q n (by omega)
    have hz := Mr.made w n
    have HZ := Lib.hid hz; clear hz
    obtain ⟨q, hq⟩ : ∃ q : Int, 4294967295 / (n : Int) = q := ⟨_, rfl⟩
    have HQ := Lib.hid hq; clear hq
    have hqb := whole q (n : Int) 1 (by omega) (by omega) HQ.out
    have hq0 : 0 ≤ q := by omega
    have hq1 : q ≤ 4294967295 := by omega
    clear hqb
    go_enter Try.func5, Try.ntmps5
    go_wp2_with fail
    clear hmk t1 t2 tb
    go_loopg [10, 11] n (fun g s i wr => ToRel w n w.heap.size q g s i wr)
    case atStart => exact ⟨0, 0, _, by omega, rfl, rfl, Lib.hid (Mail.nil n q), Lib.hid ((Below.refl _ w).alloc (Nat.le_refl _) _), HZ⟩
    case round =>
      obtain ⟨i, S, M, hi, rfl, rfl, HM, HW, HR⟩ := hrel
      have hw1 := whole q (n : Int) i (by omega) (by omega) HQ.out
      have hs1 := HM.out.sum
      obtain ⟨T, hT⟩ : ∃ T, (i : Int) * q = T := ⟨_, rfl⟩
      rw [hT] at HM hw1 hs1
      have HT := Lib.hid hT; clear hT
      obtain ⟨hw0, hw1⟩ := hw1
      obtain ⟨hs0, hs1⟩ := hs1
      by_cases hin : i < n
      · obtain ⟨x, hx⟩ := getI (l := V) (k := i) (by rw [← HN.out]; exact hin)
        obtain ⟨y, hy⟩ := getI (l := C) (k := i) (by rw [← HC0.out]; omega)
        obtain ⟨x0, x1, bk, o, rfl, cx⟩ := (hV.out.below HW.out) i x hx
        obtain ⟨y0, y1, bk2, o2, rfl, cy⟩ := (hC.out.below HW.out) i y hy
        obtain ⟨v, hv⟩ : ∃ v, x / (n : Int) = v := ⟨_, rfl⟩
        obtain ⟨v0, v1⟩ := share_sum q x n x0 x1 (by omega) HQ.out
        rw [hv] at v0 v1
        obtain ⟨k, hk⟩ : ∃ k : Nat, y % ((n : Int) + 1) = (k : Int) := ⟨(y % ((n : Int) + 1)).toNat, by have := Int.emod_nonneg y (show (n : Int) + 1 ≠ 0 by omega); omega⟩
        have k1 : k ≤ n := by have := Int.emod_lt_of_pos y (show 0 < (n : Int) + 1 by omega); omega
        have u1 : IntKind.i64.wrap x = x := IntWalk.i64_in _ (by omega)
        have u2 : IntKind.i64.wrap (x.tdiv n) = v := by rw [Int.tdiv_eq_ediv_of_nonneg x0, hv]; exact IntWalk.i64_in _ (by omega)
        have u3 : IntKind.i64.wrap y = y := IntWalk.i64_in _ (by omega)
        have u4 : y.tmod ((n : Int) + 1) = (k : Int) := by rw [Int.tmod_eq_emod_of_nonneg y0]; exact hk
        clear hx hy hk hv
        by_cases hk0 : k = 0
        · subst hk0
          go_wp2_with fail
          go_loopg [14] 0 (fun _ i wr => i = .int .i64 0 ∧ Hid (Below w.heap.size w wr) ∧ Hid (Mr wr w.heap.size M))
          case atStart => exact ⟨rfl, HW, HR⟩
          case round =>
            clear cx cy HW HR
            obtain ⟨rfl, HW, HR⟩ := hrel
            go_wp2
            go_roundg (n - 1 - i)
            case measure => omega
            case rel => exact ⟨i + 1, S + v, M, by omega, by go_num, rfl, Lib.hid (by rw [one_more, HT.out]; exact (HM.out.lost v0).up (by omega)), HW, HR⟩
        · obtain ⟨e, he⟩ : ∃ e, v / (k : Int) = e := ⟨_, rfl⟩
          have hal := along v0 (show (1 : Int) ≤ k by omega) he
          have hge := Lib.hid (show giveI v (k : Int) = e by rw [giveI_ok v0 (by omega)]; exact he)
          have HAL := Lib.hid hal
          have he0 := (hal 0 (by omega)).1
          have he1 := (hal 1 (by omega)).2.2
          rw [show ((1 : Nat) : Int) * e = e by simp] at he1
          clear hal he
          have hkb : ((k : Int) == 0) = false := by simp; omega
          go_wp2_with fail
          go_loopg [14] k (fun g i wr => TiRel w n w.heap.size S T e k g i wr)
          case atStart => exact ⟨0, M, by omega, rfl, Lib.hid (HM.out.up (by simp)), HW, HR⟩
          case round =>
            clear cx cy HW HR HM
            obtain ⟨j, M, hj, rfl, HM, HW, HR⟩ := hrel
            by_cases hjk : j < k
            · obtain ⟨t, ht⟩ : ∃ t, (i + 1 + j) % n = t := ⟨_, rfl⟩
              have htn : t < n := by rw [← ht]; exact Nat.mod_lt _ (by omega)
              obtain ⟨x, hx⟩ := getI (l := M) (k := t) (by rw [HM.out.1]; exact htn)
              have HX := Lib.hid hx
              have cx := HR.out.cell t x hx
              have cf := HR.out.free t
              have hxx := HM.out.at_ hx
              obtain ⟨r, hr⟩ : ∃ r, (j : Int) * e = r := ⟨_, rfl⟩
              have hjj := HAL.out j (by omega)
              rw [hr] at hjj hxx
              obtain ⟨_, hr0, hr1⟩ := hjj
              obtain ⟨hx0, hx1⟩ := hxx
              obtain ⟨s1, hs1'⟩ : ∃ s1, i + 1 = s1 := ⟨_, rfl⟩
              obtain ⟨s2, hs2⟩ : ∃ s2, s1 + j = s2 := ⟨_, rfl⟩
              have f1 : IntKind.i64.wrap ((i : Int) + 1) = (s1 : Int) := by rw [IntWalk.i64_in _ (by omega)]; omega
              have f2 : IntKind.i64.wrap ((s1 : Int) + (j : Int)) = (s2 : Int) := by rw [IntWalk.i64_in _ (by omega)]; omega
              have f3 : (s2 : Int).tmod (n : Int) = (t : Int) := by rw [Int.tmod_eq_emod_of_nonneg (by omega), ← hs2, ← hs1', ← ht]; rfl
              have f4 : IntKind.i64.wrap (x + e) = x + e := IntWalk.i64_in _ (by omega)
              have HC := Lib.hid (fun W => give_any v (k : Int) e W hge (by omega) (by omega) (by omega) (by omega))
              clear hx ht hs1' hs2
              go_wp2_with fail
              go_region_with (go_at_call 7; refine (HC.out _).mono ?_; rintro r9 w9 ⟨rfl, rfl⟩)
              all_goals
                go_wp2
                go_roundg (k - 1 - j)
                case measure => omega
                case rel => exact ⟨j + 1, M.set t (x + e), by omega, by go_num, Lib.hid (by rw [one_more, ← Int.add_assoc]; exact HM.out.put HX.out he0), Lib.hid (HW.out.setCell (p := ⟨w.heap.size, t, none⟩) (Nat.le_refl _) _).drew, Lib.hid (HR.out.set t (x + e))⟩
            · obtain rfl : j = k := by omega
              have hal := (HAL.out j (by omega)).2.2
              go_wp2
              go_roundg (n - 1 - i)
              case measure => omega
              case rel => exact ⟨i + 1, S, M, by omega, by go_num, rfl, Lib.hid (by rw [one_more, HT.out]; exact HM.out.up (by omega)), HW, HR⟩
      · obtain rfl : n = i := by omega
        clear hin hi
        go_wp2_with fail
        go_loopg [16, 17] n (fun g a i wr => TaRel w n w.heap.size d S M g a i wr)
        case atStart => exact ⟨0, 0, by omega, rfl, rfl, Lib.hid (by simp [tk]), HW, HR⟩
        case round =>
          clear HW HR
          obtain ⟨j, t, hj, rfl, rfl, HK, HW, HR⟩ := hrel
          have htk : ∀ m : Nat, m ≤ n → 0 ≤ tk n d S (M.take m) ∧ tk n d S (M.take m) ≤ 4294967296 := fun m hm => tk_one n d S (by omega) d0 d1 hs0 (M.take m) (nonneg_take HM.out.2.1 m) (by rw [List.length_take]; omega) (by have h1 := sm_take M m HM.out.2.1; have h2 := HM.out.2.2.2; omega)
          by_cases hjn : j < n
          · obtain ⟨x, hx⟩ := getI (l := M) (k := j) (by rw [HM.out.1]; exact hjn)
            have cx := HR.out.cell j x hx
            have hxx := HM.out.at_ hx
            obtain ⟨y, hy⟩ : ∃ y, takeI n d x S = y := ⟨_, rfl⟩
            have hk1 := htk j (by omega)
            have hk2 := htk (j + 1) (by omega)
            rw [take_at_snoc hx, tk_snoc, hy] at hk2
            rw [HK.out] at hk1 hk2
            have HK2 := Lib.hid (show tk n d S (M.take (j + 1)) = t + y by rw [take_at_snoc hx, tk_snoc, hy, HK.out])
            have f1 : IntKind.i64.wrap (t + y) = t + y := IntWalk.i64_in _ (by omega)
            have HY := Lib.hid hy
            obtain ⟨hx0, hx1⟩ := hxx
            clear hx hy htk hk1 hk2
            go_wp2_with fail
            refine (take_any n d x S y _ HY (by omega) (by omega) (by omega) (by omega) (by omega) (by omega) (by omega) (by omega)).mono ?_
            rintro r9 w9 ⟨rfl, HB9⟩
            clear cx
            have HW9 := Lib.hid (below_trans HW.out HB9.out)
            have HR9 := Lib.hid (HR.out.below HB9.out)
            go_wp2
            go_roundg (n - 1 - j)
            case measure => omega
            case rel => exact ⟨j + 1, t + y, by omega, by go_num, rfl, HK2, HW9, HR9⟩
          · obtain rfl : n = j := by omega
            have hk1 := htk n (by omega)
            rw [HK.out] at hk1
            obtain ⟨k0, k1⟩ := hk1
            have e1 : decide (t ≤ 4294967296) = true := by simpa using k1
            have e2 : decide (0 ≤ t) = true := by simpa using k0
            clear htk
            go_wp2_with fail
            refine (works_any _).mono ?_
            rintro r9 w9 ⟨rfl, HB9⟩
            have HW9 := Lib.hid (below_trans HW.out HB9.out)
            go_wp2
            go_ret
            exact ⟨rfl, HW9.out⟩

end Go.Proofs.Ytjmbfngpaifheaa.Rk
