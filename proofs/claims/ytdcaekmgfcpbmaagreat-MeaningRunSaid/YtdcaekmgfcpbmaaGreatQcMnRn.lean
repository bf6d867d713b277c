/-
  What is proved here: a contract of the kit's Pick; what the state that a run comes to means, and that it means it no longer when one of its values is another; a run's state, its rows the call's own. Conditions: the job may be; Pick picks out of 1 to 1000000.
-/
import Derived.Test.YtdcaekmgfcpbmaaGreatQcMnMa
namespace Go.Proofs.YtdcaekmgfcpbmaaGreat.Mn
open Go.RowKit Gr Wd Ws Fx Rk Lb Al In Sq
open Pa (vl bt vl_of vl_at bt_of bt_at Fits fits_of fr far)
theorem pick_any' (i : Int) (n : Nat) (h1 : 1 ≤ n) (h2 : n ≤ 1000000) : ∃ v : Nat, v < n ∧ ∀ w : World, Calls Tryz.prog 19 #[.int .i64 i, .int .i64 (n : Int)] w fun e w' => e = .returned (.int .i64 (v : Int)) ∧ w = w' := by
  obtain ⟨r, hr⟩ : ∃ r, i.tmod (n : Int) = r := ⟨_, rfl⟩
  have hn0 : (n : Int) ≠ 0 := by omega
  have r1 : -(n : Int) < r ∧ r < n := by
    subst hr
    rcases Int.le_total 0 i with h | h
    · rw [Int.tmod_eq_emod_of_nonneg h]
      have := Int.emod_nonneg i hn0; have := Int.emod_lt_of_pos i (show 0 < (n : Int) by omega)
      omega
    · have e : i.tmod n = -((-i).tmod n) := by rw [Int.neg_tmod]; omega
      rw [e, Int.tmod_eq_emod_of_nonneg (by omega)]
      have := Int.emod_nonneg (-i) hn0; have := Int.emod_lt_of_pos (-i) (show 0 < (n : Int) by omega)
      omega
  obtain ⟨v, hv⟩ : ∃ v : Nat, (r + n).tmod (n : Int) = v := ⟨((r + n).tmod (n : Int)).toNat, by
    rw [Int.tmod_eq_emod_of_nonneg (by omega)]
    have := Int.emod_nonneg (r + n) hn0; omega⟩
  have v1 : v < n := by
    have : (r + n) % (n : Int) < n := Int.emod_lt_of_pos _ (by omega)
    rw [Int.tmod_eq_emod_of_nonneg (by omega)] at hv
    omega
  refine ⟨v, v1, fun w => ?_⟩
  have t1 : IntKind.i64.wrap r = r := IntWalk.i64_in _ (by omega)
  have t2 : IntKind.i64.wrap (r + n) = r + n := IntWalk.i64_in _ (by omega)
  have t3 : IntKind.i64.wrap (v : Int) = v := IntWalk.i64_in _ (by omega)
  have t4 : decide ((n : Int) ≤ 0) = false := by simp; omega
  have t5 : ((n : Int) == 0) = false := by simp; omega
  clear r1 v1
  go_enter Tryz.func19, Tryz.ntmps19
  go_wp2
  go_ret
  exact ⟨rfl, rfl⟩
theorem run_le {k st so dm ep V : Int} {L : List Ed} {N : Nat} (hc : chkJ k st so dm ep V L = 0) (hN : ∀ i : Nat, i < N → donB k st ep (i : Int) (stS k so dm V.toNat L i).most = false) : (N : Int) ≤ st := by
  obtain ⟨_, h0, _, hk, _⟩ := chkJ_zero hc
  apply Classical.byContradiction; intro h
  have h1 := hN st.toNat (by omega)
  rw [show ((st.toNat : Nat) : Int) = st by omega] at h1
  unfold donB at h1
  rcases hk with rfl | rfl | rfl <;> simp at h1
theorem run_full {k st so dm ep V : Int} {L : List Ed} {N : Nat} (hc : chkJ k st so dm ep V L = 0) (hk : k ≠ 1) (hd : donB k st ep (N : Int) (stS k so dm V.toNat L N).most = true) (h : (N : Int) < st ∨ V ≤ st) (hle : (N : Int) ≤ st) : Mt k so V L (stS k so dm V.toNat L N).vals := by
  obtain ⟨hz, h0, _, hk3, _⟩ := chkJ_zero hc
  have hso : k = 3 → 0 ≤ so ∧ so < V := by
    intro h3
    have hc' := hc
    unfold chkJ at hc'
    rw [if_pos hz] at hc'
    split at hc'
    · rename_i hj
      unfold jobOk at hj
      rw [if_neg (by omega), if_neg (by omega), if_pos h3] at hj
      simp only [Bool.and_eq_true, decide_eq_true_eq] at hj
      exact ⟨hj.2.1.1.1, hj.2.1.1.2⟩
    · omega
  obtain ⟨Vn, rfl, hV0, hV⟩ := chk_v hz
  rw [show ((Vn : Int)).toNat = Vn by simp] at hd ⊢
  have hcase : (∃ m, N = m + 1 ∧ (stS k so dm Vn L (m + 1)).most = 0) ∨ Vn ≤ N := by
    by_cases hlt : (N : Int) < st
    · left
      have h2 : 1 ≤ (N : Int) ∧ (stS k so dm Vn L N).most ≤ 0 := by
        unfold donB at hd
        rw [if_neg hk, if_pos (by omega)] at hd
        simp only [Bool.or_eq_true, Bool.and_eq_true, decide_eq_true_eq] at hd
        rcases hd with hd | hd
        · omega
        · exact hd
      obtain ⟨m, rfl⟩ : ∃ m, N = m + 1 := ⟨N - 1, by omega⟩
      exact ⟨m, rfl, by have hg : GoS k Vn L (stS k so dm Vn L (m + 1)) := go_all hz (fun h => absurd h hk) (m + 1); have h5 := hg.may.2.2.2.2.2.2.1; omega⟩
    · right; omega
  rcases hk3 with rfl | rfl | rfl
  · omega
  · left
    refine ⟨rfl, ?_⟩
    rcases hcase with ⟨m, rfl, hm⟩ | hge
    · simpa using lab_rest hz m hm
    · simpa using lab_all hz N hge
  · right
    obtain ⟨h3, h4⟩ := hso rfl
    obtain ⟨sn, rfl⟩ : ∃ sn : Nat, so = (sn : Int) := ⟨so.toNat, by omega⟩
    refine ⟨rfl, ?_⟩
    rcases hcase with ⟨m, rfl, hm⟩ | hge
    · simpa using dis_rest hz (by omega) m hm
    · simpa using dis_all hz (by omega) N hge
theorem run_means {k st so dm ep V : Int} {L : List Ed} {N : Nat} {b : Bool} (hc : chkJ k st so dm ep V L = 0) (hN : donB k st ep (N : Int) (stS k so dm V.toNat L N).most = true ∧ N ≤ 2000 ∧ ∀ i : Nat, i < N → donB k st ep (i : Int) (stS k so dm V.toNat L i).most = false)
    (h : MeB k st so dm V (N : Int) L N (stS k so dm V.toNat L N) b) : b = true := by
  have hle := run_le hc hN.2.2
  by_cases hk : k = 1
  · rw [h.1 hk, sameS_refl]
  · rcases h.2 hk with ⟨h1, _⟩ | ⟨_, _, lm, hm, hb⟩
    · omega
    · by_cases he : (N : Int) = st
      · rw [hb, show ((N : Nat) : Int).toNat = N by simp]; simp [he]
      · have hf := run_full hc hk hN.1 (Or.inl (by omega)) hle
        rw [hb, hm.one hf]; simp
theorem run_other {k st so dm ep V : Int} {L : List Ed} {N : Nat} {S : Sq} {b : Bool} (hc : chkJ k st so dm ep V L = 0) (hN : donB k st ep (N : Int) (stS k so dm V.toNat L N).most = true ∧ N ≤ 2000 ∧ ∀ i : Nat, i < N → donB k st ep (i : Int) (stS k so dm V.toNat L i).most = false)
    (hn : ¬ ((N : Int) = st ∧ st < V)) (hv : S.vals ≠ (stS k so dm V.toNat L N).vals) (h : MeB k st so dm V (N : Int) L N S b) : b = false := by
  have hle := run_le hc hN.2.2
  by_cases hk : k = 1
  · rw [h.1 hk]; unfold sameS; simp [hv]
  · rcases h.2 hk with ⟨_, h1⟩ | ⟨_, _, lm, hm, hb⟩
    · exact h1
    · have hf := run_full hc hk hN.1 (by omega) hle
      rw [hb, hm.one hf, show ((N : Nat) : Int).toNat = N by simp]; simp [hv]
theorem dis_zero {k st so dm ep V : Int} {L : List Ed} (hc : chkJ k st so dm ep V L = 0) : disE V L so = 0 := by
  obtain ⟨hz, h0, _, hk3, _⟩ := chkJ_zero hc
  obtain ⟨Vn, rfl, hV0, hV⟩ := chk_v hz
  have hso : 0 ≤ so ∧ so < (Vn : Int) := by
    unfold chkJ at hc
    rw [if_pos hz] at hc
    split at hc
    · rename_i hj
      unfold jobOk at hj
      rcases hk3 with rfl | rfl | rfl
      · rw [if_pos rfl] at hj
        simp only [Bool.and_eq_true, decide_eq_true_eq] at hj
        have := hj.2.2; omega
      · rw [if_neg (by omega), if_pos rfl] at hj
        simp only [Bool.and_eq_true, decide_eq_true_eq] at hj
        have := hj.2.1.1; omega
      · rw [if_neg (by omega), if_neg (by omega), if_pos rfl] at hj
        simp only [Bool.and_eq_true, decide_eq_true_eq] at hj
        exact ⟨hj.2.1.1.1, hj.2.1.1.2⟩
    · omega
  unfold disE
  rw [if_pos hz, if_pos hso]
structure RnH (w W : World) (n0 b1 : Nat) (V : Int) (A : Option Addr) (n c : Nat) (k st so dm ep : Int) (N : Nat) (S : Sq) (g : Nat) (ac ai : Option Addr) (an1 an2 an3 a1 a2 a3 : Nat) : Prop where
  below : Below w.heap.size w W
  gb : W.heap[n0]? = some (.cells #[.int .i64 V, .slice A n c] 24 (0, 0))
  jb : W.heap[n0 + 1]? = some (.cells #[.int .u8 k, .int .i64 st, .int .i64 so, .int .i64 dm, .int .i64 ep] 40 (0, 0))
  sb : W.heap[b1]? = some (.cells #[.int .i64 (N : Int), .slice (some ⟨g, 0, none⟩) an1 a1, .slice ac an2 a2, .slice ai an3 a3, .int .i64 S.sum, .int .i64 S.most] 45 (0, 0))
  n1 : S.vals.length = an1
  n2 : S.chg.length = an2
  n3 : S.inb.length = an3
  f : an1 ≤ 512 ∧ an2 ≤ 512 ∧ an3 ≤ 512
  q : NOwn W 2 w.heap.size (.slice (some ⟨g, 0, none⟩) an1 a1) S.vals
  bo : BOwn W w.heap.size (.slice ac an2 a2) S.chg
  ko : KOwn W w.heap.size (.slice ai an3 a3) S.inb
theorem RnH.step {w W W' : World} {n0 b1 : Nat} {V : Int} {A : Option Addr} {n c : Nat} {k st so dm ep : Int} {N : Nat} {S : Sq} {g : Nat} {ac ai : Option Addr} {an1 an2 an3 a1 a2 a3 : Nat}
    (h : RnH w W n0 b1 V A n c k st so dm ep N S g ac ai an1 an2 an3 a1 a2 a3) (hb : Below W.heap.size W W') : RnH w W' n0 b1 V A n c k st so dm ep N S g ac ai an1 an2 an3 a1 a2 a3 :=
  ⟨step_below h.below h.below.size hb, keepB h.gb hb, keepB h.jb hb, keepB h.sb hb, h.n1, h.n2, h.n3, h.f, h.q.below hb, h.bo.below hb, h.ko.below hb⟩
theorem RnH.sat {w W : World} {n0 b1 : Nat} {V : Int} {A : Option Addr} {n c : Nat} {k st so dm ep : Int} {N : Nat} {S : Sq} {g : Nat} {ac ai : Option Addr} {an1 an2 an3 a1 a2 a3 : Nat}
    (h : RnH w W n0 b1 V A n c k st so dm ep N S g ac ai an1 an2 an3 a1 a2 a3) : SAt W (some ⟨g, 0, none⟩) ac ai an1 an2 an3 S := by
  obtain ⟨A1, c1, e1, h1⟩ := h.q.form
  obtain ⟨A2, c2, e2, h2⟩ := h.bo.form
  obtain ⟨A3, c3, e3, h3, _⟩ := h.ko.room
  cases e1; cases e2; cases e3
  exact ⟨h1, h2, h3, h.n1, h.n2, h.n3⟩
theorem RnH.put {w W : World} {n0 b1 : Nat} {V : Int} {A : Option Addr} {n c : Nat} {k st so dm ep : Int} {N : Nat} {S : Sq} {g : Nat} {ac ai : Option Addr} {an1 an2 an3 a1 a2 a3 : Nat}
    (h : RnH w W n0 b1 V A n c k st so dm ep N S g ac ai an1 an2 an3 a1 a2 a3) (v : Nat) (x : Int) : RnH w (W.setCell ⟨g, v, none⟩ (.int .i64 x)) n0 b1 V A n c k st so dm ep N { S with vals := S.vals.set v x } g ac ai an1 an2 an3 a1 a2 a3 := by
  obtain ⟨hg, cc, hc⟩ := h.q.blk
  have hT1 : (24 : TypeId) ≠ 2 := by decide
  have hT2 : (40 : TypeId) ≠ 2 := by decide
  have hT3 : (45 : TypeId) ≠ 2 := by decide
  have hT4 : (4 : TypeId) ≠ 2 := by decide
  have hT5 : (114 : TypeId) ≠ 2 := by decide
  exact ⟨h.below.setCell (p := ⟨g, v, none⟩) hg _, nbox_set h.gb hc hT1, nbox_set h.jb hc hT2, nbox_set h.sb hc hT3, by simpa using h.n1, h.n2, h.n3, h.f, NOwn.set h.n1 h.q v x, nown_set h.bo hc hT4, nown_set h.ko hc hT5⟩
theorem rnh_of {w W0 w' : World} {e : Ending} {n0 : Nat} {V : Int} {A : Option Addr} {n c : Nat} {k st so dm ep : Int} {N : Nat} {S : Sq} {E : Int}
    (h : Res W0 w' e ((N : Int), S, E)) (hf : Few S) (hl : 0 < S.vals.length) (hW : Below w.heap.size w W0) (gb : W0.heap[n0]? = some (.cells #[.int .i64 V, .slice A n c] 24 (0, 0))) (jb : W0.heap[n0 + 1]? = some (.cells #[.int .u8 k, .int .i64 st, .int .i64 so, .int .i64 dm, .int .i64 ep] 40 (0, 0))) :
    ∃ (g : Nat) (ac ai : Option Addr) (an1 an2 an3 a1 a2 a3 : Nat), e = .returned (.tuple #[.agg #[.int .i64 (N : Int), .slice (some ⟨g, 0, none⟩) an1 a1, .slice ac an2 a2, .slice ai an3 a3, .int .i64 S.sum, .int .i64 S.most], .int .i64 E]) ∧
      Hid (RnH w (w'.alloc (.cells #[.int .i64 (N : Int), .slice (some ⟨g, 0, none⟩) an1 a1, .slice ac an2 a2, .slice ai an3 a3, .int .i64 S.sum, .int .i64 S.most] 45)) n0 w'.heap.size V A n c k st so dm ep N S g ac ai an1 an2 an3 a1 a2 a3) := by
  obtain ⟨x, rfl, hx, hb⟩ := h
  obtain ⟨Av, cv, Ac, cc, Ai, ci, rfl, _, h1, h2, h3⟩ := hx.out.at
  obtain ⟨g, _, eg, _⟩ := NOwn.some_ (show NOwn w' 2 W0.heap.size _ S.vals from h1) hl
  have hA : Av = some ⟨g, 0, none⟩ := by injection eg
  subst hA
  have hal : Below w'.heap.size w' (w'.alloc (.cells #[.int .i64 (N : Int), .slice (some ⟨g, 0, none⟩) S.vals.length cv, .slice Ac S.chg.length cc, .slice Ai S.inb.length ci, .int .i64 S.sum, .int .i64 S.most] 45)) := (Below.refl _ w').alloc (Nat.le_refl _) _
  have hb2 := step_below hb.out hb.out.size hal
  exact ⟨g, Ac, Ai, _, _, _, cv, cc, ci, rfl, Lib.hid ⟨step_below hW hW.size hb2, keepB gb hb2, keepB jb hb2, heap_alloc_new w' _, rfl, rfl, rfl, hf, ((show NOwn w' 2 W0.heap.size _ S.vals from h1).below hal).mono hW.size, (h2.below hal).mono hW.size, (h3.below hal).mono hW.size⟩⟩
end Go.Proofs.YtdcaekmgfcpbmaaGreat.Mn
