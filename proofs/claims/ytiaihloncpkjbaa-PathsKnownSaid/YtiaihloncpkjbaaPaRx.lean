/-
  What is proved here: a contract of the law's relaxed(): the values, gone along all edges as often as there are vertices. Conditions: the graph may be; the source is one of its vertices.
-/
import Derived.Test.YtiaihloncpkjbaaPaL2
import Derived.Test.YtiaihloncpkjbaaPaTail
import Derived.Laws.OwnMore
namespace Go.Proofs.Ytiaihloncpkjbaa.Pa
open Go.RowKit Gr Wd Ws Fx Lb

/- The values at first, one by one. -/
def stl (s : Nat) : Nat → List Int
  | 0 => []
  | k + 1 => stl s k ++ [stt (k : Int) (s : Int)]
theorem stl_len (s : Nat) : ∀ k, (stl s k).length = k
  | 0 => rfl
  | k + 1 => by rw [stl, List.length_append, stl_len s k]; rfl
theorem stl_at (s : Nat) : ∀ k j, j < k → vl (stl s k) j = stt (j : Int) (s : Int)
  | 0, j, h => by omega
  | k + 1, j, h => by
    rw [stl]
    rcases Nat.lt_or_ge j k with hj | hj
    · rw [← stl_at s k j hj]
      unfold vl
      rw [List.getD_eq_getElem?_getD, List.getD_eq_getElem?_getD, List.getElem?_append_left (by rw [stl_len]; exact hj)]
    · have e : j = k := by omega
      subst e
      exact vl_of (by rw [List.getElem?_append_right (by rw [stl_len]; exact Nat.le_refl _), stl_len]; simp)
theorem stl_start (m s : Nat) (hs : s < m) : stl s m = start m s := by
  refine vl_ext (by rw [stl_len]; unfold start; simp) fun k hk => ?_
  rw [stl_len] at hk
  rw [stl_at s m k hk]
  unfold start
  rw [vl_set _ _ _ _ (by simp; exact hs)]
  unfold stt
  by_cases h : s = k
  · subst h; simp
  · rw [if_neg h, if_neg (by omega)]
    exact (vl_of (by rw [List.getElem?_replicate, if_pos hk])).symm

theorem iown_some {w : World} {B : Nat} {v : Value} {l : List Int} (h : IOwn w B v l) (hl : 0 < l.length) : ∃ g cp, v = .slice (some ⟨g, 0, none⟩) l.length cp ∧ B ≤ g := by
  obtain ⟨_, h1 | ⟨g, cap, cur, h1, h2, _⟩⟩ := h
  · omega
  · exact ⟨g, cap, h1, h2⟩
theorem iown_at {w : World} {B g cp : Nat} {l : List Int} {n : Nat} (hn : l.length = n) (h : IOwn w B (.slice (some ⟨g, 0, none⟩) n cp) l) {k : Nat} (hk : k < n) : w.cell? ⟨g, k, none⟩ = some (.int .i64 (vl l k)) ∧ w.frozen? ⟨g, k, none⟩ = false := by
  subst hn
  refine ⟨?_, World.ownsRow.frozenAt h k⟩
  rw [World.ownsRow.cellAt h k (by omega), ints_at, vl_at hk]; rfl
theorem iown_set {w : World} {B g cp : Nat} {l : List Int} {n : Nat} (hn : l.length = n) (h : IOwn w B (.slice (some ⟨g, 0, none⟩) n cp) l) (k : Nat) (x : Int) : IOwn (w.setCell ⟨g, k, none⟩ (.int .i64 x)) B (.slice (some ⟨g, 0, none⟩) n cp) (l.set k x) := by
  subst hn
  have := (World.ownsRow.stored h k (.int .i64 x)).1
  unfold IOwn
  rw [List.length_set]
  have e : ints (l.set k x) = (ints l).set k (.int .i64 x) := by unfold ints; rw [List.map_set]
  rw [e]; exact this
/- What holds of the row and the box all the while. -/
structure RxH (w : World) (m b g cp : Nat) (S : Value) (l : List Int) (wr : World) : Prop where
  below : Below w.heap.size w wr
  row : IOwn wr (b + 1) (.slice (some ⟨g, 0, none⟩) m cp) l
  box : wr.heap[b]? = some (.cells #[.int .i64 (m : Int), S] 35 (0, 0))
  len : l.length = m
theorem RxH.step {w w1 w2 : World} {m b g cp : Nat} {S : Value} {l : List Int} (h : RxH w m b g cp S l w1) (hb : Below w1.heap.size w1 w2) : RxH w m b g cp S l w2 :=
  ⟨step_below h.below h.below.size hb, h.row.below hb, (hb.block _ (lt_of_block h.box)).trans h.box, h.len⟩
theorem RxH.set {w w1 : World} {m b g cp : Nat} {S : Value} {l : List Int} (h : RxH w m b g cp S l w1) (hg : w.heap.size ≤ g) (hn : b ≠ g) (k : Nat) (x : Int) : RxH w m b g cp S (l.set k x) (w1.setCell ⟨g, k, none⟩ (.int .i64 x)) :=
  ⟨h.below.setCell (p := ⟨g, k, none⟩) hg (.int .i64 x), iown_set h.len h.row k x, set_other h.box hn, by rw [List.length_set]; exact h.len⟩
def X1Rel (w : World) (m b s : Nat) (S : Value) (gk : Nat) (v i : Value) (wr : World) : Prop :=
  ∃ k : Nat, k + gk = m ∧ i = .int .i64 (k : Int) ∧ Hid (IOwn wr (b + 1) v (stl s k)) ∧ Hid (Below w.heap.size w wr) ∧ Hid (wr.heap[b]? = some (.cells #[.int .i64 (m : Int), S] 35 (0, 0)))
def X2Rel (w : World) (m b g cp s : Nat) (S : Value) (L : List Ed) (gk : Nat) (i : Value) (wr : World) : Prop :=
  ∃ (q : Nat) (l : List Int), q + gk = m ∧ i = .int .i64 (q : Int) ∧ Hid (l = itr (rlxA L) q (start m s)) ∧ Hid (RxH w m b g cp S l wr)
def X3Rel (w : World) (m b g cp : Nat) (S : Value) (L : List Ed) (l0 : List Int) (gk : Nat) (i : Value) (wr : World) : Prop :=
  ∃ (k : Nat) (l : List Int), k + gk = L.length ∧ i = .int .i64 (k : Int) ∧ Hid (l = rlxA (L.take k) l0) ∧ Hid (RxH w m b g cp S l wr)
theorem rlx_next {L : List Ed} {l0 l : List Int} {k f t : Nat} {z : Int} (h : l = rlxA (L.take k) l0) (he : L[k]? = some ((f : Int), (t : Int), z)) : l.set t (min (vl l t) (addI (vl l f) z)) = rlxA (L.take (k + 1)) l0 := by
  have e1 : gv l ((f : Int), (t : Int), z) = addI (vl l f) z := by unfold gv; rw [fr_of]
  have e2 : Pa.rlx l ((f : Int), (t : Int), z) = l.set t (min (vl l t) (addI (vl l f) z)) := by unfold Pa.rlx; rw [to_of, e1]
  rw [take_at he]
  show _ = List.foldl Pa.rlx l0 (L.take k ++ [_])
  rw [List.foldl_append, ← e2, h]; rfl
theorem take_gv (v G : Int) (h : 0 ≤ G) (w : World) : Calls Try.prog 13 #[.int .i64 v, .agg #[.bool true, .int .i64 G]] w fun e w' => e = .returned (.tuple #[.int .i64 (min v G), .bool (decide (G < v))]) ∧ Below w.heap.size w w' := by
  have := take_any v G true w
  have e1 : tkm v true G = min v G := by unfold tkm; rw [if_pos rfl, show max G 0 = G by omega]
  have e2 : tkb v true G = decide (G < v) := by unfold tkb; rw [show max G 0 = G by omega]; simp
  rwa [e1, e2] at this

set_option maxRecDepth 100000 in
set_option maxHeartbeats 4000000 in
theorem relaxed_any (m s : Nat) (A : Option Addr) (c : Nat) (L : List Ed) (w : World) (hL : EAt w A L) (hn : L.length ≤ 9223372036854775807) (hm : m ≤ 512) (hF : FitsI m L) (hs : s < m) :
    Calls Try.prog 20 #[.agg #[.int .i64 (m : Int), .slice A L.length c], .int .i64 (s : Int)] w fun e w' =>
      (∃ g cp, e = .returned (.slice (some ⟨g, 0, none⟩) m cp) ∧ Hid (w.heap.size + 1 ≤ g) ∧ Hid (IOwn w' (w.heap.size + 1) (.slice (some ⟨g, 0, none⟩) m cp) (far m s L))) ∧ Hid (Below w.heap.size w w') := by
  have mixed := mixedP
  have HL := Lib.hid hL; have HF := Lib.hid hF; clear hL hF
  obtain ⟨n, hn'⟩ : ∃ n, n = L.length := ⟨_, rfl⟩
  rw [← hn'] at hn ⊢
  have HN := Lib.hid hn'; clear hn'
  obtain ⟨b, hb⟩ : ∃ b, b = w.heap.size := ⟨_, rfl⟩
  have HBb := Lib.hid hb; clear hb
  obtain ⟨W1, hW1⟩ : ∃ W1, W1 = w.alloc (.cells #[.int .i64 (m : Int), .slice A n c] 35) := ⟨_, rfl⟩
  have HB1 : Hid (Below w.heap.size w W1) := Lib.hid (by rw [hW1]; exact (Below.refl _ w).alloc (Nat.le_refl _) _)
  have HX1 : Hid (W1.heap[b]? = some (.cells #[.int .i64 (m : Int), .slice A n c] 35 (0, 0))) := Lib.hid (by rw [hW1, HBb.out]; exact heap_alloc_new w _)
  go_enter Try.func20, Try.ntmps20
  go_upto_region 1 with fail
  rw [← hW1, ← HBb.out]
  clear hW1
  go_wp2_with fail
  go_loopg [5, 6] m (fun gk v i wr => X1Rel w m b s (.slice A n c) gk v i wr)
  case atStart => exact ⟨0, by omega, rfl, Lib.hid (IOwn.none_ _ _), HB1, HX1⟩
  case round =>
    clear HB1 HX1
    obtain ⟨k, hk, rfl, HO, HB, HX⟩ := hrel
    obtain ⟨k0, k1, hbl⟩ := Bx.cells HX.out
    have HBL := Lib.hid hbl; clear hbl
    by_cases hlt : k < m
    · obtain ⟨y, hy⟩ : ∃ y, stt (k : Int) (s : Int) = y := ⟨_, rfl⟩
      have HC := Lib.hid (fun W => start_at (k : Int) (s : Int) y hy W)
      have HY := Lib.hid hy
      clear hy
      have HO1 := Lib.hid (HO.out.alloc (.cells #[.int .i64 y] 2))
      have HN1 := Lib.hid (heap_alloc_new wr (.cells #[.int .i64 y] 2))
      have hb1 : Below wr.heap.size wr (wr.alloc (.cells #[.int .i64 y] 2)) := (Below.refl _ wr).alloc (Nat.le_refl _) _
      have HB1 := Lib.hid (step_below HB.out HB.out.size hb1)
      have HX1 := Lib.hid ((hb1.block _ (lt_of_block HX.out)).trans HX.out)
      have hsz : b + 1 ≤ (wr.alloc (.cells #[.int .i64 y] 2)).heap.size := by have := hb1.size; have := HBL.out; omega
      have HSZ := Lib.hid hsz
      have hsl : (stl s k).length < 1000000000 := by rw [stl_len]; omega
      have HSL := Lib.hid hsl
      clear hb1 hsz hsl
      go_wp2_with fail
      refine (HC.out _).mono ?_
      rintro e w9 ⟨rfl, rfl⟩
      go_wp2_with (at_builtin; refine app_i rfl (.tmp 16) (.tmp 20) rfl (b + 1) _ (stl s k) y rfl HO1.out _ rfl HN1.out HSL.out HSZ.out ?_)
      intro v2 w2 ho2 hg2
      have hb2 : Below w.heap.size w w2 := Below.grown HB1.out hg2 HB1.out.size fun j e => by
        have := (World.ownsRow.lt HO1.out j e).1
        have := HBb.out; omega
      have hx2 : w2.heap[b]? = some (.cells #[.int .i64 (m : Int), .slice A n c] 35 (0, 0)) := by
        rw [hg2.block b (lt_of_block HX1.out) (fun e => by
          have := (World.ownsRow.lt HO1.out b e.symm).1
          omega)]
        exact HX1.out
      have HB2 := Lib.hid hb2; have HX2 := Lib.hid hx2
      have HO2 : Hid (IOwn w2 (b + 1) v2 (stl s (k + 1))) := Lib.hid (by rw [stl, HY.out]; exact ho2)
      clear hb2 hx2 ho2 hg2 k0 k1 HO HO1 HN1 HB1 HX1
      go_wp2
      go_roundg (gk - 1)
      case measure => omega
      case rel => exact ⟨k + 1, by omega, by go_num, HO2, HB2, HX2⟩
    · have hkm : k = m := by omega
      subst hkm
      obtain ⟨g, cp, hv, hg⟩ := iown_some HO.out (by rw [stl_len]; omega)
      rw [stl_len] at hv
      subst hv
      have HH : Hid (RxH w k b g cp (.slice A n c) (start k s) wr) := Lib.hid ⟨HB.out, by rw [← stl_start k s hs]; exact HO.out, HX.out, by rw [← stl_start k s hs, stl_len]⟩
      have HGW : Hid (w.heap.size ≤ g) := Lib.hid (by have := HBb.out; omega)
      have HBG : Hid (b ≠ g) := Lib.hid (by omega)
      have HG := Lib.hid hg
      clear HO HB HX hg
      go_wp2_with fail
      clear k0 k1
      obtain ⟨G0, rfl⟩ : ∃ G0 : Nat, G0 = gk := ⟨_, rfl⟩
      obtain ⟨m, rfl⟩ : ∃ m, k = m := ⟨_, rfl⟩
      go_loopg [7] k (fun gk i wr => X2Rel w k b g cp s (.slice A n c) L gk i wr)
      case atStart => exact ⟨0, start k s, by omega, rfl, Lib.hid rfl, HH⟩
      case round =>
        clear HH
        obtain ⟨p, l0, hp, rfl, HI, HH⟩ := hrel
        obtain ⟨k0, k1, _⟩ := Bx.cells HH.out.box
        by_cases hpm : p < k
        · go_wp2_with fail
          clear k0 k1
          obtain ⟨G1, rfl⟩ : ∃ G1 : Nat, G1 = gk := ⟨_, rfl⟩
          go_loopg [8] n (fun gk i wr => X3Rel w k b g cp (.slice A n c) L l0 gk i wr)
          case atStart => exact ⟨0, l0, by have := HN.out; omega, rfl, Lib.hid (by simp [rlxA]), HH⟩
          case round =>
            obtain ⟨j, l, hj, rfl, HK, HH1⟩ := hrel
            rw [← HN.out] at hj
            obtain ⟨k0, k1, _⟩ := Bx.cells HH1.out.box
            by_cases hlt2 : j < n
            · obtain ⟨f, t, z, he, hf, ht⟩ := edge_nat HF.out (show j < L.length by rw [← HN.out]; exact hlt2)
              obtain ⟨bk, o, rfl, c0, c1, c2⟩ := (HL.out.below HH1.out.below) j _ he
              have HNX := Lib.hid (rlx_next HK.out he)
              obtain ⟨X, hX⟩ : ∃ X, vl l f = X := ⟨_, rfl⟩
              obtain ⟨Y, hY⟩ : ∃ Y, vl l t = Y := ⟨_, rfl⟩
              obtain ⟨G, hG⟩ : ∃ G, addI X z = G := ⟨_, rfl⟩
              have hG0 : 0 ≤ G := by rw [← hG]; exact (addI_in X z).1
              have HNY : Hid (l.set t (min Y G) = rlxA (L.take (j + 1)) l0) := Lib.hid (by rw [← HNX.out, hX, hY, hG])
              have HW : Hid (Below wr.heap.size wr (wr.alloc (.cells #[.int .i64 (f : Int), .int .i64 (t : Int), .int .i64 z] 23))) := Lib.hid ((Below.refl _ wr).alloc (Nat.le_refl _) _)
              have HE := Lib.hid (eb_alloc wr (f : Int) (t : Int) z)
              clear he HNX
              go_upto_region 13 with fail
              obtain ⟨W1, hW1⟩ : ∃ W1, W1 = wr.alloc (.cells #[.int .i64 (f : Int), .int .i64 (t : Int), .int .i64 z] 23) := ⟨_, rfl⟩
              rw [← hW1] at HW HE ⊢
              obtain ⟨eb, heb⟩ : ∃ eb, eb = wr.heap.size := ⟨_, rfl⟩
              rw [← heb] at HE ⊢
              have HH5 := Lib.hid (HH1.out.step HW.out)
              have v0 := (iown_at HH5.out.len HH5.out.row (k := f) hf).1
              have v1 := (iown_at HH5.out.len HH5.out.row (k := t) ht).1
              rw [hX] at v0
              rw [hY] at v1
              have q0 := cell_regrown v0; have q1 := cell_regrown v1
              obtain ⟨p0, p1, p2, _⟩ := eb_cells HE.out
              have z0 := cell_regrown p0; have z1 := cell_regrown p1; have z2 := cell_regrown p2
              have hC := regr fun W (_ : Below W1.heap.size W1 W) => give_any X (f : Int) (t : Int) z W
              rw [hG] at hC
              have C1 := Lib.hid hC
              have C2 := Lib.hid (regr fun W (_ : Below W1.heap.size W1 W) => take_gv Y G hG0 W)
              clear hC hG p0 p1 p2 c0 c1 c2 hW1 heb k0 k1 v0 v1 hX hY hG0
              refine Tl.region_late_below 21 19 mixed (by kernel_rfl) (fun o ho => by have h := Option.some.inj (ho : some _ = some o); subst h; exact ⟨_, _, rfl⟩) (fun d _ _ _ _ h => by cases d <;> exact h) ?_
              simp only [List.take_succ_cons, List.take_zero, List.drop_succ_cons, List.drop_zero]
              repeat (go_big_quiet_step ((with_reducible first | exact C1.out _ _ | exact C2.out _ _)))
              refine wpQuiet_nil ?_
              intro _ hw'
              obtain ⟨⟨dq, osq⟩, hw''⟩ := hw'
              subst hw''
              have hb2 := below_regrown W1 dq osq
              have HH6 := Lib.hid (HH5.out.step hb2)
              obtain ⟨u0, u1⟩ := iown_at HH6.out.len HH6.out.row (k := t) ht
              have HH7 := Lib.hid (HH6.out.set HGW.out HBG.out t (min Y G))
              clear hb2 q0 q1 z0 z1 z2 C1 C2
              go_wp2
              go_roundg (gk - 1)
              case measure => omega
              case rel => exact ⟨j + 1, l.set t (min Y G), by have := HN.out; omega, by go_num, HNY, HH7⟩
            · have HI2 : Hid (l = itr (rlxA L) (p + 1) (start k s)) := Lib.hid (by
                have : j = L.length := by rw [← HN.out]; omega
                rw [HK.out, this, List.take_length, itr_next, ← HI.out])
              go_wp2
              go_roundg (G1 - 1)
              case measure => omega
              case rel => exact ⟨p + 1, l, by omega, by go_num, HI2, HH1⟩
        · have HFR : Hid (l0 = far k s L) := Lib.hid (by
            have : p = k := by omega
            rw [HI.out, this]; rfl)
          go_wp2
          go_ret
          refine ⟨⟨g, cp, rfl, Lib.hid (by have := HG.out; have := HBb.out; omega), Lib.hid ?_⟩, Lib.hid HH.out.below⟩
          rw [← HFR.out, ← HBb.out]
          exact HH.out.row

end Go.Proofs.Ytiaihloncpkjbaa.Pa
