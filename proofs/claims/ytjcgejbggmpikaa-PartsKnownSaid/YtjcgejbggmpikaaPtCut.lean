/-
  What is proved here: the law on Cut, walked. Condition: the graph can be read.
-/
import Derived.Test.YtjcgejbggmpikaaPtApp
import Derived.Test.YtjcgejbggmpikaaPtR2
import Derived.Test.YtjcgejbggmpikaaPtW9
namespace Go.Proofs.Ytjcgejbggmpikaa.Pt
open Go.RowKit Gr Wd Ws

/- Rows of edges that are written while they are gone over. -/
def MsR (w : World) (B : Nat) (s : Value) (ns : List Nat) : Prop := ∃ xs, w.ownsRow B 28 1 s ns.length xs ∧ xs.length = ns.length ∧ ∀ (k n : Nat), ns[k]? = some n → ∃ x, xs[k]? = some x ∧ Mess w B x n ∧ ∃ X c, x = .slice X n c
theorem MsR.of {w : World} {B : Nat} {s : Value} {F : List (List Ed)} (h : ROwn w B s F) : MsR w B s (F.map List.length) := by
  obtain ⟨xs, h1, h2⟩ := h
  refine ⟨xs, by rw [List.length_map]; exact h1, by rw [h2.1, List.length_map], fun k n hk => ?_⟩
  rw [List.getElem?_map] at hk
  cases hL : F[k]? with
  | none => rw [hL] at hk; cases hk
  | some L =>
    rw [hL] at hk
    cases hk
    obtain ⟨x, h3, h4⟩ := h2.2 k L hL
    obtain ⟨X, c, h5, _⟩ := h4.form
    exact ⟨x, h3, ⟨_, h4⟩, X, c, h5⟩
theorem MsR.below {w w' : World} {B : Nat} {s : Value} {ns : List Nat} (h : MsR w B s ns) (hb : Below w.heap.size w w') : MsR w' B s ns := by
  obtain ⟨xs, h1, h2, h3⟩ := h
  refine ⟨xs, own_below h1 hb, h2, fun k n hk => ?_⟩
  obtain ⟨x, h4, ⟨ys, h5⟩, h6⟩ := h3 k n hk
  exact ⟨x, h4, ⟨ys, own_below h5 hb⟩, h6⟩
/- A row's header, and its cells. -/
theorem MsR.row {w : World} {B N c : Nat} {A : Option Addr} {ns : List Nat} (h : MsR w B (.slice A N c) ns) {k n : Nat} (hk : ns[k]? = some n) : ∃ b X cx, A = some ⟨b, 0, none⟩ ∧ w.cell? ⟨b, k, none⟩ = some (.slice X n cx) ∧ Mess w B (.slice X n cx) n := by
  obtain ⟨xs, ⟨h0, h1 | ⟨g, cap, cur, h1, h2, h3, h4, h5, h6, h7⟩⟩, he, hr⟩ := h
  · have : ns = [] := List.eq_nil_of_length_eq_zero h1.2
    rw [this] at hk; simp at hk
  · cases h1
    have hkl := lt_at hk
    obtain ⟨x, g1, g2, X, cx, rfl⟩ := hr k n hk
    refine ⟨g, X, cx, rfl, ?_, g2⟩
    rw [cell_of_row w g k _ 28 (0, 0) h3]
    have e1 : cur[k]? = (cur.toList.take (ns.length * 1))[k]? := by
      rw [List.getElem?_take, if_pos (by omega), Array.getElem?_toList]
    rw [e1, h7, g1]
theorem mess_store {w : World} {B n : Nat} {v : Value} {g : Nat} {cs : Array Value} {fz : Nat × Nat} (h : Mess w B v n) (hg : w.heap[g]? = some (.cells cs 44 fz)) (j : Nat) (u : Value) : Mess (w.setCell ⟨g, j, none⟩ u) B v n := by
  by_cases e : v.ownBlock = some g
  · obtain ⟨xs, h0, h1 | ⟨g', cap, cur, h1, h2⟩⟩ := h
    · exact ⟨xs, h0, Or.inl h1⟩
    · have : g' = g := by rw [h1] at e; simpa [Value.ownBlock] using e
      subst this
      subst h1
      have hm : w.ownsRow B 44 3 (.slice (some ⟨g', 0, none⟩) n cap) n xs := ⟨h0, Or.inr ⟨g', cap, cur, rfl, h2⟩⟩
      exact ⟨_, (World.ownsRow.stored hm j u).1⟩
  · exact h.other (set_grown w g j u) fun k hk hv => by cases hk; exact e hv
theorem MsR.store {w : World} {B : Nat} {s : Value} {ns : List Nat} (h : MsR w B s ns) {g : Nat} {cs : Array Value} {fz : Nat × Nat} (hg : w.heap[g]? = some (.cells cs 44 fz)) (j : Nat) (u : Value) : MsR (w.setCell ⟨g, j, none⟩ u) B s ns := by
  obtain ⟨xs, h1, h2, h3⟩ := h
  refine ⟨xs, own_other h1 (set_grown w g j u) fun k hk e => ?_, h2, fun k n hk => ?_⟩
  · obtain ⟨_, d, hd⟩ := own_lt h1 k hk
    cases e
    exact absurd (type_ne hd hg) (by decide)
  · obtain ⟨x, h4, h5, h6⟩ := h3 k n hk
    exact ⟨x, h4, mess_store h5 hg j u, h6⟩
theorem mess_bt {w : World} {B n c : Nat} {X : Option Addr} (h : Mess w B (.slice X n c) n) (hn : 0 < n) : ∃ g cs, X = some ⟨g, 0, none⟩ ∧ B ≤ g ∧ w.heap[g]? = some (.cells cs 44 (0, 0)) := by
  obtain ⟨xs, h0, h1 | ⟨g, cap, cur, h1, h2, h3, _⟩⟩ := h
  · omega
  · cases h1
    exact ⟨g, cur, rfl, h2, h3⟩

/- The part's box at bp and its rows, as the rounds go. -/
structure CwB (B : Nat) (w3 wr : World) (bp : Nat) (a0 a1 a2 : Int) (s1 s2 s3 : Value) (ns : List Nat) : Prop where
  bel : Below B w3 wr
  lo : B ≤ bp
  box : wr.heap[bp]? = some (.cells #[.int .i64 a0, .int .i64 a1, .int .i64 a2, s1, s2, s3] 34 (0, 0))
  out : MsR wr B s2 ns
theorem CwB.store {B : Nat} {w3 wr : World} {bp : Nat} {a0 a1 a2 : Int} {s1 s2 s3 : Value} {ns : List Nat} (h : CwB B w3 wr bp a0 a1 a2 s1 s2 s3 ns) {g : Nat} {cs : Array Value} (hB : B ≤ g) (hg : wr.heap[g]? = some (.cells cs 44 (0, 0))) (j : Nat) (u : Value) : CwB B w3 (wr.setCell ⟨g, j, none⟩ u) bp a0 a1 a2 s1 s2 s3 ns :=
  ⟨h.bel.setCell (p := ⟨g, j, none⟩) hB _, h.lo, (Below.heap_setCell wr ⟨g, j, none⟩ u bp (fun e => by
    have hg' : wr.heap[bp]? = some (.cells cs 44 (0, 0)) := by rw [show bp = g from e]; exact hg
    exact absurd (type_ne h.box hg') (by decide))).trans h.box, h.lo |> fun _ => h.out.store hg j u⟩
def CoRel (B : Nat) (w3 : World) (bp : Nat) (a0 a1 a2 : Int) (s1 s2 s3 : Value) (ns : List Nat) (g : Nat) (i : Value) (wr : World) : Prop :=
  ∃ k : Nat, k + g = ns.length ∧ i = .int .i64 (k : Int) ∧ Hid (CwB B w3 wr bp a0 a1 a2 s1 s2 s3 ns)
def CiRel (B : Nat) (w3 : World) (bp : Nat) (a0 a1 a2 : Int) (s1 s2 s3 : Value) (ns : List Nat) (n g : Nat) (i : Value) (wr : World) : Prop :=
  ∃ k : Nat, k + g = n ∧ i = .int .i64 (k : Int) ∧ Hid (CwB B w3 wr bp a0 a1 a2 s1 s2 s3 ns)

theorem cutA_sm (V : Int) (L : List Ed) (k x : Int) (h : L.length ≤ 100000) : Sm (cutA V L k x).1 ∧ (cutA V L k x).1.out.length ≤ 512 ∧ ∀ r ∈ (cutA V L k x).1.out, r.length ≤ 100000 := by
  unfold cutA
  split
  · exact ⟨⟨by simp [noP], by simp [noP], by simp [noP], fun L h => by simp [noP] at h, fun L h => by simp [noP] at h⟩, by simp [noP], fun L h => by simp [noP] at h⟩
  · split
    · have ho := owned_len V k x
      have hf : ∀ r ∈ (cutP V L k x).out, r.length ≤ 100000 := by
        intro r hr
        obtain ⟨v, _, rfl⟩ := List.mem_map.1 hr
        exact Nat.le_trans (List.length_filter_le _ _) h
      have hb : ∀ r ∈ (cutP V L k x).back, r.length ≤ 100000 := by
        intro r hr
        obtain ⟨v, _, rfl⟩ := List.mem_map.1 hr
        exact Nat.le_trans (List.length_filter_le _ _) h
      refine ⟨⟨by show (owned V k x).length ≤ _; omega, by show ((owned V k x).map _).length ≤ _; rw [List.length_map]; omega, by show ((owned V k x).map _).length ≤ _; rw [List.length_map]; omega, fun r hr => ?_, fun r hr => ?_⟩, by show ((owned V k x).map _).length ≤ _; rw [List.length_map]; omega, hf⟩
      · have := hf r hr; omega
      · have := hb r hr; omega
    · exact ⟨⟨by simp [noP], by simp [noP], by simp [noP], fun L h => by simp [noP] at h, fun L h => by simp [noP] at h⟩, by simp [noP], fun L h => by simp [noP] at h⟩

set_option maxRecDepth 100000 in
set_option maxHeartbeats 2000000 in
theorem law_cut (V k x : Int) (A : Option Addr) (c : Nat) (L : List Ed) (w : World) (hL : Hid (EAt w A L)) (hm : L.length ≤ 9223372036854775807) :
    Calls Try.prog 4 #[.agg #[.int .i64 V, .slice A L.length c], .int .i64 k, .int .i64 x] w fun e w' => e = .returned (.bool true) ∧ Below w.heap.size w w' := by
  have mixed := mixedP
  have HC1 := Lib.hid (fun W => light_any V A L.length c 200 W)
  obtain ⟨w1, hw1⟩ : ∃ w1, w1 = w.alloc (.cells #[.int .i64 V, .slice A L.length c] 30) := ⟨_, rfl⟩
  have hz : Below w.heap.size w w1 := by rw [hw1]; exact (Below.refl _ w).alloc (Nat.le_refl _) _
  have HG1 : Hid (GBox w1 w.heap.size V A c L) := Lib.hid ⟨by rw [hw1]; exact heap_alloc_new w _, hL.out.below hz⟩
  have HZ1 := Lib.hid hz
  have HW := Lib.hid hw1
  clear hw1 hz
  obtain ⟨r1, hr1⟩ : ∃ r, decide (L.length ≤ 200) = r := ⟨_, rfl⟩
  rw [hr1] at HC1
  have HR1 := Lib.hid hr1
  clear hr1
  go_enter Try.func4, Try.ntmps4
  go_wp2_with fail
  rw [← HW.out]
  refine (HC1.out w1).mono ?_
  rintro e w2 ⟨rfl, hg2⟩
  have HG2 := Lib.hid (HG1.out.below hg2.below)
  have HZ2 := Lib.hid (HZ1.out.trans (hg2.below.mono HZ1.out.size))
  clear hg2
  cases r1 with
  | false =>
    go_wp2_with fail
    refine (works_any w2).mono ?_
    rintro e w3 ⟨rfl, HB⟩
    have HZ3 := Lib.hid (HZ2.out.trans (HB.out.mono HZ2.out.size))
    clear HB
    go_wp2
    go_ret
    exact ⟨rfl, HZ3.out⟩
  | true =>
    have h200 : L.length ≤ 200 := of_decide_eq_true HR1.out
    obtain ⟨k0, k1, hk⟩ := Bx.cells HG2.out.1
    go_wp2_with (at_builtin; refine app_copy rfl (.tmp 18) (.tmp 20) rfl w.heap.size L rfl A c rfl HG2.out.2 ?c1 ?c2 ?_)
    case c1 => omega
    case c2 => have := HZ2.out.size; omega
    intro vc w3 hoc hgc
    have hb3 : Below w2.heap.size w2 w3 := ⟨hgc.os, hgc.tape, hgc.output, hgc.size, fun i hi => hgc.block i hi nofun⟩
    have HG3 := Lib.hid (HG2.out.below hb3)
    have HZ3 := Lib.hid (HZ2.out.trans (hb3.mono HZ2.out.size))
    have HK3 := Lib.hid hoc
    clear hoc hgc k0 k1 hk hb3
    obtain ⟨k0, k1, hk⟩ := Bx.cells HG3.out.1
    obtain ⟨q, hq⟩ : ∃ q, cutA V L k x = q := ⟨_, rfl⟩
    obtain ⟨⟨Pw, Pk, Pn, Po, Pf, Pg⟩, E⟩ := q
    obtain ⟨hsm, hfl, hrl⟩ := cutA_sm V L k x (by omega)
    rw [hq] at hsm hfl hrl
    have HC := Lib.hid (Cut_any V k x A c L w3 HG3.out.2 (by omega))
    rw [hq] at HC
    have HQ := Lib.hid hq; have HSM := Lib.hid hsm; have HRL := Lib.hid hrl
    clear hq hsm hrl
    have hfl : Pf.length ≤ 512 := hfl
    go_wp2_with fail
    refine HC.out.mono ?_
    rintro e w4 ⟨⟨v4, rfl, hv4⟩, hb4⟩
    have HV4 := Lib.hid hv4
    obtain ⟨s1, s2, s3, rfl, h1, h2, h3⟩ := hv4
    obtain ⟨A1, c1, rfl, _⟩ := h1.form
    obtain ⟨A2, c2, rfl, _⟩ := h2.form
    obtain ⟨A3, c3, rfl, _⟩ := h3.form
    obtain ⟨n1, hn1⟩ : ∃ n, n = Po.length := ⟨_, rfl⟩
    obtain ⟨n2, hn2⟩ : ∃ n, n = Pf.length := ⟨_, rfl⟩
    obtain ⟨n3, hn3⟩ : ∃ n, n = Pg.length := ⟨_, rfl⟩
    have hs4 := hb4.size
    have hb5 := (Below.refl w4.heap.size w4).alloc (Nat.le_refl _) (.cells #[.int .i64 Pw, .int .i64 Pk, .int .i64 Pn, .slice A1 n1 c1, .slice A2 n2 c2, .slice A3 n3 c3] 34)
    have HN5 := Lib.hid (heap_alloc_new w4 (.cells #[.int .i64 Pw, .int .i64 Pk, .int .i64 Pn, .slice A1 n1 c1, .slice A2 n2 c2, .slice A3 n3 c3] 34))
    have HB5 := Lib.hid (hb4.trans (hb5.mono hs4))
    have HV5 := Lib.hid (HV4.out.below hb5)
    have HG4 := Lib.hid (HG3.out.below hb4)
    simp only [← hn1, ← hn2, ← hn3] at HV5 hfl ⊢
    have HN2 := Lib.hid hn2
    clear h1 h2 h3 hb4 hb5 hn1 hn2 hn3 k0 k1 hk HC
    obtain ⟨w5, hw5⟩ : ∃ w5, w5 = w4.alloc (.cells #[.int .i64 Pw, .int .i64 Pk, .int .i64 Pn, .slice A1 n1 c1, .slice A2 n2 c2, .slice A3 n3 c3] 34) := ⟨_, rfl⟩
    rw [← hw5] at HN5 HB5 HV5
    have HW5 := Lib.hid hw5; clear hw5
    have HG5 := Lib.hid (HG3.out.below HB5.out)
    obtain ⟨k0, k1, hk⟩ := Bx.cells HG4.out.1
    have HC := Lib.hid (rCut_any V k x A c L w5 HG5.out.2 (by omega))
    rw [HQ.out] at HC
    go_wp2_with fail
    rw [← HW5.out]
    refine HC.out.mono ?_
    rintro e w6 ⟨⟨v6, rfl, hv6⟩, hb6⟩
    obtain ⟨B1, d1, B2, d2, B3, d3, rfl, g1, g2, g3⟩ := hv6.ptv
    obtain ⟨m1, hm1⟩ : ∃ n, n = Po.length := ⟨_, rfl⟩
    obtain ⟨m2, hm2⟩ : ∃ n, n = Pf.length := ⟨_, rfl⟩
    obtain ⟨m3, hm3⟩ : ∃ n, n = Pg.length := ⟨_, rfl⟩
    have hs5 := HB5.out.size
    have hs6 := hb6.size
    have HB6 := Lib.hid (HB5.out.trans (hb6.mono HB5.out.size))
    have HV6 := Lib.hid (HV5.out.below hb6)
    have HN6 := Lib.hid ((hb6.block _ (lt_of_block HN5.out)).trans HN5.out)
    have HY6 := Lib.hid hv6.ptv
    simp only [← hm1, ← hm2, ← hm3] at HY6 ⊢
    have HM1 := Lib.hid hm1; have HM2 := Lib.hid hm2; have HM3 := Lib.hid hm3
    clear hb6 hv6 g1 g2 g3 hm1 hm2 hm3 k0 k1 hk HC
    obtain ⟨w7, hw7⟩ : ∃ w7, w7 = w6.alloc (.cells #[.int .i64 Pw, .int .i64 Pk, .int .i64 Pn, .slice B1 m1 d1, .slice B2 m2 d2, .slice B3 m3 d3] 38) := ⟨_, rfl⟩
    have hb7 : Below w6.heap.size w6 w7 := by rw [hw7]; exact (Below.refl _ w6).alloc (Nat.le_refl _) _
    have hn7 : w7.heap[w6.heap.size]? = some (.cells #[.int .i64 Pw, .int .i64 Pk, .int .i64 Pn, .slice B1 m1 d1, .slice B2 m2 d2, .slice B3 m3 d3] 38 (0, 0)) := by rw [hw7]; exact heap_alloc_new w6 _
    have HN7 := Lib.hid ((hb7.block _ (lt_of_block HN6.out)).trans HN6.out)
    have HB7 := Lib.hid (HB6.out.trans (hb7.mono HB6.out.size))
    have HV7 := Lib.hid (HV6.out.below hb7)
    have HP7 := Lib.hid (HV6.out.below hb7).ptv
    have HY7 := Lib.hid (HY6.out.below hb7)
    have HM7 := Lib.hid hn7
    have HW7 := Lib.hid hw7
    clear hw7 hb7 hn7
    go_wp2_with fail
    rw [← HW7.out]
    have hp : PtV w7 (.agg #[.int .i64 Pw, .int .i64 Pk, .int .i64 Pn, .slice A1 n1 c1, .slice A2 n2 c2, .slice A3 n3 c3]) ⟨Pw, Pk, Pn, Po, Pf, Pg⟩ := HP7.out
    have c1' := regr fun W (_ : Below w7.heap.size w7 W) => plain_any Pw Pk Pn A1 A2 A3 n1 n2 n3 c1 c2 c3 W
    have c2' := regr fun W (h : Below w7.heap.size w7 W) => rsameP_any _ _ _ _ W (hp.below h) (HY7.out.below h) HSM.out HSM.out
    rw [show decide ((⟨Pw, Pk, Pn, Po, Pf, Pg⟩ : Pt) = ⟨Pw, Pk, Pn, Po, Pf, Pg⟩) = true by simp] at c2'
    have C1 := Lib.hid c1'; have C2 := Lib.hid c2'
    clear c1' c2' hp
    obtain ⟨y0, y1, y2, y3, y4, y5, _⟩ := six HN7.out
    obtain ⟨z0, z1, z2, z3, z4, z5, _⟩ := six HM7.out
    have Y0 := cell_regrown y0; have Y1 := cell_regrown y1; have Y2 := cell_regrown y2; have Y3 := cell_regrown y3; have Y4 := cell_regrown y4; have Y5 := cell_regrown y5
    have Z0 := cell_regrown z0; have Z1 := cell_regrown z1; have Z2 := cell_regrown z2; have Z3 := cell_regrown z3; have Z4 := cell_regrown z4; have Z5 := cell_regrown z5
    clear y0 y1 y2 y3 y4 y5 z0 z1 z2 z3 z4 z5
    refine wp_region_quiet_below mixed (by kernel_rfl) ?_
    repeat (go_big_quiet_step ((with_reducible first | exact C1.out _ _ | exact C2.out _ _)))
    refine wpQuiet_nil ?_
    intro _ hw'
    obtain ⟨⟨dq, osq⟩, hw''⟩ := hw'
    subst hw''
    have hb8 := below_regrown w7 dq osq
    obtain ⟨w8, hw8⟩ : ∃ w8, w8 = Sort.grow (redrawn w7 dq) osq := ⟨_, rfl⟩
    rw [← hw8] at hb8
    have HX8 : Hid (CwB w3.heap.size w3 w8 w4.heap.size Pw Pk Pn (.slice A1 n1 c1) (.slice A2 n2 c2) (.slice A3 n3 c3) (Pf.map List.length)) := Lib.hid (by
      obtain ⟨t1, t2, t3, e, _, h2, _⟩ := HV7.out.below hb8
      cases e
      exact ⟨HB7.out.trans (hb8.mono HB7.out.size), hs4, (hb8.block _ (lt_of_block HN7.out)).trans HN7.out, MsR.of h2⟩)
    have HW8 := Lib.hid hw8
    clear hw8 hb8 Y0 Y1 Y2 Y3 Y4 Y5 Z0 Z1 Z2 Z3 Z4 Z5 C1 C2
    rw [← HW8.out]
    obtain ⟨ns, hns⟩ : ∃ ns, Pf.map List.length = ns := ⟨_, rfl⟩
    have hnl : ns.length = n2 := by rw [← hns, List.length_map, HN2.out]
    have hnb : ∀ n ∈ ns, n ≤ 100000 := by
      intro n hn
      rw [← hns] at hn
      obtain ⟨r, hr, rfl⟩ := List.mem_map.1 hn
      exact HRL.out r hr
    rw [hns] at HX8
    have HNL := Lib.hid hnl; have HNB := Lib.hid hnb
    have hn2 : n2 ≤ 512 := by have := HN2.out; omega
    clear hns hnl hnb
    go_wp2_with fail
    go_loopg [12] n2 (fun g i wr => CoRel w3.heap.size w3 w4.heap.size Pw Pk Pn (.slice A1 n1 c1) (.slice A2 n2 c2) (.slice A3 n3 c3) ns g i wr)
    case atStart => exact ⟨0, by rw [HNL.out]; omega, rfl, HX8⟩
    case round =>
      obtain ⟨i, hi, rfl, HX⟩ := hrel
      rw [HNL.out] at hi
      obtain ⟨y0, y1, y2, y3, y4, y5, _⟩ := six HX.out.box
      by_cases hlt : i < n2
      · obtain ⟨n, hn⟩ := at_lt ns i (by rw [HNL.out]; exact hlt)
        have hn1k := HNB.out n (List.mem_of_getElem? hn)
        have HNI := Lib.hid hn; clear hn
        obtain ⟨G, rfl⟩ : ∃ G : Nat, G = gk := ⟨_, rfl⟩
        obtain ⟨wo, rfl⟩ : ∃ wo : World, wo = wr := ⟨_, rfl⟩
        go_wp2_with fail
        go_loopg [13] n (fun g v wr => CiRel w3.heap.size w3 w4.heap.size Pw Pk Pn (.slice A1 n1 c1) (.slice A2 n2 c2) (.slice A3 n3 c3) ns n g v wr)
        case atStart => exact ⟨0, by omega, rfl, HX⟩
        case round =>
          obtain ⟨j, hj, rfl, HI⟩ := hrel
          clear y0 y1 y2 y3 y4 y5
          obtain ⟨y0, y1, y2, y3, y4, y5, _⟩ := six HI.out.box
          obtain ⟨b, X, cx, rfl, hr, hms⟩ := HI.out.out.row HNI.out
          have hrb := block_lt_of_cell hr
          by_cases hjn : j < n
          · obtain ⟨g, cs, rfl, hBg, hg⟩ := mess_bt hms (by omega)
            obtain ⟨g', u, e1, hc, hf⟩ := hms.cell hjn 1 (by omega)
            cases e1
            have hst := HI.out.store hBg hg (j * 3 + 1) (.int .i64 (-9))
            have HST := Lib.hid hst; clear hst hms hg
            go_wp2
            go_roundg (gk - 1)
            case measure => omega
            case rel => exact ⟨j + 1, by omega, by go_num, HST⟩
          · clear hms
            go_wp2
            go_roundg (G - 1)
            case measure => omega
            case rel => exact ⟨i + 1, by rw [HNL.out]; omega, by go_num, HI⟩
      · have HB9 := Lib.hid HX.out.bel
        have HG9 := Lib.hid (HG3.out.below HB9.out)
        have HK9 := Lib.hid (HK3.out.below HB9.out)
        have HZ9 := Lib.hid (HZ3.out.trans (HB9.out.mono HZ3.out.size))
        obtain ⟨K, ck, rfl, hke, _, _⟩ := HK9.out.form
        have HC := Lib.hid (rsame_edges K A ck c L L wr hke HG9.out.2 (by omega) (by omega))
        rw [show decide (L = L) = true by simp] at HC
        clear hke y0 y1 y2 y3 y4 y5
        obtain ⟨y0, y1, y2, y3, y4, y5, _⟩ := six HX.out.box
        obtain ⟨k0, k1, hk⟩ := Bx.cells HG9.out.1
        go_wp2_with fail
        refine HC.out.mono ?_
        rintro e w10 ⟨rfl, hb10⟩
        have HZ10 := Lib.hid (HZ9.out.trans (hb10.mono HZ9.out.size))
        clear hb10 HC
        go_wp2_with fail
        refine (works_any w10).mono ?_
        rintro e w11 ⟨rfl, HB⟩
        have HZ11 := Lib.hid (HZ10.out.trans (HB.out.mono HZ10.out.size))
        clear HB
        go_wp2
        go_ret
        exact ⟨rfl, HZ11.out⟩

end Go.Proofs.Ytjcgejbggmpikaa.Pt
