/-
  What is proved here: the law InboxOrder returns true. Conditions: vertices fit an int; lengths fit an int; the messages' slice has room for what it holds.
-/
import Derived.Test.YtgkmmjlhphinhaaInL3b
namespace Go.Proofs.Ytgkmmjlhphinhaa.In
open Go.RowKit Go.Maps Gr Wd Ws Fx Rk Lb Al

def OrRel (w : World) (n : Nat) (gk : Nat) (i : Value) (wr : World) : Prop :=
  ∃ q : Nat, q + gk = n ∧ i = .int .i64 (q : Int) ∧ Hid (Below w.heap.size w wr)
def BkRel (w0 : World) (L : List Ms) (n : Nat) (gk : Nat) (v i : Value) (wr : World) : Prop :=
  ∃ q : Nat, q + gk = n ∧ i = .int .i64 ((n : Int) - 1 - (q : Int)) ∧ Hid (MOwn wr w0.heap.size v (L.reverse.take q)) ∧ Hid (Below w0.heap.size w0 wr)
theorem rev_next {L : List Ms} {n q : Nat} {e : Ms} (hn : L.length = n) (hq : q < n) (h : L[n - 1 - q]? = some e) : L.reverse.take (q + 1) = L.reverse.take q ++ [e] := by
  subst hn
  refine take_at ?_
  rw [List.getElem?_reverse hq]; exact h
theorem pick_at (i : Int) (n : Nat) (hn : n ≤ 100000) (w : World) : ∃ v : Nat, v ≤ n ∧ Calls Try.prog 18 #[.int .i64 i, .int .i64 ((n : Int) + 1)] w fun e w' => e = .returned (.int .i64 (v : Int)) ∧ w = w' := by
  obtain ⟨v, hv, hc⟩ := pick_any i (n + 1) (by omega) (by omega) w
  refine ⟨v, by omega, ?_⟩
  rwa [show ((n + 1 : Nat) : Int) = (n : Int) + 1 by omega] at hc

def SoRel (w0 : World) (L : List Ms) (n : Nat) (gk : Nat) (v i : Value) (wr : World) : Prop :=
  ∃ q : Nat, q + gk = n ∧ i = .int .i64 (q : Int) ∧ Hid (MOwn wr w0.heap.size v (someM (L.take q))) ∧ Hid (Below w0.heap.size w0 wr)
attribute [local irreducible] Calls in
set_option maxRecDepth 100000 in
set_option maxHeartbeats 16000000 in
theorem law_order (k st so dm ep : Int) (Ao A : Option Addr) (no co n c : Nat) (own : List Int) (L : List Ms) (cut turn z : Int) (w : World) (hO : Hid (IAt w Ao own)) (hno : Hid (own.length = no)) (hL : Hid (MAt w A L)) (hln : Hid (L.length = n)) (hT : Hid (ToIn L)) (hOI : Hid (OwnIn own)) (hc : Hid (n ≤ c))
    (hno2 : no ≤ 9223372036854775807) (hn2 : n ≤ 9223372036854775807) (hcut : -9223372036854775808 ≤ cut ∧ cut ≤ 9223372036854775807) (hturn : -9223372036854775808 ≤ turn ∧ turn ≤ 9223372036854775807) (hz : 0 ≤ z ∧ z ≤ 255) :
    Calls Try.prog 6 #[.agg #[.int .u8 k, .int .i64 st, .int .i64 so, .int .i64 dm, .int .i64 ep], .slice Ao no co, .slice A n c, .int .i64 cut, .int .i64 turn, .int .u8 z] w fun e w' => e = .returned (.bool true) ∧ Hid (Below w.heap.size w w') := by
  have mixed := mixedI
  obtain ⟨hcut0, hcut1⟩ := hcut
  obtain ⟨hturn0, hturn1⟩ := hturn
  obtain ⟨hz0, hz1⟩ := hz
  obtain ⟨W1, hW1⟩ : ∃ W1, W1 = w.alloc (.cells #[.int .u8 k, .int .i64 st, .int .i64 so, .int .i64 dm, .int .i64 ep] 23) := ⟨_, rfl⟩
  have x0 : W1.heap[w.heap.size]? = some (.cells #[.int .u8 k, .int .i64 st, .int .i64 so, .int .i64 dm, .int .i64 ep] 23 (0, 0)) := by rw [hW1]; exact heap_alloc_new w _
  have hb1 : Below w.heap.size w W1 := by rw [hW1]; exact (Below.refl _ w).alloc (Nat.le_refl _) _
  have HB1 := Lib.hid hb1; have HX1 := Lib.hid x0
  obtain ⟨b, eb⟩ : ∃ b, b = w.heap.size := ⟨_, rfl⟩
  rw [← eb] at HX1
  clear x0 hb1
  have HC := Lib.hid (works_any W1)
  by_cases h1 : 60 < no
  · go_enter Try.func6, Try.ntmps6
    go_upto_region 1 with fail
    rw [← hW1, ← eb]
    clear hW1 eb
    go_wp2_with fail
    refine (HC.out).mono ?_
    rintro e w2 ⟨rfl, hb2⟩
    go_wp2
    go_ret
    exact ⟨rfl, Lib.hid (step_below HB1.out HB1.out.size hb2.out)⟩
  by_cases h2 : 100 < n
  · go_enter Try.func6, Try.ntmps6
    go_upto_region 1 with fail
    rw [← hW1, ← eb]
    clear hW1 eb
    go_wp2_with fail
    refine (HC.out).mono ?_
    rintro e w2 ⟨rfl, hb2⟩
    go_wp2
    go_ret
    exact ⟨rfl, Lib.hid (step_below HB1.out HB1.out.size hb2.out)⟩
  clear HC
  go_enter Try.func6, Try.ntmps6
  go_upto_region 1 with fail
  rw [← hW1, ← eb]
  clear hW1 eb
  go_wp2_with fail
  go_loopg [13] n (fun gk i wr => OrRel W1 n gk i wr)
  case atStart => exact ⟨0, by omega, rfl, Lib.hid (Below.refl _ _)⟩
  case round =>
    obtain ⟨q, hq, rfl, HB⟩ := hrel
    have HBr := Lib.hid (step_below HB1.out HB1.out.size HB.out)
    by_cases hlt : q < n
    · obtain ⟨⟨t, y⟩, he⟩ := at_lt L q (by rw [hln.out]; exact hlt)
      obtain ⟨bk, o, rfl, c0, c1⟩ := (hL.out.below HBr.out) q _ he
      simp only at c0 c1
      clear he
      by_cases hy : y < 0
      · have HC := Lib.hid (works_any wr)
        go_wp2_with fail
        refine (HC.out).mono ?_
        rintro e w2 ⟨rfl, hb2⟩
        go_wp2
        go_ret
        exact ⟨rfl, Lib.hid (step_below HBr.out HBr.out.size hb2.out)⟩
      · go_wp2
        go_roundg (gk - 1)
        case measure => omega
        case rel => exact ⟨q + 1, by omega, by go_num, HB⟩
    · have HXr := Lib.hid (keep HX1.out HB.out)
      clear HB hq
      obtain ⟨j0, j1, j2, j3, j4, _⟩ := jb_cells HXr.out
      obtain ⟨X, hX⟩ : ∃ X, mergeM k own [L] = X := ⟨_, rfl⟩
      have HX := Lib.hid hX
      have HXl : Hid (X.length = no) := Lib.hid (by rw [← hX, mergeM_len]; exact hno.out)
      have hfl : ([L] : List (List Ms)).flatten = L := by simp
      have HMg := Lib.hid (mg_lit k st so dm ep Ao no co 1 own [.slice A n c] [L] X wr (hO.out.below HBr.out) hno.out (RV.cons hln.out (hL.out.below HBr.out) (RV.nil wr)) rfl (by rw [hfl]; exact hT.out) hOI.out (by omega) (by omega) (by rw [hfl]; have := hln.out; omega) hX wr (Lib.hid (Below.refl _ wr)))
      clear hX hfl
      go_wp2_with fail
      refine (HMg.out).mono ?_
      rintro e w2 ⟨Aw, cw, rfl, HKw, hb2⟩
      have HB2 := Lib.hid (step_below HBr.out HBr.out.size hb2.out)
      have HX2 := Lib.hid (keep HXr.out hb2.out)
      clear HMg hb2 j0 j1 j2 j3 j4 HXr HBr
      -- where it is cut, and turned
      obtain ⟨kk, hkk, hpk⟩ := pick_at cut n (by omega) w2
      have HPk := Lib.hid hpk
      clear hpk
      go_wp2_with fail
      refine (HPk.out).mono ?_
      rintro e w2' ⟨rfl, rfl⟩
      obtain ⟨tt, htt, hpt⟩ := pick_at turn n (by omega) w2
      have HPt := Lib.hid hpt
      clear hpt HPk
      go_wp2_with fail
      refine (HPt.out).mono ?_
      rintro e w2' ⟨rfl, rfl⟩
      clear HPt
      obtain ⟨nt, hnt⟩ : ∃ nt, n - tt = nt := ⟨_, rfl⟩
      obtain ⟨A3, c3, hc3, hs3, ha3⟩ := cut_hi A n c tt htt hc.out
      obtain ⟨A4, c4, hc4, hs4, ha4⟩ := cut_lo A n c tt htt hc.out
      rw [hnt] at hs3
      have hd3 := ha3 w2 L hln.out (hL.out.below HB2.out)
      have HD3 := Lib.hid hd3
      have hlD : (L.drop tt).length = nt := by rw [List.length_drop, hln.out]; exact hnt
      have hlT : (L.take tt).length = tt := by rw [List.length_take, hln.out]; omega
      have HLD := Lib.hid hlD; have HLT := Lib.hid hlT
      have HLM0 : Hid (([] : List Ms).length + nt < 1000000000) := Lib.hid (by simp; omega)
      have HA4 := Lib.hid ha4
      clear hd3 hlD hlT ha3 ha4 hc3 hc4
      go_wp2_with (at_builtin; refine app_mrest rfl (.tmp 60) (.tmp 63) rfl w2.heap.size _ [] (L.drop tt) rfl (MOwn.none_ _ _) _ _ _ rfl HD3.out HLD.out HLM0.out (Nat.le_refl _) ?_)
      intro v3 w3 ho3 hg3
      have hb3 : Below w2.heap.size w2 w3 := ⟨hg3.os, hg3.tape, hg3.output, hg3.size, fun i hi => hg3.block i hi nofun⟩
      have HO3 : Hid (MOwn w3 w2.heap.size v3 (L.drop tt)) := Lib.hid ho3
      have HB3 := Lib.hid (step_below HB2.out HB2.out.size hb3)
      have HC3 := Lib.hid hb3
      have HT3 := Lib.hid (HA4.out w3 L (hL.out.below HB3.out))
      have HLM1 : Hid ((L.drop tt).length + tt < 1000000000) := Lib.hid (by rw [HLD.out]; omega)
      clear ho3 hg3 hb3 HD3 hs3 HLM0
      go_wp2_with (at_builtin; refine app_mrest rfl (.tmp 65) (.tmp 68) rfl w2.heap.size _ (L.drop tt) (L.take tt) rfl HO3.out _ _ _ rfl HT3.out HLT.out HLM1.out HC3.out.size ?_)
      intro v4 w4 ho4 hg4
      have hb4 : Below w2.heap.size w2 w4 := grown_own HC3.out HC3.out.size HO3.out hg4
      have HB4 := Lib.hid (step_below HB2.out HB2.out.size hb4)
      obtain ⟨At, ct, hv4, hmt⟩ := ms_at ho4
      have hlt4 : (L.drop tt ++ L.take tt).length = n := by rw [List.length_append, HLD.out, HLT.out]; omega
      rw [hlt4] at hv4
      subst hv4
      have HMT := Lib.hid hmt; have HLTT := Lib.hid hlt4
      have HK4 := Lib.hid (HKw.out.below hb4)
      have HX4 := Lib.hid (keep HX2.out hb4)
      clear ho4 hg4 hb4 hmt hlt4 HO3 HT3 hs4 HC3 HB3 HLM1 HKw HX2 HB2 HA4
      -- back
      go_wp2_with fail
      go_loopg [18, 19] n (fun gk v i wr => BkRel w4 L n gk v i wr)
      case atStart => exact ⟨0, by omega, by go_num, Lib.hid (MOwn.none_ _ _), Lib.hid (Below.refl _ _)⟩
      case round =>
        obtain ⟨p, hp, hi, HO, HD⟩ := hrel
        have HBd := Lib.hid (step_below HB4.out HB4.out.size HD.out)
        by_cases hlt3 : p < n
        · obtain ⟨i, hi2⟩ : ∃ i : Nat, n - 1 - p = i := ⟨_, rfl⟩
          have hi3 : (n : Int) - 1 - (p : Int) = (i : Int) := by omega
          rw [hi3] at hi
          subst hi
          obtain ⟨⟨t, y⟩, he⟩ := at_lt L i (by rw [hln.out]; omega)
          obtain ⟨bk, o, rfl, c0, c1⟩ := (hL.out.below HBd.out) i _ he
          simp only at c0 c1
          have HNX : Hid (L.reverse.take p ++ [(t, y)] = L.reverse.take (p + 1)) := Lib.hid (rev_next hln.out hlt3 (by rw [hi2]; exact he)).symm
          have HI := Lib.hid hi3
          have hii : i < n := by omega
          have HN1 := Lib.hid (mb_alloc wr t y)
          have HO1 := Lib.hid (HO.out.alloc (.cells #[.int .i64 t, .int .i64 y] 29))
          have hb1 : Below wr.heap.size wr (wr.alloc (.cells #[.int .i64 t, .int .i64 y] 29)) := (Below.refl _ wr).alloc (Nat.le_refl _) _
          have HD1 := Lib.hid (step_below HD.out HD.out.size hb1)
          have HSL : Hid ((L.reverse.take p).length < 1000000000) := Lib.hid (by rw [List.length_take, List.length_reverse]; have := hln.out; omega)
          clear he hi2 hi3 hb1
          go_wp2_with (at_builtin; refine app_m rfl (.tmp 77) (.tmp 82) rfl w4.heap.size _ _ t y rfl HO1.out _ rfl HN1.out HSL.out HD1.out.size ?_)
          intro v2 w2' ho2 hg2
          have HD2 := Lib.hid (grown_own HD1.out HD1.out.size HO1.out hg2)
          have HO2 : Hid (MOwn w2' w4.heap.size v2 (L.reverse.take (p + 1))) := Lib.hid (by rw [← HNX.out]; exact ho2)
          clear ho2 hg2 HO1 HD1 HN1 HO HD HSL c0 c1
          go_wp2
          go_roundg (gk - 1)
          case measure => omega
          case rel => exact ⟨p + 1, by omega, by (have hpp := HI.out; go_num), HO2, HD2⟩
        · have hi4 : (n : Int) - 1 - (p : Int) = -1 := by omega
          rw [hi4] at hi
          subst hi
          have hO9 := HO.out
          rw [show p = n by omega, show L.reverse.take n = L.reverse from List.take_of_length_le (by rw [List.length_reverse, hln.out]; exact Nat.le_refl _)] at hO9
          obtain ⟨Ab, cb, hvb, hmb, hcb, _⟩ := hO9.room
          rw [List.length_reverse, hln.out] at hvb hcb
          subst hvb
          have HMB := Lib.hid hmb; have HCB := Lib.hid hcb
          have HLB : Hid (L.reverse.length = n) := Lib.hid (by rw [List.length_reverse]; exact hln.out)
          have HX5 := Lib.hid (keep HX4.out HD.out)
          have HK5 := Lib.hid (HK4.out.below HD.out)
          have HMT5 := Lib.hid (HMT.out.below HD.out)
          clear hO9 hmb hcb hp hlt3 hi4 HO HD HB4 HX4 HK4 HMT
          -- the first four
          obtain ⟨nk, hnk⟩ : ∃ nk, n - kk = nk := ⟨_, rfl⟩
          obtain ⟨A1, c1, _, hs1, ha1⟩ := cut_lo A n c kk hkk hc.out
          obtain ⟨A2, c2, _, hs2, ha2⟩ := cut_hi A n c kk hkk hc.out
          rw [hnk] at hs2
          have HNK := Lib.hid hnk
          have hml := hL.out.below HBd.out
          have hm1 := ha1 wr L hml
          have hm2 := ha2 wr L hln.out hml
          have hl1 : (L.take kk).length = kk := by rw [List.length_take, hln.out]; omega
          have hl2 : (L.drop kk).length = nk := by rw [List.length_drop, hln.out]; exact hnk
          have hO5 := hO.out.below HBd.out
          have hsz : L.length < 1000000000 := by have := hln.out; omega
          have HM1 := mg_good k st so dm ep Ao no co 2 own [.slice A1 kk c1, .slice A2 nk c2] [L.take kk, L.drop kk] X wr hO5 hno.out (RV.cons hl1 hm1 (RV.cons hl2 hm2 (RV.nil _))) rfl (by simpa using hT.out) hOI.out (by omega) (by omega) (by simpa using hsz) (by rw [order_cut]; exact HX.out)
          have HM2 := mg_good k st so dm ep Ao no co 3 own [.slice A2 nk c2, .slice none 0 0, .slice A1 kk c1] [L.drop kk, [], L.take kk] X wr hO5 hno.out (RV.cons hl2 hm2 (RV.cons (L := []) rfl (MAt.nil _ _) (RV.cons hl1 hm1 (RV.nil _)))) rfl (by
            intro e he
            refine hT.out e ?_
            simp only [List.flatten_cons, List.flatten_nil, List.append_nil, List.nil_append, List.mem_append] at he
            rcases he with he | he
            · exact List.mem_of_mem_drop he
            · exact List.mem_of_mem_take he) hOI.out (by omega) (by omega) (by simp only [List.flatten_cons, List.flatten_nil, List.append_nil, List.nil_append, List.length_append, hl1, hl2]; omega) (by rw [order_turned]; exact HX.out)
          have HM3 := mg_good k st so dm ep Ao no co 1 own [.slice At n ct] [L.drop tt ++ L.take tt] X wr hO5 hno.out (RV.cons HLTT.out HMT5.out (RV.nil _)) rfl (by
            intro e he
            refine hT.out e ?_
            simp only [List.flatten_cons, List.flatten_nil, List.append_nil, List.mem_append] at he
            rcases he with he | he
            · exact List.mem_of_mem_drop he
            · exact List.mem_of_mem_take he) hOI.out (by omega) (by omega) (by simp only [List.flatten_cons, List.flatten_nil, List.append_nil]; rw [HLTT.out]; omega) (by rw [order_turn]; exact HX.out)
          have HM4 := mg_good k st so dm ep Ao no co 1 own [.slice Ab n cb] [L.reverse] X wr hO5 hno.out (RV.cons HLB.out HMB.out (RV.nil _)) rfl (by
            intro e he
            refine hT.out e ?_
            simpa using he) hOI.out (by omega) (by omega) (by simp only [List.flatten_cons, List.flatten_nil, List.append_nil]; rw [HLB.out]; omega) (by rw [order_back]; exact HX.out)
          have HSm := sm_good Aw no cw X wr HK5.out HXl.out (by omega)
          have HG0 : Hid (Below wr.heap.size wr wr.drew) := Lib.hid ((Below.refl _ wr).drew)
          obtain ⟨j0, j1, j2, j3, j4, j5⟩ := jb_cells HX5.out
          have HM1s : Hid (Calls Try.prog 14 #[.agg #[.int .u8 k, .int .i64 st, .int .i64 so, .int .i64 dm, .int .i64 ep], .slice Ao no co, .slice (some ⟨wr.heap.size, 0, none⟩) 2 2] (wr.alloc (.cells #[.slice A1 kk c1, .slice A2 nk c2] 24)).drew fun e w' => ∃ A c, e = .returned (.slice A no c) ∧ Hid (KAt w' A X) ∧ Hid (Below wr.heap.size wr w')) := Lib.hid (HM1.out wr.drew HG0)
          clear hml hm1 hm2 hl1 hl2 hO5 hsz hnk HM1
          go_wp2_with fail
          go_cut [131] from 84 to 131 (fun x W => x = .bool false ∧ Hid (Below wr.heap.size wr W))
          case first =>
            go_region_held3 (fun w' => w'.cell? ⟨b, 0, none⟩ = some (.int .u8 k) ∧ w'.cell? ⟨b, 1, none⟩ = some (.int .i64 st) ∧ w'.cell? ⟨b, 2, none⟩ = some (.int .i64 so) ∧ w'.cell? ⟨b, 3, none⟩ = some (.int .i64 dm) ∧ w'.cell? ⟨b, 4, none⟩ = some (.int .i64 ep)) (go_keep) (first
              | (go_at_call 14; refine (HM1s.out).mono ?_; rintro e w9 ⟨A9, c9, rfl, HK9, HG9⟩; obtain ⟨g0, g1, g2, g3, g4, g5⟩ := jb_cells (keep HX5.out HG9.out))
              | (go_at_call 14; refine (HM2.out _ ?_).mono ?_; assumption; rintro e w9 ⟨A9, c9, rfl, HK9, HG9⟩; obtain ⟨g0, g1, g2, g3, g4, g5⟩ := jb_cells (keep HX5.out HG9.out))
              | (go_at_call 14; refine (HM3.out _ ?_).mono ?_; assumption; rintro e w9 ⟨A9, c9, rfl, HK9, HG9⟩; obtain ⟨g0, g1, g2, g3, g4, g5⟩ := jb_cells (keep HX5.out HG9.out))
              | (go_at_call 14; refine (HM4.out _ ?_).mono ?_; assumption; rintro e w9 ⟨A9, c9, rfl, HK9, HG9⟩; obtain ⟨g0, g1, g2, g3, g4, g5⟩ := jb_cells (keep HX5.out HG9.out))
              | (go_at_call 17; refine (HSm.out _ _ _ ?_ ?_).mono ?_; assumption; assumption; rintro e w8 ⟨rfl, HG8⟩; obtain ⟨g0, g1, g2, g3, g4, g5⟩ := jb_cells (keep HX5.out HG8.out)))
            all_goals
              go_wp2_with fail
              go_meet
              exact ⟨rfl, HG8⟩
          case rest =>
            clear HM1s HM2 HM3 HM4 HG0 j0 j1 j2 j3 j4 j5 HMT5 HLTT
            obtain ⟨rfl, hbc⟩ := hcut
            have HXc := Lib.hid (keep HX5.out hbc.out)
            have HKc := Lib.hid (HK5.out.below hbc.out)
            have HBc := Lib.hid (step_below HBd.out HBd.out.size hbc.out)
            have HMBc := Lib.hid (HMB.out.below hbc.out)
            clear hbc HX5 HK5 HBd HMB HSm
            -- folded ahead
            obtain ⟨B1, d1, _, hs3, hb1⟩ := cut_lo Ab n cb kk hkk HCB.out
            obtain ⟨B2, d2, _, hs4, hb2⟩ := cut_hi Ab n cb kk hkk HCB.out
            have hnk : n - kk = nk := HNK.out
            rw [hnk] at hs4
            have hm1 := hb1 wc _ HMBc.out
            have hm2 := hb2 wc _ HLB.out HMBc.out
            have hTb : ToIn L.reverse := fun e he => hT.out e (by simpa using he)
            have hl1 : (L.reverse.take kk).length = kk := by rw [List.length_take, HLB.out]; omega
            have hl2 : (L.reverse.drop kk).length = nk := by rw [List.length_drop, HLB.out]; exact hnk
            have hT1 : ToIn (L.reverse.take kk) := fun e he => hTb e (List.mem_of_mem_take he)
            have hT2 : ToIn (L.reverse.drop kk) := fun e he => hTb e (List.mem_of_mem_drop he)
            obtain ⟨F0, hF0⟩ : ∃ F, putM k [] L = F := ⟨_, rfl⟩
            obtain ⟨F1, hF1⟩ : ∃ F, putM k [] (L.reverse.take kk) = F := ⟨_, rfl⟩
            obtain ⟨F2, hF2⟩ : ∃ F, putM k [] (L.reverse.drop kk) = F := ⟨_, rfl⟩
            obtain ⟨m0, hm0⟩ : ∃ m, F0.length = m := ⟨_, rfl⟩
            obtain ⟨m1, hm1'⟩ : ∃ m, F1.length = m := ⟨_, rfl⟩
            obtain ⟨m2, hm2'⟩ : ∃ m, F2.length = m := ⟨_, rfl⟩
            have q0 : m0 < 1000000 := by have := putM_len k L []; rw [hF0, hm0] at this; simp only [List.length_nil] at this; have := hln.out; omega
            have q1 : m1 < 1000000 := by have := putM_len k (L.reverse.take kk) []; rw [hF1, hm1', hl1] at this; simp only [List.length_nil] at this; omega
            have q2 : m2 < 1000000 := by have := putM_len k (L.reverse.drop kk) []; rw [hF2, hm2', hl2] at this; simp only [List.length_nil] at this; omega
            have HF0 := fold_good k st so dm ep A n c m0 L F0 wc (hL.out.below HBc.out) hln.out hT.out (by omega) hF0 hm0
            have HF1 := fold_good k st so dm ep B1 kk d1 m1 _ F1 wc hm1 hl1 hT1 (by omega) hF1 hm1'
            have HF2 := fold_good k st so dm ep B2 nk d2 m2 _ F2 wc hm2 hl2 hT2 (by omega) hF2 hm2'
            have HG1 := mg_fold1 k st so dm ep Ao no co m0 own F0 X wc (hO.out.below HBc.out) hno.out hm0 (by rw [← hF0]; exact fold_to hT.out) hOI.out (by omega) q0 (by rw [← hF0, order_fold]; exact HX.out)
            have HG2 := mg_fold2 k st so dm ep Ao no co m1 m2 own F1 F2 X wc (hO.out.below HBc.out) hno.out hm1' hm2' (by rw [← hF1]; exact fold_to hT1) (by rw [← hF2]; exact fold_to hT2) hOI.out (by omega) q1 q2 (by rw [← hF1, ← hF2, order_folds]; exact HX.out)
            have HSm := sm_good Aw no cw X wc HKc.out HXl.out (by omega)
            have HG0 : Hid (Below wc.heap.size wc wc.drew) := Lib.hid ((Below.refl _ wc).drew)
            obtain ⟨j0, j1, j2, j3, j4, j5⟩ := jb_cells HXc.out
            clear hb1 hb2 hnk hm1 hm2 hTb hl1 hl2 hT1 hT2 hF0 hF1 hF2 hm0 hm1' hm2' q0 q1 q2
            go_wp2_with fail
            go_cut [160] from 132 to 160 (fun x W => x = .bool false ∧ Hid (Below wc.heap.size wc W))
            case first =>
              go_region_held3 (fun w' => w'.cell? ⟨b, 0, none⟩ = some (.int .u8 k) ∧ w'.cell? ⟨b, 1, none⟩ = some (.int .i64 st) ∧ w'.cell? ⟨b, 2, none⟩ = some (.int .i64 so) ∧ w'.cell? ⟨b, 3, none⟩ = some (.int .i64 dm) ∧ w'.cell? ⟨b, 4, none⟩ = some (.int .i64 ep)) (go_keep) (first
                | (go_at_call 9; refine (HF0.out _ ?_).mono ?_; assumption; rintro e w90 ⟨A90, c90, rfl, HK90, HG90, HB90⟩; obtain ⟨g0, g1, g2, g3, g4, g5⟩ := jb_cells (keep HXc.out HG90.out))
                | (go_at_call 9; refine (HF1.out _ ?_).mono ?_; assumption; rintro e w91 ⟨A91, c91, rfl, HK91, HG91, HB91⟩; have HK92' := Lib.hid (HK92.out.below HB91.out); obtain ⟨g0, g1, g2, g3, g4, g5⟩ := jb_cells (keep HXc.out HG91.out))
                | (go_at_call 9; refine (HF1.out _ ?_).mono ?_; assumption; rintro e w91 ⟨A91, c91, rfl, HK91, HG91, HB91⟩; obtain ⟨g0, g1, g2, g3, g4, g5⟩ := jb_cells (keep HXc.out HG91.out))
                | (go_at_call 9; refine (HF2.out _ ?_).mono ?_; assumption; rintro e w92 ⟨A92, c92, rfl, HK92, HG92, HB92⟩; have HK91' := Lib.hid (HK91.out.below HB92.out); obtain ⟨g0, g1, g2, g3, g4, g5⟩ := jb_cells (keep HXc.out HG92.out))
                | (go_at_call 9; refine (HF2.out _ ?_).mono ?_; assumption; rintro e w92 ⟨A92, c92, rfl, HK92, HG92, HB92⟩; obtain ⟨g0, g1, g2, g3, g4, g5⟩ := jb_cells (keep HXc.out HG92.out))
                | (go_at_call 14; refine (HG1.out _ _ _ ?_ ?_).mono ?_; assumption; assumption; rintro e w9 ⟨A9, c9, rfl, HK9, HG9⟩; obtain ⟨g0, g1, g2, g3, g4, g5⟩ := jb_cells (keep HXc.out HG9.out))
                | (go_at_call 14; refine (HG2.out _ _ _ _ _ ?_ ?_ ?_).mono ?_; assumption; assumption; assumption; rintro e w9 ⟨A9, c9, rfl, HK9, HG9⟩; obtain ⟨g0, g1, g2, g3, g4, g5⟩ := jb_cells (keep HXc.out HG9.out))
                | (go_at_call 17; refine (HSm.out _ _ _ ?_ ?_).mono ?_; assumption; assumption; rintro e w8 ⟨rfl, HG8⟩; obtain ⟨g0, g1, g2, g3, g4, g5⟩ := jb_cells (keep HXc.out HG8.out)))
              all_goals
                go_wp2_with fail
                go_meet
                exact ⟨rfl, HG8⟩
            case rest =>
              obtain ⟨rfl, hbd⟩ := hcut
              have HXd := Lib.hid (keep HXc.out hbd.out)
              have HBd := Lib.hid (step_below HBc.out HBc.out.size hbd.out)
              clear hbd HXc HKc HBc HMBc HF0 HF1 HF2 HG1 HG2 HSm HG0 j0 j1 j2 j3 j4 j5 hs1 hs2 hs3 hs4
              -- those that go to some vertex
              go_wp2_with fail
              go_loopg [20, 21] n (fun gk v i wr => SoRel wc L n gk v i wr)
              case atStart => exact ⟨0, by omega, rfl, Lib.hid (MOwn.none_ _ _), Lib.hid (Below.refl _ _)⟩
              case round =>
                obtain ⟨p, hp, rfl, HO, HD⟩ := hrel
                have HBr := Lib.hid (step_below HBd.out HBd.out.size HD.out)
                by_cases hlt5 : p < n
                · obtain ⟨⟨t, y⟩, he⟩ := at_lt L p (by rw [hln.out]; exact hlt5)
                  obtain ⟨bk, o, rfl, c0, c1⟩ := (hL.out.below HBr.out) p _ he
                  simp only at c0 c1
                  have HNX := Lib.hid (someM_next he)
                  clear he
                  by_cases ht0 : 0 ≤ t
                  · by_cases ht1 : t < 512
                    · have HNY : Hid (someM (L.take p) ++ [(t, y)] = someM (L.take (p + 1))) := Lib.hid (by rw [HNX.out, if_pos ⟨ht0, ht1⟩])
                      have HN1 := Lib.hid (mb_alloc wr t y)
                      have HO1 := Lib.hid (HO.out.alloc (.cells #[.int .i64 t, .int .i64 y] 29))
                      have hb1 : Below wr.heap.size wr (wr.alloc (.cells #[.int .i64 t, .int .i64 y] 29)) := (Below.refl _ wr).alloc (Nat.le_refl _) _
                      have HD1 := Lib.hid (step_below HD.out HD.out.size hb1)
                      have HSL : Hid ((someM (L.take p)).length < 1000000000) := Lib.hid (by have := someM_len (L.take p); rw [List.length_take] at this; omega)
                      clear hb1
                      go_wp2_with (at_builtin; refine app_m rfl (.tmp 181) (.tmp 186) rfl wc.heap.size _ _ t y rfl HO1.out _ rfl HN1.out HSL.out HD1.out.size ?_)
                      intro v2 w2' ho2 hg2
                      have HD2 := Lib.hid (grown_own HD1.out HD1.out.size HO1.out hg2)
                      have HO2 : Hid (MOwn w2' wc.heap.size v2 (someM (L.take (p + 1)))) := Lib.hid (by rw [← HNY.out]; exact ho2)
                      clear ho2 hg2 HO1 HD1 HN1 HO HD HSL c0 c1
                      go_wp2
                      go_roundg (gk - 1)
                      case measure => omega
                      case rel => exact ⟨p + 1, by omega, by go_num, HO2, HD2⟩
                    · have HO2 : Hid (MOwn wr wc.heap.size u20 (someM (L.take (p + 1)))) := Lib.hid (by rw [HNX.out, if_neg (fun h => ht1 h.2)]; exact HO.out)
                      go_wp2
                      go_roundg (gk - 1)
                      case measure => omega
                      case rel => exact ⟨p + 1, by omega, by go_num, HO2, HD⟩
                  · have HO2 : Hid (MOwn wr wc.heap.size u20 (someM (L.take (p + 1)))) := Lib.hid (by rw [HNX.out, if_neg (fun h => ht0 h.1)]; exact HO.out)
                    go_wp2
                    go_roundg (gk - 1)
                    case measure => omega
                    case rel => exact ⟨p + 1, by omega, by go_num, HO2, HD⟩
                · have hO9 := HO.out
                  rw [show p = L.length by have := hln.out; omega, List.take_length] at hO9
                  obtain ⟨As, cs, hvs, hms⟩ := ms_at hO9
                  obtain ⟨ms, hms'⟩ : ∃ m, (someM L).length = m := ⟨_, rfl⟩
                  have hmsl : ms < 1000000 := by have := someM_len L; rw [hms'] at this; have := hln.out; omega
                  rw [hms'] at hvs
                  subst hvs
                  obtain ⟨r, hr, hr2⟩ : ∃ r : Nat, z.tmod 64 = (r : Int) ∧ r < 64 := ⟨(z.tmod 64).toNat, by rw [Int.tmod_eq_emod_of_nonneg hz0]; omega, by rw [Int.tmod_eq_emod_of_nonneg hz0]; omega⟩
                  have HXr := Lib.hid (keep HXd.out HD.out)
                  have HMS := Lib.hid hms; have HML := Lib.hid hms'
                  have HSp := Lib.hid (split_any A n c L (1 + (r : Int)) wr (hL.out.below HBr.out) hln.out (by omega))
                  clear hO9 hms hms' HO HD
                  go_wp2_with fail
                  refine (HSp.out).mono ?_
                  rintro e w6 ⟨v6, rfl, hs6, hb6⟩
                  have hsp : splitM L (1 + (r : Int)) = rowsW (r + 1) L (r + 1) := by
                    unfold splitM
                    rw [if_pos (by omega), show (1 + (r : Int)).toNat = r + 1 by omega]
                  rw [hsp] at hs6
                  obtain ⟨Ar, nr, cr, hv6, hnr, hrr⟩ := hs6.out
                  have hnr2 : nr = r + 1 := by rw [← hnr, rowsW_len]
                  subst hv6
                  have HX6 := Lib.hid (keep HXr.out hb6.out)
                  have HB6 := Lib.hid (step_below HBr.out HBr.out.size hb6.out)
                  have HMS6 := Lib.hid (HMS.out.below hb6.out)
                  obtain ⟨Y, hY⟩ : ∃ Y, mergeM k own [someM L] = Y := ⟨_, rfl⟩
                  have hYl : Y.length = no := by rw [← hY, mergeM_len]; exact hno.out
                  have hO6 := hO.out.below HB6.out
                  have HR1 := mg_row k st so dm ep Ao no co ms own As cs (someM L) Y w6 hO6 hno.out HMS6.out HML.out (someM_to hT.out) hOI.out (by omega) hmsl hY
                  have HR2 := mg_rows k st so dm ep Ao no co own Ar nr cr (rowsW (r + 1) L (r + 1)) Y w6 hO6 hno.out hrr hnr (fun e he => hT.out e (rowsW_mem he)) hOI.out (by omega) (by omega) (by
                    have := rowsW_flat (r + 1) (r + 1) L 100 (by have := hln.out; omega)
                    have : (r + 1) * 100 ≤ 64 * 100 := Nat.mul_le_mul_right _ (by omega)
                    omega) (by rw [order_split k own L (r + 1) ⟨by omega, by omega⟩]; exact hY)
                  have HS2 := sm_two no Y w6 hYl (by omega)
                  have HWk := wk_good w6
                  obtain ⟨j0, j1, j2, j3, j4, j5⟩ := jb_cells HX6.out
                  obtain ⟨Wa, hWa⟩ : ∃ Wa, Wa = (w6.alloc (.cells #[.slice As ms cs] 24)).drew := ⟨_, rfl⟩
                  have HGa : Hid (Below w6.heap.size w6 Wa) := Lib.hid (by rw [hWa]; exact ((Below.refl _ w6).alloc (Nat.le_refl _) _).drew)
                  have HCa : Hid (Wa.heap[w6.heap.size]? = some (.cells #[.slice As ms cs] 24 (0, 0))) := Lib.hid (by rw [hWa]; exact heap_alloc_new w6 _)
                  have HG0 : Hid (Below w6.heap.size w6 w6.drew) := Lib.hid ((Below.refl _ w6).drew)
                  rw [hWa] at HGa HCa
                  clear hWa HSp hs6 hb6 hsp hrr hnr hnr2 hY hYl hO6 HMS6 HMS HML HXr HBr HX HXl hr hr2 hmsl
                  go_wp2_with fail
                  go_region_held3 (fun w' => w'.cell? ⟨b, 0, none⟩ = some (.int .u8 k) ∧ w'.cell? ⟨b, 1, none⟩ = some (.int .i64 st) ∧ w'.cell? ⟨b, 2, none⟩ = some (.int .i64 so) ∧ w'.cell? ⟨b, 3, none⟩ = some (.int .i64 dm) ∧ w'.cell? ⟨b, 4, none⟩ = some (.int .i64 ep)) (go_keep) (first
                    | (go_at_call 14; refine (HR1.out _ _ (Lib.hid (HG7.out.alloc HG7.out.size _)) (Lib.hid (heap_alloc_new w7 _))).mono ?_; rintro e w8 ⟨A8, c8, rfl, HK8, HG8, HB8⟩; have HK7' := Lib.hid ((HK7.out.below ((Below.refl _ w7).alloc (Nat.le_refl _) _)).below HB8.out); obtain ⟨g0, g1, g2, g3, g4, g5⟩ := jb_cells (keep HX6.out HG8.out))
                    | (go_at_call 14; refine (HR1.out w7 _ HG7 HCb).mono ?_; rintro e w8 ⟨A8, c8, rfl, HK8, HG8, HB8⟩; have HK7' := Lib.hid (HK7.out.below HB8.out); obtain ⟨g0, g1, g2, g3, g4, g5⟩ := jb_cells (keep HX6.out HG8.out))
                    | (go_at_call 14; refine (HR1.out _ _ HGa HCa).mono ?_; rintro e w8 ⟨A8, c8, rfl, HK8, HG8, HB8⟩; obtain ⟨g0, g1, g2, g3, g4, g5⟩ := jb_cells (keep HX6.out HG8.out))
                    | (go_at_call 14; refine (HR2.out _ HG8).mono ?_; rintro e w7 ⟨A7, c7, rfl, HK7, HG7, HB7⟩; have HK8' := Lib.hid (HK8.out.below HB7.out); obtain ⟨g0, g1, g2, g3, g4, g5⟩ := jb_cells (keep HX6.out HG7.out))
                    | (go_at_call 14; refine (HR2.out _ HGa).mono ?_; rintro e w7 ⟨A7, c7, rfl, HK7, HG7, HB7⟩; have HCb := Lib.hid (keep HCa.out HB7.out); obtain ⟨g0, g1, g2, g3, g4, g5⟩ := jb_cells (keep HX6.out HG7.out))
                    | (go_at_call 14; refine (HR2.out _ HG0).mono ?_; rintro e w7 ⟨A7, c7, rfl, HK7, HG7, HB7⟩; obtain ⟨g0, g1, g2, g3, g4, g5⟩ := jb_cells (keep HX6.out HG7.out))
                    | (go_at_call 17; refine (HS2.out _ _ _ _ _ ?_ ?_ ?_).mono ?_; assumption; assumption; assumption; rintro e w9 ⟨rfl, HG9⟩; obtain ⟨g0, g1, g2, g3, g4, g5⟩ := jb_cells (keep HX6.out HG9.out))
                    | (go_at_call 8; refine (HWk.out _ ?_).mono ?_; assumption; rintro e w10 ⟨rfl, HG10⟩; obtain ⟨g0, g1, g2, g3, g4, g5⟩ := jb_cells (keep HX6.out HG10.out)))
                  all_goals
                    go_wp2
                    go_ret
                    exact ⟨rfl, Lib.hid (step_below HB6.out HB6.out.size HG10.out)⟩

end Go.Proofs.Ytgkmmjlhphinhaa.In
