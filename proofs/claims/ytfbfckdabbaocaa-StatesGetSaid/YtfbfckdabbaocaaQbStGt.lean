/-
  What is proved here: a contract of states.Get: the part of which these are the bytes, or none. Condition: at most 1000000 bytes.
-/
import Derived.Test.YtfbfckdabbaocaaQbStGtM
import Derived.ScopeJumps
import Derived.WalkMore
namespace Go.Proofs.Ytfbfckdabbaocaa.St
open Go.RowKit Gr Wd Ws Fx Rk Lb Al In
open Sq (BAt BOwn QOwn bls)
open Fld (dg num)
structure GtH (w wr : World) (b2 b5 r lo B : Nat) (st : Int) (M : List En) (rest : List Nat) (bad : Bool) : Prop where
  below : Below w.heap.size w wr
  rbox : wr.heap[b2]? = some (.cells #[.int .i64 0, .slice none 0 0, .slice none 0 0, .slice none 0 0, .slice none 0 0] 27 (0, 0))
  rd : Fd.Rd wr lo r rest bad
  bx : PBx 27 wr b5 B (ofE st M)
  size : B ≤ wr.heap.size
  ord : w.heap.size ≤ b2 ∧ b2 < lo ∧ lo ≤ r ∧ r < b5 ∧ b5 < B
section
variable {w wr w' : World} {b2 b5 r lo B : Nat} {st : Int} {M M' : List En} {rest rest' : List Nat} {bad bad' : Bool}
theorem GtH.read (h : GtH w wr b2 b5 r lo B st M rest bad) (hr : Fd.Rd w' lo r rest' bad') (hg : wr.grownBy w' (some r)) : GtH w w' b2 b5 r lo B st M rest' bad' :=
  ⟨Below.grown h.below hg h.below.size fun k e => by injection e with e; have := h.ord; omega, (hg.block b2 (lt_of_block h.rbox) fun e => by injection e with e; have := h.ord; omega).trans h.rbox, hr, h.bx.past hg (by have := h.ord; omega) (by have := h.ord; omega), Nat.le_trans h.size hg.size, h.ord⟩
theorem GtH.step (h : GtH w wr b2 b5 r lo B st M rest bad) (hb : Below wr.heap.size wr w') : GtH w w' b2 b5 r lo B st M rest bad :=
  ⟨step_below h.below h.below.size hb, keep h.rbox hb, h.rd.below hb, h.bx.below hb, Nat.le_trans h.size hb.size, h.ord⟩
theorem GtH.add (h : GtH w wr b2 b5 r lo B st M rest bad) {e : En} (ha : PBx 27 w' b5 B (addE (ofE st M) e) ∧ Below w.heap.size wr w' ∧ B ≤ w'.heap.size ∧ ∀ k, k < B → k ≠ b5 → w'.heap[k]? = wr.heap[k]?) (hM : addE (ofE st M) e = ofE st M') : GtH w w' b2 b5 r lo B st M' rest bad :=
  ⟨h.below.trans ha.2.1, (ha.2.2.2 b2 (by have := h.ord; omega) (by have := h.ord; omega)).trans h.rbox, h.rd.kept fun k h1 h2 => ha.2.2.2 k (by have := h.ord; omega) (by have := h.ord; omega), by rw [← hM]; exact ha.1, ha.2.2.1, h.ord⟩
theorem GtH.move (h : GtH w wr b2 b5 r lo B st M rest bad) (hk : ∀ k, k < wr.heap.size → k ≠ r → w'.heap[k]? = wr.heap[k]?) (hr : Fd.Rd w' lo r rest' bad') (hb : Below w.heap.size w w') (hs : wr.heap.size ≤ w'.heap.size) : GtH w w' b2 b5 r lo B st M rest' bad' := by
  have hrow : ∀ {e : TypeId} {s n : Nat} {v : Value} {xs : List Value}, wr.ownsRow B e s v n xs → w'.ownsRow B e s v n xs := fun hv => own_kept hv fun g _ _ he hc => hk g (lt_of_block hc) (by have := (own_lt hv g he).1; have := h.ord; omega)
  obtain ⟨vo, vv, vc, vi, h0, h1, h2, h3, h4⟩ := h.bx
  exact ⟨hb, (hk b2 (lt_of_block h.rbox) (by have := h.ord; omega)).trans h.rbox, hr, ⟨vo, vv, vc, vi, (hk b5 (lt_of_block h0) (by have := h.ord; omega)).trans h0, hrow h1, hrow h2, hrow h3, hrow h4⟩, Nat.le_trans h.size hs, h.ord⟩
end
def GtRel (w : World) (b2 b5 r lo B : Nat) (st : Int) (L : List Nat) (cn : Nat) (g : Nat) (i : Value) (wr : World) : Prop :=
  ∃ (k : Nat) (M : List En) (rest : List Nat) (bad : Bool), k + g = cn ∧ i = .int .u16 (k : Int) ∧ Hid (GtH w wr b2 b5 r lo B st M rest bad) ∧ Hid (GtP L k M rest bad) ∧ Hid (M.length ≤ k)
theorem wrap_wI (n : Nat) (h : n < 18446744073709551616) : wrap64 (n : Int) = wI (n : Int) := by
  unfold wI wrap64
  split <;> omega
theorem nrm_wm (v x y : Int) (c : Bool) : nrmE ⟨v, wI x, c, (true, wI y)⟩ = wrE ⟨v, x, c, (true, y)⟩ := rfl
def GtJ (w : World) (b2 : Nat) (L : List Nat) (a' : Act) (w' : World) : Prop := Hid (getP L = none ∧ Below w.heap.size w w' ∧ w'.heap[b2]? = some (.cells #[.int .i64 0, .slice none 0 0, .slice none 0 0, .slice none 0 0, .slice none 0 0] 27 (0, 0))) ∧
  ∃ u0 u1 u3 u4 u5 u6 u7 u8 u9 u10 u11 u12 u13 u14 u15 u16 u17 u18 u19 u20 u21 u22 u23 u24 u25 u26 u27 u28 u29 u30 u31 u32 u33 u34 u35 u36 u37 u38 u39 u40 u41 u42 u43 u44 u45 u46 u47 u48 u49 u50 u51 u52 u53 u54 u55 u56 u57 u58 u59 u60 u61 u62 u63 u64 u65 : Value, a' = { tmps := #[u0, u1, .pointer (some ⟨b2, 0, none⟩), u3, u4, u5, u6, u7, u8, u9, u10, u11, u12, u13, u14, u15, u16, u17, u18, u19, u20, u21, u22, u23, u24, u25, u26, u27, u28, u29, u30, u31, u32, u33, u34, u35, u36, u37, u38, u39, u40, u41, u42, u43, u44, u45, u46, u47, u48, u49, u50, u51, u52, u53, u54, u55, u56, u57, u58, u59, u60, u61, u62, u63, u64, u65], defers := [] }
set_option maxRecDepth 100000 in
set_option maxHeartbeats 16000000 in
theorem pget_any (A : Option Addr) (n c : Nat) (L : List Nat) (w : World) (hL : Fd.At w A L) (hn : L.length = n) (hm : n ≤ 1000000) :
    Calls Try.prog 16 #[.slice A n c] w fun e w' => ResP w w' e (getR L) := by
  have hbox := heap_alloc_new w (.cells #[.int .i64 0, .slice none 0 0, .slice none 0 0, .slice none 0 0, .slice none 0 0] 27)
  have hb1 : Below w.heap.size w (w.alloc (.cells #[.int .i64 0, .slice none 0 0, .slice none 0 0, .slice none 0 0, .slice none 0 0] 27)) := (Below.refl _ w).alloc (Nat.le_refl _) _
  obtain ⟨W1, hW1⟩ : ∃ W1, W1 = w.alloc (.cells #[.int .i64 0, .slice none 0 0, .slice none 0 0, .slice none 0 0, .slice none 0 0] 27) := ⟨_, rfl⟩
  obtain ⟨b2, e2⟩ : ∃ b2, b2 = w.heap.size := ⟨_, rfl⟩
  rw [← hW1] at hbox hb1
  rw [← e2] at hbox
  have hop := Fd.open_any A c L W1 (by omega) (hL.below hb1)
  rw [hn] at hop
  have HOP := Lib.hid hop
  have HB1 := Lib.hid hb1
  have HX1 := Lib.hid hbox
  have HG2 : Hid (w.heap.size ≤ b2 ∧ b2 < W1.heap.size) := Lib.hid ⟨by omega, lt_of_block hbox⟩
  have HSM := Lib.hid hL.small
  have HN := Lib.hid hn
  clear hop hb1 hbox hL hn
  go_enter Try.func16, Try.ntmps16
  go_wp2_with fail
  rw [← hW1, show w.heap.size = b2 from e2.symm]
  clear hW1 e2
  refine wp_scope_jumps 0 (GtJ w b2 L) (fun _ _ => 0) rfl ?_ ?_
  · go_wp2_with fail
    refine HOP.out.mono ?_
    rintro e w2 ⟨r, rfl, hrd, hb2, hlast⟩
    have HRD := Lib.hid hrd
    have HB2 := Lib.hid (step_below HB1.out HB1.out.size hb2)
    have HX2 := Lib.hid (keep HX1.out hb2)
    have HR2 : Hid (W1.heap.size ≤ r ∧ r + 1 = w2.heap.size) := Lib.hid ⟨hrd.1, hlast⟩
    clear hrd hb2 hlast HOP
    have HCw := Lib.hid (word_u W1.heap.size r L false w2 HRD.out)
    obtain ⟨sn, hsn⟩ : ∃ sn, rv 4 L = sn := ⟨_, rfl⟩
    have hsb : sn < 4294967296 := by rw [← hsn]; exact rv_lt HSM.out
    rw [hsn] at HCw
    have HSN := Lib.hid hsn
    clear hsn
    go_wp2_with fail
    refine HCw.out.mono ?_
    rintro e w3 ⟨rfl, hrd, hg3⟩
    have HB3 := Lib.hid (Below.grown HB2.out hg3 HB2.out.size fun k e => by injection e with e; have := HR2.out; have := HB1.out.size; omega)
    have HX3 := Lib.hid ((hg3.block b2 (lt_of_block HX2.out) fun e => by injection e with e; have := HR2.out; have := HG2.out; omega).trans HX2.out)
    have HS3 := Lib.hid hg3.size
    have HRD3 := Lib.hid hrd
    clear hrd hg3 HCw HRD
    go_upto_region 3 with fail
    have hx5 := heap_alloc_new w3 (.cells #[.int .i64 (sn : Int), .slice none 0 0, .slice none 0 0, .slice none 0 0, .slice none 0 0] 27)
    have hb4 : Below w3.heap.size w3 (w3.alloc (.cells #[.int .i64 (sn : Int), .slice none 0 0, .slice none 0 0, .slice none 0 0, .slice none 0 0] 27)) := (Below.refl _ w3).alloc (Nat.le_refl _) _
    have hs4 : (w3.alloc (.cells #[.int .i64 (sn : Int), .slice none 0 0, .slice none 0 0, .slice none 0 0, .slice none 0 0] 27)).heap.size = w3.heap.size + 1 := by simp
    obtain ⟨W4, hW4⟩ : ∃ W4, W4 = w3.alloc (.cells #[.int .i64 (sn : Int), .slice none 0 0, .slice none 0 0, .slice none 0 0, .slice none 0 0] 27) := ⟨_, rfl⟩
    obtain ⟨b5, e5⟩ : ∃ b5, b5 = w3.heap.size := ⟨_, rfl⟩
    rw [← hW4] at hx5 hb4 hs4
    rw [← e5] at hx5 hs4
    obtain ⟨lo, hlo⟩ : ∃ lo, W1.heap.size = lo := ⟨_, rfl⟩
    obtain ⟨B, hB⟩ : ∃ B, W4.heap.size = B := ⟨_, rfl⟩
    have HH4 : Hid (GtH w W4 b2 b5 r lo B (sn : Int) [] (rl 4 L) (rb 4 L false)) := Lib.hid (by
      refine ⟨step_below HB3.out HB3.out.size hb4, keep HX3.out hb4, ?_, ⟨_, _, _, _, hx5, IOwn.none_ _ _, QOwn.none_ _ _, BOwn.none_ _ _, KOwn.none_ _ _⟩, by omega, ?_⟩
      · rw [← hlo]; exact HRD3.out.below hb4
      · have := HG2.out; have := HR2.out; have := HS3.out; omega)
    rw [← hW4, show w3.heap.size = b5 from e5.symm]
    clear hW4 e5 hx5 hb4 hs4 hlo hB HRD3 HX3 HB3 HB2 HX2 HX1 HB1
    have HCw := Lib.hid (short_u lo r _ _ W4 HH4.out.rd)
    obtain ⟨cn, hcn⟩ : ∃ cn, rv 2 (rl 4 L) = cn := ⟨_, rfl⟩
    have hcb : cn < 65536 := by rw [← hcn]; exact rv_lt (rl_small HSM.out)
    rw [hcn] at HCw
    have HCN := Lib.hid hcn
    clear hcn
    go_wp2_with fail
    refine HCw.out.mono ?_
    rintro e w5 ⟨rfl, hrd, hg5⟩
    have HH5 := Lib.hid (HH4.out.read hrd hg5)
    clear hrd hg5 HCw HH4
    go_wp2_with fail
    go_loopg [18] cn (fun g i wr => GtRel w b2 b5 r lo B (sn : Int) L cn g i wr)
    case atStart => exact ⟨0, [], _, _, by omega, rfl, HH5, Lib.hid (gtp_start L), Lib.hid (Nat.le_refl _)⟩
    case round =>
      obtain ⟨k, M, rest, bad, hk, rfl, HH, HP, HM⟩ := hrel
      clear HH5
      by_cases hlt : k < cn
      · have HSR := Lib.hid HH.out.rd.small
        have HCw := Lib.hid (short_u lo r rest bad wr HH.out.rd)
        obtain ⟨vn, hvn⟩ : ∃ vn, rv 2 rest = vn := ⟨_, rfl⟩
        have hvb : vn < 65536 := by rw [← hvn]; exact rv_lt HSR.out
        rw [hvn] at HCw
        go_wp2_with fail
        refine HCw.out.mono ?_
        rintro e w6 ⟨rfl, hrd, hg6⟩
        have HH6 := Lib.hid (HH.out.read hrd hg6)
        clear hrd hg6 HCw
        have HCw := Lib.hid (long_u lo r _ _ w6 HH6.out.rd)
        obtain ⟨xn, hxn⟩ : ∃ xn, rv 8 (rl 2 rest) = xn := ⟨_, rfl⟩
        have hxb : xn < 18446744073709551616 := by rw [← hxn]; exact rv_lt (rl_small HSR.out)
        rw [hxn] at HCw
        go_wp2_with fail
        refine HCw.out.mono ?_
        rintro e w7 ⟨rfl, hrd, hg7⟩
        have HH7 := Lib.hid (HH6.out.read hrd hg7)
        clear hrd hg7 HCw HH6
        have HCw := Lib.hid (byte_u lo r _ _ w7 HH7.out.rd)
        obtain ⟨fn, hfn⟩ : ∃ fn, f3 rest = fn := ⟨_, rfl⟩
        have hfb : fn < 256 := by rw [← hfn]; exact rv_lt (rl_small (rl_small HSR.out))
        rw [show rv 1 (rl 8 (rl 2 rest)) = fn from hfn] at HCw
        go_wp2_with fail
        refine HCw.out.mono ?_
        rintro e w8 ⟨rfl, hrd, hg8⟩
        have HH8 : Hid (GtH w w8 b2 b5 r lo B (sn : Int) M (r3 rest) (b3 rest bad)) := Lib.hid (HH7.out.read hrd hg8)
        have HV := Lib.hid hvn; have HXN := Lib.hid hxn; have HFN := Lib.hid hfn
        clear hrd hg8 HCw HH7 hvn hxn hfn
        obtain ⟨bd, hbd⟩ : ∃ bd, b3 rest bad = bd := ⟨_, rfl⟩
        have HBd := Lib.hid (Fd.bad_any lo r _ _ w8 HH8.out.rd)
        rw [hbd] at HBd HH8
        have HD := Lib.hid hbd
        clear hbd
        go_wp2_with fail
        refine HBd.out.mono ?_
        rintro e w9 ⟨rfl, rfl⟩
        clear HBd
        cases bd with
        | true =>
          have HJ : Hid (getP L = none ∧ Below w.heap.size w w8 ∧ w8.heap[b2]? = some (.cells #[.int .i64 0, .slice none 0 0, .slice none 0 0, .slice none 0 0, .slice none 0 0] 27 (0, 0))) := Lib.hid (by
            refine ⟨?_, HH8.out.below, HH8.out.rbox⟩
            rcases HP.out with ⟨h1, h6, l, _, hg⟩ | ⟨_, h1⟩
            · have h2 := HD.out
              rw [h1, b3_iff] at h2
              exact none_next h6 (by rw [HCN.out]; exact hlt) hg (getE_few (of_decide_eq_true h2))
            · exact h1)
          go_wp2_with fail
          go_step3
          exact ⟨rfl, HJ, _, _, _, _, _, _, _, _, _, _, _, _, _, _, _, _, _, _, _, _, _, _, _, _, _, _, _, _, _, _, _, _, _, _, _, _, _, _, _, _, _, _, _, _, _, _, _, _, _, _, _, _, _, _, _, _, _, _, _, _, _, _, _, _, _, rfl⟩
        | false =>
          have HF : Hid (bad = false ∧ 11 ≤ rest.length) := Lib.hid (by
            cases bad with
            | true => have h2 := HD.out; rw [b3_true] at h2; cases h2
            | false => have h2 := HD.out; rw [b3_iff] at h2; exact ⟨rfl, by have := of_decide_eq_false h2; omega⟩)
          have HP2 : Hid (6 ≤ L.length ∧ ∃ l, M = l.map wrE ∧ getN k (L.drop 6) = some (l, rest)) := Lib.hid (by
            rcases HP.out with ⟨_, h6⟩ | ⟨h1, _⟩
            · exact h6
            · rw [HF.out.1] at h1; cases h1)
          by_cases hf3 : 3 < fn
          · have HJ : Hid (getP L = none ∧ Below w.heap.size w w8 ∧ w8.heap[b2]? = some (.cells #[.int .i64 0, .slice none 0 0, .slice none 0 0, .slice none 0 0, .slice none 0 0] 27 (0, 0))) := Lib.hid (by
              refine ⟨?_, HH8.out.below, HH8.out.rbox⟩
              obtain ⟨h6, l, _, hg⟩ := HP2.out
              exact none_next h6 (by rw [HCN.out]; exact hlt) hg (getE_odd HF.out.2 (by rw [HFN.out]; exact hf3)))
            go_wp2_with fail
            go_step3
            exact ⟨rfl, HJ, _, _, _, _, _, _, _, _, _, _, _, _, _, _, _, _, _, _, _, _, _, _, _, _, _, _, _, _, _, _, _, _, _, _, _, _, _, _, _, _, _, _, _, _, _, _, _, _, _, _, _, _, _, _, _, _, _, _, _, _, _, _, _, _, _, rfl⟩
          · have hf4 : fn = 0 ∨ fn = 1 ∨ fn = 2 ∨ fn = 3 := by omega
            clear hf3 hfb
            rcases hf4 with rfl | rfl | rfl | rfl
            · have hq1 : (bits .and .u8 0 2 != 0) = false := by decide
              have hq2 : (bits .and .u8 0 1 != 0) = false := by decide
              go_upto_region 8 with fail
              have HZ := Lib.hid (HH8.out.step ((Below.refl _ w8).alloc (Nat.le_refl _) (.cells #[.bool false, .int .i64 0] 61)))
              have hm9 := heap_alloc_new w8 (.cells #[.bool false, .int .i64 0] 61)
              obtain ⟨W9, hW9⟩ : ∃ W9, W9 = w8.alloc (.cells #[.bool false, .int .i64 0] 61) := ⟨_, rfl⟩
              obtain ⟨b9, e9⟩ : ∃ b9, b9 = w8.heap.size := ⟨_, rfl⟩
              have hk9 : ∀ k, k < w8.heap.size → (w8.alloc (.cells #[.bool false, .int .i64 0] 61)).heap[k]? = w8.heap[k]? := fun k hk => Below.heap_alloc w8 _ k hk
              have hs9 : (w8.alloc (.cells #[.bool false, .int .i64 0] 61)).heap.size = w8.heap.size + 1 := by simp
              rw [← hW9] at HZ hm9 hk9 hs9
              rw [← e9] at hm9
              have HG9 : Hid (B ≤ b9 ∧ r < b9) := Lib.hid (by have := HH8.out.size; have := HH8.out.ord; omega)
              rw [← hW9, show w8.heap.size = b9 from e9.symm]
              have HK9 : Hid ((∀ k, k < w8.heap.size → W9.heap[k]? = w8.heap[k]?) ∧ w8.heap.size < W9.heap.size) := Lib.hid ⟨hk9, by omega⟩
              clear hW9 hk9 hs9
              have HE9 := Lib.hid e9
              clear e9
              have HM9 := Lib.hid hm9
              obtain ⟨m0, m1, _⟩ := ml_cells hm9
              clear hm9
              have HNX : Hid (addE (ofE (sn : Int) M) ⟨(vn : Int), wI (xn : Int), false, (false, 0)⟩ = ofE (sn : Int) (M ++ [wrE ⟨(vn : Int), (xn : Int), false, (false, 0)⟩]) ∧ GtP L (k + 1) (M ++ [wrE ⟨(vn : Int), (xn : Int), false, (false, 0)⟩]) (r3 rest) false) := Lib.hid (by
                obtain ⟨h6, l, rfl, hg⟩ := HP2.out
                have he := getE_bare HF.out.2 (by rw [HFN.out]; decide)
                rw [HV.out, HXN.out, HFN.out] at he
                refine ⟨?_, .inl ⟨rfl, h6, l ++ [_], ?_, some_next hg he⟩⟩
                · rw [addE_wr, List.map_append]; rfl
                · rw [List.map_append]; rfl)
              have HAD := Lib.hid (add_any b5 B w.heap.size (ofE (sn : Int) M) (vn : Int) (wrap64 (xn : Int)) false false 0 W9 HZ.out.bx (by have := HZ.out.ord; omega) (by have := HZ.out.ord; omega) HZ.out.size (by have := HM.out; simp [ofE]; omega) (by have := HM.out; simp [ofE]; omega) (by have := HM.out; simp [ofE]; omega) (by have := HM.out; simp [ofE]; omega))
              go_wp2_with fail
              refine HAD.out.mono ?_
              rintro e w11 ⟨rfl, ha⟩
              have HH11 : Hid (GtH w w11 b2 b5 r lo B (sn : Int) (M ++ [wrE ⟨(vn : Int), (xn : Int), false, (false, 0)⟩]) (r3 rest) false) := Lib.hid (HZ.out.add ha.out (by rw [wrap_wI xn hxb]; exact HNX.out.1))
              have HP11 := Lib.hid HNX.out.2
              clear ha HAD HNX HZ m0 m1
              go_wp2_with fail
              go_roundg (gk - 1)
              case measure => omega
              case rel => exact ⟨k + 1, _, _, _, by omega, by go_num, HH11, HP11, Lib.hid (by have := HM.out; simp; omega)⟩
            · have hq1 : (bits .and .u8 1 2 != 0) = false := by decide
              have hq2 : (bits .and .u8 1 1 != 0) = true := by decide
              go_upto_region 8 with fail
              have HZ := Lib.hid (HH8.out.step ((Below.refl _ w8).alloc (Nat.le_refl _) (.cells #[.bool false, .int .i64 0] 61)))
              have hm9 := heap_alloc_new w8 (.cells #[.bool false, .int .i64 0] 61)
              obtain ⟨W9, hW9⟩ : ∃ W9, W9 = w8.alloc (.cells #[.bool false, .int .i64 0] 61) := ⟨_, rfl⟩
              obtain ⟨b9, e9⟩ : ∃ b9, b9 = w8.heap.size := ⟨_, rfl⟩
              have hk9 : ∀ k, k < w8.heap.size → (w8.alloc (.cells #[.bool false, .int .i64 0] 61)).heap[k]? = w8.heap[k]? := fun k hk => Below.heap_alloc w8 _ k hk
              have hs9 : (w8.alloc (.cells #[.bool false, .int .i64 0] 61)).heap.size = w8.heap.size + 1 := by simp
              rw [← hW9] at HZ hm9 hk9 hs9
              rw [← e9] at hm9
              have HG9 : Hid (B ≤ b9 ∧ r < b9) := Lib.hid (by have := HH8.out.size; have := HH8.out.ord; omega)
              rw [← hW9, show w8.heap.size = b9 from e9.symm]
              have HK9 : Hid ((∀ k, k < w8.heap.size → W9.heap[k]? = w8.heap[k]?) ∧ w8.heap.size < W9.heap.size) := Lib.hid ⟨hk9, by omega⟩
              clear hW9 hk9 hs9
              have HE9 := Lib.hid e9
              clear e9
              have HM9 := Lib.hid hm9
              obtain ⟨m0, m1, _⟩ := ml_cells hm9
              clear hm9
              have HNX : Hid (addE (ofE (sn : Int) M) ⟨(vn : Int), wI (xn : Int), true, (false, 0)⟩ = ofE (sn : Int) (M ++ [wrE ⟨(vn : Int), (xn : Int), true, (false, 0)⟩]) ∧ GtP L (k + 1) (M ++ [wrE ⟨(vn : Int), (xn : Int), true, (false, 0)⟩]) (r3 rest) false) := Lib.hid (by
                obtain ⟨h6, l, rfl, hg⟩ := HP2.out
                have he := getE_bare HF.out.2 (by rw [HFN.out]; decide)
                rw [HV.out, HXN.out, HFN.out] at he
                refine ⟨?_, .inl ⟨rfl, h6, l ++ [_], ?_, some_next hg he⟩⟩
                · rw [addE_wr, List.map_append]; rfl
                · rw [List.map_append]; rfl)
              have HAD := Lib.hid (add_any b5 B w.heap.size (ofE (sn : Int) M) (vn : Int) (wrap64 (xn : Int)) true false 0 W9 HZ.out.bx (by have := HZ.out.ord; omega) (by have := HZ.out.ord; omega) HZ.out.size (by have := HM.out; simp [ofE]; omega) (by have := HM.out; simp [ofE]; omega) (by have := HM.out; simp [ofE]; omega) (by have := HM.out; simp [ofE]; omega))
              go_wp2_with fail
              refine HAD.out.mono ?_
              rintro e w11 ⟨rfl, ha⟩
              have HH11 : Hid (GtH w w11 b2 b5 r lo B (sn : Int) (M ++ [wrE ⟨(vn : Int), (xn : Int), true, (false, 0)⟩]) (r3 rest) false) := Lib.hid (HZ.out.add ha.out (by rw [wrap_wI xn hxb]; exact HNX.out.1))
              have HP11 := Lib.hid HNX.out.2
              clear ha HAD HNX HZ m0 m1
              go_wp2_with fail
              go_roundg (gk - 1)
              case measure => omega
              case rel => exact ⟨k + 1, _, _, _, by omega, by go_num, HH11, HP11, Lib.hid (by have := HM.out; simp; omega)⟩
            · have hq1 : (bits .and .u8 2 2 != 0) = true := by decide
              have hq2 : (bits .and .u8 2 1 != 0) = false := by decide
              go_upto_region 8 with fail
              have HZ := Lib.hid (HH8.out.step ((Below.refl _ w8).alloc (Nat.le_refl _) (.cells #[.bool true, .int .i64 0] 61)))
              have hm9 := heap_alloc_new w8 (.cells #[.bool true, .int .i64 0] 61)
              obtain ⟨W9, hW9⟩ : ∃ W9, W9 = w8.alloc (.cells #[.bool true, .int .i64 0] 61) := ⟨_, rfl⟩
              obtain ⟨b9, e9⟩ : ∃ b9, b9 = w8.heap.size := ⟨_, rfl⟩
              have hk9 : ∀ k, k < w8.heap.size → (w8.alloc (.cells #[.bool true, .int .i64 0] 61)).heap[k]? = w8.heap[k]? := fun k hk => Below.heap_alloc w8 _ k hk
              have hs9 : (w8.alloc (.cells #[.bool true, .int .i64 0] 61)).heap.size = w8.heap.size + 1 := by simp
              rw [← hW9] at HZ hm9 hk9 hs9
              rw [← e9] at hm9
              have HG9 : Hid (B ≤ b9 ∧ r < b9) := Lib.hid (by have := HH8.out.size; have := HH8.out.ord; omega)
              rw [← hW9, show w8.heap.size = b9 from e9.symm]
              have HK9 : Hid ((∀ k, k < w8.heap.size → W9.heap[k]? = w8.heap[k]?) ∧ w8.heap.size < W9.heap.size) := Lib.hid ⟨hk9, by omega⟩
              clear hW9 hk9 hs9
              have HE9 := Lib.hid e9
              clear e9
              have HM9 := Lib.hid hm9
              obtain ⟨m0, m1, _⟩ := ml_cells hm9
              clear hm9
              have HCw := Lib.hid (long_u lo r _ _ W9 HZ.out.rd)
              obtain ⟨yn, hyn⟩ : ∃ yn, rv 8 (r3 rest) = yn := ⟨_, rfl⟩
              have hyb : yn < 18446744073709551616 := by rw [← hyn]; exact rv_lt HH8.out.rd.small
              rw [hyn] at HCw
              have HY := Lib.hid hyn
              clear hyn
              go_wp2_with fail
              refine HCw.out.mono ?_
              rintro e w10 ⟨rfl, hrd, hg10⟩
              have HM10 := Lib.hid ((hg10.block b9 (lt_of_block HM9.out) fun e => by injection e with e; have := HG9.out; omega).trans HM9.out)
              obtain ⟨bq, hbq⟩ : ∃ bq, rb 8 (r3 rest) false = bq := ⟨_, rfl⟩
              rw [hbq] at hrd
              have HBQ := Lib.hid hbq
              have HK10 : Hid (∀ k, k < w8.heap.size → k ≠ r → w10.heap[k]? = w8.heap[k]?) := Lib.hid fun k h1 h2 => (hg10.block k (by have := HK9.out.2; omega) fun e => by injection e with e; exact h2 e).trans (HK9.out.1 k h1)
              have HR10 := Lib.hid hrd
              have HB10 := Lib.hid (Below.grown HZ.out.below hg10 HZ.out.below.size fun k e => by injection e with e; have := HZ.out.ord; omega)
              have HS10 := Lib.hid hg10.size
              clear hrd hg10 hbq m0 m1 HCw
              obtain ⟨m0, m1, _⟩ := ml_cells HM10.out
              have fz := Lib.frozen_of_heap HM10.out 1
              have HNX : Hid (addE (ofE (sn : Int) M) ⟨(vn : Int), wI (xn : Int), false, (true, wI (yn : Int))⟩ = ofE (sn : Int) (M ++ [wrE ⟨(vn : Int), (xn : Int), false, (true, (yn : Int))⟩]) ∧ GtP L (k + 1) (M ++ [wrE ⟨(vn : Int), (xn : Int), false, (true, (yn : Int))⟩]) (rl 8 (r3 rest)) bq) := Lib.hid (by
                obtain ⟨h6, l, hl, hg⟩ := HP2.out
                have he := getE_mail HF.out.2 (by rw [HFN.out]; decide) (by rw [HFN.out]; decide)
                rw [HV.out, HXN.out, HFN.out, HY.out, HBQ.out] at he
                refine ⟨?_, ?_⟩
                · rw [addE_of, nrm_wm]
                · cases bq with
                  | true => exact .inr ⟨rfl, none_next h6 (by rw [HCN.out]; exact hlt) hg (by rw [he]; rfl)⟩
                  | false =>
                    refine .inl ⟨rfl, h6, l ++ [_], ?_, some_next hg (by rw [he]; rfl)⟩
                    rw [List.map_append, ← hl]; rfl)
              go_upto_region 10 with fail
              have HM11 : Hid ((w10.setCell ⟨b9, 1, none⟩ (.int .i64 (wrap64 (yn : Int)))).heap[b9]? = some (.cells #[.bool true, .int .i64 (wrap64 (yn : Int))] 61 (0, 0))) := Lib.hid (heap_setCell_same w10 b9 1 _ _ _ HM10.out)
              have HH11 : Hid (GtH w (w10.setCell ⟨b9, 1, none⟩ (.int .i64 (wrap64 (yn : Int)))) b2 b5 r lo B (sn : Int) M (rl 8 (r3 rest)) bq) := Lib.hid (by
                have ho : ∀ k, k ≠ b9 → (w10.setCell ⟨b9, 1, none⟩ (.int .i64 (wrap64 (yn : Int)))).heap[k]? = w10.heap[k]? := fun _ hk => Sq.set_other _ _ _ _ _ hk
                refine HH8.out.move (fun k h1 h2 => (ho k (by have := HE9.out; omega)).trans (HK10.out k h1 h2)) (HR10.out.kept fun k _ h2 => ho k (by have := HG9.out; omega)) (HB10.out.setCell (p := ⟨b9, 1, none⟩) (by have := HZ.out.ord; have := HG9.out; show w.heap.size ≤ b9; omega) _) ?_
                have e : (w10.setCell ⟨b9, 1, none⟩ (.int .i64 (wrap64 (yn : Int)))).heap.size = w10.heap.size := by simp
                rw [e]; have := HS10.out; have := HK9.out.2; omega)
              obtain ⟨W11, hW11⟩ : ∃ W11, W11 = w10.setCell ⟨b9, 1, none⟩ (.int .i64 (wrap64 (yn : Int))) := ⟨_, rfl⟩
              rw [← hW11] at HM11 HH11 ⊢
              clear hW11 m0 m1 fz HK10 HR10 HB10 HS10 HM10 HZ HM9
              obtain ⟨m0, m1, _⟩ := ml_cells HM11.out
              have HAD := Lib.hid (add_any b5 B w.heap.size (ofE (sn : Int) M) (vn : Int) (wrap64 (xn : Int)) false true (wrap64 (yn : Int)) W11 HH11.out.bx (by have := HH11.out.ord; omega) (by have := HH11.out.ord; omega) HH11.out.size (by have := HM.out; simp [ofE]; omega) (by have := HM.out; simp [ofE]; omega) (by have := HM.out; simp [ofE]; omega) (by have := HM.out; simp [ofE]; omega))
              go_wp2_with fail
              refine HAD.out.mono ?_
              rintro e w12 ⟨rfl, ha⟩
              have HH12 : Hid (GtH w w12 b2 b5 r lo B (sn : Int) (M ++ [wrE ⟨(vn : Int), (xn : Int), false, (true, (yn : Int))⟩]) (rl 8 (r3 rest)) bq) := Lib.hid (HH11.out.add ha.out (by rw [wrap_wI xn hxb, wrap_wI yn hyb]; exact HNX.out.1))
              have HP12 := Lib.hid HNX.out.2
              clear ha HAD HNX m0 m1 HH11
              go_wp2_with fail
              go_roundg (gk - 1)
              case measure => omega
              case rel => exact ⟨k + 1, _, _, _, by omega, by go_num, HH12, HP12, Lib.hid (by have := HM.out; simp; omega)⟩
            · have hq1 : (bits .and .u8 3 2 != 0) = true := by decide
              have hq2 : (bits .and .u8 3 1 != 0) = true := by decide
              go_upto_region 8 with fail
              have HZ := Lib.hid (HH8.out.step ((Below.refl _ w8).alloc (Nat.le_refl _) (.cells #[.bool true, .int .i64 0] 61)))
              have hm9 := heap_alloc_new w8 (.cells #[.bool true, .int .i64 0] 61)
              obtain ⟨W9, hW9⟩ : ∃ W9, W9 = w8.alloc (.cells #[.bool true, .int .i64 0] 61) := ⟨_, rfl⟩
              obtain ⟨b9, e9⟩ : ∃ b9, b9 = w8.heap.size := ⟨_, rfl⟩
              have hk9 : ∀ k, k < w8.heap.size → (w8.alloc (.cells #[.bool true, .int .i64 0] 61)).heap[k]? = w8.heap[k]? := fun k hk => Below.heap_alloc w8 _ k hk
              have hs9 : (w8.alloc (.cells #[.bool true, .int .i64 0] 61)).heap.size = w8.heap.size + 1 := by simp
              rw [← hW9] at HZ hm9 hk9 hs9
              rw [← e9] at hm9
              have HG9 : Hid (B ≤ b9 ∧ r < b9) := Lib.hid (by have := HH8.out.size; have := HH8.out.ord; omega)
              rw [← hW9, show w8.heap.size = b9 from e9.symm]
              have HK9 : Hid ((∀ k, k < w8.heap.size → W9.heap[k]? = w8.heap[k]?) ∧ w8.heap.size < W9.heap.size) := Lib.hid ⟨hk9, by omega⟩
              clear hW9 hk9 hs9
              have HE9 := Lib.hid e9
              clear e9
              have HM9 := Lib.hid hm9
              obtain ⟨m0, m1, _⟩ := ml_cells hm9
              clear hm9
              have HCw := Lib.hid (long_u lo r _ _ W9 HZ.out.rd)
              obtain ⟨yn, hyn⟩ : ∃ yn, rv 8 (r3 rest) = yn := ⟨_, rfl⟩
              have hyb : yn < 18446744073709551616 := by rw [← hyn]; exact rv_lt HH8.out.rd.small
              rw [hyn] at HCw
              have HY := Lib.hid hyn
              clear hyn
              go_wp2_with fail
              refine HCw.out.mono ?_
              rintro e w10 ⟨rfl, hrd, hg10⟩
              have HM10 := Lib.hid ((hg10.block b9 (lt_of_block HM9.out) fun e => by injection e with e; have := HG9.out; omega).trans HM9.out)
              obtain ⟨bq, hbq⟩ : ∃ bq, rb 8 (r3 rest) false = bq := ⟨_, rfl⟩
              rw [hbq] at hrd
              have HBQ := Lib.hid hbq
              have HK10 : Hid (∀ k, k < w8.heap.size → k ≠ r → w10.heap[k]? = w8.heap[k]?) := Lib.hid fun k h1 h2 => (hg10.block k (by have := HK9.out.2; omega) fun e => by injection e with e; exact h2 e).trans (HK9.out.1 k h1)
              have HR10 := Lib.hid hrd
              have HB10 := Lib.hid (Below.grown HZ.out.below hg10 HZ.out.below.size fun k e => by injection e with e; have := HZ.out.ord; omega)
              have HS10 := Lib.hid hg10.size
              clear hrd hg10 hbq m0 m1 HCw
              obtain ⟨m0, m1, _⟩ := ml_cells HM10.out
              have fz := Lib.frozen_of_heap HM10.out 1
              have HNX : Hid (addE (ofE (sn : Int) M) ⟨(vn : Int), wI (xn : Int), true, (true, wI (yn : Int))⟩ = ofE (sn : Int) (M ++ [wrE ⟨(vn : Int), (xn : Int), true, (true, (yn : Int))⟩]) ∧ GtP L (k + 1) (M ++ [wrE ⟨(vn : Int), (xn : Int), true, (true, (yn : Int))⟩]) (rl 8 (r3 rest)) bq) := Lib.hid (by
                obtain ⟨h6, l, hl, hg⟩ := HP2.out
                have he := getE_mail HF.out.2 (by rw [HFN.out]; decide) (by rw [HFN.out]; decide)
                rw [HV.out, HXN.out, HFN.out, HY.out, HBQ.out] at he
                refine ⟨?_, ?_⟩
                · rw [addE_of, nrm_wm]
                · cases bq with
                  | true => exact .inr ⟨rfl, none_next h6 (by rw [HCN.out]; exact hlt) hg (by rw [he]; rfl)⟩
                  | false =>
                    refine .inl ⟨rfl, h6, l ++ [_], ?_, some_next hg (by rw [he]; rfl)⟩
                    rw [List.map_append, ← hl]; rfl)
              go_upto_region 10 with fail
              have HM11 : Hid ((w10.setCell ⟨b9, 1, none⟩ (.int .i64 (wrap64 (yn : Int)))).heap[b9]? = some (.cells #[.bool true, .int .i64 (wrap64 (yn : Int))] 61 (0, 0))) := Lib.hid (heap_setCell_same w10 b9 1 _ _ _ HM10.out)
              have HH11 : Hid (GtH w (w10.setCell ⟨b9, 1, none⟩ (.int .i64 (wrap64 (yn : Int)))) b2 b5 r lo B (sn : Int) M (rl 8 (r3 rest)) bq) := Lib.hid (by
                have ho : ∀ k, k ≠ b9 → (w10.setCell ⟨b9, 1, none⟩ (.int .i64 (wrap64 (yn : Int)))).heap[k]? = w10.heap[k]? := fun _ hk => Sq.set_other _ _ _ _ _ hk
                refine HH8.out.move (fun k h1 h2 => (ho k (by have := HE9.out; omega)).trans (HK10.out k h1 h2)) (HR10.out.kept fun k _ h2 => ho k (by have := HG9.out; omega)) (HB10.out.setCell (p := ⟨b9, 1, none⟩) (by have := HZ.out.ord; have := HG9.out; show w.heap.size ≤ b9; omega) _) ?_
                have e : (w10.setCell ⟨b9, 1, none⟩ (.int .i64 (wrap64 (yn : Int)))).heap.size = w10.heap.size := by simp
                rw [e]; have := HS10.out; have := HK9.out.2; omega)
              obtain ⟨W11, hW11⟩ : ∃ W11, W11 = w10.setCell ⟨b9, 1, none⟩ (.int .i64 (wrap64 (yn : Int))) := ⟨_, rfl⟩
              rw [← hW11] at HM11 HH11 ⊢
              clear hW11 m0 m1 fz HK10 HR10 HB10 HS10 HM10 HZ HM9
              obtain ⟨m0, m1, _⟩ := ml_cells HM11.out
              have HAD := Lib.hid (add_any b5 B w.heap.size (ofE (sn : Int) M) (vn : Int) (wrap64 (xn : Int)) true true (wrap64 (yn : Int)) W11 HH11.out.bx (by have := HH11.out.ord; omega) (by have := HH11.out.ord; omega) HH11.out.size (by have := HM.out; simp [ofE]; omega) (by have := HM.out; simp [ofE]; omega) (by have := HM.out; simp [ofE]; omega) (by have := HM.out; simp [ofE]; omega))
              go_wp2_with fail
              refine HAD.out.mono ?_
              rintro e w12 ⟨rfl, ha⟩
              have HH12 : Hid (GtH w w12 b2 b5 r lo B (sn : Int) (M ++ [wrE ⟨(vn : Int), (xn : Int), true, (true, (yn : Int))⟩]) (rl 8 (r3 rest)) bq) := Lib.hid (HH11.out.add ha.out (by rw [wrap_wI xn hxb, wrap_wI yn hyb]; exact HNX.out.1))
              have HP12 := Lib.hid HNX.out.2
              clear ha HAD HNX m0 m1 HH11
              go_wp2_with fail
              go_roundg (gk - 1)
              case measure => omega
              case rel => exact ⟨k + 1, _, _, _, by omega, by go_num, HH12, HP12, Lib.hid (by have := HM.out; simp; omega)⟩
      · have hkc : k = cn := by omega
        have HBd := Lib.hid (Fd.bad_any lo r _ _ wr HH.out.rd)
        have HLf := Lib.hid (Fd.left_any lo r _ _ wr HH.out.rd)
        obtain ⟨ln, hln⟩ : ∃ ln, rest.length = ln := ⟨_, rfl⟩
        rw [hln] at HLf
        have HLN := Lib.hid hln
        have HKC := Lib.hid hkc
        clear hln hkc
        go_wp2_with fail
        refine HBd.out.mono ?_
        rintro e w9 ⟨rfl, rfl⟩
        clear HBd
        cases bad with
        | true =>
          have HJ : Hid (getP L = none ∧ Below w.heap.size w wr ∧ wr.heap[b2]? = some (.cells #[.int .i64 0, .slice none 0 0, .slice none 0 0, .slice none 0 0, .slice none 0 0] 27 (0, 0))) := Lib.hid (by
            refine ⟨?_, HH.out.below, HH.out.rbox⟩
            rcases HP.out with ⟨h1, _⟩ | ⟨_, h1⟩
            · cases h1
            · exact h1)
          go_wp2_with fail
          go_step3
          exact ⟨rfl, HJ, _, _, _, _, _, _, _, _, _, _, _, _, _, _, _, _, _, _, _, _, _, _, _, _, _, _, _, _, _, _, _, _, _, _, _, _, _, _, _, _, _, _, _, _, _, _, _, _, _, _, _, _, _, _, _, _, _, _, _, _, _, _, _, _, _, rfl⟩
        | false =>
          have HP2 : Hid (6 ≤ L.length ∧ ∃ l, M = l.map wrE ∧ getN k (L.drop 6) = some (l, rest)) := Lib.hid (by
            rcases HP.out with ⟨_, h6⟩ | ⟨h1, _⟩
            · exact h6
            · cases h1)
          go_wp2_with fail
          refine HLf.out.mono ?_
          rintro e w9 ⟨rfl, rfl⟩
          clear HLf
          by_cases hl0 : 0 < ln
          · have HJ : Hid (getP L = none ∧ Below w.heap.size w wr ∧ wr.heap[b2]? = some (.cells #[.int .i64 0, .slice none 0 0, .slice none 0 0, .slice none 0 0, .slice none 0 0] 27 (0, 0))) := Lib.hid (by
              refine ⟨?_, HH.out.below, HH.out.rbox⟩
              obtain ⟨h6, l, _, hg⟩ := HP2.out
              have hcc : num ((L.drop 4).take 2) = k := by rw [← (gt_count h6).2, HCN.out, HKC.out]
              cases hr : rest with
              | nil => have := HLN.out; rw [hr] at this; simp at this; omega
              | cons x r' => exact getP_rest (l := l) (x := x) (r := r') (by rw [hcc, hg, hr]))
            go_wp2_with fail
            go_step3
            exact ⟨rfl, HJ, _, _, _, _, _, _, _, _, _, _, _, _, _, _, _, _, _, _, _, _, _, _, _, _, _, _, _, _, _, _, _, _, _, _, _, _, _, _, _, _, _, _, _, _, _, _, _, _, _, _, _, _, _, _, _, _, _, _, _, _, _, _, _, _, _, rfl⟩
          · have HRE : Hid (rest = []) := Lib.hid (List.eq_nil_of_length_eq_zero (by have := HLN.out; omega))
            obtain ⟨vo, vv, vc, vi, hbx, q1, q2, q3, q4⟩ := HH.out.bx
            obtain ⟨F0, f0, e0, i0⟩ := IOwn.form q1
            obtain ⟨F1, f1, e1, i1⟩ := Sq.QOwn.form q2
            obtain ⟨F2, f2, e2, i2⟩ := Sq.BOwn.form q3
            obtain ⟨F3, f3', e3, i3, _⟩ := KOwn.room q4
            obtain ⟨mm, hmm⟩ : ∃ mm, M.length = mm := ⟨_, rfl⟩
            have l0 : (ofE (sn : Int) M).own.length = mm := by rw [← hmm]; simp [ofE]
            have l1 : (ofE (sn : Int) M).vals.length = mm := by rw [← hmm]; simp [ofE]
            have l2 : (ofE (sn : Int) M).chg.length = mm := by rw [← hmm]; simp [ofE]
            have l3 : (ofE (sn : Int) M).inb.length = mm := by rw [← hmm]; simp [ofE]
            rw [l0] at e0; rw [l1] at e1; rw [l2] at e2; rw [l3] at e3
            subst e0 e1 e2 e3
            have hmb : mm ≤ 65535 := by have := HM.out; have := HKC.out; omega
            have hbx' : wr.heap[b5]? = some (.cells #[.int .i64 (sn : Int), .slice F0 mm f0, .slice F1 mm f1, .slice F2 mm f2, .slice F3 mm f3'] 27 (0, 0)) := hbx
            have HRt : Hid (Calls Try.prog 14 #[.agg #[.int .i64 (sn : Int), .slice F0 mm f0, .slice F1 mm f1, .slice F2 mm f2, .slice F3 mm f3']] wr fun e w' => e = .returned (.bool (decide (Rgt (ofE (sn : Int) M)))) ∧ Hid (Below wr.heap.size wr w')) := Lib.hid (right_any (ofE (sn : Int) M) F0 F1 F2 F3 mm mm mm mm f0 f1 f2 f3' wr ⟨i0, i1, i2, i3, l0, l1, l2, l3⟩ (by omega) (by omega) (by omega) (by omega))
            have HPO : Hid (POwn wr w.heap.size (.agg #[.int .i64 (sn : Int), .slice F0 mm f0, .slice F1 mm f1, .slice F2 mm f2, .slice F3 mm f3']) (ofE (sn : Int) M)) := Lib.hid (by
              have h5 : w.heap.size ≤ B := by have := HH.out.ord; omega
              exact ⟨_, _, _, _, rfl, own_mono q1 h5, own_mono q2 h5, own_mono q3 h5, q4.mono h5⟩)
            obtain ⟨rr, hrr⟩ : ∃ rr, decide (Rgt (ofE (sn : Int) M)) = rr := ⟨_, rfl⟩
            rw [hrr] at HRt
            have HRR := Lib.hid hrr
            have HX5 := Lib.hid hbx'
            have HANS : Hid (getP L = if rr = true then some (ofE (sn : Int) M) else none) := Lib.hid (by
              obtain ⟨h6, l, hl, hg⟩ := HP2.out
              rw [HRE.out] at hg
              have hcc : num ((L.drop 4).take 2) = k := by rw [← (gt_count h6).2, HCN.out, HKC.out]
              have hss : num (L.take 4) = sn := by rw [← (gt_count h6).1, HSN.out]
              have h1 := getP_of h6 (l := l) (by rw [hcc]; exact hg)
              obtain ⟨_, _, hfit, hnr⟩ := getN_back k _ _ _ (fun x hx => HSM.out x (List.mem_of_mem_drop hx)) hg
              rw [h1, hss]
              have hiff := rgt_wr (st := (sn : Int)) hfit
              rw [← hl] at hiff
              cases hr2 : rr with
              | true =>
                have h3 : Rgt (ofE (sn : Int) M) := of_decide_eq_true (by rw [HRR.out]; exact hr2)
                have h4 := hiff.1 h3
                rw [if_pos h4, if_pos rfl]
                have h5 := wr_same h4 hnr
                rw [← hl] at h5
                rw [h5]
              | false =>
                have h3 : ¬ Rgt (ofE (sn : Int) M) := of_decide_eq_false (by rw [HRR.out]; exact hr2)
                rw [if_neg fun h => h3 (hiff.2 h), if_neg (by decide)])
            obtain ⟨x0, x1, x2, x3, x4, _⟩ := five hbx'
            clear hbx hbx' q1 q2 q3 q4 i0 i1 i2 i3 l0 l1 l2 l3 hrr hmm
            go_wp2_with fail
            refine HRt.out.mono ?_
            rintro e w9 ⟨rfl, hb9⟩
            clear HRt x0 x1 x2 x3 x4
            have HB9 := Lib.hid (step_below HH.out.below HH.out.below.size hb9.out)
            have HX9 := Lib.hid (keep HX5.out hb9.out)
            have HZ9 := Lib.hid (keep HH.out.rbox hb9.out)
            have HPO9 := Lib.hid (HPO.out.below hb9.out)
            clear hb9
            cases rr with
            | false =>
              have HJ : Hid (getP L = none ∧ Below w.heap.size w w9 ∧ w9.heap[b2]? = some (.cells #[.int .i64 0, .slice none 0 0, .slice none 0 0, .slice none 0 0, .slice none 0 0] 27 (0, 0))) := Lib.hid ⟨by rw [HANS.out]; rfl, HB9.out, HZ9.out⟩
              go_wp2_with fail
              go_step3
              exact ⟨rfl, HJ, _, _, _, _, _, _, _, _, _, _, _, _, _, _, _, _, _, _, _, _, _, _, _, _, _, _, _, _, _, _, _, _, _, _, _, _, _, _, _, _, _, _, _, _, _, _, _, _, _, _, _, _, _, _, _, _, _, _, _, _, _, _, _, _, _, rfl⟩
            | true =>
              have HAN : Hid (getR L = (ofE (sn : Int) M, 0)) := Lib.hid (getR_yes (by rw [HANS.out]; rfl))
              obtain ⟨x0, x1, x2, x3, x4, _⟩ := five HX9.out
              obtain ⟨p0, p1, p2, p3, p4, _⟩ := five HZ9.out
              have fz0 := Lib.frozen_of_heap HZ9.out 0
              have fz1 := Lib.frozen_of_heap HZ9.out 1
              have fz2 := Lib.frozen_of_heap HZ9.out 2
              have fz3 := Lib.frozen_of_heap HZ9.out 3
              have fz4 := Lib.frozen_of_heap HZ9.out 4
              have HPW : Hid (POwn (put5 w9 b2 (.int .i64 (sn : Int)) (.slice F0 mm f0) (.slice F1 mm f1) (.slice F2 mm f2) (.slice F3 mm f3')) w.heap.size (.agg #[.int .i64 (sn : Int), .slice F0 mm f0, .slice F1 mm f1, .slice F2 mm f2, .slice F3 mm f3']) (ofE (sn : Int) M) ∧ (put5 w9 b2 (.int .i64 (sn : Int)) (.slice F0 mm f0) (.slice F1 mm f1) (.slice F2 mm f2) (.slice F3 mm f3')).heap[b2]? = some (.cells #[.int .i64 (sn : Int), .slice F0 mm f0, .slice F1 mm f1, .slice F2 mm f2, .slice F3 mm f3'] 27 (0, 0)) ∧ Below w.heap.size w (put5 w9 b2 (.int .i64 (sn : Int)) (.slice F0 mm f0) (.slice F1 mm f1) (.slice F2 mm f2) (.slice F3 mm f3'))) := Lib.hid
                ⟨put5_rows HPO9.out HZ9.out offP _ _ _ _ _, put5_heap HZ9.out _ _ _ _ _, put5_below HB9.out HG2.out.1 _ _ _ _ _⟩
              go_wp2_with fail
              simp only [Exit.jump]
              refine bodyPost_ret (v := .tuple #[.agg #[.int .i64 (sn : Int), .slice F0 mm f0, .slice F1 mm f1, .slice F2 mm f2, .slice F3 mm f3'], .int .i64 0]) (res2_p _ 2 3 _ _ b2 _ _ _ _ _ _ rfl rfl rfl HPW.out.2.1) rfl ?_
              rw [HAN.out]
              exact ⟨_, rfl, Lib.hid HPW.out.1, Lib.hid HPW.out.2.2⟩
  · rintro a' w' ⟨HJ, u0, u1, u3, u4, u5, u6, u7, u8, u9, u10, u11, u12, u13, u14, u15, u16, u17, u18, u19, u20, u21, u22, u23, u24, u25, u26, u27, u28, u29, u30, u31, u32, u33, u34, u35, u36, u37, u38, u39, u40, u41, u42, u43, u44, u45, u46, u47, u48, u49, u50, u51, u52, u53, u54, u55, u56, u57, u58, u59, u60, u61, u62, u63, u64, u65, rfl⟩
    have HAN : Hid (getR L = (noneP, 140)) := Lib.hid (getR_no HJ.out.1)
    obtain ⟨p0, p1, p2, p3, p4, _⟩ := five HJ.out.2.2
    have fz0 := Lib.frozen_of_heap HJ.out.2.2 0
    have fz1 := Lib.frozen_of_heap HJ.out.2.2 1
    have fz2 := Lib.frozen_of_heap HJ.out.2.2 2
    have fz3 := Lib.frozen_of_heap HJ.out.2.2 3
    have fz4 := Lib.frozen_of_heap HJ.out.2.2 4
    have HPW : Hid ((put5 w' b2 (.int .i64 0) (.slice none 0 0) (.slice none 0 0) (.slice none 0 0) (.slice none 0 0)).heap[b2]? = some (.cells #[.int .i64 0, .slice none 0 0, .slice none 0 0, .slice none 0 0, .slice none 0 0] 27 (0, 0)) ∧ Below w.heap.size w (put5 w' b2 (.int .i64 0) (.slice none 0 0) (.slice none 0 0) (.slice none 0 0) (.slice none 0 0))) := Lib.hid
      ⟨put5_heap HJ.out.2.2 _ _ _ _ _, put5_below HJ.out.2.1 HG2.out.1 _ _ _ _ _⟩
    clear HOP
    go_wp2
    simp only [Exit.jump]
    refine bodyPost_ret (v := .tuple #[.agg #[.int .i64 0, .slice none 0 0, .slice none 0 0, .slice none 0 0, .slice none 0 0], .int .i64 140]) (res2_p _ 2 3 _ _ b2 _ _ _ _ _ _ rfl rfl rfl HPW.out.1) rfl ?_
    rw [HAN.out]
    exact ⟨_, rfl, Lib.hid (POwn.zero _ _), Lib.hid HPW.out.2⟩
end Go.Proofs.Ytfbfckdabbaocaa.St
