/-
  What is proved here: the law on parts that are joined, walked. Condition: the graph can be read.
-/
import Derived.Test.YtjcgejbggmpikaaPtL
import Derived.Test.YtjcgejbggmpikaaPtG3
import Derived.Test.YtjcgejbggmpikaaPtG4
namespace Go.Proofs.Ytjcgejbggmpikaa.Pt
open Go.RowKit Gr Wd Ws

/- Parts that the call has made, in their cells. -/
def OCon (w : World) (B : Nat) (css : List (List Value)) (l : List Pt) : Prop := css.length = l.length ∧ ∀ (i : Nat) (P : Pt), l[i]? = some P → ∃ cs, css[i]? = some cs ∧ POwnV w B (.agg cs.toArray) P
theorem OCon.nil (w : World) (B : Nat) : OCon w B [] [] := ⟨rfl, by simp⟩
theorem OCon.con {w : World} {B : Nat} {css : List (List Value)} {l : List Pt} (h : OCon w B css l) : Con w css l := ⟨h.1, fun i P hi => by obtain ⟨cs, h1, h2⟩ := h.2 i P hi; exact ⟨cs, h1, h2.ptv⟩⟩
theorem OCon.below {w w' : World} {B : Nat} {css : List (List Value)} {l : List Pt} (h : OCon w B css l) (hb : Below w.heap.size w w') : OCon w' B css l := ⟨h.1, fun i P hi => by obtain ⟨cs, h1, h2⟩ := h.2 i P hi; exact ⟨cs, h1, h2.below hb⟩⟩
theorem powv_grown {w w' : World} {B : Nat} {x : Value} {P : Pt} {r : Option Nat} (h : POwnV w B x P) (hg : w.grownBy w' r) (hr : ∀ j, r = some j → ∃ c fz, w.heap[j]? = some (.cells c 34 fz)) : POwnV w' B x P := by
  obtain ⟨s1, s2, s3, e, h1, h2, h3⟩ := h
  have ne : ∀ (j : Nat) (T : TypeId) (c : Array Value) (fz : Nat × Nat), w.heap[j]? = some (.cells c T fz) → T ≠ 34 → r ≠ some j := fun j T c fz hc hT e => by
    obtain ⟨d, f2, hd⟩ := hr j e
    exact hT (type_ne hc hd)
  refine ⟨s1, s2, s3, e, own_other h1 hg fun j hj => ?_, rown_other h2 hg (fun j hj => ?_) (fun j c fz e hc => ?_), rown_other h3 hg (fun j hj => ?_) (fun j c fz e hc => ?_)⟩
  · obtain ⟨_, c, hc⟩ := own_lt h1 j hj
    exact ne j _ c _ hc (by decide)
  · obtain ⟨_, c, hc⟩ := rown_bt h2 j hj
    exact ne j _ c _ hc (by decide)
  · exact ne j _ c _ hc (by decide) e
  · obtain ⟨_, c, hc⟩ := rown_bt h3 j hj
    exact ne j _ c _ hc (by decide)
  · exact ne j _ c _ hc (by decide) e
theorem OCon.grown {w w' : World} {B : Nat} {css : List (List Value)} {l : List Pt} {r : Option Nat} (h : OCon w B css l) (hg : w.grownBy w' r) (hr : ∀ j, r = some j → ∃ c fz, w.heap[j]? = some (.cells c 34 fz)) : OCon w' B css l :=
  ⟨h.1, fun i P hi => by obtain ⟨cs, h1, h2⟩ := h.2 i P hi; exact ⟨cs, h1, powv_grown h2 hg hr⟩⟩
theorem OCon.snoc {w : World} {B : Nat} {css : List (List Value)} {l : List Pt} (h : OCon w B css l) {cs : List Value} {P : Pt} (hp : POwnV w B (.agg cs.toArray) P) : OCon w B (css ++ [cs]) (l ++ [P]) := by
  refine ⟨by simp [h.1], fun i Q hi => ?_⟩
  rcases Nat.lt_or_ge i l.length with hh | hh
  · rw [List.getElem?_append_left hh] at hi
    obtain ⟨ds, h1, h2⟩ := h.2 i Q hi
    exact ⟨ds, by rw [List.getElem?_append_left (by rw [h.1]; exact hh)]; exact h1, h2⟩
  · rw [List.getElem?_append_right hh] at hi
    have h0 : i - l.length = 0 := by have := lt_at hi; simp at this; omega
    rw [h0] at hi
    simp at hi; subst hi
    exact ⟨cs, by rw [List.getElem?_append_right (by rw [h.1]; exact hh), h.1, h0]; rfl, hp⟩
theorem LRow.bt {w : World} {B : Nat} {T : TypeId} {v : Value} {css : List (List Value)} (h : LRow w B T v css) : ∀ j, v.ownBlock = some j → B ≤ j ∧ ∃ c, w.heap[j]? = some (.cells c T (0, 0)) := own_lt h.1

/- The parts of the first j workers. -/
def pcs (V : Int) (L : List Ed) (k : Int) (j : Nat) : List Pt := (List.range j).map fun (i : Nat) => cutP V L k i
theorem pcs_len (V : Int) (L : List Ed) (k : Int) (j : Nat) : (pcs V L k j).length = j := by simp [pcs]
theorem pcs_succ (V : Int) (L : List Ed) (k : Int) (j : Nat) : pcs V L k (j + 1) = pcs V L k j ++ [cutP V L k j] := by simp [pcs, List.range_succ]
theorem pcs_at {V : Int} {L : List Ed} {k : Int} {j i : Nat} (h : i < j) : (pcs V L k j)[i]? = some (cutP V L k i) := by
  unfold pcs; rw [List.getElem?_map, List.getElem?_range h]; rfl
theorem cnt_le {f : Int → List Ed} {M : Nat} (h : ∀ v, (f v).length ≤ M) : ∀ l : List Int, cnt f l ≤ M * l.length
  | [] => by simp [cnt]
  | a :: l => by
    have := cnt_le h l
    have h1 := h a
    unfold cnt at *
    rw [List.map_cons, List.sum_cons, List.length_cons, Nat.mul_succ]; omega
theorem allW_le {f : Int → List Ed} {M : Nat} (h : ∀ v, (f v).length ≤ M) (k : Int) (n : Nat) : ∀ m, allW f k n m ≤ m * (M * n)
  | 0 => by simp [allW]
  | m + 1 => by
    have h1 := allW_le h k n m
    have h2 := cnt_le h (ow k m n)
    have h3 : M * (ow k m n).length ≤ M * n := Nat.mul_le_mul_left _ (ow_len _ _ _)
    rw [allW, Nat.succ_mul]; omega
theorem lenW_le (k : Int) (n : Nat) : ∀ m, lenW k n m ≤ m * n
  | 0 => by simp [lenW]
  | m + 1 => by
    have h1 := lenW_le k n m
    have h2 := ow_len k m n
    rw [lenW, Nat.succ_mul]; omega
theorem cnt_take {f : Int → List Ed} {l : List Int} {i : Nat} {v : Int} (h : l[i]? = some v) : cnt f (l.take (i + 1)) = cnt f (l.take i) + (f v).length := by
  rw [take_at h, cnt_app]; simp [cnt]

/- All of it, once a graph may be: what the loops add up. -/
theorem whole_sum {V : Int} {L : List Ed} {k : Nat} (hk : 1 ≤ k) (hk' : k ≤ 64) (h : chk V L = 0) : ((lenW k (nv V) k : Nat) : Int) = V ∧ allW (frm L) k (nv V) k = L.length ∧ allW (tow L) k (nv V) k = L.length := by
  obtain ⟨h1, h2, _, h4, _⟩ := (chk_zero V L).1 h
  have hn : nv V ≤ 512 := nv_le V
  have hnV : ((nv V : Nat) : Int) = V := by unfold nv; omega
  refine ⟨by rw [lenW_all k hk hk' _ hn]; exact hnV, ?_, ?_⟩
  · rw [allW_all _ k hk hk' _ hn]
    exact cnt_frm _ L fun e he => by have := (fitE_iff _ _).1 (h4 e he); omega
  · rw [allW_all _ k hk hk' _ hn]
    exact cnt_tow _ L fun e he => by have := (fitE_iff _ _).1 (h4 e he); omega

def WhRel (w3 : World) (V : Int) (L : List Ed) (k : Nat) (g : Nat) (v6 v7 v8 v9 i : Value) (wr : World) : Prop :=
  ∃ (j o f b : Nat) (css : List (List Value)), j + g = k ∧ i = .int .i64 (j : Int) ∧ v7 = .int .i64 (o : Int) ∧ v8 = .int .i64 (f : Int) ∧ v9 = .int .i64 (b : Int) ∧ Hid (o = lenW k (nv V) j) ∧ Hid (f = allW (frm L) k (nv V) j) ∧ Hid (b = allW (tow L) k (nv V) j) ∧
    Hid (LRow wr w3.heap.size 34 v6 css) ∧ Hid (OCon wr w3.heap.size css (pcs V L k j)) ∧ Hid (Below w3.heap.size w3 wr)
def WiRel (w5 : World) (L : List Ed) (l : List Int) (f0 b0 : Nat) (n g : Nat) (v8 v9 i : Value) (wr : World) : Prop :=
  ∃ (j f b : Nat), j + g = n ∧ i = .int .i64 (j : Int) ∧ v8 = .int .i64 (f : Int) ∧ v9 = .int .i64 (b : Int) ∧ Hid (f = f0 + cnt (frm L) (l.take j)) ∧ Hid (b = b0 + cnt (tow L) (l.take j)) ∧ Hid (Below w5.heap.size w5 wr)

set_option maxRecDepth 100000 in
set_option maxHeartbeats 4000000 in
theorem law_whole (V n8 : Int) (A : Option Addr) (c : Nat) (L : List Ed) (w : World) (hL : Hid (EAt w A L)) (hm : L.length ≤ 9223372036854775807) (hn8 : 0 ≤ n8 ∧ n8 ≤ 255) :
    Calls Try.prog 6 #[.agg #[.int .i64 V, .slice A L.length c], .int .u8 n8] w fun e w' => e = .returned (.bool true) ∧ Below w.heap.size w w' := by
  have mixed := mixedP
  have HC1 := Lib.hid (fun W => light_any V A L.length c 200 W)
  obtain ⟨w1, hw1⟩ : ∃ w1, w1 = w.alloc (.cells #[.int .i64 V, .slice A L.length c] 30) := ⟨_, rfl⟩
  have hz : Below w.heap.size w w1 := by rw [hw1]; exact (Below.refl _ w).alloc (Nat.le_refl _) _
  have HG1 : Hid (GBox w1 w.heap.size V A c L) := Lib.hid ⟨by rw [hw1]; exact heap_alloc_new w _, hL.out.below hz⟩
  have HZ1 := Lib.hid hz
  have HW := Lib.hid hw1
  clear hw1 hz
  obtain ⟨r1, hr1⟩ : ∃ r, decide (L.length ≤ 200) = r := ⟨_, rfl⟩
  rw [hr1] at HC1
  have HR1 := Lib.hid hr1
  clear hr1
  have works_end : ∀ W, Below w.heap.size w W → Calls Try.prog 13 #[] W fun e w' => e = .returned (.bool true) ∧ Hid (Below w.heap.size w w') := fun W h => (works_any W).mono fun e w' ⟨h1, h2⟩ => ⟨h1, Lib.hid (h.trans (h2.out.mono h.size))⟩
  have HWE := Lib.hid works_end; clear works_end
  go_enter Try.func6, Try.ntmps6
  go_wp2_with fail
  rw [← HW.out]
  refine (HC1.out w1).mono ?_
  rintro e w2 ⟨rfl, hg2⟩
  have HG2 := Lib.hid (HG1.out.below hg2.below)
  have HZ2 := Lib.hid (HZ1.out.trans (hg2.below.mono HZ1.out.size))
  clear hg2
  cases r1 with
  | false =>
    go_wp2_with fail
    refine (HWE.out w2 HZ2.out).mono ?_
    rintro e w3 ⟨rfl, HB⟩
    go_wp2
    go_ret
    exact ⟨rfl, HB.out⟩
  | true =>
    have h200 : L.length ≤ 200 := of_decide_eq_true HR1.out
    obtain ⟨E, hE⟩ : ∃ E, chk V L = E := ⟨_, rfl⟩
    have HCK := Lib.hid (rcheck_any V A c L w2 HG2.out.2 (by omega))
    rw [hE] at HCK
    have HE := Lib.hid hE; clear hE
    obtain ⟨k0, k1, hk⟩ := Bx.cells HG2.out.1
    go_wp2_with fail
    refine HCK.out.mono ?_
    rintro e w3 ⟨rfl, hb3⟩
    have HG3 := Lib.hid (HG2.out.below hb3)
    have HZ3 := Lib.hid (HZ2.out.trans (hb3.mono HZ2.out.size))
    clear hb3 k0 k1 hk
    by_cases hE0 : E = 0
    · subst hE0
      obtain ⟨k, hk⟩ : ∃ k : Nat, 1 + n8 % 64 = (k : Int) := ⟨(1 + n8 % 64).toNat, by omega⟩
      have hk1 : 1 ≤ k := by omega
      have hk2 : k ≤ 64 := by omega
      have hrem : n8.tmod 64 = n8 % 64 := Int.tmod_eq_emod_of_nonneg hn8.1
      have hw0 : IntKind.i64.wrap n8 = n8 := IntWalk.i64_in _ (by omega)
      have hw1 : IntKind.i64.wrap (n8 % 64) = n8 % 64 := IntWalk.i64_in _ (by omega)
      have hw2 : IntKind.i64.wrap (1 + n8 % 64) = (k : Int) := by rw [IntWalk.i64_in _ (by omega)]; exact hk
      have hSUM := whole_sum hk1 hk2 HE.out
      have HSUM := Lib.hid hSUM; clear hSUM
      go_wp2_with fail
      go_loopg [6, 7, 8, 9, 10] k (fun g v6 v7 v8 v9 i wr => WhRel w3 V L k g v6 v7 v8 v9 i wr)
      case atStart => exact ⟨0, 0, 0, 0, [], by omega, rfl, rfl, rfl, rfl, Lib.hid rfl, Lib.hid rfl, Lib.hid rfl, Lib.hid (LRow.none_ _ _ _), Lib.hid (OCon.nil _ _), Lib.hid (Below.refl _ _)⟩
      case round =>
        obtain ⟨j, o, f, b, css, hj, rfl, rfl, rfl, rfl, HO, HF, HBk, HLR, HOC, HB⟩ := hrel
        have HGr := Lib.hid (HG3.out.below HB.out)
        obtain ⟨k0, k1, hkk⟩ := Bx.cells HGr.out.1
        have hM1 : ∀ v, (frm L v).length ≤ 200 := fun v => Nat.le_trans (List.length_filter_le _ _) h200
        have hM2 : ∀ v, (tow L v).length ≤ 200 := fun v => Nat.le_trans (List.length_filter_le _ _) h200
        have hn5 : nv V ≤ 512 := nv_le V
        by_cases hlt : j < k
        · have hoB : o ≤ 64 * 512 := by
            have h1 := lenW_le k (nv V) j
            have h2 : j * nv V ≤ 64 * 512 := Nat.mul_le_mul (by omega) hn5
            rw [HO.out]; omega
          have hfB : f ≤ 64 * (200 * 512) := by
            have h1 := allW_le hM1 k (nv V) j
            have h2 : j * (200 * nv V) ≤ 64 * (200 * 512) := Nat.mul_le_mul (by omega) (Nat.mul_le_mul_left _ hn5)
            rw [HF.out]; omega
          have hbB : b ≤ 64 * (200 * 512) := by
            have h1 := allW_le hM2 k (nv V) j
            have h2 : j * (200 * nv V) ≤ 64 * (200 * 512) := Nat.mul_le_mul (by omega) (Nat.mul_le_mul_left _ hn5)
            rw [HBk.out]; omega
          have HM1 := Lib.hid hM1; have HM2 := Lib.hid hM2; clear hM1 hM2
          have hcut : cutA V L k j = (cutP V L k j, 0) := by unfold cutA; rw [if_neg (by rw [HE.out]; simp), if_pos (by omega)]
          have HC := Lib.hid (Cut_any V (k : Int) (j : Int) A c L wr HGr.out.2 (by omega))
          rw [hcut] at HC
          clear hcut
          go_wp2_with fail
          refine HC.out.mono ?_
          rintro e w4 ⟨⟨v4, rfl, hv4⟩, hb4⟩
          clear HC k0 k1 hkk
          obtain ⟨own, hown⟩ : ∃ own, owned V k j = own := ⟨_, rfl⟩
          have hlo := owned_len V k j
          obtain ⟨n1, hn1⟩ : ∃ n, n = own.length := ⟨_, rfl⟩
          have hcp : cutP V L k j = ⟨(j : Int), (k : Int), V, own, own.map (frm L), own.map (tow L)⟩ := by unfold cutP; rw [hown]
          have HV4 := Lib.hid hv4
          rw [hcp] at hv4
          obtain ⟨s1, s2, s3, rfl, h1, h2, h3⟩ := hv4
          obtain ⟨A1, c1, rfl, _⟩ := h1.form
          obtain ⟨A2, c2, rfl, _⟩ := h2.form
          obtain ⟨A3, c3, rfl, _⟩ := h3.form
          simp only [List.length_map, ← hn1] at HV4 ⊢
          rw [hown, ← hn1] at hlo
          have HOWN := Lib.hid hown; have HN1 := Lib.hid hn1; have HCP := Lib.hid hcp
          clear h1 h2 h3 hown hn1 hcp
          obtain ⟨w6, hw6⟩ : ∃ w6, w6 = (w4.alloc (.cells #[.int .i64 (j : Int), .int .i64 (k : Int), .int .i64 V, .slice A1 n1 c1, .slice A2 n1 c2, .slice A3 n1 c3] 34)).alloc (.cells #[.int .i64 (j : Int), .int .i64 (k : Int), .int .i64 V, .slice A1 n1 c1, .slice A2 n1 c2, .slice A3 n1 c3] 34) := ⟨_, rfl⟩
          have hb46 : Below w4.heap.size w4 w6 := by rw [hw6]; exact two_part w4 _ _
          have HX6 : Hid (w6.heap[w4.heap.size]? = some (.cells #[.int .i64 (j : Int), .int .i64 (k : Int), .int .i64 V, .slice A1 n1 c1, .slice A2 n1 c2, .slice A3 n1 c3] 34 (0, 0))) := Lib.hid (by rw [hw6]; exact heap_alloc2_old w4 _ _)
          have HY6 : Hid (w6.heap[w4.heap.size + 1]? = some (.cells #[.int .i64 (j : Int), .int .i64 (k : Int), .int .i64 V, .slice A1 n1 c1, .slice A2 n1 c2, .slice A3 n1 c3] 34 (0, 0))) := Lib.hid (by rw [hw6]; exact heap_alloc2_new w4 _ _)
          have hs4 := hb4.size
          have HB6w := Lib.hid (hb4.trans (hb46.mono hs4))
          have HB6 := Lib.hid (HB.out.trans (HB6w.out.mono HB.out.size))
          have HV6 := Lib.hid ((HV4.out.below hb46).mono (Nat.le_trans HB.out.size (Nat.le_refl _) : w3.heap.size ≤ wr.heap.size))
          have HLR6 := Lib.hid (HLR.out.below HB6w.out)
          have HOC6 := Lib.hid (HOC.out.below HB6w.out)
          have hs6 : w4.heap.size + 2 = w6.heap.size := by rw [hw6]; simp
          have hcl : css.length = j := by rw [HOC.out.1, pcs_len]
          have HW6 := Lib.hid hw6
          clear hw6 hb46 hb4
          have HLRx := Lib.hid HLR6.out
          have HYx := Lib.hid HY6.out
          rw [HW6.out] at HLRx HYx
          obtain ⟨AL, nl, cl, rfl⟩ : ∃ A n c, u6 = .slice A n c := by
            obtain ⟨A, c, h, _⟩ := HLR.out.form HOC.out.con
            exact ⟨_, _, _, h⟩
          go_wp2_with (at_builtin; refine app_p rfl (.tmp 43) (.tmp 45) rfl w3.heap.size _ css rfl HLRx.out _ _ _ _ _ _ _ ?c0 rfl HYx.out ?c1 ?c2 ?_)
          case c0 => exact ⟨rfl, rfl, rfl, rfl, rfl, rfl⟩
          case c1 => omega
          case c2 => exact HB6.out.size
          intro v' w7 hl7 hg7 hv7
          rw [← HW6.out] at hg7
          clear HLRx HYx
          obtain ⟨A7, n7, c7, rfl⟩ := hv7.out
          have hrr : ∀ q, (Value.slice AL nl cl).ownBlock = some q → ∃ c fz, w6.heap[q]? = some (.cells c 34 fz) := fun q hq => by obtain ⟨_, d, hd⟩ := HLR6.out.bt q hq; exact ⟨d, _, hd⟩
          have hlw : ∀ q, (Value.slice AL nl cl).ownBlock = some q → q < wr.heap.size := fun q hq => by obtain ⟨_, d, hd⟩ := HLR.out.bt q hq; exact lt_of_block hd
          have HX7 : Hid (w7.heap[w4.heap.size]? = some (.cells #[.int .i64 (j : Int), .int .i64 (k : Int), .int .i64 V, .slice A1 n1 c1, .slice A2 n1 c2, .slice A3 n1 c3] 34 (0, 0))) := Lib.hid ((hg7.block _ (by omega) (fun e => by have := hlw _ e.symm; omega)).trans HX6.out)
          have HB7 : Hid (Below w3.heap.size w3 w7) := Lib.hid (Below.grown HB6.out hg7 HB6.out.size fun q e => (HLR6.out.bt q e).1)
          have HV7 := Lib.hid (powv_grown HV6.out hg7 hrr)
          have HOC7 : Hid (OCon w7 w3.heap.size (css ++ [[.int .i64 (j : Int), .int .i64 (k : Int), .int .i64 V, .slice A1 n1 c1, .slice A2 n1 c2, .slice A3 n1 c3]]) (pcs V L k (j + 1))) := Lib.hid (by rw [pcs_succ]; exact (HOC6.out.grown hg7 hrr).snoc HV7.out)
          have HLR7 := Lib.hid hl7
          have HP7 : Hid (PtV w7 (.agg #[.int .i64 (j : Int), .int .i64 (k : Int), .int .i64 V, .slice A1 n1 c1, .slice A2 n1 c2, .slice A3 n1 c3]) ⟨(j : Int), (k : Int), V, own, own.map (frm L), own.map (tow L)⟩) := Lib.hid (by have := HV7.out.ptv; rw [HCP.out] at this; exact this)
          have hsb : w4.heap.size < w7.heap.size := lt_of_block HX7.out
          clear hrr hlw hg7 hl7
          obtain ⟨y0, y1, y2, y3, y4, y5, _⟩ := six HX7.out
          obtain ⟨G, rfl⟩ : ∃ G : Nat, G = gk := ⟨_, rfl⟩
          obtain ⟨wo, rfl⟩ : ∃ wo : World, wo = wr := ⟨_, rfl⟩
          have hpt := HP7.out
          obtain ⟨A1', c1', A2', c2', A3', c3', e7, p1, p2, p3⟩ := hpt
          have e8 : A1 = A1' ∧ A2 = A2' ∧ A3 = A3' := by
            injection e7 with e7
            have := congrArg Array.toList e7
            simp only [List.cons.injEq, Value.slice.injEq] at this
            exact ⟨this.2.2.2.1.1, this.2.2.2.2.1.1, this.2.2.2.2.2.1.1⟩
          obtain ⟨rfl, rfl, rfl⟩ := e8
          have P1 : Hid (IAt w7 A1 own) := Lib.hid p1
          have P2 : Hid (RAt w7 A2 (own.map (frm L))) := Lib.hid p2
          have P3 : Hid (RAt w7 A3 (own.map (tow L))) := Lib.hid p3
          clear e7 p1 p2 p3
          go_wp2_with fail
          go_loopg [8, 9, 13] n1 (fun g v8 v9 i wr => WiRel w7 L own f b n1 g v8 v9 i wr)
          case atStart => exact ⟨0, f, b, by omega, rfl, rfl, rfl, Lib.hid (by simp [cnt]), Lib.hid (by simp [cnt]), Lib.hid (Below.refl _ _)⟩
          case round =>
            obtain ⟨i, ff, bb, hi, rfl, rfl, rfl, HFF, HBB, HBi⟩ := hrel
            clear y0 y1 y2 y3 y4 y5
            have HXi := Lib.hid ((HBi.out.block _ hsb).trans HX7.out)
            obtain ⟨y0, y1, y2, y3, y4, y5, _⟩ := six HXi.out
            by_cases hin : i < n1
            · obtain ⟨v, hv⟩ := at_lt own i (by rw [← HN1.out]; exact hin)
              have hr1 : (own.map (frm L))[i]? = some (frm L v) := by rw [List.getElem?_map, hv]; rfl
              have hr2 : (own.map (tow L))[i]? = some (tow L v) := by rw [List.getElem?_map, hv]; rfl
              obtain ⟨bk1, o1, rfl, q0⟩ := (P1.out.below HBi.out) i v hv
              obtain ⟨bk2, o2, X, cx, rfl, q1, _⟩ := (P2.out.below HBi.out) i _ hr1
              obtain ⟨bk3, o3, Y, cy, rfl, q2, _⟩ := (P3.out.below HBi.out) i _ hr2
              obtain ⟨lx, hlx⟩ : ∃ n, (frm L v).length = n := ⟨_, rfl⟩
              obtain ⟨ly, hly⟩ : ∃ n, (tow L v).length = n := ⟨_, rfl⟩
              have hlx2 := HM1.out v; have hly2 := HM2.out v
              rw [hlx] at q1 hlx2; rw [hly] at q2 hly2
              have hffB : ff ≤ 64 * (200 * 512) + 200 * 512 := by
                have h1 := cnt_le HM1.out (own.take i)
                have h2 : (own.take i).length ≤ 512 := by rw [List.length_take, ← HN1.out]; omega
                have h3 : 200 * (own.take i).length ≤ 200 * 512 := Nat.mul_le_mul_left _ h2
                rw [HFF.out]; omega
              have hbbB : bb ≤ 64 * (200 * 512) + 200 * 512 := by
                have h1 := cnt_le HM2.out (own.take i)
                have h2 : (own.take i).length ≤ 512 := by rw [List.length_take, ← HN1.out]; omega
                have h3 : 200 * (own.take i).length ≤ 200 * 512 := Nat.mul_le_mul_left _ h2
                rw [HBB.out]; omega
              have HFF2 : Hid (ff + lx = f + cnt (frm L) (own.take (i + 1))) := Lib.hid (by rw [cnt_take hv, HFF.out, hlx]; omega)
              have HBB2 : Hid (bb + ly = b + cnt (tow L) (own.take (i + 1))) := Lib.hid (by rw [cnt_take hv, HBB.out, hly]; omega)
              have hvm : v ∈ owned V k j := by rw [HOWN.out]; exact List.mem_of_getElem? hv
              have hof : ofI v k = (j : Int) := (ow_mem hvm).2.2.2
              have hpl : plc own v = (i : Int) := by rw [← HOWN.out]; exact plc_owned (by rw [HOWN.out]; exact hv)
              have hc1 := regr fun W (_ : Below wr.heap.size wr W) => (of_at v (k : Int) (j : Int) W (Lib.hid hof)).mono fun e w' ⟨h1, h2⟩ => (⟨h1, by rw [← h2]; exact Below.refl _ _⟩ : _ ∧ Below W.heap.size W w')
              have hc2 := regr fun W (h : Below wr.heap.size wr W) => place_any (j : Int) (k : Int) V v (some ⟨bk1, o1, none⟩) (some ⟨bk2, o2, none⟩) (some ⟨bk3, o3, none⟩) c1 n1 c2 n1 c3 own W ((P1.out.below HBi.out).below h) (by rw [← HN1.out]; omega)
              rw [hpl, ← HN1.out] at hc2
              have C1 := Lib.hid hc1; have C2 := Lib.hid hc2
              clear hc1 hc2 hof hpl hvm hr1 hr2 hv hlx hly
              go_wp2_with fail
              have Y0 := cell_regrown y0; have Y1 := cell_regrown y1; have Y2 := cell_regrown y2; have Y3 := cell_regrown y3; have Y4 := cell_regrown y4; have Y5 := cell_regrown y5
              have Q0 := cell_regrown q0
              clear y0 y1 y2 y3 y4 y5 q0 q1 q2
              refine wp_region_quiet_below mixed (by kernel_rfl) ?_
              repeat (go_big_quiet_step ((with_reducible first | exact C1.out _ _ | exact C2.out _ _)))
              refine wpQuiet_nil ?_
              intro _ hw'
              obtain ⟨⟨dq, osq⟩, hw''⟩ := hw'
              subst hw''
              have hb9 := below_regrown wr dq osq
              have HB9 := Lib.hid (HBi.out.trans (hb9.mono HBi.out.size))
              clear hb9 Y0 Y1 Y2 Y3 Y4 Y5 Q0 C1 C2
              go_wp2
              go_roundg (gk - 1)
              case measure => omega
              case rel => exact ⟨i + 1, ff + lx, bb + ly, by omega, by go_num, by go_num, by go_num, HFF2, HBB2, HB9⟩
            · have hend : own.take i = own := List.take_of_length_le (by rw [← HN1.out]; omega)
              have hin1 : i = n1 := by omega
              go_wp2
              go_roundg (G - 1)
              case measure => omega
              case rel =>
                refine ⟨j + 1, o + n1, ff, bb, css ++ [[.int .i64 (j : Int), .int .i64 (k : Int), .int .i64 V, .slice A1 n1 c1, .slice A2 n1 c2, .slice A3 n1 c3]], by omega, by go_num, by go_num, rfl, rfl, Lib.hid ?_, Lib.hid ?_, Lib.hid ?_, Lib.hid (HLR7.out.below HBi.out), Lib.hid (HOC7.out.below HBi.out), Lib.hid (HB7.out.trans (HBi.out.mono HB7.out.size))⟩
                · rw [lenW, HO.out]
                  have : (ow k j (nv V)).length = n1 := by rw [HN1.out, ← HOWN.out]; rfl
                  omega
                · rw [allW, HFF.out, hend, HF.out, ← HOWN.out]; rfl
                · rw [allW, HBB.out, hend, HBk.out, ← HOWN.out]; rfl
        · obtain rfl : j = k := by omega
          clear k0 k1 hkk hM1 hM2
          have ho : (o : Int) = V := by rw [HO.out]; exact HSUM.out.1
          obtain rfl : f = L.length := HF.out.trans HSUM.out.2.1
          obtain rfl : b = L.length := HBk.out.trans HSUM.out.2.2
          obtain ⟨AJ, cJ, rfl, hLA⟩ := HLR.out.form HOC.out.con
          have hJo : joinA (pcs V L j j) = (V, L, 0) := joinA_of ⟨by rw [pcs_len]; exact hk1, by rw [pcs_len]; exact hk2, HE.out, by rw [pcs_len]; intro i hi; rw [pcs_len]; exact pcs_at hi⟩
          have HJ : Hid (Calls Try.prog 21 #[.slice AJ j cJ] wr fun e w' => JoRes wr w' (V, L, 0) e ∧ Below wr.heap.size wr w') := Lib.hid (by
            have := join_any AJ cJ (pcs V L j j) wr hLA (by rw [pcs_len]; omega) (fun Q hQ => by obtain ⟨i, _, rfl⟩ := List.mem_map.1 hQ; exact cutP_sm _ _ _ _ (by omega))
            rw [hJo, pcs_len] at this; exact this)
          clear hLA hJo HLR HOC HO HF HBk
          rw [pcs_len, ho]
          go_wp2_with fail
          refine HJ.out.mono ?_
          rintro e w4 ⟨⟨v, rfl, hv⟩, hb4⟩
          clear HJ
          obtain ⟨A4, c4, rfl, h4, _⟩ := hv.form
          have hgr := HGr.out.below hb4
          obtain ⟨w5, hw5⟩ : ∃ w5, w5 = w4.alloc (.cells #[.int .i64 V, .slice A4 L.length c4] 30) := ⟨_, rfl⟩
          have hb45 : Below w4.heap.size w4 w5 := by rw [hw5]; exact (Below.refl _ w4).alloc (Nat.le_refl _) _
          have HS := Lib.hid (rsame_any V V A4 A c4 c L L w5 (h4.below hb45) (hgr.below hb45).2 (by omega) (by omega))
          have hN : w5.heap[w4.heap.size]? = some (.cells #[.int .i64 V, .slice A4 L.length c4] 30 (0, 0)) := by rw [hw5]; exact heap_alloc_new w4 _
          obtain ⟨x0, x1, xl⟩ := Bx.cells hN
          have HG5 := Lib.hid (hgr.below hb45)
          have HB5 := Lib.hid (HB.out.trans ((hb4.trans (hb45.mono hb4.size)).mono HB.out.size))
          have HW5 := Lib.hid hw5
          obtain ⟨k0, k1, hkk⟩ := Bx.cells HG5.out.1
          clear hb45 hgr h4 hv hb4 hN
          rw [hw5] at x0 x1 xl k0 k1 hkk
          have hVV : (V == V) = true := by simp
          clear hw5
          go_wp2_with fail
          rw [← HW5.out]
          refine HS.out.mono ?_
          rintro e w6 ⟨rfl, hb6⟩
          clear x0 x1 xl k0 k1 hkk
          have hG6 := HG5.out.below hb6
          have HB6 := Lib.hid (HZ3.out.trans ((HB5.out.trans (hb6.mono HB5.out.size)).mono HZ3.out.size))
          obtain ⟨k0, k1, hkk⟩ := Bx.cells hG6.1
          clear hG6 hb6
          simp only [decide_true, Bool.and_self]
          go_wp2_with fail
          refine (HWE.out w6 HB6.out).mono ?_
          rintro e w7 ⟨rfl, HB7⟩
          go_wp2
          go_ret
          exact ⟨rfl, HB7.out⟩
    · have hb0 : (E != 0) = true := by simpa using hE0
      go_wp2_with fail
      refine (HWE.out w3 HZ3.out).mono ?_
      rintro e w4 ⟨rfl, HB⟩
      go_wp2
      go_ret
      exact ⟨rfl, HB.out⟩

end Go.Proofs.Ytjcgejbggmpikaa.Pt
