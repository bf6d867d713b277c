/-
  What is proved here: contracts of graph.Check and of the document's own Check: may a graph be? Conditions: numbers and counts fit an int. What is proved here: plain facts on parts: which worker has a vertex, which vertices a worker has, what a part is, what parts joined are; that the parts of a graph, joined, are it. No program. What is proved here: the contract of the document's own Check: may a graph be? Conditions: numbers and counts fit an int. What is proved here: contracts of graph.Out and graph.Back (and of the closures that choose), and of the document's own Out and Back: the edges from, and to, a vertex. Conditions: at most 100000 edges. What is proved here: contracts of graph.Out and graph.Back, and of the document's own Out and Back: the edges from, and to, a vertex. Conditions: at most 100000 edges.
-/
import Derived.Test.YtdcaekmgfcpbmaaGreatQcPtG1x
import Derived.Outline
namespace Go.Proofs.YtdcaekmgfcpbmaaGreat.Gr
open Go.RowKit Wd Ws
theorem mixedO : Tryz.prog.follows .mixedOrders = true := by kernel_rfl
def prv (L : List Ed) (k : Nat) : Option Ed := if k = 0 then none else L[k - 1]?
def CkRel (w : World) (V : Int) (A : Option Addr) (c : Nat) (L : List Ed) (g : Nat) (i : Value) (wr : World) : Prop :=
  ∃ k : Nat, k + g = L.length ∧ i = .int .i64 (k : Int) ∧ Below w.heap.size w wr ∧ wr.heap[w.heap.size]? = some (.cells #[.int .i64 V, .slice A L.length c] 24 (0, 0)) ∧ okL V none L = okL V (prv L k) (L.drop k)
structure Bx (w : World) (b : Nat) (V : Int) (s : Value) : Prop where
  at_ : w.heap[b]? = some (.cells #[.int .i64 V, s] 24 (0, 0))
theorem Bx.cells {w : World} {b : Nat} {V : Int} {s : Value} (h : w.heap[b]? = some (.cells #[.int .i64 V, s] 24 (0, 0))) : w.cell? ⟨b, 0, none⟩ = some (.int .i64 V) ∧ w.cell? ⟨b, 1, none⟩ = some s ∧ b < w.heap.size :=
  ⟨by rw [Lib.cell_of_heap h]; rfl, by rw [Lib.cell_of_heap h]; rfl, lt_of_block h⟩
theorem eb_cells {w : World} {b : Nat} {x y z : Int} (h : w.heap[b]? = some (.cells #[.int .i64 x, .int .i64 y, .int .i64 z] 33 (0, 0))) :
    w.cell? ⟨b, 0, none⟩ = some (.int .i64 x) ∧ w.cell? ⟨b, 1, none⟩ = some (.int .i64 y) ∧ w.cell? ⟨b, 2, none⟩ = some (.int .i64 z) ∧ b < w.heap.size :=
  ⟨by rw [Lib.cell_of_heap h]; rfl, by rw [Lib.cell_of_heap h]; rfl, by rw [Lib.cell_of_heap h]; rfl, lt_of_block h⟩
set_option maxRecDepth 100000 in
set_option maxHeartbeats 600000 in
theorem check_any (V : Int) (A : Option Addr) (c : Nat) (L : List Ed) (w : World) (hL : EAt w A L) (hm : L.length ≤ 9223372036854775807) :
    Calls Tryz.prog 25 #[.agg #[.int .i64 V, .slice A L.length c]] w fun e w' => e = .returned (.int .i64 (chk V L)) ∧ Below w.heap.size w w' := by
  have mixed := mixedO
  have HL := Lib.hid hL; clear hL
  have hz : Below w.heap.size w (w.alloc (.cells #[.int .i64 V, .slice A L.length c] 24)) := (Below.refl _ w).alloc (Nat.le_refl _) _
  have HZ := Lib.hid hz; clear hz
  by_cases hV : 512 < V
  · have hk : chk V L = 3 := by unfold chk; rw [if_pos (Or.inl hV)]
    rw [hk]; clear hk
    go_enter Tryz.func25, Tryz.ntmps25
    go_wp2
    go_ret
    exact ⟨rfl, HZ.out⟩
  · by_cases hn : 8192 < L.length
    · have hk : chk V L = 3 := by unfold chk; rw [if_pos (Or.inr hn)]
      rw [hk]; clear hk
      go_enter Tryz.func25, Tryz.ntmps25
      go_wp2
      go_ret
      exact ⟨rfl, HZ.out⟩
    · by_cases h1 : V < 1
      · have hk : chk V L = 40 := by unfold chk; rw [if_neg (by omega), if_pos h1]
        rw [hk]; clear hk
        go_enter Tryz.func25, Tryz.ntmps25
        go_wp2
        go_ret
        exact ⟨rfl, HZ.out⟩
      · have hk : chk V L = if okL V none L then 0 else 40 := by unfold chk; rw [if_neg (by omega), if_neg h1]
        rw [hk]
        clear hk
        obtain ⟨R, hR⟩ : ∃ R : Int, (if okL V none L then (0 : Int) else 40) = R := ⟨_, rfl⟩
        rw [hR]
        have HRR := Lib.hid hR; clear hR
        go_enter Tryz.func25, Tryz.ntmps25
        go_wp2
        go_loopg [20] L.length (fun g i wr => CkRel w V A c L g i wr)
        case atStart => exact ⟨0, by omega, rfl, HZ.out, heap_alloc_new w _, rfl⟩
        case round =>
          obtain ⟨k, hk, rfl, hb, hbx, hok⟩ := hrel
          by_cases hlt : k < L.length
          · obtain ⟨e, he⟩ := at_lt L k hlt
            obtain ⟨x0, x1, hsz⟩ := Bx.cells hbx
            have hea := HL.out.below hb
            obtain ⟨bk, o, rfl, c0, c1, c2⟩ := hea k e he
            have hokk : okL V (prv L k) (L.drop k) = (fitE V e && ahdO (prv L k) e && okL V (some e) (L.drop (k + 1))) := by rw [drop_at he]; rfl
            rw [hokk] at hok
            clear hokk
            have HNX : Hid (prv L (k + 1) = some e) := Lib.hid (by unfold prv; rw [if_neg (by omega), Nat.add_sub_cancel]; exact he)
            obtain ⟨e0, e1, e2⟩ := e
            have hy := heap_alloc_new wr (.cells #[.int .i64 e0, .int .i64 e1, .int .i64 e2] 33)
            have hb1 : Below w.heap.size w (wr.alloc (.cells #[.int .i64 e0, .int .i64 e1, .int .i64 e2] 33)) := hb.alloc (by omega) _
            have hbx1 := (Lib.alloc_old wr (.cells #[.int .i64 e0, .int .i64 e1, .int .i64 e2] 33) _ hsz).trans hbx
            have hea1 := HL.out.below hb1
            have HB := Lib.hid hb1; have HX := Lib.hid hbx1; have HO := Lib.hid hok; have HE := Lib.hid he; have HA := Lib.hid hea1
            have HY := Lib.hid hy
            clear hb hb1 hbx hbx1 hok he hea hea1 hy
            go_wp2
            generalize hW : wr.alloc (.cells #[.int .i64 e0, .int .i64 e1, .int .i64 e2] 33) = W at HB HX HA HY ⊢
            clear x0 x1 c0 c1 c2 hW
            obtain ⟨x0, x1, hsz1⟩ := Bx.cells HX.out
            obtain ⟨y0, y1, y2, hs1⟩ := eb_cells HY.out
            have fx0 := cell_grown hsz1 x0; have fx1 := cell_grown hsz1 x1
            have fy0 := cell_grown hs1 y0; have fy1 := cell_grown hs1 y1; have fy2 := cell_grown hs1 y2
            clear x0 x1 y0 y1 y2
            cases hf : fitE V (e0, e1, e2) with
            | false =>
              have HF := Lib.hid hf; clear hf
              have HC1 := Lib.hid (fun n os => Grw.quiet (edgeMayBe_q e0 e1 e2 V false (Sort.grow (W.drewN n) os) HF))
              refine wp_region_quiet_grown mixed (by kernel_rfl) ?_
              repeat (go_big_quiet_step (first | (go_at_call 46; exact HC1.out _ _)))
              refine wpQuiet_nil ?_
              intro _ hw'
              obtain ⟨⟨nq, osq⟩, hw''⟩ := hw'
              subst hw''
              go_wp2
              go_ret
              refine ⟨?_, HB.out.trans ((grw_at _ _ _).below.mono (by omega))⟩
              exact ret_int (by rw [← HRR.out, HO.out, HF.out]; rfl)
            | true =>
              have HF := Lib.hid hf; clear hf
              have HC1 := Lib.hid (fun n os => Grw.quiet (edgeMayBe_q e0 e1 e2 V true (Sort.grow (W.drewN n) os) HF))
              rcases k with _ | j
              · refine wp_region_quiet_grown mixed (by kernel_rfl) ?_
                repeat (go_big_quiet_step (first | (go_at_call 46; exact HC1.out _ _)))
                refine wpQuiet_nil ?_
                intro _ hw'
                obtain ⟨⟨nq, osq⟩, hw''⟩ := hw'
                subst hw''
                go_wp2
                go_roundg (gk - 1)
                case measure => omega
                case rel => 
                  refine ⟨1, by omega, by go_num, HB.out.trans ((grw_at _ _ _).below.mono (by omega)), ?_, ?_⟩
                  · exact ((grw_at _ _ _).below.block _ hsz1).trans HX.out
                  · rw [HO.out, HF.out, HNX.out]; rfl
              · obtain ⟨q, hq⟩ := at_lt L j (by omega)
                obtain ⟨bk', o', hA, p0, p1, p2⟩ := HA.out j q hq
                obtain ⟨rfl, rfl⟩ : bk = bk' ∧ o = o' := by simpa using hA
                have hP : Hid (prv L (j + 1) = some q) := Lib.hid (by unfold prv; rw [if_neg (by omega), Nat.add_sub_cancel]; exact hq)
                obtain ⟨q0, q1, q2⟩ := q
                have fp0 := cell_grown (block_lt_of_cell p0) p0; have fp1 := cell_grown (block_lt_of_cell p1) p1; have fp2 := cell_grown (block_lt_of_cell p2) p2
                clear p0 p1 p2 hq hA
                obtain ⟨r, hr⟩ : ∃ r, ahd (q0, q1, q2) (e0, e1, e2) = r := ⟨_, rfl⟩
                have HR := Lib.hid hr; clear hr
                have HC2 := Lib.hid (fun n os => Grw.quiet (isAhead_at q0 q1 q2 e0 e1 e2 r (Sort.grow (W.drewN n) os) HR))
                cases r with
                | false =>
                  refine wp_region_quiet_grown mixed (by kernel_rfl) ?_
                  repeat (go_big_quiet_step (first | (go_at_call 46; exact HC1.out _ _) | (go_at_call 47; exact HC2.out _ _)))
                  refine wpQuiet_nil ?_
                  intro _ hw'
                  obtain ⟨⟨nq, osq⟩, hw''⟩ := hw'
                  subst hw''
                  go_wp2
                  go_ret
                  refine ⟨?_, HB.out.trans ((grw_at _ _ _).below.mono (by omega))⟩
                  exact ret_int (by rw [← HRR.out, HO.out, HF.out, hP.out, show ahdO (some (q0, q1, q2)) (e0, e1, e2) = false from HR.out]; rfl)
                | true =>
                  refine wp_region_quiet_grown mixed (by kernel_rfl) ?_
                  repeat (go_big_quiet_step (first | (go_at_call 46; exact HC1.out _ _) | (go_at_call 47; exact HC2.out _ _)))
                  refine wpQuiet_nil ?_
                  intro _ hw'
                  obtain ⟨⟨nq, osq⟩, hw''⟩ := hw'
                  subst hw''
                  go_wp2
                  go_roundg (gk - 1)
                  case measure => omega
                  case rel =>
                    refine ⟨j + 2, by omega, by go_num, HB.out.trans ((grw_at _ _ _).below.mono (by omega)), ?_, ?_⟩
                    · exact ((grw_at _ _ _).below.block _ hsz1).trans HX.out
                    · rw [HO.out, HF.out, HNX.out, hP.out, show ahdO (some (q0, q1, q2)) (e0, e1, e2) = true from HR.out]; rfl
          · have hkn : k = L.length := by omega
            have HB := Lib.hid hb
            have HO : Hid (okL V none L = true) := Lib.hid (by rw [hok, hkn, List.drop_length]; rfl)
            clear hok hbx hb
            go_wp2
            go_ret
            refine ⟨?_, HB.out⟩
            exact ret_int (by rw [← HRR.out, HO.out]; rfl)
end Go.Proofs.YtdcaekmgfcpbmaaGreat.Gr
namespace Go.Proofs.YtdcaekmgfcpbmaaGreat.Pt
open Go Go.Lib Gr
def ofI (v k : Int) : Int := if 0 ≤ v ∧ v < 512 ∧ 1 ≤ k ∧ k ≤ 64 then 2654435761 * v % 4294967296 * k / 4294967296 else -1
theorem ofI_range {v k : Int} (h0 : 0 ≤ v) (h1 : v < 512) (h2 : 1 ≤ k) (h3 : k ≤ 64) : 0 ≤ ofI v k ∧ ofI v k < k := by
  unfold ofI
  rw [if_pos ⟨h0, h1, h2, h3⟩]
  obtain ⟨x, hx⟩ : ∃ x, 2654435761 * v % 4294967296 = x := ⟨_, rfl⟩
  have hx0 : 0 ≤ x := by omega
  have hx1 : x < 4294967296 := by omega
  rw [hx]
  constructor
  · exact Int.ediv_nonneg (Int.mul_nonneg hx0 (by omega)) (by omega)
  · apply Int.ediv_lt_of_lt_mul (by omega)
    rw [Int.mul_comm k]
    exact Int.mul_lt_mul_of_pos_right hx1 (by omega)
def vs (n : Nat) : List Int := (List.range n).map fun (i : Nat) => (i : Int)
theorem vs_succ (n : Nat) : vs (n + 1) = vs n ++ [(n : Int)] := by simp [vs, List.range_succ]
def isW (k w : Int) (v : Int) : Bool := decide (0 ≤ w) && decide (ofI v k = w)
theorem isW_yes {k w v : Int} (h : 0 ≤ w) (e : ofI v k = w) : isW k w v = true := by unfold isW; rw [decide_eq_true h, decide_eq_true e]; rfl
def ow (k w : Int) (n : Nat) : List Int := (vs n).filter (isW k w)
theorem ow_succ (k w : Int) (n : Nat) : ow k w (n + 1) = ow k w n ++ (if isW k w n then [(n : Int)] else []) := by
  unfold ow; rw [vs_succ, List.filter_append]
  congr 1
  cases h : isW k w n <;> simp [h]
def nv (n : Int) : Nat := (min n 512).toNat
def owned (n k w : Int) : List Int := ow k w (nv n)
structure Pt where
  w : Int
  k : Int
  n : Int
  own : List Int
  out : List (List Ed)
  back : List (List Ed)
deriving DecidableEq
def frm (L : List Ed) (v : Int) : List Ed := L.filter fun e => decide (e.1 = v)
def tow (L : List Ed) (v : Int) : List Ed := L.filter fun e => decide (e.2.1 = v)
def cutP (V : Int) (L : List Ed) (k w : Int) : Pt := ⟨w, k, V, owned V k w, (owned V k w).map (frm L), (owned V k w).map (tow L)⟩
def hd (l : List Pt) : Int := match l[0]? with | none => 0 | some p => p.n
def Cuts (l : List Pt) (V : Int) (es : List Ed) (j : Nat) : Prop := ∀ i, i < j → l[i]? = some (cutP V es l.length i)
instance (l : List Pt) (V : Int) (es : List Ed) (j : Nat) : Decidable (Cuts l V es j) := by unfold Cuts; infer_instance
theorem ow_split (k w : Int) (j m : Nat) (h : isW k w j = true) : ∃ B : List Int, ow k w (j + (m + 1)) = ow k w j ++ ((j : Int) :: B) ∧ ∀ x ∈ B, (j : Int) < x := by
  induction m with
  | zero => exact ⟨[], by rw [ow_succ, h]; rfl, by simp⟩
  | succ m ih =>
    obtain ⟨B, h1, h2⟩ := ih
    refine ⟨B ++ (if isW k w ((j + (m + 1) : Nat) : Int) then [((j + (m + 1) : Nat) : Int)] else []), ?_, ?_⟩
    · rw [← Nat.add_assoc, ow_succ, h1]; simp
    · intro x hx
      rcases List.mem_append.1 hx with hx | hx
      · exact h2 x hx
      · split at hx
        · simp at hx; omega
        · simp at hx
structure Joins (l : List Pt) (V : Int) (L : List Ed) : Prop where
  one : 1 ≤ l.length
  most : l.length ≤ 64
  ok : chk V L = 0
  cuts : Cuts l V L l.length
theorem Joins.hd {l : List Pt} {V : Int} {L : List Ed} (h : Joins l V L) : Pt.hd l = V := by
  have := h.cuts 0 h.one
  unfold Pt.hd; rw [this]; rfl
theorem Joins.facts {l : List Pt} {V : Int} {L : List Ed} (h : Joins l V L) : 1 ≤ V ∧ V ≤ 512 ∧ L.length ≤ 8192 ∧ (∀ e ∈ L, fitE V e = true) ∧ Rise L := (chk_zero V L).1 h.ok
theorem Joins.at_ {l : List Pt} {V : Int} {L : List Ed} (h : Joins l V L) (j : Nat) (hj : (j : Int) < V) :
    ∃ B, l[(ofI j l.length).toNat]? = some (cutP V L l.length (ofI j l.length)) ∧ (ofI j l.length).toNat < l.length ∧ owned V l.length (ofI j l.length) = ow l.length (ofI j l.length) j ++ ((j : Int) :: B) ∧ ∀ x ∈ B, (j : Int) < x := by
  obtain ⟨f1, f2, _⟩ := h.facts
  have := h.one; have := h.most
  obtain ⟨r1, r2⟩ := ofI_range (v := j) (k := l.length) (by omega) (by omega) (by omega) (by omega)
  have hw : isW l.length (ofI j l.length) j = true := isW_yes r1 rfl
  have hn : nv V = j + ((V.toNat - j - 1) + 1) := by unfold nv; omega
  obtain ⟨B, h1, h2⟩ := ow_split l.length (ofI j l.length) j (V.toNat - j - 1) hw
  refine ⟨B, ?_, by omega, ?_, h2⟩
  · have := h.cuts (ofI j l.length).toNat (by omega)
    rw [this, Int.toNat_of_nonneg r1]
  · unfold owned; rw [hn]; exact h1
def cnt (f : Int → List Ed) (l : List Int) : Nat := (l.map fun v => (f v).length).sum
end Go.Proofs.YtdcaekmgfcpbmaaGreat.Pt
namespace Go.Proofs.YtdcaekmgfcpbmaaGreat.Gr
open Go.RowKit Wd Ws
set_option maxRecDepth 100000 in
set_option maxHeartbeats 600000 in
theorem rcheck_any (V : Int) (A : Option Addr) (c : Nat) (L : List Ed) (w : World) (hL : EAt w A L) (hm : L.length ≤ 9223372036854775807) :
    Calls Tryz.prog 24 #[.agg #[.int .i64 V, .slice A L.length c]] w fun e w' => e = .returned (.int .i64 (chk V L)) ∧ Below w.heap.size w w' := by
  have mixed := mixedO
  have HL := Lib.hid hL; clear hL
  have hz : Below w.heap.size w (w.alloc (.cells #[.int .i64 V, .slice A L.length c] 24)) := (Below.refl _ w).alloc (Nat.le_refl _) _
  have HZ := Lib.hid hz; clear hz
  by_cases hV : 512 < V
  · have hk : chk V L = 3 := by unfold chk; rw [if_pos (Or.inl hV)]
    rw [hk]; clear hk
    go_enter Tryz.func24, Tryz.ntmps24
    go_wp2
    go_ret
    exact ⟨rfl, HZ.out⟩
  · by_cases hn : 8192 < L.length
    · have hk : chk V L = 3 := by unfold chk; rw [if_pos (Or.inr hn)]
      rw [hk]; clear hk
      go_enter Tryz.func24, Tryz.ntmps24
      go_wp2
      go_ret
      exact ⟨rfl, HZ.out⟩
    · have hk : chk V L = if okL V none L then (if V < 1 then 40 else 0) else 40 := by
        unfold chk; rw [if_neg (by omega)]
        by_cases h1 : V < 1
        · rw [if_pos h1, if_pos h1]; split <;> rfl
        · rw [if_neg h1, if_neg h1]
      rw [hk]
      clear hk
      obtain ⟨R, hR⟩ : ∃ R : Int, (if okL V none L then (if V < 1 then (40 : Int) else 0) else 40) = R := ⟨_, rfl⟩
      rw [hR]
      have HRR := Lib.hid hR; clear hR
      go_enter Tryz.func24, Tryz.ntmps24
      go_wp2
      go_loopg [3] L.length (fun g i wr => CkRel w V A c L g i wr)
      case atStart => exact ⟨0, by omega, rfl, HZ.out, heap_alloc_new w _, rfl⟩
      case round =>
        obtain ⟨k, hk, rfl, hb, hbx, hok⟩ := hrel
        by_cases hlt : k < L.length
        · obtain ⟨e, he⟩ := at_lt L k hlt
          obtain ⟨x0, x1, hsz⟩ := Bx.cells hbx
          have hea := HL.out.below hb
          obtain ⟨bk, o, rfl, c0, c1, c2⟩ := hea k e he
          have hokk : okL V (prv L k) (L.drop k) = (fitE V e && ahdO (prv L k) e && okL V (some e) (L.drop (k + 1))) := by rw [drop_at he]; rfl
          rw [hokk] at hok
          clear hokk
          have HNX : Hid (prv L (k + 1) = some e) := Lib.hid (by unfold prv; rw [if_neg (by omega), Nat.add_sub_cancel]; exact he)
          obtain ⟨e0, e1, e2⟩ := e
          have HB := Lib.hid hb; have HX := Lib.hid hbx; have HO := Lib.hid hok; have HE := Lib.hid he; have HA := Lib.hid hea
          clear hb hbx hok he hea
          go_wp2
          generalize hW : wr = W at HB HX HA hsz x0 x1 c0 c1 c2 ⊢
          clear hW
          have hsz1 := hsz
          have fx0 := cell_grown hsz1 x0; have fx1 := cell_grown hsz1 x1
          have fy0 := cell_grown (block_lt_of_cell c0) c0; have fy1 := cell_grown (block_lt_of_cell c1) c1; have fy2 := cell_grown (block_lt_of_cell c2) c2
          clear x0 x1 c0 c1 c2
          cases hf : fitE V (e0, e1, e2) with
          | false =>
            have HF := Lib.hid hf; clear hf
            have HC1 := Lib.hid (fun n os => Grw.quiet (rfits_at e0 e1 e2 V false (Sort.grow (W.drewN n) os) HF))
            refine wp_region_quiet_grown mixed (by kernel_rfl) ?_
            repeat (go_big_quiet_step (first | (go_at_call 44; exact HC1.out _ _)))
            refine wpQuiet_nil ?_
            intro _ hw'
            obtain ⟨⟨nq, osq⟩, hw''⟩ := hw'
            subst hw''
            go_wp2
            go_ret
            refine ⟨?_, HB.out.trans ((grw_at _ _ _).below.mono (by omega))⟩
            exact ret_int (by rw [← HRR.out, HO.out, HF.out]; rfl)
          | true =>
            have HF := Lib.hid hf; clear hf
            have HC1 := Lib.hid (fun n os => Grw.quiet (rfits_at e0 e1 e2 V true (Sort.grow (W.drewN n) os) HF))
            rcases k with _ | j
            · simp only [Nat.zero_mul, Nat.add_zero] at fy0 fy1 fy2
              refine wp_region_quiet_grown mixed (by kernel_rfl) ?_
              repeat (go_big_quiet_step (first | (go_at_call 44; exact HC1.out _ _)))
              refine wpQuiet_nil ?_
              intro _ hw'
              obtain ⟨⟨nq, osq⟩, hw''⟩ := hw'
              subst hw''
              go_wp2
              go_roundg (gk - 1)
              case measure => omega
              case rel => 
                refine ⟨1, by omega, by go_num, HB.out.trans ((grw_at _ _ _).below.mono (by omega)), ?_, ?_⟩
                · exact ((grw_at _ _ _).below.block _ hsz1).trans HX.out
                · rw [HO.out, HF.out, HNX.out]; rfl
            · obtain ⟨q, hq⟩ := at_lt L j (by omega)
              obtain ⟨bk', o', hA, p0, p1, p2⟩ := HA.out j q hq
              obtain ⟨rfl, rfl⟩ : bk = bk' ∧ o = o' := by simpa using hA
              have hP : Hid (prv L (j + 1) = some q) := Lib.hid (by unfold prv; rw [if_neg (by omega), Nat.add_sub_cancel]; exact hq)
              obtain ⟨q0, q1, q2⟩ := q
              have fp0 := cell_grown (block_lt_of_cell p0) p0; have fp1 := cell_grown (block_lt_of_cell p1) p1; have fp2 := cell_grown (block_lt_of_cell p2) p2
              clear p0 p1 p2 hq hA
              obtain ⟨r, hr⟩ : ∃ r, ahd (q0, q1, q2) (e0, e1, e2) = r := ⟨_, rfl⟩
              have HR := Lib.hid hr; clear hr
              have HC2 := Lib.hid (fun n os => Grw.quiet (rahead_at q0 q1 q2 e0 e1 e2 r (Sort.grow (W.drewN n) os) HR))
              cases r with
              | false =>
                refine wp_region_quiet_grown mixed (by kernel_rfl) ?_
                repeat (go_big_quiet_step (first | (go_at_call 44; exact HC1.out _ _) | (go_at_call 45; exact HC2.out _ _)))
                refine wpQuiet_nil ?_
                intro _ hw'
                obtain ⟨⟨nq, osq⟩, hw''⟩ := hw'
                subst hw''
                go_wp2
                go_ret
                refine ⟨?_, HB.out.trans ((grw_at _ _ _).below.mono (by omega))⟩
                exact ret_int (by rw [← HRR.out, HO.out, HF.out, hP.out, show ahdO (some (q0, q1, q2)) (e0, e1, e2) = false from HR.out]; rfl)
              | true =>
                refine wp_region_quiet_grown mixed (by kernel_rfl) ?_
                repeat (go_big_quiet_step (first | (go_at_call 44; exact HC1.out _ _) | (go_at_call 45; exact HC2.out _ _)))
                refine wpQuiet_nil ?_
                intro _ hw'
                obtain ⟨⟨nq, osq⟩, hw''⟩ := hw'
                subst hw''
                go_wp2
                go_roundg (gk - 1)
                case measure => omega
                case rel =>
                  refine ⟨j + 2, by omega, by go_num, HB.out.trans ((grw_at _ _ _).below.mono (by omega)), ?_, ?_⟩
                  · exact ((grw_at _ _ _).below.block _ hsz1).trans HX.out
                  · rw [HO.out, HF.out, HNX.out, hP.out, show ahdO (some (q0, q1, q2)) (e0, e1, e2) = true from HR.out]; rfl
        · have hkn : k = L.length := by omega
          have HB := Lib.hid hb
          have HO : Hid (okL V none L = true) := Lib.hid (by rw [hok, hkn, List.drop_length]; rfl)
          obtain ⟨x0, x1, hsz⟩ := Bx.cells hbx
          clear hok hbx hb
          by_cases h1 : V < 1
          · go_wp2
            go_ret
            refine ⟨?_, HB.out⟩
            exact ret_int (by rw [← HRR.out, HO.out, if_pos rfl, if_pos h1])
          · go_wp2
            go_ret
            refine ⟨?_, HB.out⟩
            exact ret_int (by rw [← HRR.out, HO.out, if_pos rfl, if_neg (by omega)])
end Go.Proofs.YtdcaekmgfcpbmaaGreat.Gr
namespace Go.Proofs.YtdcaekmgfcpbmaaGreat.Gr
open Go.RowKit Wd Ws
def Chooses (g : Nat) (lb : Array Value) (p : Ed → Bool) (w : World) : Prop :=
  ∀ (W : World) (a b c : Int), Below w.heap.size w W → Calls Tryz.prog g (#[.agg #[.int .i64 a, .int .i64 b, .int .i64 c]] ++ lb) W fun e w' => e = .returned (.bool (p (a, b, c))) ∧ Below W.heap.size W w'
theorem Chooses.below {g : Nat} {lb : Array Value} {p : Ed → Bool} {w w' : World} (h : Chooses g lb p w) (hb : Below w.heap.size w w') : Chooses g lb p w' :=
  fun W a b c k => h W a b c (step_below hb hb.size k)
theorem out_closure (B : Nat) (v : Int) (w : World) (hB : w.cell? ⟨B, 0, none⟩ = some (.int .i64 v)) : Chooses 74 #[.pointer (some ⟨B, 0, none⟩)] (fun e => decide (e.1 = v)) w := by
  intro W a b c hb
  have hc := (hb.cell (block_lt_of_cell hB)).trans hB
  have hl := block_lt_of_cell hc
  show Calls Tryz.prog 74 #[.agg #[.int .i64 a, .int .i64 b, .int .i64 c], .pointer (some ⟨B, 0, none⟩)] W _
  clear hb hB
  have hc2 : (W.alloc (.cells #[.int .i64 a, .int .i64 b, .int .i64 c] 33)).cell? ⟨B, 0, none⟩ = some (.int .i64 v) := by
    rw [Sort.alloc_eq_grow, Sort.cell?_grow _ _ _ hl]; exact hc
  go_enter Tryz.func74, Tryz.ntmps74
  go_wp2
  go_ret
  exact ⟨rfl, ((Grw.refl W).alloc _).below⟩
theorem back_closure (B : Nat) (v : Int) (w : World) (hB : w.cell? ⟨B, 0, none⟩ = some (.int .i64 v)) : Chooses 77 #[.pointer (some ⟨B, 0, none⟩)] (fun e => decide (e.2.1 = v)) w := by
  intro W a b c hb
  have hc := (hb.cell (block_lt_of_cell hB)).trans hB
  have hl := block_lt_of_cell hc
  show Calls Tryz.prog 77 #[.agg #[.int .i64 a, .int .i64 b, .int .i64 c], .pointer (some ⟨B, 0, none⟩)] W _
  clear hb hB
  have hc2 : (W.alloc (.cells #[.int .i64 a, .int .i64 b, .int .i64 c] 33)).cell? ⟨B, 0, none⟩ = some (.int .i64 v) := by
    rw [Sort.alloc_eq_grow, Sort.cell?_grow _ _ _ hl]; exact hc
  go_enter Tryz.func77, Tryz.ntmps77
  go_wp2
  go_ret
  exact ⟨rfl, ((Grw.refl W).alloc _).below⟩
def CsRel (w : World) (L : List Ed) (p : Ed → Bool) (g : Nat) (v i : Value) (wr : World) : Prop :=
  ∃ k : Nat, k + g = L.length ∧ i = .int .i64 (k : Int) ∧ EOwn wr w.heap.size v ((L.take k).filter p) ∧ Below w.heap.size w wr
theorem filter_len (L : List Ed) (p : Ed → Bool) (k : Nat) : ((L.take k).filter p).length ≤ L.length := by
  have h1 := List.length_filter_le p (L.take k)
  have h2 : (L.take k).length ≤ L.length := by rw [List.length_take]; omega
  omega
theorem filter_yes {L : List Ed} {p : Ed → Bool} {k : Nat} {e : Ed} (h : L[k]? = some e) (hp : p e = true) : (L.take (k + 1)).filter p = (L.take k).filter p ++ [e] := by
  rw [take_at h, List.filter_append]; simp [hp]
theorem filter_no {L : List Ed} {p : Ed → Bool} {k : Nat} {e : Ed} (h : L[k]? = some e) (hp : p e = false) : (L.take (k + 1)).filter p = (L.take k).filter p := by
  rw [take_at h, List.filter_append]; simp [hp]
set_option maxRecDepth 100000 in
set_option maxHeartbeats 600000 in
theorem chosen_any (A : Option Addr) (c : Nat) (L : List Ed) (g : Nat) (lb : Array Value) (p : Ed → Bool) (w : World) (eg : ∀ args w, (callFunc g args).run Tryz.prog w = .ok (.enter g args) w) (hL : EAt w A L) (hm : L.length ≤ 100000) (hp : Chooses g lb p w) :
    Calls Tryz.prog 73 #[.slice A L.length c, .func (.func g) #[] lb] w fun e w' => ∃ v, e = .returned v ∧ EOwn w' w.heap.size v (L.filter p) ∧ Below w.heap.size w w' := by
  have HL := Lib.hid hL; have HP := Lib.hid hp; clear hL hp
  go_enter Tryz.func73, Tryz.ntmps73
  go_wp2
  go_loopg [5, 10] L.length (fun g v i wr => CsRel w L p g v i wr)
  case atStart => exact ⟨0, by omega, rfl, EOwn.none_ _ _, Below.refl _ w⟩
  case round =>
    obtain ⟨k, hk, rfl, ho, hb⟩ := hrel
    by_cases hlt : k < L.length
    · obtain ⟨e, he⟩ := at_lt L k hlt
      obtain ⟨bk, o, rfl, c0, c1, c2⟩ := (HL.out.below hb) k e he
      obtain ⟨e0, e1, e2⟩ := e
      have hb1 : Below w.heap.size w (wr.alloc (.cells #[.int .i64 e0, .int .i64 e1, .int .i64 e2] 33)) := hb.alloc hb.size _
      have ho1 := ho.alloc (.cells #[.int .i64 e0, .int .i64 e1, .int .i64 e2] 33)
      have HC := Lib.hid (HP.out _ e0 e1 e2 hb1)
      have HY := Lib.hid (heap_alloc_new wr (.cells #[.int .i64 e0, .int .i64 e1, .int .i64 e2] 33))
      have hlen := filter_len L p k
      have HB := Lib.hid hb1; have HO := Lib.hid ho1; have HE := Lib.hid he
      clear hb hb1 ho ho1 he
      go_wp2_with fail
      refine HC.out.mono ?_
      rintro er w1 ⟨rfl, hb2⟩
      clear HC c0 c1 c2
      have HY1 := Lib.hid ((hb2.block _ (lt_of_block HY.out)).trans HY.out)
      have HO1 := Lib.hid (HO.out.below hb2)
      have HB1 := Lib.hid (step_below HB.out (by have := HB.out.size; omega) hb2)
      clear hb2 HY HO HB
      obtain ⟨y0, y1, y2, hs1⟩ := eb_cells HY1.out
      cases hq : p (e0, e1, e2) with
      | true =>
        have HQ := Lib.hid hq; clear hq
        have hnew := heap_alloc_new w1 (.cells #[.int .i64 e0, .int .i64 e1, .int .i64 e2] 33)
        have HN := Lib.hid hnew; clear hnew
        have HO2 := Lib.hid (HO1.out.alloc (.cells #[.int .i64 e0, .int .i64 e1, .int .i64 e2] 33))
        have HB2 := Lib.hid (HB1.out.alloc HB1.out.size (.cells #[.int .i64 e0, .int .i64 e1, .int .i64 e2] 33))
        go_wp2_with (at_builtin; refine app_e rfl (.tmp 17) (.tmp 19) rfl w.heap.size _ _ e0 e1 e2 rfl HO2.out _ rfl HN.out ?c1 ?c2 ?_)
        case c1 => omega
        case c2 => exact HB2.out.size
        intro v' w2 ho2 hg2
        have HB3 := Lib.hid (Below.grown HB2.out hg2 HB2.out.size fun j e => (own_lt HO2.out j e).1)
        have HO3 := Lib.hid ho2; clear ho2 hg2
        go_wp2
        go_roundg (gk - 1)
        case measure => omega
        case rel => exact ⟨k + 1, by omega, by go_num, by rw [filter_yes HE.out HQ.out]; exact HO3.out, HB3.out⟩
      | false =>
        have HQ := Lib.hid hq; clear hq
        go_wp2
        go_roundg (gk - 1)
        case measure => omega
        case rel => exact ⟨k + 1, by omega, by go_num, by rw [filter_no HE.out HQ.out]; exact HO1.out, HB1.out⟩
    · have HK : Hid (k = L.length) := Lib.hid (by omega)
      have HO := Lib.hid ho; have HB := Lib.hid hb; clear ho hb
      go_wp2
      go_ret
      refine ⟨_, rfl, ?_, HB.out⟩
      have := HO.out
      rw [HK.out, List.take_length] at this
      exact this
end Go.Proofs.YtdcaekmgfcpbmaaGreat.Gr
namespace Go.Proofs.YtdcaekmgfcpbmaaGreat.Gr
open Go.RowKit Wd Ws
set_option maxRecDepth 100000 in
theorem out_any (V v : Int) (A : Option Addr) (c : Nat) (L : List Ed) (w : World) (hL : EAt w A L) (hm : L.length ≤ 100000) :
    Calls Tryz.prog 52 #[.agg #[.int .i64 V, .slice A L.length c], .int .i64 v] w fun e w' => ∃ x, e = .returned x ∧ EOwn w' w.heap.size x (L.filter fun e => decide (e.1 = v)) ∧ Below w.heap.size w w' := by
  have hz := two_boxes w (.cells #[.int .i64 V, .slice A L.length c] 24) (.cells #[.int .i64 v] 3)
  have HC := Lib.hid (chosen_any A c L 74 #[.pointer (some ⟨w.heap.size + 1, 0, none⟩)] (fun e => decide (e.1 = v)) _ (enters_of Tryz.func74 (by kernel_rfl) rfl) (hL.below hz) hm
    (out_closure (w.heap.size + 1) v ((w.alloc (.cells #[.int .i64 V, .slice A L.length c] 24)).alloc (.cells #[.int .i64 v] 3)) (by simp)))
  have HZ := Lib.hid hz; clear hz hL
  go_enter Tryz.func52, Tryz.ntmps52
  go_wp2_with fail
  refine HC.out.mono ?_
  rintro e w' ⟨x, rfl, ho, hb⟩
  have HO := Lib.hid ho; have HB := Lib.hid hb; clear ho hb HC
  go_wp2_with fail
  go_ret
  exact ⟨x, rfl, own_mono HO.out (by simp; omega), HZ.out.trans (HB.out.mono (by simp; omega))⟩
set_option maxRecDepth 100000 in
theorem back_any (V v : Int) (A : Option Addr) (c : Nat) (L : List Ed) (w : World) (hL : EAt w A L) (hm : L.length ≤ 100000) :
    Calls Tryz.prog 57 #[.agg #[.int .i64 V, .slice A L.length c], .int .i64 v] w fun e w' => ∃ x, e = .returned x ∧ EOwn w' w.heap.size x (L.filter fun e => decide (e.2.1 = v)) ∧ Below w.heap.size w w' := by
  have hz := two_boxes w (.cells #[.int .i64 V, .slice A L.length c] 24) (.cells #[.int .i64 v] 3)
  have HC := Lib.hid (chosen_any A c L 77 #[.pointer (some ⟨w.heap.size + 1, 0, none⟩)] (fun e => decide (e.2.1 = v)) _ (enters_of Tryz.func77 (by kernel_rfl) rfl) (hL.below hz) hm
    (back_closure (w.heap.size + 1) v ((w.alloc (.cells #[.int .i64 V, .slice A L.length c] 24)).alloc (.cells #[.int .i64 v] 3)) (by simp)))
  have HZ := Lib.hid hz; clear hz hL
  go_enter Tryz.func57, Tryz.ntmps57
  go_wp2_with fail
  refine HC.out.mono ?_
  rintro e w' ⟨x, rfl, ho, hb⟩
  have HO := Lib.hid ho; have HB := Lib.hid hb; clear ho hb HC
  go_wp2_with fail
  go_ret
  exact ⟨x, rfl, own_mono HO.out (by simp; omega), HZ.out.trans (HB.out.mono (by simp; omega))⟩
def RoRel (w : World) (V : Int) (A : Option Addr) (c : Nat) (L : List Ed) (p : Ed → Bool) (g : Nat) (v i : Value) (wr : World) : Prop :=
  ∃ k : Nat, k + g = L.length ∧ i = .int .i64 (k : Int) ∧ EOwn wr w.heap.size v ((L.take k).filter p) ∧ Below w.heap.size w wr ∧ wr.heap[w.heap.size]? = some (.cells #[.int .i64 V, .slice A L.length c] 24 (0, 0)) ∧ v.ownBlock ≠ some w.heap.size
end Go.Proofs.YtdcaekmgfcpbmaaGreat.Gr
