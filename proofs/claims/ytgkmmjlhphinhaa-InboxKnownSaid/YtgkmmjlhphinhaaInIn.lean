/-
  What is proved here: what all laws of this seat share: what jobs, messages, rows of them, vertices and mail that came in give; a call that returns true and leaves every block that was there as it was meets the law's specification.
-/
import Derived.Test.YtgkmmjlhphinhaaInMg
import Derived.ProofKit
import Derived.LaidMore
import Derived.OpenShut
import Derived.SizedLaws
import Derived.Carry
import Derived.ChangeSlices
import Derived.Deep.Slices
import Derived.Deep.Fields
namespace Go.Proofs.Ytgkmmjlhphinhaa.In
open Go.ChangeShapes Go.WideShapes Go.ChangeAt Go.RowKit Go.Deep Gr Wd Ws Lb Al

theorem own : ownKnob Try.prog.godebug = none := by kernel_rfl
theorem laidOut : laidOutB Try.prog = true := by kernel_rfl
theorem law_post {H : Type} {enc : TypeId × Value → H} {f : Func} {s : ChangeSpec} {apart : Bool} {W W' : World} {args : Array Value} {ds : List (DataW H)} {before : List MemPlace}
    (hW : DataW.Whole enc Try.prog f.params.toList s.vars apart W args.toList ds [] before) (hb : Below W.heap.size W W')
    (ht : f.resultTypes = #[4]) (hr : (s.fn H (ds ++ [])).results = [.lit (.bool true)]) (hv : s.vars = []) (hg : (s.fn H (ds ++ [])).vars = [])
    (hargs : DataW.TrodAll enc Try.prog W' 0 (fun b => decide (b < W.heap.size)) true f.params.toList args.toList (s.fn H (ds ++ [])).args before) :
    s.post enc Try.prog f apart true false false W args (.bool true) W' := by
  have hres : ∀ (b : Nat) (sp : Nat → Bool) (hd : Bool), DataW.TrodAll enc Try.prog W' b sp hd f.resultTypes.toList ((Value.bool true).resultList f.resultTypes.size) (s.fn H (ds ++ [])).results [] := by
    intro b sp hd
    rw [hr, ht]
    exact trodAll_cons_mk (shut_bool Try.underlying4 _) trodAll_mk0
  have hvars : ∀ sp : Nat → Bool, DataW.TrodVars enc Try.prog W' sp s.vars (s.fn H (ds ++ [])).vars [] := by
    intro sp; rw [hv, hg]; rfl
  exact ⟨ds, [], before, [], before, [], hW, hres _ _ _, hargs, hvars _, hb.frame _, fun h => absurd h (by simp)⟩
theorem i64_in {a : Int} (h : (Lit.int .i64 a).wf = true) : -9223372036854775808 ≤ a ∧ a ≤ 9223372036854775807 := by
  have h1 : IntKind.i64.min ≤ a ∧ a ≤ IntKind.i64.max := by simpa [Lit.wf] using h
  have h3 : IntKind.i64.min = -9223372036854775808 := by decide
  have h4 : IntKind.i64.max = 9223372036854775807 := by decide
  omega
theorem u8_in {a : Int} (h : (Lit.int .u8 a).wf = true) : 0 ≤ a ∧ a ≤ 255 := by
  have h1 : IntKind.u8.min ≤ a ∧ a ≤ IntKind.u8.max := by simpa [Lit.wf] using h
  have h3 : IntKind.u8.min = 0 := by decide
  have h4 : IntKind.u8.max = 255 := by decide
  omega
theorem cellsI : Try.prog.cellsOf 3 = 1 := by kernel_rfl
theorem cellsJ : Try.prog.cellsOf 2 = 1 := by kernel_rfl
theorem cellsM : Try.prog.cellsOf 43 = 2 := by kernel_rfl
theorem cellsB : Try.prog.cellsOf 4 = 1 := by kernel_rfl
theorem pick_list {α : Type} (P : Nat → α → Prop) : ∀ n : Nat, (∀ i, i < n → ∃ x, P i x) → ∃ l : List α, l.length = n ∧ ∀ i x, l[i]? = some x → P i x
  | 0, _ => ⟨[], rfl, fun i x h => by simp at h⟩
  | n + 1, h => by
    obtain ⟨l, hl, hp⟩ := pick_list P n (fun i hi => h i (by omega))
    obtain ⟨x, hx⟩ := h n (by omega)
    refine ⟨l ++ [x], by simp [hl], fun i y hy => ?_⟩
    rcases Nat.lt_or_ge i n with hi | hi
    · rw [List.getElem?_append_left (by omega)] at hy; exact hp i y hy
    · rw [List.getElem?_append_right (by omega)] at hy
      have : i - l.length = 0 := by
        rcases Nat.eq_zero_or_pos (i - l.length) with h0 | h0
        · exact h0
        · rw [List.getElem?_eq_none (by simp; omega)] at hy; cases hy
      rw [this] at hy
      simp at hy
      have e : i = n := by omega
      rw [← hy, e]; exact hx
set_option maxRecDepth 100000 in
theorem job_in {H : Type} {enc : TypeId × Value → H} {W : World} {base : Nat} {v : Value} {d : DataW H} {ps : List MemPlace}
    (hval : Value.okWide Try.prog W .any base 23 v) (h : DataW.Trod enc Try.prog W 0 (fun _ => true) true 23 v d ps) :
    ∃ (k st so dm ep : Int), v = .agg #[.int .u8 k, .int .i64 st, .int .i64 so, .int .i64 dm, .int .i64 ep] ∧ (-9223372036854775808 ≤ dm ∧ dm ≤ 9223372036854775807) := by
  obtain ⟨cs, rfl, hsz⟩ := okWide_struct Try.underlying23 hval
  rw [show Try.prog.cellsOf 23 = 5 by kernel_rfl] at hsz
  obtain ⟨fuel, hf⟩ := h
  obtain ⟨ys, n', _, hy, _, hyl, hfld⟩ := DataW.trod_struct Try.underlying23 hf
  obtain ⟨l⟩ := cs
  match l, hsz with
  | [z0, z1, z2, z3, z4], _ =>
    match ys, hyl with
    | [y0, y1, y2, y3, y4], _ =>
      have f0 : DataW.trod enc Try.prog W 0 (fun _ => true) true n' 5 (([z0, z1, z2, z3, z4].drop 0).take (Try.prog.cellsOf 5)) = [y0, y1, y2, y3, y4][0]? := hfld 0 _ rfl
      rw [show Try.prog.cellsOf 5 = 1 by kernel_rfl] at f0
      have g0 : DataW.trod enc Try.prog W 0 (fun _ => true) true n' 5 [z0] = some y0 := f0
      obtain ⟨q0, e0, _, w0⟩ := DataW.trod_int Try.underlying5 g0
      injection e0 with e0
      have f1 : DataW.trod enc Try.prog W 0 (fun _ => true) true n' 3 (([z0, z1, z2, z3, z4].drop 1).take (Try.prog.cellsOf 3)) = [y0, y1, y2, y3, y4][1]? := hfld 1 _ rfl
      rw [show Try.prog.cellsOf 3 = 1 by kernel_rfl] at f1
      have g1 : DataW.trod enc Try.prog W 0 (fun _ => true) true n' 3 [z1] = some y1 := f1
      obtain ⟨q1, e1, _, w1⟩ := DataW.trod_int Try.underlying3 g1
      injection e1 with e1
      have f2 : DataW.trod enc Try.prog W 0 (fun _ => true) true n' 3 (([z0, z1, z2, z3, z4].drop 2).take (Try.prog.cellsOf 3)) = [y0, y1, y2, y3, y4][2]? := hfld 2 _ rfl
      rw [show Try.prog.cellsOf 3 = 1 by kernel_rfl] at f2
      have g2 : DataW.trod enc Try.prog W 0 (fun _ => true) true n' 3 [z2] = some y2 := f2
      obtain ⟨q2, e2, _, w2⟩ := DataW.trod_int Try.underlying3 g2
      injection e2 with e2
      have f3 : DataW.trod enc Try.prog W 0 (fun _ => true) true n' 2 (([z0, z1, z2, z3, z4].drop 3).take (Try.prog.cellsOf 2)) = [y0, y1, y2, y3, y4][3]? := hfld 3 _ rfl
      rw [show Try.prog.cellsOf 2 = 1 by kernel_rfl] at f3
      have g3 : DataW.trod enc Try.prog W 0 (fun _ => true) true n' 2 [z3] = some y3 := f3
      obtain ⟨q3, e3, _, w3⟩ := DataW.trod_int Try.underlying2 g3
      injection e3 with e3
      have f4 : DataW.trod enc Try.prog W 0 (fun _ => true) true n' 2 (([z0, z1, z2, z3, z4].drop 4).take (Try.prog.cellsOf 2)) = [y0, y1, y2, y3, y4][4]? := hfld 4 _ rfl
      rw [show Try.prog.cellsOf 2 = 1 by kernel_rfl] at f4
      have g4 : DataW.trod enc Try.prog W 0 (fun _ => true) true n' 2 [z4] = some y4 := f4
      obtain ⟨q4, e4, _, w4⟩ := DataW.trod_int Try.underlying2 g4
      injection e4 with e4
      subst e0 e1 e2 e3 e4
      exact ⟨q0, q1, q2, q3, q4, rfl, i64_in w3⟩
theorem slice_cells {H : Type} {enc : TypeId × Value → H} {W : World} {fuel : Nat} {v : Value} {x : DataW H × List MemPlace} {S E : TypeId} {n : Nat} (ht : Try.prog.underlying S = some (.slice E)) (hn : Try.prog.cellsOf E = n) (h1 : 0 < n)
    (hf : DataW.trod enc Try.prog W 0 (fun _ => true) true fuel S [v] = some x) :
    ∃ (A : Option Addr) (len cap : Nat), v = .slice A len cap ∧ len ≤ maxLen ∧ ∀ i, i < len → ∃ bk o, A = some ⟨bk, o, none⟩ ∧ ∃ (cs' : List Value) (fuel' : Nat) (y : DataW H × List MemPlace), cs'.length = n ∧ (∀ j, j < n → W.cell? ⟨bk, o + i * n + j, none⟩ = cs'[j]?) ∧ DataW.trod enc Try.prog W 0 (fun _ => true) true fuel' E cs' = some y := by
  rcases open_slice ht hf with ⟨hcs, hx⟩ | ⟨a, len', cap', m, n', D, Pl, hcs, _, hl, hm, hmm, hx, hi⟩
  · injection hcs with hcs
    exact ⟨none, 0, 0, hcs, Nat.zero_le _, fun i hi => absurd hi (by omega)⟩
  · injection hcs with hcs
    subst hcs
    simp only [if_true] at hmm
    refine ⟨some a, len', cap', rfl, by omega, fun i hil => ?_⟩
    have hsp : a.spot = none := by
      obtain ⟨cs0, hc0, _⟩ := hi 0 (by omega)
      rw [hn] at hc0
      obtain ⟨_, hcl0, hat0⟩ := World.cells?_some hc0
      have q0 := hat0 0 (by omega)
      have : cs0[0]? = some (cs0[0]'(by omega)) := List.getElem?_eq_getElem (by omega)
      rw [this] at q0
      simpa [Addr.add] using World.cell?_spot q0
    obtain ⟨bk, o, sp⟩ := a
    obtain rfl : sp = none := hsp
    obtain ⟨cs', hc, ht'⟩ := hi i (by omega)
    rw [hn] at hc
    obtain ⟨_, hcl, hat⟩ := World.cells?_some hc
    refine ⟨bk, o, rfl, cs', _, _, hcl, fun j hj => ?_, ht'⟩
    have := hat j (by omega)
    rw [Ws.add_plain, Ws.add_plain] at this
    exact this

theorem cellsMs : Try.prog.cellsOf 29 = 2 := by kernel_rfl
theorem cellsRw : Try.prog.cellsOf 24 = 1 := by kernel_rfl
set_option maxRecDepth 100000 in
theorem msgs_in {H : Type} {enc : TypeId × Value → H} {W : World} {fuel : Nat} {v : Value} {x : DataW H × List MemPlace}
    (hf : DataW.trod enc Try.prog W 0 (fun _ => true) true fuel 24 [v] = some x) : ∃ (L : List Ms) (A : Option Addr) (c : Nat), v = .slice A L.length c ∧ L.length ≤ maxLen ∧ MAt W A L ∧ ToIn L := by
  obtain ⟨A, len, c, rfl, hl, hi⟩ := slice_cells Try.underlying24 cellsMs (by omega) hf
  obtain ⟨ls, hls, hp⟩ := pick_list (fun i (e : Ms) => (-9223372036854775808 ≤ e.1 ∧ e.1 ≤ 9223372036854775807) ∧ ∃ bk o, A = some ⟨bk, o, none⟩ ∧ W.cell? ⟨bk, o + i * 2, none⟩ = some (.int .i64 e.1) ∧ W.cell? ⟨bk, o + i * 2 + 1, none⟩ = some (.int .i64 e.2)) len (fun i hil => by
    obtain ⟨bk, o, hA, cs', f, y, hcl, hat, ht⟩ := hi i hil
    obtain ⟨ys, n', _, hy, _, hyl, hfld⟩ := DataW.trod_struct Try.underlying29 ht
    match cs', hcl with
    | [z0, z1], _ =>
      match ys, hyl with
      | [y0, y1], _ =>
        have f0 : DataW.trod enc Try.prog W 0 (fun _ => true) true n' 3 (([z0, z1].drop 0).take (Try.prog.cellsOf 3)) = [y0, y1][0]? := hfld 0 _ rfl
        have f1 : DataW.trod enc Try.prog W 0 (fun _ => true) true n' 2 (([z0, z1].drop 1).take (Try.prog.cellsOf 2)) = [y0, y1][1]? := hfld 1 _ rfl
        rw [cellsI] at f0
        rw [cellsJ] at f1
        have g0 : DataW.trod enc Try.prog W 0 (fun _ => true) true n' 3 [z0] = some y0 := f0
        have g1 : DataW.trod enc Try.prog W 0 (fun _ => true) true n' 2 [z1] = some y1 := f1
        obtain ⟨q0, e0, _, w0⟩ := DataW.trod_int Try.underlying3 g0
        obtain ⟨q1, e1, _, w1⟩ := DataW.trod_int Try.underlying2 g1
        injection e0 with e0
        injection e1 with e1
        subst e0 e1
        have h0 := hat 0 (by omega)
        have h1 := hat 1 (by omega)
        exact ⟨(q0, q1), i64_in w0, bk, o, hA, h0, h1⟩)
  refine ⟨ls, A, c, by rw [hls], by omega, fun k e hk => (hp k e hk).2, fun e he => ?_⟩
  obtain ⟨k, hk, rfl⟩ := List.mem_iff_getElem.1 he
  exact (hp k _ (List.getElem?_eq_getElem hk)).1
set_option maxRecDepth 100000 in
theorem msgs_at {H : Type} {enc : TypeId × Value → H} {W : World} {base : Nat} {v : Value} {d : DataW H} {ps : List MemPlace}
    (hval : Value.okWide Try.prog W .any base 24 v) (h : DataW.Trod enc Try.prog W 0 (fun _ => true) true 24 v d ps) :
    ∃ (L : List Ms) (A : Option Addr) (c : Nat), v = .slice A L.length c ∧ L.length ≤ maxLen ∧ MAt W A L ∧ ToIn L := by
  obtain ⟨a1, len, cap, rfl⟩ := okWide_slice Try.underlying24 hval
  obtain ⟨fuel, hf⟩ := h
  exact msgs_in (W := W) (v := .slice a1 len cap) hf
set_option maxRecDepth 100000 in
theorem ints_at2 {H : Type} {enc : TypeId × Value → H} {W : World} {base : Nat} {v : Value} {d : DataW H} {ps : List MemPlace}
    (hval : Value.okWide Try.prog W .any base 34 v) (h : DataW.Trod enc Try.prog W 0 (fun _ => true) true 34 v d ps) :
    ∃ (L : List Int) (A : Option Addr) (c : Nat), v = .slice A L.length c ∧ L.length ≤ maxLen ∧ IAt W A L ∧ OwnIn L := by
  obtain ⟨a1, len, cap, rfl⟩ := okWide_slice Try.underlying34 hval
  obtain ⟨fuel, hf⟩ := h
  obtain ⟨A, len', c, e, hl, hi⟩ := slice_cells Try.underlying34 cellsI (by omega) (show DataW.trod enc Try.prog W 0 (fun _ => true) true fuel 34 [.slice a1 len cap] = _ from hf)
  cases e
  obtain ⟨ls, hls, hp⟩ := pick_list (fun i (z : Int) => (-9223372036854775808 ≤ z ∧ z ≤ 9223372036854775807) ∧ ∃ bk o, a1 = some ⟨bk, o, none⟩ ∧ W.cell? ⟨bk, o + i, none⟩ = some (.int .i64 z)) len (fun i hil => by
    obtain ⟨bk, o, hA, cs', f, y, hcl, hat, ht⟩ := hi i hil
    match cs', hcl with
    | [z0], _ =>
      obtain ⟨q0, e0, _, w0⟩ := DataW.trod_int Try.underlying3 ht
      injection e0 with e0
      subst e0
      have h0 := hat 0 (by omega)
      rw [Nat.mul_one] at h0
      exact ⟨q0, i64_in w0, bk, o, hA, h0⟩)
  refine ⟨ls, a1, cap, by rw [hls], by omega, fun k z hz => (hp k z hz).2, fun z hz => ?_⟩
  obtain ⟨k, hk, rfl⟩ := List.mem_iff_getElem.1 hz
  exact (hp k _ (List.getElem?_eq_getElem hk)).1
set_option maxRecDepth 100000 in
theorem rows_at {H : Type} {enc : TypeId × Value → H} {W : World} {base : Nat} {v : Value} {d : DataW H} {ps : List MemPlace}
    (hval : Value.okWide Try.prog W .any base 31 v) (h : DataW.Trod enc Try.prog W 0 (fun _ => true) true 31 v d ps) :
    ∃ (Ls : List (List Ms)) (A : Option Addr) (c : Nat), v = .slice A Ls.length c ∧ Ls.length ≤ maxLen ∧ RMs W A Ls ∧ ToIn Ls.flatten ∧ ∀ L ∈ Ls, L.length ≤ 9223372036854775807 := by
  obtain ⟨a1, len, cap, rfl⟩ := okWide_slice Try.underlying31 hval
  obtain ⟨fuel, hf⟩ := h
  obtain ⟨A, len', c, e, hl, hi⟩ := slice_cells Try.underlying31 cellsRw (by omega) (show DataW.trod enc Try.prog W 0 (fun _ => true) true fuel 31 [.slice a1 len cap] = _ from hf)
  cases e
  obtain ⟨ls, hls, hp⟩ := pick_list (fun i (L : List Ms) => (ToIn L ∧ L.length ≤ 9223372036854775807) ∧ ∃ bk o A' c', a1 = some ⟨bk, o, none⟩ ∧ W.cell? ⟨bk, o + i, none⟩ = some (.slice A' L.length c') ∧ MAt W A' L) len (fun i hil => by
    obtain ⟨bk, o, hA, cs', f, y, hcl, hat, ht⟩ := hi i hil
    match cs', hcl with
    | [z0], _ =>
      obtain ⟨L, A', c', rfl, h1, h2, h3⟩ := msgs_in ht
      have h0 := hat 0 (by omega)
      rw [Nat.mul_one] at h0
      exact ⟨L, ⟨h3, by unfold maxLen at h1; omega⟩, bk, o, A', c', hA, h0, h2⟩)
  refine ⟨ls, a1, cap, by rw [hls], by omega, fun k L hk => (hp k L hk).2, fun e he => ?_, fun L hL => ?_⟩
  · obtain ⟨L, hL, hel⟩ := List.mem_flatten.1 he
    obtain ⟨k, hk, rfl⟩ := List.mem_iff_getElem.1 hL
    exact (hp k _ (List.getElem?_eq_getElem hk)).1.1 e hel
  · obtain ⟨k, hk, rfl⟩ := List.mem_iff_getElem.1 hL
    exact (hp k _ (List.getElem?_eq_getElem hk)).1.2
set_option maxRecDepth 100000 in
theorem mails_at {H : Type} {enc : TypeId × Value → H} {W : World} {base : Nat} {v : Value} {d : DataW H} {ps : List MemPlace}
    (hval : Value.okWide Try.prog W .any base 35 v) (h : DataW.Trod enc Try.prog W 0 (fun _ => true) true 35 v d ps) :
    ∃ (L : List Ml) (A : Option Addr) (c : Nat), v = .slice A L.length c ∧ L.length ≤ maxLen ∧ KAt W A L := by
  obtain ⟨a1, len, cap, rfl⟩ := okWide_slice Try.underlying35 hval
  obtain ⟨fuel, hf⟩ := h
  obtain ⟨A, len', c, e, hl, hi⟩ := slice_cells Try.underlying35 cellsM (by omega) (show DataW.trod enc Try.prog W 0 (fun _ => true) true fuel 35 [.slice a1 len cap] = _ from hf)
  cases e
  obtain ⟨ls, hls, hp⟩ := pick_list (fun i (e : Ml) => ∃ bk o, a1 = some ⟨bk, o, none⟩ ∧ W.cell? ⟨bk, o + i * 2, none⟩ = some (.bool e.1) ∧ W.cell? ⟨bk, o + i * 2 + 1, none⟩ = some (.int .i64 e.2)) len (fun i hil => by
    obtain ⟨bk, o, hA, cs', f, y, hcl, hat, ht⟩ := hi i hil
    obtain ⟨ys, n', _, hy, _, hyl, hfld⟩ := DataW.trod_struct Try.underlying43 ht
    match cs', hcl with
    | [z0, z1], _ =>
      match ys, hyl with
      | [y0, y1], _ =>
        have f0 : DataW.trod enc Try.prog W 0 (fun _ => true) true n' 4 (([z0, z1].drop 0).take (Try.prog.cellsOf 4)) = [y0, y1][0]? := hfld 0 _ rfl
        have f1 : DataW.trod enc Try.prog W 0 (fun _ => true) true n' 2 (([z0, z1].drop 1).take (Try.prog.cellsOf 2)) = [y0, y1][1]? := hfld 1 _ rfl
        rw [cellsB] at f0
        rw [cellsJ] at f1
        have g0 : DataW.trod enc Try.prog W 0 (fun _ => true) true n' 4 [z0] = some y0 := f0
        have g1 : DataW.trod enc Try.prog W 0 (fun _ => true) true n' 2 [z1] = some y1 := f1
        obtain ⟨q0, e0, _⟩ := DataW.trod_bool Try.underlying4 g0
        obtain ⟨q1, e1, _, w1⟩ := DataW.trod_int Try.underlying2 g1
        injection e0 with e0
        injection e1 with e1
        subst e0 e1
        have h0 := hat 0 (by omega)
        have h1 := hat 1 (by omega)
        exact ⟨(q0, q1), bk, o, hA, h0, h1⟩)
  exact ⟨ls, a1, cap, by rw [hls], by omega, fun k e hk => hp k e hk⟩

end Go.Proofs.Ytgkmmjlhphinhaa.In
