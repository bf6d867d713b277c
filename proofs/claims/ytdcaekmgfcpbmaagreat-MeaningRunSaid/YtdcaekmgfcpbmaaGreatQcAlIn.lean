/-
  What is proved here: what all laws of this seat share: what mail, edges, or numbers that came in give; a call that returns true and leaves every block that was there as it was meets the law's specification.
-/
import Derived.Test.YtdcaekmgfcpbmaaGreatQcMnMkx
import Derived.ProofKit
import Derived.LaidMore
import Derived.OpenShut
import Derived.SizedLaws
import Derived.Carry
import Derived.ChangeSlices
import Derived.Deep.Slices
import Derived.Deep.Fields
namespace Go.Proofs.YtdcaekmgfcpbmaaGreat.Al
open Go.ChangeShapes Go.WideShapes Go.ChangeAt Go.RowKit Go.Deep Gr Wd Ws Lb
theorem own : ownKnob Tryz.prog.godebug = none := by kernel_rfl
theorem laidOut : laidOutB Tryz.prog = true := by kernel_rfl
theorem law_post {H : Type} {enc : TypeId × Value → H} {f : Func} {s : ChangeSpec} {apart : Bool} {W W' : World} {args : Array Value} {ds : List (DataW H)} {before : List MemPlace}
    (hW : DataW.Whole enc Tryz.prog f.params.toList s.vars apart W args.toList ds [] before) (hb : Below W.heap.size W W')
    (ht : f.resultTypes = #[4]) (hr : (s.fn H (ds ++ [])).results = [.lit (.bool true)]) (hv : s.vars = []) (hg : (s.fn H (ds ++ [])).vars = [])
    (hargs : DataW.TrodAll enc Tryz.prog W' 0 (fun b => decide (b < W.heap.size)) true f.params.toList args.toList (s.fn H (ds ++ [])).args before) :
    s.post enc Tryz.prog f apart true false false W args (.bool true) W' := by
  have hres : ∀ (b : Nat) (sp : Nat → Bool) (hd : Bool), DataW.TrodAll enc Tryz.prog W' b sp hd f.resultTypes.toList ((Value.bool true).resultList f.resultTypes.size) (s.fn H (ds ++ [])).results [] := by
    intro b sp hd
    rw [hr, ht]
    exact trodAll_cons_mk (shut_bool Tryz.underlying4 _) trodAll_mk0
  have hvars : ∀ sp : Nat → Bool, DataW.TrodVars enc Tryz.prog W' sp s.vars (s.fn H (ds ++ [])).vars [] := by
    intro sp; rw [hv, hg]; rfl
  exact ⟨ds, [], before, [], before, [], hW, hres _ _ _, hargs, hvars _, hb.frame _, fun h => absurd h (by simp)⟩
theorem i64_in {a : Int} (h : (Lit.int .i64 a).wf = true) : -9223372036854775808 ≤ a ∧ a ≤ 9223372036854775807 := by
  have h1 : IntKind.i64.min ≤ a ∧ a ≤ IntKind.i64.max := by simpa [Lit.wf] using h
  have h3 : IntKind.i64.min = -9223372036854775808 := by decide
  have h4 : IntKind.i64.max = 9223372036854775807 := by decide
  omega
theorem cellsI : Tryz.prog.cellsOf 3 = 1 := by kernel_rfl
theorem cellsJ : Tryz.prog.cellsOf 2 = 1 := by kernel_rfl
theorem cellsS : Tryz.prog.cellsOf 22 = 1 := by kernel_rfl
theorem cellsE : Tryz.prog.cellsOf 33 = 3 := by kernel_rfl
theorem cellsG : Tryz.prog.cellsOf 24 = 2 := by kernel_rfl
theorem pick_list {α : Type} (P : Nat → α → Prop) : ∀ n : Nat, (∀ i, i < n → ∃ x, P i x) → ∃ l : List α, l.length = n ∧ ∀ i x, l[i]? = some x → P i x
  | 0, _ => ⟨[], rfl, fun i x h => by simp at h⟩
  | n + 1, h => by
    obtain ⟨l, hl, hp⟩ := pick_list P n (fun i hi => h i (by omega))
    obtain ⟨x, hx⟩ := h n (by omega)
    refine ⟨l ++ [x], by simp [hl], fun i y hy => ?_⟩
    rcases Nat.lt_or_ge i n with hi | hi
    · rw [List.getElem?_append_left (by omega)] at hy; exact hp i y hy
    · rw [List.getElem?_append_right (by omega)] at hy
      have : i - l.length = 0 := by
        rcases Nat.eq_zero_or_pos (i - l.length) with h0 | h0
        · exact h0
        · rw [List.getElem?_eq_none (by simp; omega)] at hy; cases hy
      rw [this] at hy
      simp at hy
      have e : i = n := by omega
      rw [← hy, e]; exact hx
def EdAt (w : World) (A : Addr) (k : Nat) (e : Ed) : Prop := In64 [e] ∧ ∃ bk o, A = ⟨bk, o, none⟩ ∧
  w.cell? ⟨bk, o + k * 3, none⟩ = some (.int .i64 e.1) ∧ w.cell? ⟨bk, o + k * 3 + 1, none⟩ = some (.int .i64 e.2.1) ∧ w.cell? ⟨bk, o + k * 3 + 2, none⟩ = some (.int .i64 e.2.2)
set_option maxRecDepth 100000 in
theorem edges_in {H : Type} {enc : TypeId × Value → H} {W : World} {fuel : Nat} {v : Value} {x : DataW H × List MemPlace}
    (hf : DataW.trod enc Tryz.prog W 0 (fun _ => true) true fuel 22 [v] = some x) :
    ∃ (L : List Ed) (A : Option Addr) (c : Nat), v = .slice A L.length c ∧ L.length ≤ maxLen ∧ EAt W A L ∧ In64 L := by
  rcases open_slice Tryz.underlying22 hf with ⟨hcs, hx⟩ | ⟨a, len', cap', m, n, D, Pl, hcs, _, hl, hm, hmm, hx, hi⟩
  · injection hcs with hcs
    exact ⟨[], none, 0, hcs, Nat.zero_le _, EAt.nil _ _, fun e h => by simp at h⟩
  · injection hcs with hcs
    subst hcs
    simp only [if_true] at hmm
    obtain ⟨ls, hls, hp⟩ := pick_list (fun i x => EdAt W a i x) len' (fun i hil => by
      obtain ⟨cs', hc, ht⟩ := hi i (by omega)
      rw [cellsE] at hc
      obtain ⟨_, hcl, hat⟩ := World.cells?_some hc
      obtain ⟨ys, n', _, hy, _, hyl, hfld⟩ := DataW.trod_struct Tryz.underlying33 ht
      match cs', hcl with
      | [z0, z1, z2], _ =>
        match ys, hyl with
        | [y0, y1, y2], _ =>
          have f0 : DataW.trod enc Tryz.prog W 0 (fun _ => true) true n' 3 (([z0, z1, z2].drop 0).take (Tryz.prog.cellsOf 3)) = [y0, y1, y2][0]? := hfld 0 _ rfl
          have f1 : DataW.trod enc Tryz.prog W 0 (fun _ => true) true n' 3 (([z0, z1, z2].drop 1).take (Tryz.prog.cellsOf 3)) = [y0, y1, y2][1]? := hfld 1 _ rfl
          have f2 : DataW.trod enc Tryz.prog W 0 (fun _ => true) true n' 2 (([z0, z1, z2].drop 2).take (Tryz.prog.cellsOf 2)) = [y0, y1, y2][2]? := hfld 2 _ rfl
          rw [cellsI] at f0 f1
          rw [cellsJ] at f2
          have g0 : DataW.trod enc Tryz.prog W 0 (fun _ => true) true n' 3 [z0] = some y0 := f0
          have g1 : DataW.trod enc Tryz.prog W 0 (fun _ => true) true n' 3 [z1] = some y1 := f1
          have g2 : DataW.trod enc Tryz.prog W 0 (fun _ => true) true n' 2 [z2] = some y2 := f2
          obtain ⟨q0, e0, _, w0⟩ := DataW.trod_int Tryz.underlying3 g0
          obtain ⟨q1, e1, _, w1⟩ := DataW.trod_int Tryz.underlying3 g1
          obtain ⟨q2, e2, _, w2⟩ := DataW.trod_int Tryz.underlying2 g2
          injection e0 with e0
          injection e1 with e1
          injection e2 with e2
          subst e0 e1 e2
          have h0 := hat 0 (by omega)
          have h1 := hat 1 (by omega)
          have h2 := hat 2 (by omega)
          have hsp : a.spot = none := by
            have hz := World.cell?_spot h0
            rcases Nat.eq_zero_or_pos i with hz0 | hz0
            · subst hz0; simpa [Addr.add] using hz
            · obtain ⟨cs0, hc0, _⟩ := hi 0 (by omega)
              rw [cellsE] at hc0
              obtain ⟨_, hcl0, hat0⟩ := World.cells?_some hc0
              have q0 := hat0 0 (by omega)
              have : cs0[0]? = some (cs0[0]'(by omega)) := List.getElem?_eq_getElem (by omega)
              rw [this] at q0
              simpa [Addr.add] using World.cell?_spot q0
          obtain ⟨bk, o, sp⟩ := a
          obtain rfl : sp = none := hsp
          rw [Ws.add_plain, Ws.add_plain] at h0 h1 h2
          refine ⟨(q0, q1, q2), fun e he => ?_, bk, o, rfl, h0, h1, h2⟩
          simp at he; subst he
          exact ⟨i64_in w0, i64_in w1, i64_in w2⟩)
    refine ⟨ls, some a, cap', by rw [hls], by omega, fun k e hx => ?_, fun e he => ?_⟩
    · obtain ⟨_, bk, o, rfl, h⟩ := hp k e hx
      exact ⟨bk, o, rfl, h⟩
    · obtain ⟨k, hk, rfl⟩ := List.mem_iff_getElem.1 he
      exact (hp k _ (List.getElem?_eq_getElem hk)).1 _ (by simp)
set_option maxRecDepth 100000 in
theorem graph_in {H : Type} {enc : TypeId × Value → H} {W : World} {base : Nat} {v : Value} {d : DataW H} {ps : List MemPlace}
    (hval : Value.okWide Tryz.prog W .any base 24 v) (h : DataW.Trod enc Tryz.prog W 0 (fun _ => true) true 24 v d ps) :
    ∃ (V : Int) (L : List Ed) (A : Option Addr) (c : Nat), v = .agg #[.int .i64 V, .slice A L.length c] ∧ L.length ≤ maxLen ∧ EAt W A L ∧ In64 L ∧ (-9223372036854775808 ≤ V ∧ V ≤ 9223372036854775807) := by
  obtain ⟨cs, rfl, hsz⟩ := okWide_struct Tryz.underlying24 hval
  rw [cellsG] at hsz
  obtain ⟨fuel, hf⟩ := h
  obtain ⟨ys, n', _, hy, _, hyl, hfld⟩ := DataW.trod_struct Tryz.underlying24 hf
  obtain ⟨l⟩ := cs
  match l, hsz with
  | [z0, z1], _ =>
    match ys, hyl with
    | [y0, y1], _ =>
      have f0 : DataW.trod enc Tryz.prog W 0 (fun _ => true) true n' 3 (([z0, z1].drop 0).take (Tryz.prog.cellsOf 3)) = [y0, y1][0]? := hfld 0 _ rfl
      have f1 : DataW.trod enc Tryz.prog W 0 (fun _ => true) true n' 22 (([z0, z1].drop 1).take (Tryz.prog.cellsOf 22)) = [y0, y1][1]? := hfld 1 _ rfl
      rw [cellsI] at f0
      rw [cellsS] at f1
      have g0 : DataW.trod enc Tryz.prog W 0 (fun _ => true) true n' 3 [z0] = some y0 := f0
      have g1 : DataW.trod enc Tryz.prog W 0 (fun _ => true) true n' 22 [z1] = some y1 := f1
      obtain ⟨q0, e0, _, w0⟩ := DataW.trod_int Tryz.underlying3 g0
      injection e0 with e0
      subst e0
      obtain ⟨L, A, c, rfl, h1, h2, h3⟩ := edges_in g1
      exact ⟨q0, L, A, c, rfl, h1, h2, h3, i64_in w0⟩
set_option maxRecDepth 100000 in
theorem job_in {H : Type} {enc : TypeId × Value → H} {W : World} {base : Nat} {v : Value} {d : DataW H} {ps : List MemPlace}
    (hval : Value.okWide Tryz.prog W .any base 40 v) (h : DataW.Trod enc Tryz.prog W 0 (fun _ => true) true 40 v d ps) :
    ∃ (k st so dm ep : Int), v = .agg #[.int .u8 k, .int .i64 st, .int .i64 so, .int .i64 dm, .int .i64 ep] ∧ (-9223372036854775808 ≤ dm ∧ dm ≤ 9223372036854775807) := by
  obtain ⟨cs, rfl, hsz⟩ := okWide_struct Tryz.underlying40 hval
  rw [show Tryz.prog.cellsOf 40 = 5 by kernel_rfl] at hsz
  obtain ⟨fuel, hf⟩ := h
  obtain ⟨ys, n', _, hy, _, hyl, hfld⟩ := DataW.trod_struct Tryz.underlying40 hf
  obtain ⟨l⟩ := cs
  match l, hsz with
  | [z0, z1, z2, z3, z4], _ =>
    match ys, hyl with
    | [y0, y1, y2, y3, y4], _ =>
      have f0 : DataW.trod enc Tryz.prog W 0 (fun _ => true) true n' 5 (([z0, z1, z2, z3, z4].drop 0).take (Tryz.prog.cellsOf 5)) = [y0, y1, y2, y3, y4][0]? := hfld 0 _ rfl
      rw [show Tryz.prog.cellsOf 5 = 1 by kernel_rfl] at f0
      have g0 : DataW.trod enc Tryz.prog W 0 (fun _ => true) true n' 5 [z0] = some y0 := f0
      obtain ⟨q0, e0, _, w0⟩ := DataW.trod_int Tryz.underlying5 g0
      injection e0 with e0
      have f1 : DataW.trod enc Tryz.prog W 0 (fun _ => true) true n' 3 (([z0, z1, z2, z3, z4].drop 1).take (Tryz.prog.cellsOf 3)) = [y0, y1, y2, y3, y4][1]? := hfld 1 _ rfl
      rw [show Tryz.prog.cellsOf 3 = 1 by kernel_rfl] at f1
      have g1 : DataW.trod enc Tryz.prog W 0 (fun _ => true) true n' 3 [z1] = some y1 := f1
      obtain ⟨q1, e1, _, w1⟩ := DataW.trod_int Tryz.underlying3 g1
      injection e1 with e1
      have f2 : DataW.trod enc Tryz.prog W 0 (fun _ => true) true n' 3 (([z0, z1, z2, z3, z4].drop 2).take (Tryz.prog.cellsOf 3)) = [y0, y1, y2, y3, y4][2]? := hfld 2 _ rfl
      rw [show Tryz.prog.cellsOf 3 = 1 by kernel_rfl] at f2
      have g2 : DataW.trod enc Tryz.prog W 0 (fun _ => true) true n' 3 [z2] = some y2 := f2
      obtain ⟨q2, e2, _, w2⟩ := DataW.trod_int Tryz.underlying3 g2
      injection e2 with e2
      have f3 : DataW.trod enc Tryz.prog W 0 (fun _ => true) true n' 2 (([z0, z1, z2, z3, z4].drop 3).take (Tryz.prog.cellsOf 2)) = [y0, y1, y2, y3, y4][3]? := hfld 3 _ rfl
      rw [show Tryz.prog.cellsOf 2 = 1 by kernel_rfl] at f3
      have g3 : DataW.trod enc Tryz.prog W 0 (fun _ => true) true n' 2 [z3] = some y3 := f3
      obtain ⟨q3, e3, _, w3⟩ := DataW.trod_int Tryz.underlying2 g3
      injection e3 with e3
      have f4 : DataW.trod enc Tryz.prog W 0 (fun _ => true) true n' 2 (([z0, z1, z2, z3, z4].drop 4).take (Tryz.prog.cellsOf 2)) = [y0, y1, y2, y3, y4][4]? := hfld 4 _ rfl
      rw [show Tryz.prog.cellsOf 2 = 1 by kernel_rfl] at f4
      have g4 : DataW.trod enc Tryz.prog W 0 (fun _ => true) true n' 2 [z4] = some y4 := f4
      obtain ⟨q4, e4, _, w4⟩ := DataW.trod_int Tryz.underlying2 g4
      injection e4 with e4
      subst e0 e1 e2 e3 e4
      exact ⟨q0, q1, q2, q3, q4, rfl, i64_in w3⟩
end Go.Proofs.YtdcaekmgfcpbmaaGreat.Al
