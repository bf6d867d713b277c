/-
  What is proved here: words for a state in memory and for what Take answers; a box of five cells as a result. No condition. What is proved here: a contract of the document's read: the number of so many bytes at a place, if they are there. Conditions: at most 8 bytes; fewer than 10^9 in all.
-/
import Derived.Test.YtfbfckdabbaocaaQbStAdd
import Derived.Test.YtfbfckdabbaocaaQbStW2x
import Derived.Test.YtfbfckdabbaocaaQbPtW3
namespace Go.Proofs.Ytfbfckdabbaocaa.St
open Go.RowKit Gr Wd Ws Fx Rk Lb Al In
open Sq (BAt BOwn QOwn bls)
open Pt (ow owned nv vs ofI vs_len ofI_range ow_mem vs_mem)
structure TAt (w : World) (Av Ac Ai : Option Addr) (nv nc ni : Nat) (s : Stt) : Prop where
  v : IAt w Av s.vals
  c : BAt w Ac s.chg
  i : KAt w Ai s.inb
  nv : s.vals.length = nv
  nc : s.chg.length = nc
  ni : s.inb.length = ni
theorem TAt.below {w w' : World} {Av Ac Ai : Option Addr} {nv nc ni : Nat} {s : Stt} (h : TAt w Av Ac Ai nv nc ni s) (hb : Below w.heap.size w w') : TAt w' Av Ac Ai nv nc ni s := ⟨h.v.below hb, h.c.below hb, h.i.below hb, h.nv, h.nc, h.ni⟩
def takeR (s : Stt) (k x : Int) : Pr × Int := if 1 ≤ k ∧ k ≤ 64 ∧ 0 ≤ x ∧ x < k then (if MayP s then (nrmP (takeP s k x), 0) else (noneP, 4)) else (noneP, 2)
def rtakeR (s : Stt) (k x : Int) : Pr × Int := if 1 ≤ k ∧ k ≤ 64 ∧ 0 ≤ x ∧ x < k then (if MayP s then (takeP s k x, 0) else (noneP, 4)) else (noneP, 2)
def ResP (w w' : World) (e : Ending) (r : Pr × Int) : Prop := ∃ x, e = .returned (.tuple #[x, .int .i64 r.2]) ∧ Hid (POwn w' w.heap.size x r.1) ∧ Hid (Below w.heap.size w w')
theorem POwn.mono {w : World} {B B' : Nat} {x : Value} {p : Pr} (h : POwn w B x p) (hb : B' ≤ B) : POwn w B' x p := by
  obtain ⟨vo, vv, vc, vi, e, h1, h2, h3, h4⟩ := h
  exact ⟨vo, vv, vc, vi, e, own_mono h1 hb, own_mono h2 hb, own_mono h3 hb, h4.mono hb⟩
def put5 (w : World) (b : Nat) (u0 u1 u2 u3 u4 : Value) : World := ((((w.setCell ⟨b, 0, none⟩ u0).setCell ⟨b, 1, none⟩ u1).setCell ⟨b, 2, none⟩ u2).setCell ⟨b, 3, none⟩ u3).setCell ⟨b, 4, none⟩ u4
theorem put5_heap {w : World} {b : Nat} {T : TypeId} {a0 a1 a2 a3 a4 : Value} (h : w.heap[b]? = some (.cells #[a0, a1, a2, a3, a4] T (0, 0))) (u0 u1 u2 u3 u4 : Value) : (put5 w b u0 u1 u2 u3 u4).heap[b]? = some (.cells #[u0, u1, u2, u3, u4] T (0, 0)) := by
  have h0 := heap_setCell_same w b 0 _ T u0 h
  have h1 := heap_setCell_same _ b 1 _ T u1 h0
  have h2 := heap_setCell_same _ b 2 _ T u2 h1
  have h3 := heap_setCell_same _ b 3 _ T u3 h2
  exact heap_setCell_same _ b 4 _ T u4 h3
theorem put5_other (w : World) (b k : Nat) (u0 u1 u2 u3 u4 : Value) (hk : k ≠ b) : (put5 w b u0 u1 u2 u3 u4).heap[k]? = w.heap[k]? := by
  unfold put5
  rw [Sq.set_other _ _ _ _ _ hk, Sq.set_other _ _ _ _ _ hk, Sq.set_other _ _ _ _ _ hk, Sq.set_other _ _ _ _ _ hk, Sq.set_other _ _ _ _ _ hk]
theorem put5_below {B : Nat} {a w : World} (h : Below B a w) {b : Nat} (hb : B ≤ b) (u0 u1 u2 u3 u4 : Value) : Below B a (put5 w b u0 u1 u2 u3 u4) :=
  ((((h.setCell (p := ⟨b, 0, none⟩) hb u0).setCell (p := ⟨b, 1, none⟩) hb u1).setCell (p := ⟨b, 2, none⟩) hb u2).setCell (p := ⟨b, 3, none⟩) hb u3).setCell (p := ⟨b, 4, none⟩) hb u4
theorem put5_rows {w : World} {b B : Nat} {T : TypeId} {c : Array Value} {x : Value} {p : Pr} (h : POwn w B x p) (hb : w.heap[b]? = some (.cells c T (0, 0))) (hT : Off T) (u0 u1 u2 u3 u4 : Value) : POwn (put5 w b u0 u1 u2 u3 u4) B x p := by
  obtain ⟨vo, vv, vc, vi, e, h1, h2, h3, h4⟩ := h
  have ho : ∀ k, k ≠ b → (put5 w b u0 u1 u2 u3 u4).heap[k]? = w.heap[k]? := fun k hk => put5_other w b k u0 u1 u2 u3 u4 hk
  exact ⟨vo, vv, vc, vi, e, Sq.own_moved h1 hb hT.1 ho, Sq.own_moved h2 hb hT.2.1 ho, Sq.own_moved h3 hb hT.2.2.1 ho, Sq.own_moved h4 hb hT.2.2.2 ho⟩
set_option maxRecDepth 100000 in
theorem res2_p (fn : Func) (c d : Nat) (tmps : Array Value) (w : World) (b : Nat) (a0 a1 a2 a3 a4 u : Value) (hr : fn.results = #[.cell c 27, .tmp d]) (ht : tmps.getD c undef = .pointer (some ⟨b, 0, none⟩)) (hd : tmps.getD d undef = u)
    (f : w.heap[b]? = some (.cells #[a0, a1, a2, a3, a4] 27 (0, 0))) : (results fn tmps).run Try.prog w = .ok (.tuple #[.agg #[a0, a1, a2, a3, a4], u]) w := by
  have ht' : tmps[c]?.getD undef = .pointer (some ⟨b, 0, none⟩) := by simpa using ht
  have hd' : tmps[d]?.getD undef = u := by simpa using hd
  obtain ⟨f0, f1, f2, f3, f4, _⟩ := five f
  simp [results, hr, ht', hd', go_sem, f0, f1, f2, f3, f4]
set_option maxRecDepth 100000 in
theorem res2_r (fn : Func) (c d : Nat) (tmps : Array Value) (w : World) (b : Nat) (a0 a1 a2 a3 a4 u : Value) (hr : fn.results = #[.cell c 35, .tmp d]) (ht : tmps.getD c undef = .pointer (some ⟨b, 0, none⟩)) (hd : tmps.getD d undef = u)
    (f : w.heap[b]? = some (.cells #[a0, a1, a2, a3, a4] 35 (0, 0))) : (results fn tmps).run Try.prog w = .ok (.tuple #[.agg #[a0, a1, a2, a3, a4], u]) w := by
  have ht' : tmps[c]?.getD undef = .pointer (some ⟨b, 0, none⟩) := by simpa using ht
  have hd' : tmps[d]?.getD undef = u := by simpa using hd
  obtain ⟨f0, f1, f2, f3, f4, _⟩ := five f
  simp [results, hr, ht', hd', go_sem, f0, f1, f2, f3, f4]
set_option maxRecDepth 100000 in
theorem res_r (fn : Func) (c : Nat) (tmps : Array Value) (w : World) (b : Nat) (a0 a1 a2 a3 a4 : Value) (hr : fn.results = #[.cell c 35]) (ht : tmps.getD c undef = .pointer (some ⟨b, 0, none⟩))
    (f : w.heap[b]? = some (.cells #[a0, a1, a2, a3, a4] 35 (0, 0))) : (results fn tmps).run Try.prog w = .ok (.agg #[a0, a1, a2, a3, a4]) w := by
  have ht' : tmps[c]?.getD undef = .pointer (some ⟨b, 0, none⟩) := by simpa using ht
  obtain ⟨f0, f1, f2, f3, f4, _⟩ := five f
  simp [results, hr, ht', go_sem, f0, f1, f2, f3, f4]
theorem owned_one (n : Nat) : owned (n : Int) 1 0 = vs (min n 512) := by
  have e : nv (n : Int) = min n 512 := by unfold nv; omega
  unfold owned ow
  rw [e, List.filter_eq_self]
  intro a ha
  have hm := vs_mem.1 ha
  have hr := ofI_range (v := a) (k := 1) (by omega) (by omega) (by omega) (by omega)
  exact Pt.isW_yes (by omega) (by omega)
def takeL (s : Stt) (L : List Int) : Pr := ⟨s.st, L, L.map fun v => nu s.vals v.toNat, L.map fun v => bo s.chg v.toNat, L.map fun v => nrmL (mi s.inb v.toNat)⟩
theorem takeL_snoc (s : Stt) (L : List Int) (v : Int) : takeL s (L ++ [v]) = addE (takeL s L) ⟨v, nu s.vals v.toNat, bo s.chg v.toNat, mi s.inb v.toNat⟩ := by
  unfold takeL addE; simp
theorem takeL_all {s : Stt} (k x : Int) (h : s.vals.length ≤ 512) : takeL s (owned (s.vals.length : Int) k x) = nrmP (takeP s k x) := by
  have e : nv (s.vals.length : Int) = s.vals.length := by unfold nv; omega
  unfold takeL nrmP takeP owned
  rw [e]
  simp only [List.map_map, Function.comp_def]
def takeN (s : Stt) (L : List Int) : Pr := ⟨s.st, L, L.map fun v => nu s.vals v.toNat, L.map fun v => bo s.chg v.toNat, L.map fun v => mi s.inb v.toNat⟩
theorem takeN_all (s : Stt) (k x : Int) : takeN s (ow k x s.vals.length) = takeP s k x := rfl
end Go.Proofs.Ytfbfckdabbaocaa.St
namespace Go.Proofs.Ytfbfckdabbaocaa.St
open Go.RowKit Gr Wd Ws Fx Rk Lb Al In
open Fld (dg num)
def UAt (w : World) (A : Option Addr) (l : List Nat) : Prop := ∀ (k x : Nat), l[k]? = some x → x < 256 ∧ ∃ g o, A = some ⟨g, o, none⟩ ∧ w.cell? ⟨g, o + k, none⟩ = some (.int .u8 (x : Int))
theorem UAt.at_ {w : World} {A : Option Addr} {l : List Nat} (h : UAt w A l) : Fd.At w A l := fun k x hx => by
  obtain ⟨h1, g, o, e, c⟩ := h k x hx
  exact ⟨h1, _, e, by rw [Fd.add_plain]; exact c⟩
theorem UAt.below {w w' : World} {A : Option Addr} {l : List Nat} (h : UAt w A l) (hb : Below w.heap.size w w') : UAt w' A l := fun k x hx => by
  obtain ⟨h1, g, o, e, c⟩ := h k x hx
  exact ⟨h1, g, o, e, by rw [hb.cell (block_lt_of_cell c)]; exact c⟩
def rdv (p k : Nat) (l : List Nat) : Nat := if p + k ≤ l.length then num ((l.drop p).take k) else 0
def RdRel (w : World) (l : List Nat) (p k g : Nat) (n i : Value) (wr : World) : Prop :=
  ∃ j : Nat, j + g = k ∧ i = .int .i64 (j : Int) ∧ n = .int .u64 ((num ((l.drop p).take j) : Nat) : Int) ∧ w = wr
theorem num_some {l : List Nat} (h : ∀ x ∈ l, x < 256) (p j : Nat) (hj : j ≤ 7) : num ((l.drop p).take j) < 72057594037927936 := by
  have h1 := Fld.num_lt ((l.drop p).take j) fun x hx => h x (List.mem_of_mem_drop (List.mem_of_mem_take hx))
  have h2 : ((l.drop p).take j).length ≤ 7 := by rw [List.length_take]; omega
  have h3 : 256 ^ ((l.drop p).take j).length ≤ 256 ^ 7 := Nat.pow_le_pow_right (by decide) h2
  have h4 : (256 : Nat) ^ 7 = 72057594037927936 := by decide
  omega
set_option maxRecDepth 100000 in
set_option maxHeartbeats 4000000 in
theorem rread_any (A : Option Addr) (n c p k : Nat) (L : List Nat) (w : World) (hL : UAt w A L) (hn : L.length = n) (hm : n ≤ 1000000) (hp : p ≤ 2000000) (hk : k ≤ 8) :
    Calls Try.prog 47 #[.slice A n c, .int .i64 (p : Int), .int .i64 (k : Int)] w fun e w' => e = .returned (.tuple #[.int .u64 ((rdv p k L : Nat) : Int), .bool (decide (p + k ≤ n))]) ∧ w = w' := by
  have HL := Lib.hid hL; have HN := Lib.hid hn
  have HSM := Lib.hid hL.at_.small
  clear hL hn
  by_cases hle : p + k ≤ n
  · have HA : Hid (rdv p k L = num ((L.drop p).take k)) := Lib.hid (by unfold rdv; rw [HN.out, if_pos hle])
    rw [decide_eq_true hle, HA.out]
    go_enter Try.func47, Try.ntmps47
    go_wp2
    go_loopg [8, 9] k (fun g n i wr => RdRel w L p k g n i wr)
    case atStart => exact ⟨0, by omega, rfl, rfl, rfl⟩
    case round =>
      obtain ⟨j, hj, rfl, rfl, rfl⟩ := hrel
      by_cases hlt : j < k
      · obtain ⟨y, hy⟩ := at_lt L (p + j) (by rw [HN.out]; omega)
        obtain ⟨hyb, g, o, rfl, c0⟩ := HL.out (p + j) y hy
        have hnx : num ((L.drop p).take (j + 1)) = num ((L.drop p).take j) * 256 + y := by
          have hd : (L.drop p)[j]? = some y := by rw [List.getElem?_drop]; exact hy
          rw [take_at hd, Fld.num_snoc]
        obtain ⟨x, hx⟩ : ∃ x, num ((L.drop p).take j) = x := ⟨_, rfl⟩
        have hxb : x < 72057594037927936 := by rw [← hx]; exact num_some HSM.out p j (by omega)
        rw [hx] at hnx
        rw [hx]
        have HNX := Lib.hid hnx
        clear hnx hx hy
        go_wp2
        go_roundg (gk - 1)
        case measure => omega
        case rel => exact ⟨j + 1, by omega, by go_num, by rw [HNX.out]; go_num, rfl⟩
      · obtain rfl : j = k := by omega
        go_wp2
        go_ret2
        exact ⟨rfl, rfl⟩
  · have HA : Hid (rdv p k L = 0) := Lib.hid (by unfold rdv; rw [HN.out, if_neg hle])
    rw [decide_eq_false hle, HA.out]
    go_enter Try.func47, Try.ntmps47
    go_wp2
    go_ret2
    exact ⟨rfl, rfl⟩
end Go.Proofs.Ytfbfckdabbaocaa.St
