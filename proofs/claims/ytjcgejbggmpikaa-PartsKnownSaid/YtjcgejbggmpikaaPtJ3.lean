/-
  What is proved here: the contract of the iterator that hands out each worker's part as it is cut, and as it stands in a list. Conditions: the list can be read; at most 100000 edges.
-/
import Derived.Test.YtjcgejbggmpikaaPtRf
import Derived.Test.YtjcgejbggmpikaaPtW9
import Derived.Shelf.Abstract
import Derived.Shelf.AbstractIn
import Derived.Shelf.RegionOpen
import Derived.WalkKit
import Derived.OwnWalkIn
import Derived.TacticsInMore
import Derived.LoopNIn
import Derived.LoopIn
import Derived.RegionIn
namespace Go.Proofs.Ytjcgejbggmpikaa.Pt
open Go.RowKit Go.Shelf Gr Wd Ws
attribute [local go_sem] Oper.semAt_some

/- What a round is handed: two parts, and what they read as. -/
structure Al where
  mv : Value
  gv : Value
  P : Pt
  Q : Pt
def Al.pq (x : Al) : Pt × Pt := (x.P, x.Q)
def encsA (x : Al) : Array Value := #[x.mv, x.gv]
structure RA (x : Al) (W : World) : Prop where
  m : PtV W x.mv x.P
  g : PtV W x.gv x.Q
  sm : Sm x.P
  sg : Sm x.Q
def prs (V : Int) (es : List Ed) (l : List Pt) : List (Pt × Pt) := ((List.range l.length).map fun (i : Nat) => cutP V es l.length i).zip l
theorem prs_at {V : Int} {es : List Ed} {l : List Pt} {j : Nat} {Q : Pt} (h : l[j]? = some Q) : (prs V es l)[j]? = some (cutP V es l.length j, Q) := by
  unfold prs
  rw [List.getElem?_zip_eq_some]
  refine ⟨?_, h⟩
  rw [List.getElem?_map, List.getElem?_range (lt_at h)]; rfl
theorem prs_len (V : Int) (es : List Ed) (l : List Pt) : (prs V es l).length = l.length := by simp [prs]
/- What the iterator reads. -/
structure ItB (W : World) (bl bg : Nat) (A : Option Addr) (c : Nat) (l : List Pt) (V : Int) (AE : Option Addr) (ce : Nat) (es : List Ed) : Prop where
  lb : W.heap[bl]? = some (.cells #[.slice A l.length c] 47 (0, 0))
  gb : W.heap[bg]? = some (.cells #[.int .i64 V, .slice AE es.length ce] 30 (0, 0))
  at_ : LAt W A l
  es_ : EAt W AE es
theorem ItB.below {W W' : World} {bl bg : Nat} {A : Option Addr} {c : Nat} {l : List Pt} {V : Int} {AE : Option Addr} {ce : Nat} {es : List Ed} (h : ItB W bl bg A c l V AE ce es) (hb : Below W.heap.size W W') : ItB W' bl bg A c l V AE ce es :=
  ⟨(hb.block _ (lt_of_block h.lb)).trans h.lb, (hb.block _ (lt_of_block h.gb)).trans h.gb, h.at_.below hb, h.es_.below hb⟩
theorem one {w : World} {b : Nat} {T : TypeId} {a0 : Value} (h : w.heap[b]? = some (.cells #[a0] T (0, 0))) : w.cell? ⟨b, 0, none⟩ = some a0 ∧ w.frozen? ⟨b, 0, none⟩ = false ∧ b < w.heap.size :=
  ⟨by rw [Lib.cell_of_heap h]; rfl, Lib.frozen_of_heap h _, lt_of_block h⟩
theorem below_grown {w w' : World} (h : Below w.heap.size w w') : w.grownBy w' none := ⟨h.os, h.tape, h.output, h.size, fun i hi _ => h.block i hi⟩

theorem told_bool {e : Ending} {W : World} {X Y : World → Prop} (h : (e = .returned (.bool true) ∧ X W) ∨ (e = .returned (.bool false) ∧ Y W)) : ∃ b : Bool, e = .returned (.bool b) ∧ Hid ((b = true → X W) ∧ (b = false → Y W)) := by
  rcases h with ⟨rfl, h⟩ | ⟨rfl, h⟩
  · exact ⟨true, rfl, Lib.hid ⟨fun _ => h, fun h => by cases h⟩⟩
  · exact ⟨false, rfl, Lib.hid ⟨fun h => (by cases h), fun _ => h⟩⟩
def TdRel (J : List Al → World → Prop) (w : World) (V : Int) (es : List Ed) (l : List Pt) (k : Nat) (i : Value) (wr : World) : Prop :=
  ∃ (j : Nat) (pre : List Al), j ≤ k ∧ i = .int .i64 (j : Int) ∧ pre.length = j ∧ Hid (pre.map Al.pq = (prs V es l).take j) ∧ Hid (J pre wr) ∧ Hid (Below w.heap.size w wr)

set_option maxRecDepth 100000 in
set_option maxHeartbeats 4000000 in
theorem side_told (n : Nat) (hn : 1 ≤ n) (bl bg : Nat) (A : Option Addr) (c : Nat) (l : List Pt) (V : Int) (AE : Option Addr) (ce : Nat) (es : List Ed) (w : World) (h : ItB w bl bg A c l V AE ce es) (hm : es.length ≤ 100000) (hl : l.length ≤ 9223372036854775807)
    (hs : ∀ i : Nat, Sm (cutP V es l.length i)) (hs2 : ∀ Q ∈ l, Sm Q) :
    Told Fence.wide n Try.prog 51 #[.pointer (some ⟨bl, 0, none⟩), .pointer (some ⟨bg, 0, none⟩)] encsA RA (Below w.heap.size) (fun xs => xs.map Al.pq = prs V es l) (fun pre => ∃ j, pre.map Al.pq = (prs V es l).take j) l.length w := by
  intro lp J Jx W hW hJ hJx hY h0
  have mixed := mixedP
  have H := Lib.hid h; clear h
  have HS := Lib.hid hs; have HS2 := Lib.hid hs2; clear hs hs2
  obtain ⟨k, hk⟩ : ∃ k, k = l.length := ⟨_, rfl⟩
  have HK := Lib.hid hk
  rw [← hk] at hl hY
  clear hk
  have hY2 : ∀ pre x W1, J pre W1 → RA x W1 → pre.length < k → YieldAt Fence.wide (n - 1) Try.prog lp (encsA x) W1 fun e W' => ∃ b : Bool, e = .returned (.bool b) ∧ Hid ((b = true → J (pre ++ [x]) W' ∧ Below w.heap.size W1 W') ∧ (b = false → Jx (pre ++ [x]) W')) :=
    fun pre x W1 h1 h2 h3 => (hY pre x W1 h1 h2 h3).mono fun e W' h => told_bool (X := fun W => J (pre ++ [x]) W ∧ Below w.heap.size W1 W) (Y := fun W => Jx (pre ++ [x]) W) h
  clear hY
  have f32 : Fence.wide.fn 32 := trivial
  have f51 : Fence.wide.fn 51 := trivial
  refine callsIn_of_wp Try.func51 rfl f51 ?_ rfl
  simp only [Try.ntmps51, List.size_toArray, List.length_cons, List.length_nil, Nat.reduceAdd, Nat.reduceSub, Array.replicate_succ, Array.replicate_zero, List.push_toArray, List.append_toArray, List.nil_append, List.cons_append]
  have HI := Lib.hid (H.out.below hW)
  obtain ⟨x0, _, xl⟩ := one HI.out.lb
  rw [← HK.out] at x0
  gi_wp2
  gi_loopw [8] (fun i wr => TdRel J w V es l k i wr) (fun i _ => k - (intOf i).toNat)
  case atStart => exact ⟨0, [], Nat.zero_le _, rfl, rfl, Lib.hid rfl, Lib.hid h0, Lib.hid hW⟩
  case round =>
    obtain ⟨j, pre, hj, rfl, hlen, HP, HJ, HB⟩ := hrel
    clear x0 xl
    have HW := Lib.hid (H.out.below HB.out)
    obtain ⟨x0, _, xl⟩ := one HW.out.lb
    rw [← HK.out] at x0
    obtain ⟨g0, g1, gl⟩ := Bx.cells HW.out.gb
    by_cases hlt : j < k
    · obtain ⟨Q, hQ⟩ := at_lt l j (by rw [← HK.out]; exact hlt)
      obtain ⟨bk, o, A1, A2, A3, c1, c2, c3, rfl, hC⟩ := HW.out.at_ j Q hQ
      obtain ⟨m1, hm1⟩ : ∃ m, m = Q.own.length := ⟨_, rfl⟩
      obtain ⟨m2, hm2⟩ : ∃ m, m = Q.out.length := ⟨_, rfl⟩
      obtain ⟨m3, hm3⟩ : ∃ m, m = Q.back.length := ⟨_, rfl⟩
      have HG := Lib.hid hC.ptv
      have f0 := hC.f0; have f1 := hC.f1; have f2 := hC.f2; have f3 := hC.f3; have f4 := hC.f4; have f5 := hC.f5
      rw [← hm1] at f3; rw [← hm2] at f4; rw [← hm3] at f5
      simp only [← hm1, ← hm2, ← hm3] at HG
      clear hm1 hm2 hm3 hC
      obtain ⟨w4, hw4⟩ : ∃ w4, w4 = wr.alloc (.cells #[.int .i64 Q.w, .int .i64 Q.k, .int .i64 Q.n, .slice A1 m1 c1, .slice A2 m2 c2, .slice A3 m3 c3] 34) := ⟨_, rfl⟩
      have hb4 : Below wr.heap.size wr w4 := by rw [hw4]; exact (Below.refl _ wr).alloc (Nat.le_refl _) _
      have HN4 : Hid (w4.heap[wr.heap.size]? = some (.cells #[.int .i64 Q.w, .int .i64 Q.k, .int .i64 Q.n, .slice A1 m1 c1, .slice A2 m2 c2, .slice A3 m3 c3] 34 (0, 0))) := Lib.hid (by rw [hw4]; exact heap_alloc_new wr _)
      have HW4 := Lib.hid (HW.out.below hb4)
      have HJ4 := Lib.hid (hJ pre wr w4 none HJ.out (below_grown hb4) (fun r e => by cases e))
      have HG4 := Lib.hid (HG.out.below hb4)
      have HB4 := Lib.hid (HB.out.trans (hb4.mono HB.out.size))
      have HX := Lib.hid hw4
      have HQ := Lib.hid hQ
      clear hb4 hw4 hQ
      gi_wp2
      rw [← HX.out]
      clear x0 xl g0 g1 gl f0 f1 f2 f3 f4 f5
      obtain ⟨x0, _, xl⟩ := one HW4.out.lb
      rw [← HK.out] at x0
      obtain ⟨g0, g1, gl⟩ := Bx.cells HW4.out.gb
      obtain ⟨p0, p1, p2, p3, p4, p5, _, _, _, _, _, _, p6⟩ := six HN4.out
      have B4 : Hid (Below w4.heap.size w4 w4.drew) := Lib.hid ((Below.refl _ w4).drew)
      have HC := Lib.hid (cut_any V (k : Int) (j : Int) AE ce es w4.drew (HW4.out.es_.below B4.out) hm)
      gi_region_with (first
        | (gi_at_call 32; refine (callsIn_wide.2 HC.out).mono ?_; rintro e w5 ⟨mv, rfl, hmv, hb5⟩; have HB5 := Lib.hid (B4.out.trans hb5); have HM5 := Lib.hid hmv.ptv; clear hmv hb5; obtain ⟨fn, tmps, assign, body, hy, hR⟩ := hY2 pre ⟨mv, _, cutP V es k j, Q⟩ w5 (hJ pre w4 w5 none HJ4.out (below_grown HB5.out) (fun r e => by cases e)) ⟨HM5.out, HG4.out.below HB5.out, by rw [HK.out]; exact HS.out j, HS2.out Q (List.mem_of_getElem? HQ.out)⟩ (by omega); dsimp only [encsA] at hy; obtain ⟨p0, p1, p2, p3, p4, p5, _, _, _, _, _, _, p6⟩ := six ((HB5.out.block _ (lt_of_block HN4.out)).trans HN4.out))
        | (refine hR.mono ?_; rintro e w6 ⟨b, rfl, HH⟩))
      all_goals
        cases b with
        | true =>
          have HH2 := Lib.hid (HH.out.1 rfl)
          clear p0 p1 p2 p3 p4 p5 p6 x0 xl g0 g1 gl hy hR
          gi_wp2
          go_roundw
          case rel => exact ⟨j + 1, pre ++ [_], by omega, by simp, by simp [hlen], Lib.hid (by rw [List.map_append, HP.out, take_at (prs_at HQ.out), ← HK.out]; rfl), Lib.hid HH2.out.1, Lib.hid ((HB4.out.trans (HB5.out.mono HB4.out.size)).trans HH2.out.2)⟩
          case measure => simp [intOf]; omega
        | false =>
          have HH2 := Lib.hid (HH.out.2 rfl)
          clear p0 p1 p2 p3 p4 p5 p6 x0 xl g0 g1 gl hy hR
          gi_wp2
          refine bodyPost_ret (results_none rfl _ _ _) rfl ?_
          exact ⟨⟨_, rfl⟩, .inr ⟨pre ++ [_], ⟨j + 1, by rw [List.map_append, HP.out, take_at (prs_at HQ.out), ← HK.out]; rfl⟩, HH2.out⟩⟩
    · obtain rfl : j = k := by omega
      gi_wp2
      go_end0
      exact ⟨⟨_, rfl⟩, .inl ⟨pre, by rw [HP.out, List.take_of_length_le (by rw [prs_len, ← HK.out]; exact Nat.le_refl _)], HJ.out⟩⟩

end Go.Proofs.Ytjcgejbggmpikaa.Pt
