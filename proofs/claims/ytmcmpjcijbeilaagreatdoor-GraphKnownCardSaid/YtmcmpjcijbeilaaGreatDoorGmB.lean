/-
  What is proved here: the texts WdW6 WdW7 GrW1 GrW2 GrSort1 GrSort2 GrShelf WdW3 WdW4 WdW8 WdR2 WdR1 of this seat, laid together (each says itself what it proves; no condition beyond theirs).
-/
import Derived.Test.YtmcmpjcijbeilaaGreatDoorGmA
import Derived.Lib.OwnKind
import Derived.Shelf.SlSortCmp.QuietGrown
import Derived.Outline
import Derived.Shelf.GgSortFunc.SmallK
import Derived.Shelf.SlSortFuncK.RowK2
import Derived.Maps.AppendAt
import Derived.Shelf.GgSortFunc.Slice
import Derived.Test.YtmcmpjcijbeilaaGreatDoorProg
import Derived.Deep.QuietTactic
import Derived.BigQuiet
/-
  What is proved here: contracts of the library's (*strings.Builder).copyCheck and WriteRune as this program has them. Conditions: the builder is one that the call has made.
-/
namespace Go.Proofs.YtmcmpjcijbeilaaGreatDoor.Ws
open Go.RowKit Wd

theorem size49 : (Tryz.prog.info? 48).map (·.size) = some 2 := by kernel_rfl
theorem lies49 : liesAt Tryz.prog Tryz.prog.depth 48 (2 / Tryz.prog.cellsOf 48) 0 48 1 = true := by kernel_rfl

set_option maxRecDepth 100000 in
set_option maxHeartbeats 1000000 in
theorem copyCheck_any (B b : Nat) (bs : List Value) (w : World) (h : Lib.IsBuilder 48 5 B b bs w) :
    Calls Tryz.prog 63 #[.pointer (some ⟨b, 0, none⟩)] w fun e w' => e = .returned (.tuple #[]) ∧ Lib.BuilderAt 48 5 B b (.pointer (some ⟨b, 0, none⟩)) bs w' ∧ Below B w w' ∧ Lib.OthersKept 5 (some b) w w' := by
  obtain ⟨j, hj, hjs⟩ := Option.map_eq_some_iff.1 size49
  rcases h with h | h
  · have c0 := h.cell0
    have hsh := h.shape
    have hfz := h.frozen0
    have HH := Lib.hid h; clear h
    go_enter Tryz.func63, Tryz.ntmps63
    go_wp2
    rw [Lib.run_to_unsafe w ⟨b, 0, none⟩ Tryz.underlying46 Tryz.underlying93 hj (by rw [hjs]; decide) hsh (Nat.zero_lt_succ 1)]
    simp only [Result.andThen]
    rw [Oper.upon_value]
    go_wp2
    rw [run_callFunc_extern Tryz.func80 (by kernel_rfl) (by kernel_rfl) (by kernel_rfl) (e := Extern.AbiNoEscape.same) (by kernel_rfl)]
    rw [Lib.run_noEscape]
    simp only [Result.andThen]
    rw [Oper.upon_value]
    go_wp2
    rw [Lib.run_from_unsafe w ⟨b, 0, none⟩ Tryz.underlying93 Tryz.underlying46 hj hsh lies49]
    simp only [Result.andThen]
    rw [Oper.upon_value]
    go_wp2
    go_end0
    exact ⟨rfl, HH.out.used _, (Below.refl B w).setCell (p := ⟨b, 0, none⟩) HH.out.1 _, (Lib.OthersKept.refl _ _ w).setCell ⟨b, 0, none⟩ rfl _⟩
  · have c0 := h.cell0
    have HH := Lib.hid h; clear h
    go_enter Tryz.func63, Tryz.ntmps63
    go_wp2
    rw [Lib.run_neq_ptr_same _ _ Tryz.underlying46 hj]
    go_wp2
    go_end0
    exact ⟨rfl, HH.out, Below.refl B _, Lib.OthersKept.refl _ _ _⟩

set_option maxRecDepth 100000 in
set_option maxHeartbeats 1000000 in
theorem writeRune_any (B b : Nat) (bs : List Value) (r : Int) (w : World) (h : Lib.IsBuilder 48 5 B b bs w) (hr0 : 0 ≤ r) (hr1 : r ≤ 1114111) (hlen : bs.length ≤ 1000000) (hBw : B ≤ w.heap.size) :
    Calls Tryz.prog 65 #[.pointer (some ⟨b, 0, none⟩), .int .i32 r] w fun e w' => (∃ v, e = .returned v) ∧ Lib.BuilderAt 48 5 B b (.pointer (some ⟨b, 0, none⟩)) (bs ++ Lib.runeCells r) w' ∧ Below B w w' ∧ Lib.OthersKept 5 (some b) w w' := by
  have hk4 := Lib.runeCells_le r
  have HH := Lib.hid h; clear h
  go_enter Tryz.func65, Tryz.ntmps65
  go_wp2_with fail
  refine (copyCheck_any B b bs _ HH.out).mono ?_
  rintro e w1 ⟨rfl, h1, hb1, hk1⟩
  obtain ⟨hB, v, hbk, hown, hne⟩ := h1
  obtain ⟨ao, cap, rfl⟩ : ∃ ao cap, v = .slice ao bs.length cap := by
    rcases hown.2 with ⟨hv, h0⟩ | ⟨g, cap, cur, hv, _⟩
    · exact ⟨none, 0, by rw [hv, h0]⟩
    · exact ⟨_, _, hv⟩
  have hlt : b < w1.heap.size := lt_of_block hbk
  have c0 : w1.cell? ⟨b, 0, none⟩ = some (.pointer (some ⟨b, 0, none⟩)) := by rw [Lib.cell_of_heap hbk]; rfl
  have c1 : w1.cell? ⟨b, 1, none⟩ = some (.slice ao bs.length cap) := by rw [Lib.cell_of_heap hbk]; rfl
  have HBK := Lib.hid hbk; clear hbk
  have HO := Lib.hid hown; clear hown
  have HNE := Lib.hid hne; clear hne
  have hs1 := hb1.size
  have HB1 := Lib.hid hb1; clear hb1
  have HK1 := Lib.hid hk1; clear hk1
  go_wp2_with fail
  refine (Tryz.utf8_AppendRune_plain B _ bs.length bs r (by omega) (by omega) _ HO.out (by omega) (by omega)).mono ?_
  rintro e w2 ⟨v', rfl, hown', o, hgrow⟩
  have hb2 : w2.heap[b]? = some (.cells #[.pointer (some ⟨b, 0, none⟩), .slice ao bs.length cap] 48 (0, 0)) := by
    rw [hgrow.block b (by simp; omega) (fun e => HNE.out e.symm), Lib.alloc_old w1 _ b hlt]
    exact HBK.out
  have d0 : w2.cell? ⟨b, 0, none⟩ = some (.pointer (some ⟨b, 0, none⟩)) := by rw [Lib.cell_of_heap hb2]; rfl
  have d1 : w2.cell? ⟨b, 1, none⟩ = some (.slice ao bs.length cap) := by rw [Lib.cell_of_heap hb2]; rfl
  have f1 : w2.frozen? ⟨b, 1, none⟩ = false := Lib.frozen_of_heap hb2 1
  obtain ⟨g, cap', rfl⟩ : ∃ g cap', v' = .slice (some ⟨g, 0, none⟩) (bs.length + (Lib.runeCells r).length) cap' := by
    rcases hown'.2 with ⟨_, h0⟩ | ⟨g, cap', cur, hv, _⟩
    · omega
    · exact ⟨g, cap', hv⟩
  have HO2 := Lib.hid hown'; clear hown'
  have HG := Lib.hid hgrow; clear hgrow
  have HB2 := Lib.hid hb2; clear hb2
  go_wp2
  go_ret2
  refine ⟨⟨_, rfl⟩, ?_, ?_, ?_⟩
  · exact Lib.BuilderAt.put (T := 48) (e := 5) hB HB2.out (bs' := bs ++ Lib.runeCells r) (by simpa using HO2.out) (by decide)
  · exact ((HB1.out.alloc (by omega) _).grown HG.out (by simp; omega) (fun k hk => (own_lt HO.out k hk).1)).setCell (p := ⟨b, 1, none⟩) hB _
  · exact ((HK1.out.alloc _).grown HG.out (Lib.ownsRow_kind (own_below HO.out ((Below.refl _ _).alloc (Nat.le_refl _) _)))).setCell ⟨b, 1, none⟩ rfl _

end Go.Proofs.YtmcmpjcijbeilaaGreatDoor.Ws

/-
  What is proved here: the contract of words.Print: a number in digits of a kind. Condition: the package variables lie as their texts lay them.
-/
namespace Go.Proofs.YtmcmpjcijbeilaaGreatDoor.Ws
open Go.RowKit Wd

theorem below_grow (w : World) (k : Nat) (os : Array Obj) : Below w.heap.size w (Sort.grow (w.drewN k) os) := by
  have h : (w.drewN k).heap = w.heap := by simp
  refine ⟨rfl, rfl, rfl, by simp [Sort.grow], fun i hi => ?_⟩
  show ((w.drewN k).heap ++ os)[i]? = _
  rw [h, Array.getElem?_append_left hi]

theorem itoa_dg (n : Nat) : (⟨(Lib.itoa (n : Int)).toArray⟩ : ByteArray) = sb (flat (chs 0 (dg n))) := by
  have h1 : Lib.itoa (n : Int) = (dg n).map fun d => UInt8.ofNat (48 + d) := by
    rw [Lib.itoa, if_neg (by omega), ← dec_dg]; rfl
  have h2 : ∀ ds : List Nat, (∀ d ∈ ds, d < 10) → ds.map (fun d => UInt8.ofNat (48 + d)) = flat (chs 0 ds) := by
    intro ds
    induction ds with
    | nil => intro _; rfl
    | cons d ds ih =>
      intro h
      rw [List.map_cons, ih fun x hx => h x (List.mem_cons_of_mem _ hx)]
      show _ = flat (dch 0 d :: chs 0 ds)
      rw [flat_cons, enc_fin0 ⟨d, h d List.mem_cons_self⟩]; rfl
  rw [h1, h2 _ (dg_lt n)]; rfl

theorem bcells (l : List UInt8) : Lib.byteCells l = l.map fun b => Value.int .u8 (b.toNat : Int) := rfl

def PrRel (w : World) (k n B : Nat) (g : Nat) (wr : World) : Prop :=
  ∃ (p : List UInt8) (done ds : List Nat), ds.length = g ∧ dg n = done ++ ds ∧ Rng (flat (chs 0 (dg n))) p (chs 0 ds) ∧ Itr w wr w.heap.size B (flat (chs 0 (dg n))) p ∧ w.heap.size < B ∧
    Lib.IsBuilder 48 5 w.heap.size w.heap.size (Lib.byteCells (flat (chs k done))) wr ∧ (flat (chs k done)).length ≤ 4 * done.length

theorem dch_r (k d : Nat) : (dch k d).r = first k + d := rfl
theorem build_iter {B b : Nat} {bs : List Value} {w : World} (h : Lib.IsBuilder 48 5 B b bs w) {k : Nat} {t : ByteArray} {q : Nat} (hk : w.heap[k]? = some (.stringIter t q)) (q' : Nat) : Lib.IsBuilder 48 5 B b bs (w.iterAt k t q') := by
  have key : ∀ p, Lib.BuilderAt 48 5 B b p bs w → Lib.BuilderAt 48 5 B b p bs (w.iterAt k t q') := by
    rintro p ⟨hB, v, hb, ho, hne⟩
    exact ⟨hB, v, (Lib.iterAt_other w k b t q' (fun e => by rw [e, hk] at hb; cases hb)).trans hb, own_iter ho hk q', hne⟩
  rcases h with h | h
  · exact Or.inl (key _ h)
  · exact Or.inr (key _ h)
theorem build_below {B b : Nat} {bs : List Value} {w w' : World} (h : Lib.IsBuilder 48 5 B b bs w) (hb : Below w.heap.size w w') : Lib.IsBuilder 48 5 B b bs w' := by
  have key : ∀ p, Lib.BuilderAt 48 5 B b p bs w → Lib.BuilderAt 48 5 B b p bs w' := by
    rintro p ⟨hB, v, hb', ho, hne⟩
    exact ⟨hB, v, (hb.block b (lt_of_block hb')).trans hb', own_below ho hb, hne⟩
  rcases h with h | h
  · exact Or.inl (key _ h)
  · exact Or.inr (key _ h)
theorem firstD (k : Nat) (hk : k < 3) (w : World) (hL : Laid w) : w.cell? ⟨0, k, none⟩ = some (.int .i32 (first k : Int)) := by
  obtain ⟨c0, c1, c2⟩ := hL.cells
  rcases (show k = 0 ∨ k = 1 ∨ k = 2 by omega) with rfl | rfl | rfl
  · exact c0
  · exact c1
  · exact c2

theorem Laid.same {w w' : World} (h : Laid w) (e : w'.heap = w.heap) : Laid w' := by
  unfold Laid LaidPow Lib.TabIs World.var? at h ⊢
  rw [e]; exact h
theorem build_same {B b : Nat} {bs : List Value} {w w' : World} (h : Lib.IsBuilder 48 5 B b bs w) (e : w'.heap = w.heap) : Lib.IsBuilder 48 5 B b bs w' := by
  unfold Lib.IsBuilder Lib.BuilderAt World.ownsRow at h ⊢
  rw [e]; exact h
theorem digit_i (r V : Int) (w : World) (hL : Laid w) (h0 : -2147483648 ≤ r) (h1 : r ≤ 2147483647) (hV : dvOf r = V) :
    Calls Tryz.prog 66 #[.int .i32 r] w fun e w' => e = .returned (.int .i64 V) ∧ w = w' := by
  subst hV; exact digit_any r w hL h0 h1
theorem writeRune_s (B b : Nat) (l : List UInt8) (r : Int) (W w : World) (hw : w.heap = W.heap ∧ w.os = W.os ∧ w.tape = W.tape ∧ w.output = W.output) (h : Hid (Lib.IsBuilder 48 5 B b (Lib.byteCells l) W)) (h0 : 0 ≤ r) (h1 : r ≤ 1114111) (hl : l.length ≤ 1000000) (hB : B ≤ W.heap.size) :
    Calls Tryz.prog 65 #[.pointer (some ⟨b, 0, none⟩), .int .i32 r] w fun e w' => (∃ v, e = .returned v) ∧ Hid (Lib.BuilderAt 48 5 B b (.pointer (some ⟨b, 0, none⟩)) (Lib.byteCells l ++ Lib.runeCells r) w') ∧ Hid (Below B W w') ∧ Hid (Lib.OthersKept 5 (some b) W w') := by
  obtain ⟨e1, e2, e3, e4⟩ := hw
  refine (writeRune_any B b _ r w (build_same h.out e1) h0 h1 (by rw [Lib.byteCells_length]; exact hl) (by rw [e1]; exact hB)).mono ?_
  rintro e w' ⟨h1, h2, h3, h4⟩
  refine ⟨h1, Lib.hid h2, Lib.hid ⟨h3.os.trans e2, h3.tape.trans e3, h3.output.trans e4, by rw [← e1]; exact h3.size, fun k hk => (h3.block k hk).trans (by rw [e1])⟩, Lib.hid ?_⟩
  intro k o hk
  exact h4 k o (by rw [e1]; exact hk)
theorem first_le (k : Nat) : first k ≤ 65296 := by unfold first; split <;> (try split) <;> omega

set_option maxRecDepth 100000 in
set_option maxHeartbeats 600000 in
theorem print_ok (n k : Nat) (w : World) (hL : Laid w) (hn : n ≤ 9223372036854775807) (hk : k < 3) :
    Calls Tryz.prog 48 #[.int .i64 (n : Int), .int .i64 (k : Int)] w fun e w' => e = .returned (.string (sb (pr k n))) ∧ Below w.heap.size w w' := by
  have HL := Lib.hid hL
  have hL4 := hL.2.2; clear hL
  have hb0 : Below w.heap.size w (w.alloc (.cells #[.pointer none, .slice none 0 0] 48)) := (Below.refl _ w).alloc (Nat.le_refl _) _
  have HB0 := Lib.hid hb0; clear hb0
  have HI0 := Lib.hid (Lib.fresh_isBuilder 48 5 w)
  have hdl : (dg n).length ≤ 19 := dg_len n 18 (by omega)
  have HC := Lib.hid (itoa_dg n)
  go_enter Tryz.func48, Tryz.ntmps48
  go_wp2_with fail
  all_goals (try (exfalso; omega))
  refine (Tryz.strconv_FormatInt_10 (n : Int) (by omega) (by omega) _ (HL.out.bel HB0.out).1.1).mono ?_
  rintro e w1 ⟨rfl, kk, os, hw1⟩
  rw [HC.out]
  have hb1 := below_grow (w.alloc (.cells #[.pointer none, .slice none 0 0] 48)) kk os
  rw [← hw1] at hb1; clear hw1
  have hs1 := hb1.size
  have hs0 : (w.alloc (.cells #[.pointer none, .slice none 0 0] 48)).heap.size = w.heap.size + 1 := by simp
  rw [hs0] at hs1; clear hs0
  have HI1 := Lib.hid (build_below HI0.out hb1)
  have HB1 := Lib.hid (below_trans HB0.out hb1); clear hb1 HI0
  go_wp2
  go_loopg [] (dg n).length (fun g wr => PrRel w k n w1.heap.size g wr)
  case atStart =>
    refine ⟨[], [], dg n, rfl, rfl, Rng.start _ _ (rg_pr 0 n (by omega)), Itr.start HB1.out (by omega) _, by omega, build_below HI1.out ((Below.refl _ _).alloc (Nat.le_refl _) _), by simp [chs, flat]⟩
  case round =>
    obtain ⟨p, done, ds, hg, hd, hr, hi, hB, hib, hlen⟩ := hrel
    have hdl2 : done.length + ds.length ≤ 19 := by rw [← List.length_append, ← hd]; exact hdl
    rcases ds with _ | ⟨d, ds⟩
    · have hnx := fun ty => hr.fin (P := Tryz.prog) wr w1.heap.size hi.1 ty
      have HR := Lib.hid hr; clear hr
      have hBs := hi.size
      have HI := Lib.hid hi; clear hi
      have HIB := Lib.hid hib; clear hib
      have HD := Lib.hid hd; clear hd
      go_wp2_with fail
      refine (Tryz.Builder_String_any _ _ _ _ HIB.out (by omega)).mono ?_
      rintro e w2 ⟨rfl, hb2⟩
      have HB2 := Lib.hid hb2; clear hb2
      go_wp2
      go_ret
      refine ⟨?_, HI.out.2.2.trans HB2.out⟩
      have := HD.out
      rw [List.append_nil] at this
      rw [pr, this]; rfl
    · have hnx := fun ty => hr.run (P := Tryz.prog) wr w1.heap.size hi.1 ty
      have hd10 : d < 10 := dg_lt n d (by rw [hd]; simp)
      have hg' : ds.length + 1 = gk := by simpa using hg
      have hrr : (dch 0 d).r = 48 + d := rfl
      rw [hrr] at hnx
      have HIB := Lib.hid (build_iter hib hi.1 (p.length + (dch 0 d).bs.length)); clear hib
      have HR := Lib.hid hr; clear hr hg
      have HI := Lib.hid (hi.next (dch 0 d).bs); clear hi
      have HLw := Lib.hid (HL.out.bel HI.out.2.2)
      have HD := Lib.hid hd; clear hd
      have hc1 := firstD k hk _ HLw.out
      have hBi := HI.out.size
      have HV := Lib.hid (show dvOf (48 + (d : Int)) = (d : Int) from by have := (dch_kv 0 d (by omega) hd10).2; simpa [dch, first] using this)
      have hfk := first_le k
      have hw1 : IntKind.i32.wrap (d : Int) = (d : Int) := by rw [IntKind.wrap_i32]; omega
      have hw2 : IntKind.i32.wrap ((first k : Int) + (d : Int)) = (first k : Int) + (d : Int) := by rw [IntKind.wrap_i32]; omega
      go_wp2_with fail
      obtain ⟨W, hW⟩ : ∃ W, W = wr.iterAt w1.heap.size (sb (flat (chs 0 (dg n)))) (p.length + (dch 0 d).bs.length) := ⟨_, rfl⟩
      rw [← hW] at HIB HI HLw hc1 hBi ⊢
      clear hW hnx
      have hx0 : 0 ≤ (first k : Int) + (d : Int) := by omega
      have hx1 : (first k : Int) + (d : Int) ≤ 1114111 := by omega
      have hx2 : (flat (chs k done)).length ≤ 1000000 := by omega
      have hx3 : w.heap.size ≤ W.heap.size := Nat.le_of_lt hBi
      go_region_with (first
        | (go_at_call 66; refine (digit_i (48 + (d : Int)) (d : Int) _ ?_ (by omega) (by omega) HV.out).mono ?_; exact HLw.out.same rfl; rintro e w' ⟨rfl, rfl⟩)
        | (go_at_call 65; refine (writeRune_s w.heap.size w.heap.size (flat (chs k done)) ((first k : Int) + d) W _ ?_ HIB hx0 hx1 hx2 hx3).mono ?_; exact ⟨rfl, rfl, rfl, rfl⟩; rintro e w4 ⟨⟨v4, rfl⟩, H4, HB4, HK4⟩))
      all_goals go_wp2
      all_goals go_roundg (gk - 1)
      all_goals first
        | omega
        | (refine ⟨p ++ (dch 0 d).bs, done ++ [d], ds, by omega, by rw [HD.out]; simp, HR.out.next, ⟨HK4.out.iter HI.out.1 (by omega), HI.out.2.1, HI.out.2.2.trans HB4.out⟩, hB, ?_, ?_⟩
           · have e : flat (chs k (done ++ [d])) = flat (chs k done) ++ (dch k d).bs := by rw [chs, List.map_append, flat_append]; simp [chs, flat]
             rw [e, Lib.byteCells_append]
             refine Or.inr ?_
             have e2 : Lib.byteCells (dch k d).bs = Lib.runeCells ((first k : Int) + d) := by
               rw [dch, Lib.byteCells_encodeRune]; congr 1
             rw [e2]; exact H4.out
           · have e : flat (chs k (done ++ [d])) = flat (chs k done) ++ (dch k d).bs := by rw [chs, List.map_append, flat_append]; simp [chs, flat]
             have := dch_len_fin ⟨k, hk⟩ ⟨d, hd10⟩
             rw [e, List.length_append, List.length_append, List.length_singleton]
             simp only at this
             omega)

end Go.Proofs.YtmcmpjcijbeilaaGreatDoor.Ws

/-
  What is proved here: contracts of graph.isVertex, edgeMayBe, isAhead, turned, of the document's own fits and ahead, and of the kit's Light. Conditions: numbers fit an int.
-/
namespace Go.Proofs.YtmcmpjcijbeilaaGreatDoor.Gr
open Go.RowKit Wd Ws

/- Some draws, and some blocks of the call's own. -/
def Grw (w w' : World) : Prop := ∃ (q : Nat) (os : Array Obj), w' = Sort.grow (w.drewN q) os
theorem Grw.refl (w : World) : Grw w w := ⟨0, #[], by rw [Sort.grow_empty]; rfl⟩
theorem Grw.alloc {w w' : World} (h : Grw w w') (o : Obj) : Grw w (w'.alloc o) := by
  obtain ⟨q, os, rfl⟩ := h
  exact ⟨q, os ++ #[o], by rw [Sort.alloc_eq_grow, Sort.grow_grow]⟩
theorem Grw.drew {w w' : World} (h : Grw w w') : Grw w w'.drew := by
  obtain ⟨q, os, rfl⟩ := h
  exact ⟨q + 1, os, by rw [Sort.drew_grow]; rfl⟩
theorem Grw.trans {a b c : World} (h : Grw a b) (k : Grw b c) : Grw a c := by
  obtain ⟨q, os, rfl⟩ := h
  obtain ⟨r, os', rfl⟩ := k
  refine ⟨q + r, os ++ os', ?_⟩
  show Sort.grow (Sort.grow ((a.drewN q).drewN r) os) os' = _
  rw [Sort.grow_grow, World.drewN_drewN]
theorem Grw.below {w w' : World} (h : Grw w w') : Below w.heap.size w w' := by
  obtain ⟨q, os, rfl⟩ := h
  exact below_grow w q os
theorem Grw.quiet {P : Program} {f : FuncId} {args : Array Value} {w : World} {n : Nat} {os : Array Obj} {v : Value}
    (h : Calls P f args (Sort.grow (w.drewN n) os) fun e w' => e = .returned v ∧ Grw (Sort.grow (w.drewN n) os) w') : Calls P f args (Sort.grow (w.drewN n) os) fun e w'' => e = .returned v ∧ ∃ p : GrownBy, w'' = Sort.grow (w.drewN p.n) p.os :=
  Calls.grown_of h
theorem grw_at (w : World) (n : Nat) (os : Array Obj) : Grw w (Sort.grow (w.drewN n) os) := ⟨n, os, rfl⟩

theorem two_boxes (w : World) (x y : Obj) : Below w.heap.size w ((w.alloc x).alloc y) := ((Grw.refl w).alloc x |>.alloc y).below
theorem step_below {B : Nat} {a b c : World} (h : Below B a b) (hB : B ≤ b.heap.size) (k : Below b.heap.size b c) : Below B a c := h.trans (k.mono hB)
theorem ret_b {a b : Bool} (h : a = b) : Ending.returned (.bool a) = .returned (.bool b) := by rw [h]
theorem isVertex_any (v V : Int) (w : World) : Calls Tryz.prog 52 #[.int .i64 v, .int .i64 V] w fun e w' => e = .returned (.bool (decide (0 ≤ v) && decide (v < V))) ∧ w = w' := by
  by_cases h1 : 0 ≤ v
  · go_enter Tryz.func52, Tryz.ntmps52
    go_wp2
    go_ret
    refine ⟨ret_b ?_, rfl⟩
    simp [h1]
  · go_enter Tryz.func52, Tryz.ntmps52
    go_wp2
    go_ret
    refine ⟨ret_b ?_, rfl⟩
    simp; omega
theorem isVertex_at (v V : Int) (r : Bool) (w : World) (hr : Hid ((decide (0 ≤ v) && decide (v < V)) = r)) : Calls Tryz.prog 52 #[.int .i64 v, .int .i64 V] w fun e w' => e = .returned (.bool r) ∧ w = w' := by
  rw [← hr.out]; exact isVertex_any v V w

set_option maxRecDepth 100000 in
theorem edgeMayBe_any (a b c V : Int) (w : World) :
    Calls Tryz.prog 33 #[.int .i64 a, .int .i64 b, .int .i64 c, .int .i64 V] w fun e w' => e = .returned (.bool (fitE V (a, b, c))) ∧ w = w' := by
  obtain ⟨ra, ha⟩ : ∃ ra, (decide (0 ≤ a) && decide (a < V)) = ra := ⟨_, rfl⟩
  obtain ⟨rb, hb⟩ : ∃ rb, (decide (0 ≤ b) && decide (b < V)) = rb := ⟨_, rfl⟩
  have e : fitE V (a, b, c) = (ra && rb && (decide (0 ≤ c) && decide (c < 2147483648))) := by
    rw [← ha, ← hb]; unfold fitE; simp only [Bool.and_assoc]
  rw [e]; clear e
  have HA := Lib.hid ha; have HB := Lib.hid hb; clear ha hb
  cases ra with
  | false =>
    go_enter Tryz.func33, Tryz.ntmps33
    go_wp2_with fail
    refine (isVertex_at a V _ _ HA).mono ?_
    rintro e w' ⟨rfl, rfl⟩
    go_wp2_with fail
    go_ret
    exact ⟨rfl, rfl⟩
  | true =>
    cases rb with
    | false =>
      go_enter Tryz.func33, Tryz.ntmps33
      go_wp2_with fail
      refine (isVertex_at a V _ _ HA).mono ?_
      rintro e w' ⟨rfl, rfl⟩
      go_wp2_with fail
      refine (isVertex_at b V _ _ HB).mono ?_
      rintro e w' ⟨rfl, rfl⟩
      go_wp2_with fail
      go_ret
      exact ⟨rfl, rfl⟩
    | true =>
      by_cases h1 : 0 ≤ c
      · go_enter Tryz.func33, Tryz.ntmps33
        go_wp2_with fail
        refine (isVertex_at a V _ _ HA).mono ?_
        rintro e w' ⟨rfl, rfl⟩
        go_wp2_with fail
        refine (isVertex_at b V _ _ HB).mono ?_
        rintro e w' ⟨rfl, rfl⟩
        go_wp2_with fail
        go_ret
        refine ⟨ret_b ?_, rfl⟩
        simp [h1]
      · go_enter Tryz.func33, Tryz.ntmps33
        go_wp2_with fail
        refine (isVertex_at a V _ _ HA).mono ?_
        rintro e w' ⟨rfl, rfl⟩
        go_wp2_with fail
        refine (isVertex_at b V _ _ HB).mono ?_
        rintro e w' ⟨rfl, rfl⟩
        go_wp2_with fail
        go_ret
        refine ⟨ret_b ?_, rfl⟩
        simp; omega
theorem edgeMayBe_at (a b c V : Int) (r : Bool) (w : World) (hr : Hid (fitE V (a, b, c) = r)) :
    Calls Tryz.prog 33 #[.int .i64 a, .int .i64 b, .int .i64 c, .int .i64 V] w fun e w' => e = .returned (.bool r) ∧ w = w' := by
  rw [← hr.out]; exact edgeMayBe_any a b c V w

theorem edgeMayBe_q (a b c V : Int) (r : Bool) (w : World) (hr : Hid (fitE V (a, b, c) = r)) :
    Calls Tryz.prog 33 #[.int .i64 a, .int .i64 b, .int .i64 c, .int .i64 V] w fun e w' => e = .returned (.bool r) ∧ Grw w w' :=
  (edgeMayBe_at a b c V r w hr).mono fun _ _ ⟨h1, h2⟩ => ⟨h1, by rw [← h2]; exact Grw.refl w⟩

theorem isAhead_any (a0 a1 a2 b0 b1 b2 : Int) (w : World) :
    Calls Tryz.prog 34 #[.agg #[.int .i64 a0, .int .i64 a1, .int .i64 a2], .agg #[.int .i64 b0, .int .i64 b1, .int .i64 b2]] w fun e w' => e = .returned (.bool (ahd (a0, a1, a2) (b0, b1, b2))) ∧ Grw w w' := by
  have hz : Grw w ((w.alloc (.cells #[.int .i64 a0, .int .i64 a1, .int .i64 a2] 42)).alloc (.cells #[.int .i64 b0, .int .i64 b1, .int .i64 b2] 42)) :=
    ((Grw.refl w).alloc _).alloc _
  have HZ := Lib.hid hz; clear hz
  by_cases h1 : a0 < b0
  · go_enter Tryz.func34, Tryz.ntmps34
    go_wp2
    go_ret
    refine ⟨ret_b ?_, HZ.out⟩
    simp [ahd, h1]
  · by_cases h2 : a0 = b0
    · subst h2
      go_enter Tryz.func34, Tryz.ntmps34
      go_wp2
      go_ret
      refine ⟨ret_b ?_, HZ.out⟩
      simp [ahd]
    · go_enter Tryz.func34, Tryz.ntmps34
      go_wp2
      go_ret
      refine ⟨ret_b ?_, HZ.out⟩
      simp [ahd, h1, h2]
theorem isAhead_at (a0 a1 a2 b0 b1 b2 : Int) (r : Bool) (w : World) (hr : Hid (ahd (a0, a1, a2) (b0, b1, b2) = r)) :
    Calls Tryz.prog 34 #[.agg #[.int .i64 a0, .int .i64 a1, .int .i64 a2], .agg #[.int .i64 b0, .int .i64 b1, .int .i64 b2]] w fun e w' => e = .returned (.bool r) ∧ Grw w w' := by
  rw [← hr.out]; exact isAhead_any a0 a1 a2 b0 b1 b2 w

theorem rahead_any (a0 a1 a2 b0 b1 b2 : Int) (w : World) :
    Calls Tryz.prog 36 #[.agg #[.int .i64 a0, .int .i64 a1, .int .i64 a2], .agg #[.int .i64 b0, .int .i64 b1, .int .i64 b2]] w fun e w' => e = .returned (.bool (ahd (a0, a1, a2) (b0, b1, b2))) ∧ Grw w w' := by
  have hz : Grw w ((w.alloc (.cells #[.int .i64 a0, .int .i64 a1, .int .i64 a2] 42)).alloc (.cells #[.int .i64 b0, .int .i64 b1, .int .i64 b2] 42)) :=
    ((Grw.refl w).alloc _).alloc _
  have HZ := Lib.hid hz; clear hz
  by_cases h1 : a0 < b0
  · go_enter Tryz.func36, Tryz.ntmps36
    go_wp2
    go_ret
    refine ⟨ret_b ?_, HZ.out⟩
    simp [ahd, h1]
  · by_cases h2 : a0 = b0
    · subst h2
      go_enter Tryz.func36, Tryz.ntmps36
      go_wp2
      go_ret
      refine ⟨ret_b ?_, HZ.out⟩
      simp [ahd]
    · go_enter Tryz.func36, Tryz.ntmps36
      go_wp2
      go_ret
      refine ⟨ret_b ?_, HZ.out⟩
      simp [ahd, h1, h2]
theorem rahead_at (a0 a1 a2 b0 b1 b2 : Int) (r : Bool) (w : World) (hr : Hid (ahd (a0, a1, a2) (b0, b1, b2) = r)) :
    Calls Tryz.prog 36 #[.agg #[.int .i64 a0, .int .i64 a1, .int .i64 a2], .agg #[.int .i64 b0, .int .i64 b1, .int .i64 b2]] w fun e w' => e = .returned (.bool r) ∧ Grw w w' := by
  rw [← hr.out]; exact rahead_any a0 a1 a2 b0 b1 b2 w

theorem turned_any (a0 a1 a2 : Int) (w : World) :
    Calls Tryz.prog 31 #[.agg #[.int .i64 a0, .int .i64 a1, .int .i64 a2]] w fun e w' => e = .returned (.agg #[.int .i64 a1, .int .i64 a0, .int .i64 a2]) ∧ Grw w w' := by
  go_enter Tryz.func31, Tryz.ntmps31
  go_wp2
  refine bodyPost_ret (v := .agg #[.int .i64 a1, .int .i64 a0, .int .i64 a2]) (by simp [results, Tryz.results31, go_sem]) rfl ⟨rfl, ?_⟩
  exact ((Grw.refl w).alloc _).alloc _

theorem rfits_any (a b c V : Int) (w : World) :
    Calls Tryz.prog 35 #[.agg #[.int .i64 a, .int .i64 b, .int .i64 c], .int .i64 V] w fun e w' => e = .returned (.bool (fitE V (a, b, c))) ∧ Grw w w' := by
  have hz : Grw w (w.alloc (.cells #[.int .i64 a, .int .i64 b, .int .i64 c] 42)) := (Grw.refl w).alloc _
  have HZ := Lib.hid hz; clear hz
  by_cases h1 : 0 ≤ a
  · by_cases h2 : a < V
    · by_cases h3 : 0 ≤ b
      · by_cases h4 : b < V
        · by_cases h5 : 0 ≤ c
          · go_enter Tryz.func35, Tryz.ntmps35
            go_wp2
            go_ret
            refine ⟨ret_b ?_, HZ.out⟩
            simp [fitE, h1, h2, h3, h4, h5]
          · go_enter Tryz.func35, Tryz.ntmps35
            go_wp2
            go_ret
            refine ⟨ret_b ?_, HZ.out⟩
            simp [fitE, h1, h2, h3, h4]; omega
        · go_enter Tryz.func35, Tryz.ntmps35
          go_wp2
          go_ret
          refine ⟨ret_b ?_, HZ.out⟩
          simp [fitE, h1, h2, h3]; omega
      · go_enter Tryz.func35, Tryz.ntmps35
        go_wp2
        go_ret
        refine ⟨ret_b ?_, HZ.out⟩
        simp [fitE, h1, h2]; omega
    · go_enter Tryz.func35, Tryz.ntmps35
      go_wp2
      go_ret
      refine ⟨ret_b ?_, HZ.out⟩
      simp [fitE, h1]; omega
  · go_enter Tryz.func35, Tryz.ntmps35
    go_wp2
    go_ret
    refine ⟨ret_b ?_, HZ.out⟩
    simp [fitE]; omega
theorem rfits_at (a b c V : Int) (r : Bool) (w : World) (hr : Hid (fitE V (a, b, c) = r)) :
    Calls Tryz.prog 35 #[.agg #[.int .i64 a, .int .i64 b, .int .i64 c], .int .i64 V] w fun e w' => e = .returned (.bool r) ∧ Grw w w' := by
  rw [← hr.out]; exact rfits_any a b c V w

theorem light_any (V : Int) (A : Option Addr) (n c : Nat) (top : Nat) (w : World) :
    Calls Tryz.prog 9 #[.agg #[.int .i64 V, .slice A n c], .int .i64 (top : Int)] w fun e w' => e = .returned (.bool (decide (n ≤ top))) ∧ Grw w w' := by
  go_enter Tryz.func9, Tryz.ntmps9
  go_wp2
  go_ret
  refine ⟨ret_b ?_, (Grw.refl w).alloc _⟩
  simp

end Go.Proofs.YtmcmpjcijbeilaaGreatDoor.Gr

/-
  What is proved here: contracts of graph.Check and of the document's own Check: may a graph be? Conditions: numbers and counts fit an int.
-/
namespace Go.Proofs.YtmcmpjcijbeilaaGreatDoor.Gr
open Go.RowKit Wd Ws

theorem mixedO : Tryz.prog.follows .mixedOrders = true := by kernel_rfl
def prv (L : List Ed) (k : Nat) : Option Ed := if k = 0 then none else L[k - 1]?
def CkRel (w : World) (V : Int) (A : Option Addr) (c : Nat) (L : List Ed) (g : Nat) (i : Value) (wr : World) : Prop :=
  ∃ k : Nat, k + g = L.length ∧ i = .int .i64 (k : Int) ∧ Below w.heap.size w wr ∧ wr.heap[w.heap.size]? = some (.cells #[.int .i64 V, .slice A L.length c] 24 (0, 0)) ∧ okL V none L = okL V (prv L k) (L.drop k)
structure Bx (w : World) (b : Nat) (V : Int) (s : Value) : Prop where
  at_ : w.heap[b]? = some (.cells #[.int .i64 V, s] 24 (0, 0))
theorem Bx.cells {w : World} {b : Nat} {V : Int} {s : Value} (h : w.heap[b]? = some (.cells #[.int .i64 V, s] 24 (0, 0))) : w.cell? ⟨b, 0, none⟩ = some (.int .i64 V) ∧ w.cell? ⟨b, 1, none⟩ = some s ∧ b < w.heap.size :=
  ⟨by rw [Lib.cell_of_heap h]; rfl, by rw [Lib.cell_of_heap h]; rfl, lt_of_block h⟩

theorem eb_cells {w : World} {b : Nat} {x y z : Int} (h : w.heap[b]? = some (.cells #[.int .i64 x, .int .i64 y, .int .i64 z] 42 (0, 0))) :
    w.cell? ⟨b, 0, none⟩ = some (.int .i64 x) ∧ w.cell? ⟨b, 1, none⟩ = some (.int .i64 y) ∧ w.cell? ⟨b, 2, none⟩ = some (.int .i64 z) ∧ b < w.heap.size :=
  ⟨by rw [Lib.cell_of_heap h]; rfl, by rw [Lib.cell_of_heap h]; rfl, by rw [Lib.cell_of_heap h]; rfl, lt_of_block h⟩

set_option maxRecDepth 100000 in
set_option maxHeartbeats 600000 in
theorem check_any (V : Int) (A : Option Addr) (c : Nat) (L : List Ed) (w : World) (hL : EAt w A L) (hm : L.length ≤ 9223372036854775807) :
    Calls Tryz.prog 15 #[.agg #[.int .i64 V, .slice A L.length c]] w fun e w' => e = .returned (.int .i64 (chk V L)) ∧ Below w.heap.size w w' := by
  have mixed := mixedO
  have HL := Lib.hid hL; clear hL
  have hz : Below w.heap.size w (w.alloc (.cells #[.int .i64 V, .slice A L.length c] 24)) := (Below.refl _ w).alloc (Nat.le_refl _) _
  have HZ := Lib.hid hz; clear hz
  by_cases hV : 512 < V
  · have hk : chk V L = 3 := by unfold chk; rw [if_pos (Or.inl hV)]
    rw [hk]; clear hk
    go_enter Tryz.func15, Tryz.ntmps15
    go_wp2
    go_ret
    exact ⟨rfl, HZ.out⟩
  · by_cases hn : 8192 < L.length
    · have hk : chk V L = 3 := by unfold chk; rw [if_pos (Or.inr hn)]
      rw [hk]; clear hk
      go_enter Tryz.func15, Tryz.ntmps15
      go_wp2
      go_ret
      exact ⟨rfl, HZ.out⟩
    · by_cases h1 : V < 1
      · have hk : chk V L = 40 := by unfold chk; rw [if_neg (by omega), if_pos h1]
        rw [hk]; clear hk
        go_enter Tryz.func15, Tryz.ntmps15
        go_wp2
        go_ret
        exact ⟨rfl, HZ.out⟩
      · have hk : chk V L = if okL V none L then 0 else 40 := by unfold chk; rw [if_neg (by omega), if_neg h1]
        rw [hk]
        clear hk
        obtain ⟨R, hR⟩ : ∃ R : Int, (if okL V none L then (0 : Int) else 40) = R := ⟨_, rfl⟩
        rw [hR]
        have HRR := Lib.hid hR; clear hR
        go_enter Tryz.func15, Tryz.ntmps15
        go_wp2
        go_loopg [20] L.length (fun g i wr => CkRel w V A c L g i wr)
        case atStart => exact ⟨0, by omega, rfl, HZ.out, heap_alloc_new w _, rfl⟩
        case round =>
          obtain ⟨k, hk, rfl, hb, hbx, hok⟩ := hrel
          by_cases hlt : k < L.length
          · obtain ⟨e, he⟩ := at_lt L k hlt
            obtain ⟨x0, x1, hsz⟩ := Bx.cells hbx
            have hea := HL.out.below hb
            obtain ⟨bk, o, rfl, c0, c1, c2⟩ := hea k e he
            have hokk : okL V (prv L k) (L.drop k) = (fitE V e && ahdO (prv L k) e && okL V (some e) (L.drop (k + 1))) := by rw [drop_at he]; rfl
            rw [hokk] at hok
            clear hokk
            have HNX : Hid (prv L (k + 1) = some e) := Lib.hid (by unfold prv; rw [if_neg (by omega), Nat.add_sub_cancel]; exact he)
            obtain ⟨e0, e1, e2⟩ := e
            have hy := heap_alloc_new wr (.cells #[.int .i64 e0, .int .i64 e1, .int .i64 e2] 42)
            have hb1 : Below w.heap.size w (wr.alloc (.cells #[.int .i64 e0, .int .i64 e1, .int .i64 e2] 42)) := hb.alloc (by omega) _
            have hbx1 := (Lib.alloc_old wr (.cells #[.int .i64 e0, .int .i64 e1, .int .i64 e2] 42) _ hsz).trans hbx
            have hea1 := HL.out.below hb1
            have HB := Lib.hid hb1; have HX := Lib.hid hbx1; have HO := Lib.hid hok; have HE := Lib.hid he; have HA := Lib.hid hea1
            have HY := Lib.hid hy
            clear hb hb1 hbx hbx1 hok he hea hea1 hy
            go_wp2
            generalize hW : wr.alloc (.cells #[.int .i64 e0, .int .i64 e1, .int .i64 e2] 42) = W at HB HX HA HY ⊢
            clear x0 x1 c0 c1 c2 hW
            obtain ⟨x0, x1, hsz1⟩ := Bx.cells HX.out
            obtain ⟨y0, y1, y2, hs1⟩ := eb_cells HY.out
            have fx0 := cell_grown hsz1 x0; have fx1 := cell_grown hsz1 x1
            have fy0 := cell_grown hs1 y0; have fy1 := cell_grown hs1 y1; have fy2 := cell_grown hs1 y2
            clear x0 x1 y0 y1 y2
            cases hf : fitE V (e0, e1, e2) with
            | false =>
              have HF := Lib.hid hf; clear hf
              have HC1 := Lib.hid (fun n os => Grw.quiet (edgeMayBe_q e0 e1 e2 V false (Sort.grow (W.drewN n) os) HF))
              refine wp_region_quiet_grown mixed (by kernel_rfl) ?_
              repeat (go_big_quiet_step (first | (go_at_call 33; exact HC1.out _ _)))
              refine wpQuiet_nil ?_
              intro _ hw'
              obtain ⟨⟨nq, osq⟩, hw''⟩ := hw'
              subst hw''
              go_wp2
              go_ret
              refine ⟨?_, HB.out.trans ((grw_at _ _ _).below.mono (by omega))⟩
              exact ret_int (by rw [← HRR.out, HO.out, HF.out]; rfl)
            | true =>
              have HF := Lib.hid hf; clear hf
              have HC1 := Lib.hid (fun n os => Grw.quiet (edgeMayBe_q e0 e1 e2 V true (Sort.grow (W.drewN n) os) HF))
              rcases k with _ | j
              · refine wp_region_quiet_grown mixed (by kernel_rfl) ?_
                repeat (go_big_quiet_step (first | (go_at_call 33; exact HC1.out _ _)))
                refine wpQuiet_nil ?_
                intro _ hw'
                obtain ⟨⟨nq, osq⟩, hw''⟩ := hw'
                subst hw''
                go_wp2
                go_roundg (gk - 1)
                case measure => omega
                case rel => 
                  refine ⟨1, by omega, by go_num, HB.out.trans ((grw_at _ _ _).below.mono (by omega)), ?_, ?_⟩
                  · exact ((grw_at _ _ _).below.block _ hsz1).trans HX.out
                  · rw [HO.out, HF.out, HNX.out]; rfl
              · obtain ⟨q, hq⟩ := at_lt L j (by omega)
                obtain ⟨bk', o', hA, p0, p1, p2⟩ := HA.out j q hq
                obtain ⟨rfl, rfl⟩ : bk = bk' ∧ o = o' := by simpa using hA
                have hP : Hid (prv L (j + 1) = some q) := Lib.hid (by unfold prv; rw [if_neg (by omega), Nat.add_sub_cancel]; exact hq)
                obtain ⟨q0, q1, q2⟩ := q
                have fp0 := cell_grown (block_lt_of_cell p0) p0; have fp1 := cell_grown (block_lt_of_cell p1) p1; have fp2 := cell_grown (block_lt_of_cell p2) p2
                clear p0 p1 p2 hq hA
                obtain ⟨r, hr⟩ : ∃ r, ahd (q0, q1, q2) (e0, e1, e2) = r := ⟨_, rfl⟩
                have HR := Lib.hid hr; clear hr
                have HC2 := Lib.hid (fun n os => Grw.quiet (isAhead_at q0 q1 q2 e0 e1 e2 r (Sort.grow (W.drewN n) os) HR))
                cases r with
                | false =>
                  refine wp_region_quiet_grown mixed (by kernel_rfl) ?_
                  repeat (go_big_quiet_step (first | (go_at_call 33; exact HC1.out _ _) | (go_at_call 34; exact HC2.out _ _)))
                  refine wpQuiet_nil ?_
                  intro _ hw'
                  obtain ⟨⟨nq, osq⟩, hw''⟩ := hw'
                  subst hw''
                  go_wp2
                  go_ret
                  refine ⟨?_, HB.out.trans ((grw_at _ _ _).below.mono (by omega))⟩
                  exact ret_int (by rw [← HRR.out, HO.out, HF.out, hP.out, show ahdO (some (q0, q1, q2)) (e0, e1, e2) = false from HR.out]; rfl)
                | true =>
                  refine wp_region_quiet_grown mixed (by kernel_rfl) ?_
                  repeat (go_big_quiet_step (first | (go_at_call 33; exact HC1.out _ _) | (go_at_call 34; exact HC2.out _ _)))
                  refine wpQuiet_nil ?_
                  intro _ hw'
                  obtain ⟨⟨nq, osq⟩, hw''⟩ := hw'
                  subst hw''
                  go_wp2
                  go_roundg (gk - 1)
                  case measure => omega
                  case rel =>
                    refine ⟨j + 2, by omega, by go_num, HB.out.trans ((grw_at _ _ _).below.mono (by omega)), ?_, ?_⟩
                    · exact ((grw_at _ _ _).below.block _ hsz1).trans HX.out
                    · rw [HO.out, HF.out, HNX.out, hP.out, show ahdO (some (q0, q1, q2)) (e0, e1, e2) = true from HR.out]; rfl
          · have hkn : k = L.length := by omega
            have HB := Lib.hid hb
            have HO : Hid (okL V none L = true) := Lib.hid (by rw [hok, hkn, List.drop_length]; rfl)
            clear hok hbx hb
            go_wp2
            go_ret
            refine ⟨?_, HB.out⟩
            exact ret_int (by rw [← HRR.out, HO.out]; rfl)

end Go.Proofs.YtmcmpjcijbeilaaGreatDoor.Gr

/-
  What is proved here: words for a row of edges while it is sorted, the contracts of graph.order's closure, and of the library's insertionSort_func over it. Conditions: the row is one that the call has made.
-/
namespace Go.Proofs.YtmcmpjcijbeilaaGreatDoor.Gr
open Go.RowKit Wd Ws Go.Sort

/- The row in block g holds d; else nothing that was in w0 has changed. -/
structure SWd (w0 w : World) (g N : Nat) (d : Array Ed) : Prop where
  holds : HoldsK ec 3 w g 0 d
  grown : w0.grownBy w (some g)
  row : ∃ cur, w.heap[g]? = some (.cells cur 42 (0, 0)) ∧ cur.size = N
  lt : g < w0.heap.size
theorem SWd.size {w0 w : World} {g N : Nat} {d : Array Ed} (h : SWd w0 w g N d) : w0.heap.size ≤ w.heap.size := h.grown.size
theorem grown_below {w w' : World} (h : Below w.heap.size w w') (r : Option Nat) : w.grownBy w' r := ⟨h.os, h.tape, h.output, h.size, fun i hi _ => h.block i hi⟩
theorem holdsK_heap {w w' : World} {g : Nat} {d : Array Ed} (h : HoldsK ec 3 w g 0 d) (e : w'.heap[g]? = w.heap[g]?) : HoldsK ec 3 w' g 0 d := by
  intro j hj
  obtain ⟨h1, h2⟩ := h j hj
  exact ⟨by unfold World.cell? at h1 ⊢; rw [e]; exact h1, by unfold World.frozen? at h2 ⊢; rw [e]; exact h2⟩
theorem SWd.below {w0 w w' : World} {g N : Nat} {d : Array Ed} (h : SWd w0 w g N d) (hb : Below w.heap.size w w') : SWd w0 w' g N d := by
  have e := hb.block g (Nat.lt_of_lt_of_le h.lt h.size)
  obtain ⟨cur, h1, h2⟩ := h.row
  exact ⟨holdsK_heap h.holds e, h.grown.trans (grown_below hb _), ⟨cur, e.trans h1, h2⟩, h.lt⟩
theorem grown_set (w : World) (a : Addr) (u : Value) : w.grownBy (w.setCell a u) (some a.block) :=
  ⟨rfl, rfl, rfl, by simp, fun i _ hi => heap_setCell_other w a i u (fun e => hi (by rw [e]))⟩
theorem grown_sets (g : Nat) : ∀ (vs : List Value) (o : Nat) (w : World), w.grownBy (w.setCells g o vs) (some g)
  | [], _, _ => ⟨rfl, rfl, rfl, Nat.le_refl _, fun _ _ _ => rfl⟩
  | v :: vs, o, w => (grown_set w ⟨g, o, none⟩ v).trans (grown_sets g vs (o + 1) _)
theorem row_sets (g N : Nat) : ∀ (vs : List Value) (o : Nat) (w : World), (∃ cur, w.heap[g]? = some (.cells cur 42 (0, 0)) ∧ cur.size = N) → ∃ cur, (w.setCells g o vs).heap[g]? = some (.cells cur 42 (0, 0)) ∧ cur.size = N
  | [], _, _, h => h
  | v :: vs, o, w, ⟨cur, h1, h2⟩ => row_sets g N vs (o + 1) _ ⟨_, heap_setCell_same w g o cur _ v h1, by simpa using h2⟩
theorem SWd.swap {w0 w : World} {g N : Nat} {d : Array Ed} (h : SWd w0 w g N d) (i j : Nat) (hi : i < d.size) (hj : j < d.size) :
    SWd w0 ((w.setCells g (0 + i * 3) (ec d[j]!)).setCells g (0 + j * 3) (ec d[i]!)) g N (swp d i j) := by
  have e := putRowK_swp ec 3 ec_len w g 0 d i j hi hj
  rw [putRowK_self ec 3 w g 0 d h.holds] at e
  refine ⟨?_, h.grown.trans ((grown_sets g _ _ _).trans (grown_sets g _ _ _)), row_sets g N _ _ _ (row_sets g N _ _ _ h.row), h.lt⟩
  rw [e]
  exact holdsK_putRowK ec 3 w g 0 d (swp d i j) h.holds (by rw [size_swp])
theorem SWd.cells {w0 w : World} {g N : Nat} {d : Array Ed} (h : SWd w0 w g N d) (i : Nat) (hi : i < d.size) :
    w.cell? ⟨g, 0 + i * 3, none⟩ = some (.int .i64 d[i]!.1) ∧ w.cell? ⟨g, 0 + i * 3 + 1, none⟩ = some (.int .i64 d[i]!.2.1) ∧ w.cell? ⟨g, 0 + i * 3 + 2, none⟩ = some (.int .i64 d[i]!.2.2) :=
  ⟨(h.holds.cell hi (c := 0) (by omega)).1, (h.holds.cell hi (c := 1) (by omega)).1, (h.holds.cell hi (c := 2) (by omega)).1⟩

/- What lies beside the row: the variable that the closure has captured. -/
structure Bes (w0 : World) (g Bs n c : Nat) : Prop where
  at_ : w0.heap[Bs]? = some (.cells #[.slice (some ⟨g, 0, none⟩) n c] 22 (0, 0))
  ne : Bs ≠ g
theorem Bes.cell {w0 W : World} {g N Bs n c : Nat} {d : Array Ed} (h : Bes w0 g Bs n c) (k : SWd w0 W g N d) : W.cell? ⟨Bs, 0, none⟩ = some (.slice (some ⟨g, 0, none⟩) n c) ∧ Bs < W.heap.size := by
  have e := (k.grown.block Bs (lt_of_block h.at_) (fun e => h.ne (Option.some.inj e))).trans h.at_
  exact ⟨by rw [Lib.cell_of_heap e]; rfl, lt_of_block e⟩

/- The closure of order: is an edge ahead of another one? -/
set_option maxRecDepth 100000 in
set_option maxHeartbeats 400000 in
theorem less_b (w0 W : World) (g N Bs n c : Nat) (d : Array Ed) (i j : Nat) (I J : Int) (hI : I = (i : Int)) (hJ : J = (j : Int)) (r : Bool) (h : Hid (SWd w0 W g N d)) (hd : Hid (d.size = n)) (hB : Hid (Bes w0 g Bs n c)) (hi : i < n) (hj : j < n) (hr : Hid (ahd d[i]! d[j]! = r)) :
    Calls Tryz.prog 51 #[.int .i64 I, .int .i64 J, .pointer (some ⟨Bs, 0, none⟩)] W fun e w' => e = .returned (.bool r) ∧ Hid (Below W.heap.size W w') := by
  subst hI hJ
  have mixed := mixedO
  obtain ⟨b0, hbs⟩ := hB.out.cell h.out
  obtain ⟨i0, i1, i2⟩ := h.out.cells i (by rw [hd.out]; exact hi)
  obtain ⟨j0, j1, j2⟩ := h.out.cells j (by rw [hd.out]; exact hj)
  have HR : Hid (ahd (d[i]!.1, d[i]!.2.1, d[i]!.2.2) (d[j]!.1, d[j]!.2.1, d[j]!.2.2) = r) := hr
  obtain ⟨a0, ha0⟩ : ∃ x, d[i]!.1 = x := ⟨_, rfl⟩
  obtain ⟨a1, ha1⟩ : ∃ x, d[i]!.2.1 = x := ⟨_, rfl⟩
  obtain ⟨a2, ha2⟩ : ∃ x, d[i]!.2.2 = x := ⟨_, rfl⟩
  obtain ⟨e0, he0⟩ : ∃ x, d[j]!.1 = x := ⟨_, rfl⟩
  obtain ⟨e1, he1⟩ : ∃ x, d[j]!.2.1 = x := ⟨_, rfl⟩
  obtain ⟨e2, he2⟩ : ∃ x, d[j]!.2.2 = x := ⟨_, rfl⟩
  rw [ha0, ha1, ha2, he0, he1, he2] at HR
  rw [ha0] at i0; rw [ha1] at i1; rw [ha2] at i2; rw [he0] at j0; rw [he1] at j1; rw [he2] at j2
  rw [Nat.zero_add] at i0 i1 i2 j0 j1 j2
  clear ha0 ha1 ha2 he0 he1 he2
  have fb := cell_grown hbs b0
  have fi0 := cell_grown (block_lt_of_cell i0) i0; have fi1 := cell_grown (block_lt_of_cell i1) i1; have fi2 := cell_grown (block_lt_of_cell i2) i2
  have fj0 := cell_grown (block_lt_of_cell j0) j0; have fj1 := cell_grown (block_lt_of_cell j1) j1; have fj2 := cell_grown (block_lt_of_cell j2) j2
  clear b0 i0 i1 i2 j0 j1 j2
  have HC := Lib.hid (fun n os => Grw.quiet (isAhead_at a0 a1 a2 e0 e1 e2 r (Sort.grow (W.drewN n) os) HR))
  go_enter Tryz.func51, Tryz.ntmps51
  go_wp2_with fail
  refine wp_region_quiet_grown mixed (by kernel_rfl) ?_
  repeat (go_big_quiet_step ((go_at_call 34; exact HC.out _ _)))
  refine wpQuiet_nil ?_
  intro _ hw'
  obtain ⟨⟨nq, osq⟩, hw''⟩ := hw'
  subst hw''
  go_wp2
  go_ret
  exact ⟨rfl, Lib.hid (grw_at _ _ _).below⟩
theorem less_any (w0 W : World) (g N Bs n c : Nat) (d : Array Ed) (i j : Nat) (I J : Int) (hI : I = (i : Int)) (hJ : J = (j : Int)) (r : Bool) (h : Hid (SWd w0 W g N d)) (hd : Hid (d.size = n)) (hB : Hid (Bes w0 g Bs n c)) (hi : i < n) (hj : j < n) (hr : Hid (ahd d[i]! d[j]! = r)) :
    Calls Tryz.prog 51 #[.int .i64 I, .int .i64 J, .pointer (some ⟨Bs, 0, none⟩)] W fun e w' => e = .returned (.bool r) ∧ Hid (SWd w0 w' g N d) :=
  (less_b w0 W g N Bs n c d i j I J hI hJ r h hd hB hi hj hr).mono fun _ _ ⟨h1, h2⟩ => ⟨h1, Lib.hid (h.out.below h2.out)⟩

/- The two functions as the library's sort hands them on. -/
noncomputable def less (Bs : Nat) : Value := .func (.func 51) #[] #[.pointer (some ⟨Bs, 0, none⟩)]
noncomputable def swapV (g n c : Nat) : Value := .func (.func 92) #[] #[.slice (some ⟨g, 0, none⟩) n c, typeHandle Tryz.prog 42]
noncomputable def dat (Bs g n c : Nat) : Value := .agg #[less Bs, swapV g n c]
noncomputable def ieE : TypeInfo := (Tryz.prog.info? 42).get (by kernel_rfl)
theorem ieE_is : Tryz.prog.info? 42 = some ieE := by kernel_rfl
theorem ieE_size : ieE.size = 3 := by kernel_rfl
theorem aggE (w : World) : (isAgg 42).run Tryz.prog w = .ok true w := by kernel_rfl
theorem ec_cells : ∀ x : Ed, ∀ v ∈ ec x, v.oneCell' = true := by
  intro x v hv
  simp only [ec, List.mem_cons, List.not_mem_nil, or_false] at hv
  rcases hv with rfl | rfl | rfl <;> rfl
theorem swap_run (g n c : Nat) (W : World) (d : Array Ed) (h : HoldsK ec 3 W g 0 d) (hd : d.size = n) (i j : Nat) (hi : i < n) (hj : j < n) (I J : Int) (hI : I = (i : Int)) (hJ : J = (j : Int)) :
    (callFunc 92 #[.int .i64 I, .int .i64 J, .slice (some ⟨g, 0, none⟩) n c, typeHandle Tryz.prog 42]).run Tryz.prog W = .ok (.value (.tuple #[])) ((W.setCells g (0 + i * 3) (ec d[j]!)).setCells g (0 + j * 3) (ec d[i]!)) := by
  subst hI hJ
  exact swapSwapsK_of_literal (P := Tryz.prog) false 92 (fun args W => run_callFunc_extern Tryz.func92 (by kernel_rfl) (by kernel_rfl) (by kernel_rfl) (e := Extern.ReflectliteSwapper.swap false) (by kernel_rfl) args W)
    42 ieE ieE_is ec 3 ec_len ieE_size aggE ec_cells g 0 n c W d h hd i j hi hj

end Go.Proofs.YtmcmpjcijbeilaaGreatDoor.Gr

/-
  What is proved here: the contract of the library's insertionSort_func over graph.order's closure. Conditions: the row is one that the call has made.
-/
namespace Go.Proofs.YtmcmpjcijbeilaaGreatDoor.Gr
open Go.RowKit Wd Ws Go.Sort

theorem SWd.start {w0 w : World} {g N : Nat} {d : Array Ed} (h : SWd w0 w g N d) : SWd w w g N d := ⟨h.holds, ⟨rfl, rfl, rfl, Nat.le_refl _, fun _ _ _ => rfl⟩, h.row, Nat.lt_of_lt_of_le h.lt h.size⟩
theorem SWd.on {w0 w w' : World} {g N : Nat} {d d' : Array Ed} (h : SWd w0 w g N d) (k : SWd w w' g N d') : SWd w0 w' g N d' := ⟨k.holds, h.grown.trans k.grown, k.row, h.lt⟩
theorem Bes.on {w0 w : World} {g N Bs n c : Nat} {d : Array Ed} (h : Bes w0 g Bs n c) (k : SWd w0 w g N d) : Bes w g Bs n c :=
  ⟨(k.grown.block Bs (lt_of_block h.at_) (fun e => h.ne (Option.some.inj e))).trans h.at_, h.ne⟩
/- The box in which the library keeps the two functions. -/
structure Fx (w : World) (b Bs g n c : Nat) (th : Value) : Prop where
  at_ : w.heap[b]? = some (.cells #[.func (.func 51) #[] #[.pointer (some ⟨Bs, 0, none⟩)], .func (.func 92) #[] #[.slice (some ⟨g, 0, none⟩) n c, th]] 105 (0, 0))
  ne : b ≠ g
theorem Fx.on {w0 w : World} {b Bs g N n c : Nat} {th : Value} {d : Array Ed} (h : Fx w0 b Bs g n c th) (k : SWd w0 w g N d) :
    w.cell? ⟨b, 0, none⟩ = some (.func (.func 51) #[] #[.pointer (some ⟨Bs, 0, none⟩)]) ∧ w.cell? ⟨b, 1, none⟩ = some (.func (.func 92) #[] #[.slice (some ⟨g, 0, none⟩) n c, th]) ∧ b < w.heap.size := by
  have e := (k.grown.block b (lt_of_block h.at_) (fun e => h.ne (Option.some.inj e))).trans h.at_
  exact ⟨by rw [Lib.cell_of_heap e]; rfl, by rw [Lib.cell_of_heap e]; rfl, lt_of_block e⟩

def IoRel (w1 : World) (g N n a b : Nat) (d : Array Ed) (gk : Nat) (vi : Value) (wr : World) : Prop :=
  ∃ (i : Nat) (dk : Array Ed), vi = .int .i64 (i : Int) ∧ a < i ∧ i + gk = b + 1 ∧ dk.size = n ∧ SWd w1 wr g N dk ∧ insOuter ahd a b i dk = insOuter ahd a b (a + 1) d
def IiRel (w1 : World) (g N n a i : Nat) (dk : Array Ed) (gk : Nat) (vj : Value) (wr : World) : Prop :=
  ∃ (j : Nat) (dj : Array Ed), vj = .int .i64 (j : Int) ∧ a ≤ j ∧ j ≤ i ∧ j = gk ∧ dj.size = n ∧ SWd w1 wr g N dj ∧ insInner ahd a j dj = insInner ahd a i dk

set_option maxRecDepth 100000 in
set_option maxHeartbeats 600000 in
theorem insertionSort_any (w : World) (g N Bs n c a b : Nat) (d : Array Ed) (th : Value) (hth : Hid (th = typeHandle Tryz.prog 42)) (h : Hid (SWd w w g N d)) (hB : Hid (Bes w g Bs n c)) (hd : Hid (d.size = n)) (hab : a ≤ b) (hbn : b ≤ n) (hn : n < 4611686018427387904) :
    Calls Tryz.prog 95 #[.agg #[.func (.func 51) #[] #[.pointer (some ⟨Bs, 0, none⟩)], .func (.func 92) #[] #[.slice (some ⟨g, 0, none⟩) n c, th]], .int .i64 (a : Int), .int .i64 (b : Int)] w fun e w' => e = .returned (.tuple #[]) ∧ Hid (SWd w w' g N (insertionSort ahd d a b)) := by
  obtain ⟨w1, hw1⟩ : ∃ w1, w1 = w.alloc (.cells #[.func (.func 51) #[] #[.pointer (some ⟨Bs, 0, none⟩)], .func (.func 92) #[] #[.slice (some ⟨g, 0, none⟩) n c, th]] 105) := ⟨_, rfl⟩
  have hb1 : Below w.heap.size w w1 := by rw [hw1]; exact (Below.refl _ w).alloc (Nat.le_refl _) _
  have HS1 := Lib.hid (h.out.below hb1)
  have HS := Lib.hid (h.out.below hb1).start
  have HBe := Lib.hid (hB.out.on HS1.out)
  have HF : Hid (Fx w1 w.heap.size Bs g n c th) := Lib.hid ⟨by rw [hw1]; exact heap_alloc_new w _, by have := h.out.lt; omega⟩
  have HW := Lib.hid hw1
  clear hw1 hb1
  go_enter Tryz.func95, Tryz.ntmps95
  go_wp2
  rw [← HW.out]
  go_loopg [6] (b - a) (fun gk vi wr => IoRel w1 g N n a b d gk vi wr)
  case atStart => exact ⟨a + 1, d, by go_num, by omega, by omega, hd.out, HS.out, rfl⟩
  case round =>
    obtain ⟨i, dk, rfl, hai, hig, hdk, hsw, ho⟩ := hrel
    have HO := Lib.hid ho; have HSW := Lib.hid hsw; have HDK := Lib.hid hdk; clear ho hsw hdk
    by_cases hib : i < b
    · go_wp2
      obtain ⟨G, rfl⟩ : ∃ G : Nat, G = gk := ⟨_, rfl⟩
      obtain ⟨wo, rfl⟩ : ∃ wo : World, wo = wr := ⟨_, rfl⟩
      go_loopg [7] i (fun gk vj wr => IiRel w1 g N n a i dk gk vj wr)
      case atStart => exact ⟨i, dk, rfl, by omega, Nat.le_refl _, rfl, HDK.out, HSW.out, rfl⟩
      case round =>
        obtain ⟨j, dj, rfl, haj, hji, hjg, hdj, hsj, hi⟩ := hrel
        obtain ⟨k0, k1, hks⟩ := HF.out.on hsj
        have HI := Lib.hid hi; have HSJ := Lib.hid hsj; have HDJ := Lib.hid hdj; have HG := Lib.hid hjg; clear hi hsj hdj hjg
        by_cases hja : a < j
        · obtain ⟨r, hr⟩ : ∃ r, ahd dj[j]! dj[j - 1]! = r := ⟨_, rfl⟩
          have HR := Lib.hid hr; clear hr
          have HC := Lib.hid (less_any w1 wr g N Bs n c dj j (j - 1) (j : Int) ((j : Int) - 1) rfl (by omega) r HSJ HDJ HBe (by omega) (by omega) HR)
          go_wp2_with fail
          refine HC.out.mono ?_
          rintro e w2 ⟨rfl, HS2⟩
          cases r with
          | true =>
            obtain ⟨k0', k1', hks'⟩ := HF.out.on HS2.out
            clear k0 k1
            have hsr := swap_run g n c w2 dj HS2.out.holds HDJ.out j (j - 1) (by omega) (by omega) (j : Int) ((j : Int) - 1) rfl (by omega)
            rw [← hth.out] at hsr
            obtain ⟨W5, hW5⟩ : ∃ W5, W5 = (w2.setCells g (0 + j * 3) (ec dj[j - 1]!)).setCells g (0 + (j - 1) * 3) (ec dj[j]!) := ⟨_, rfl⟩
            rw [← hW5] at hsr
            have HS5 : Hid (SWd w1 W5 g N (swp dj j (j - 1))) := Lib.hid (by rw [hW5]; exact HS2.out.swap j (j - 1) (by rw [HDJ.out]; omega) (by rw [HDJ.out]; omega))
            have HSR := Lib.hid hsr; clear hsr hW5
            go_wp2
            rw [HSR.out, Oper.upon_value]
            go_wp2
            go_roundg (gk - 1)
            case measure => have := HG.out; omega
            case rel =>
              refine ⟨j - 1, swp dj j (j - 1), by congr 1; omega, by omega, by omega, by have := HG.out; omega, by rw [size_swp]; exact HDJ.out, HS5.out, ?_⟩
              rw [← HI.out, insInner_go ahd a j dj hja HR.out]
          | false =>
            go_wp2
            go_roundg (G - 1)
            case measure => omega
            case rel =>
              exact ⟨i + 1, dj, by go_num, by omega, by omega, HDJ.out, HS2.out, by rw [← HO.out, insOuter_go _ _ _ _ _ hib, ← HI.out, insInner_stop _ _ _ _ (Or.inr HR.out)]⟩
        · go_wp2
          go_roundg (G - 1)
          case measure => omega
          case rel =>
            exact ⟨i + 1, dj, by go_num, by omega, by omega, HDJ.out, HSJ.out, by rw [← HO.out, insOuter_go _ _ _ _ _ hib, ← HI.out, insInner_stop _ _ _ _ (Or.inl (by omega))]⟩
    · go_wp2
      go_end0
      refine ⟨rfl, Lib.hid (HS1.out.on ?_)⟩
      have : insertionSort ahd d a b = dk := by unfold Sort.insertionSort; rw [← HO.out, insOuter_stop _ _ _ _ _ hib]
      rw [this]; exact HSW.out

end Go.Proofs.YtmcmpjcijbeilaaGreatDoor.Gr

/-
  What is proved here: what the library's theorem on sort.Slice asks of this seat's program (its functions' and types' numbers), each field by the kernel. No condition.
-/
namespace Go.Proofs
open Go.Shelf
def Tryz.laysGg6_ren : Go.Shelf.Ren := ⟨fun | 6 => 50 | 10 => 67 | 11 => 68 | 12 => 69 | 13 => 70 | 14 => 71 | 24 => 93 | 25 => 94 | 26 => 95 | 27 => 96 | 28 => 97 | 29 => 98 | 30 => 99 | 31 => 100 | 32 => 101 | 33 => 102 | 34 => 113 | 35 => 114 | 36 => 115 | 37 => 116 | 38 => 117 | 39 => 123 | n => n, fun | 20 => 20 | 26 => 77 | 35 => 96 | 0 => 0 | 37 => 98 | 3 => 3 | 41 => 102 | 44 => 105 | 49 => 117 | 51 => 119 | 4 => 4 | 54 => 122 | 53 => 121 | 58 => 126 | 5 => 5 | 9 => 9 | 60 => 139 | 64 => 143 | 66 => 151 | 67 => 111 | 17 => 17 | 32 => 93 | 33 => 94 | 82 => 166 | 12 => 12 | 75 => 160 | 76 => 161 | 77 => 162 | 78 => 74 | 79 => 163 | 80 => 164 | n => n, fun | n => n⟩
theorem Tryz.laysGg6 : Go.Proofs.LaysGg.n6 Tryz.prog Tryz.laysGg6_ren := {
  mixed := by kernel_rfl
  f6 := Tryz.func50.trans (congrArg some (by kernel_rfl))
  f10 := Tryz.func67.trans (congrArg some (by kernel_rfl))
  f11 := Tryz.func68.trans (congrArg some (by kernel_rfl))
  f12 := Tryz.func69.trans (congrArg some (by kernel_rfl))
  f13 := Tryz.func70.trans (congrArg some (by kernel_rfl))
  f14 := Tryz.func71.trans (congrArg some (by kernel_rfl))
  f24 := Tryz.func93.trans (congrArg some (by kernel_rfl))
  f25 := Tryz.func94.trans (congrArg some (by kernel_rfl))
  f26 := Tryz.func95.trans (congrArg some (by kernel_rfl))
  f27 := Tryz.func96.trans (congrArg some (by kernel_rfl))
  f28 := Tryz.func97.trans (congrArg some (by kernel_rfl))
  f29 := Tryz.func98.trans (congrArg some (by kernel_rfl))
  f30 := Tryz.func99.trans (congrArg some (by kernel_rfl))
  f31 := Tryz.func100.trans (congrArg some (by kernel_rfl))
  f32 := Tryz.func101.trans (congrArg some (by kernel_rfl))
  f33 := Tryz.func102.trans (congrArg some (by kernel_rfl))
  f34 := Tryz.func113.trans (congrArg some (by kernel_rfl))
  f35 := Tryz.func114.trans (congrArg some (by kernel_rfl))
  f36 := Tryz.func115.trans (congrArg some (by kernel_rfl))
  f37 := Tryz.func116.trans (congrArg some (by kernel_rfl))
  f38 := Tryz.func117.trans (congrArg some (by kernel_rfl))
  f39 := Tryz.func123.trans (congrArg some (by kernel_rfl))
  t0 := Tryz.underlying0
  a0 := Tryz.isAgg0
  z0 := Tryz.sizeOf0
  v0 := Tryz.zeroValue0
  i0 := by kernel_rfl
  t3 := Tryz.underlying3
  a3 := Tryz.isAgg3
  z3 := Tryz.sizeOf3
  v3 := Tryz.zeroValue3
  i3 := by kernel_rfl
  t4 := Tryz.underlying4
  a4 := Tryz.isAgg4
  z4 := Tryz.sizeOf4
  v4 := Tryz.zeroValue4
  i4 := by kernel_rfl
  t5 := Tryz.underlying5
  a5 := Tryz.isAgg5
  z5 := Tryz.sizeOf5
  v5 := Tryz.zeroValue5
  i5 := by kernel_rfl
  t9 := Tryz.underlying9
  a9 := Tryz.isAgg9
  z9 := Tryz.sizeOf9
  v9 := Tryz.zeroValue9
  i9 := by kernel_rfl
  t12 := Tryz.underlying12
  a12 := Tryz.isAgg12
  z12 := Tryz.sizeOf12
  v12 := Tryz.zeroValue12
  i12 := by kernel_rfl
  t17 := Tryz.underlying17
  a17 := Tryz.isAgg17
  z17 := Tryz.sizeOf17
  v17 := Tryz.zeroValue17
  i17 := by kernel_rfl
  t20 := Tryz.underlying20
  a20 := Tryz.isAgg20
  z20 := Tryz.sizeOf20
  v20 := Tryz.zeroValue20
  i20 := by kernel_rfl
  t26 := Tryz.underlying77
  a26 := Tryz.isAgg77
  z26 := Tryz.sizeOf77
  v26 := Tryz.zeroValue77
  i26 := by kernel_rfl
  t32 := Tryz.underlying93
  a32 := Tryz.isAgg93
  z32 := Tryz.sizeOf93
  v32 := Tryz.zeroValue93
  i32 := by kernel_rfl
  t33 := Tryz.underlying94
  a33 := Tryz.isAgg94
  z33 := Tryz.sizeOf94
  v33 := Tryz.zeroValue94
  i33 := by kernel_rfl
  t35 := Tryz.underlying96
  a35 := Tryz.isAgg96
  z35 := Tryz.sizeOf96
  v35 := Tryz.zeroValue96
  i35 := by kernel_rfl
  t37 := Tryz.underlying98
  a37 := Tryz.isAgg98
  z37 := Tryz.sizeOf98
  v37 := Tryz.zeroValue98
  i37 := by kernel_rfl
  t41 := Tryz.underlying102
  a41 := Tryz.isAgg102
  z41 := Tryz.sizeOf102
  v41 := Tryz.zeroValue102
  i41 := by kernel_rfl
  t44 := Tryz.underlying105
  a44 := Tryz.isAgg105
  z44 := Tryz.sizeOf105
  v44 := Tryz.zeroValue105
  i44 := by kernel_rfl
  t49 := Tryz.underlying117
  a49 := Tryz.isAgg117
  z49 := Tryz.sizeOf117
  v49 := Tryz.zeroValue117
  i49 := by kernel_rfl
  t51 := Tryz.underlying119
  a51 := Tryz.isAgg119
  z51 := Tryz.sizeOf119
  v51 := Tryz.zeroValue119
  i51 := by kernel_rfl
  t53 := Tryz.underlying121
  a53 := Tryz.isAgg121
  z53 := Tryz.sizeOf121
  v53 := Tryz.zeroValue121
  i53 := by kernel_rfl
  t54 := Tryz.underlying122
  a54 := Tryz.isAgg122
  z54 := Tryz.sizeOf122
  v54 := Tryz.zeroValue122
  i54 := by kernel_rfl
  t58 := Tryz.underlying126
  a58 := Tryz.isAgg126
  z58 := Tryz.sizeOf126
  v58 := Tryz.zeroValue126
  i58 := by kernel_rfl
  t60 := Tryz.underlying139
  a60 := Tryz.isAgg139
  z60 := Tryz.sizeOf139
  v60 := Tryz.zeroValue139
  i60 := by kernel_rfl
  t64 := Tryz.underlying143
  a64 := Tryz.isAgg143
  z64 := Tryz.sizeOf143
  v64 := Tryz.zeroValue143
  i64 := by kernel_rfl
  t66 := Tryz.underlying151
  a66 := Tryz.isAgg151
  z66 := Tryz.sizeOf151
  v66 := Tryz.zeroValue151
  i66 := by kernel_rfl
  t67 := Tryz.underlying111
  a67 := Tryz.isAgg111
  z67 := Tryz.sizeOf111
  v67 := Tryz.zeroValue111
  i67 := by kernel_rfl
  t75 := Tryz.underlying160
  a75 := Tryz.isAgg160
  z75 := Tryz.sizeOf160
  v75 := Tryz.zeroValue160
  i75 := by kernel_rfl
  t76 := Tryz.underlying161
  a76 := Tryz.isAgg161
  z76 := Tryz.sizeOf161
  v76 := Tryz.zeroValue161
  i76 := by kernel_rfl
  t77 := Tryz.underlying162
  a77 := Tryz.isAgg162
  z77 := Tryz.sizeOf162
  v77 := Tryz.zeroValue162
  i77 := by kernel_rfl
  t78 := Tryz.underlying74
  a78 := Tryz.isAgg74
  z78 := Tryz.sizeOf74
  v78 := Tryz.zeroValue74
  i78 := by kernel_rfl
  t79 := Tryz.underlying163
  a79 := Tryz.isAgg163
  z79 := Tryz.sizeOf163
  v79 := Tryz.zeroValue163
  i79 := by kernel_rfl
  t80 := Tryz.underlying164
  a80 := Tryz.isAgg164
  z80 := Tryz.sizeOf164
  v80 := Tryz.zeroValue164
  i80 := by kernel_rfl
  t82 := Tryz.underlying166
  a82 := Tryz.isAgg166
  z82 := Tryz.sizeOf166
  v82 := Tryz.zeroValue166
  i82 := by kernel_rfl }
end Go.Proofs


/-
  What is proved here: contracts of words.lineOf, words.Lines, words.runs, words.Words: the lines of a text, the words of a line. Conditions: at most 300000 bytes.
-/
namespace Go.Proofs.YtmcmpjcijbeilaaGreatDoor.Ws
open Go.RowKit Wd

theorem clone_any (s : ByteArray) (l : List UInt8) (hs : s = sb l) (w : World) (hl : l.length ≤ 300000) :
    Calls Tryz.prog 72 #[.string s] w fun e w' => e = .returned (.string (sb l)) ∧ Below w.heap.size w w' := by
  subst hs
  have hsz := sb_size l
  go_enter Tryz.func72, Tryz.ntmps72
  go_wp2_with (go_at_call 103; refine (Tryz.stringslite_Clone _ _ ?_).mono ?_)
  · omega
  rintro e w1 ⟨rfl, hb⟩
  have HB := Lib.hid hb; clear hb
  go_wp2
  go_ret
  exact ⟨rfl, HB.out⟩

theorem lineOf_any (s : ByteArray) (l : List UInt8) (hs : s = sb l) (w : World) (hl : l.length ≤ 300000) :
    Calls Tryz.prog 53 #[.string s] w fun e w' => e = .returned (.string (sb (trim l))) ∧ Below w.heap.size w w' := by
  subst hs
  have hsz := sb_size l
  have ht := trim_len l
  go_enter Tryz.func53, Tryz.ntmps53
  go_wp2_with fail
  refine (Tryz.strings_TrimSuffix _ _ _ (by omega)).mono ?_
  rintro e w1 ⟨rfl, rfl⟩
  have HS := Lib.hid (show (⟨(Lib.trimSuffix (sb l).data.toList [13]).toArray⟩ : ByteArray) = sb (trim l) by rw [sb_data]; rfl)
  go_wp2_with fail
  refine (clone_any _ (trim l) HS.out _ (by omega)).mono ?_
  rintro e w1 ⟨rfl, hb⟩
  have HB := Lib.hid hb; clear hb
  go_wp2
  go_ret
  exact ⟨rfl, HB.out⟩

def LiRel (w : World) (l : List UInt8) (g : Nat) (v b : Value) (wr : World) : Prop :=
  ∃ (p q cur : List UInt8) (ds : List Ch) (L : List (List UInt8)), ds.length = g ∧ Rng l p ds ∧ Itr w wr w.heap.size w.heap.size l p ∧ p = q ++ cur ∧ b = .int .i64 (q.length : Int) ∧
    Own wr w.heap.size v L ∧ L.length ≤ p.length ∧ ln [] l = L ++ lnC cur ds

theorem cut_mid (q cur r : List UInt8) : (sb (q ++ cur ++ r)).extract q.length (q ++ cur).length = sb cur := by
  rw [sb_extract]; congr 1; simp
theorem cut_mid' (l p q cur : List UInt8) (ds : List Ch) (h : Rng l p ds) (e : p = q ++ cur) : (sb l).extract q.length p.length = sb cur := by
  rw [h.all, e]; exact cut_mid q cur _

set_option maxRecDepth 100000 in
set_option maxHeartbeats 2000000 in
theorem lines_any (l : List UInt8) (w : World) (hl : l.length ≤ 300000) :
    Calls Tryz.prog 37 #[.string (sb l)] w fun e w' => ∃ v, e = .returned v ∧ Own w' w.heap.size v (ln [] l) ∧ Below w.heap.size w w' := by
  obtain ⟨cs, h⟩ := rg_ex l
  have HE := Lib.hid (lnC_eq cs l [] h)
  have HR := Lib.hid (Rng.start l cs h); clear h
  have hsz := sb_size l
  go_enter Tryz.func37, Tryz.ntmps37
  go_wp2
  go_loopg [3, 4] cs.length (fun g v b wr => LiRel w l g v b wr)
  case atStart => exact ⟨[], [], [], cs, [], rfl, HR.out, Itr.start (Below.refl _ w) (Nat.le_refl _) l, rfl, rfl, Own.none_ _ _, Nat.le_refl _, by rw [HE.out]; rfl⟩
  case round =>
    clear HR HE
    obtain ⟨p, q, cur, ds, L, hg, hr, hi, hp, rfl, ho, hL, he⟩ := hrel
    have hpl1 : p.length ≤ q.length + cur.length := by rw [hp, List.length_append]; omega
    have hpl2 : q.length + cur.length ≤ p.length := by rw [hp, List.length_append]; omega
    have hlen := hr.len
    rcases ds with _ | ⟨c, ds⟩
    · have hnx := fun ty => hr.fin (P := Tryz.prog) wr w.heap.size hi.1 ty
      have hge : p = l := hr.ge
      have HR := Lib.hid hr; clear hr
      have hBs := hi.size
      have HI := Lib.hid hi; clear hi
      have HP := Lib.hid hp; clear hp
      have HO := Lib.hid ho; clear ho
      have HE := Lib.hid he; clear he
      have hll : p.length ≤ l.length ∧ l.length ≤ p.length := by rw [hge]; omega
      have hex : (sb l).extract q.length (sb l).size = sb cur := by
        rw [hsz, show l.length = p.length by omega]; exact cut_mid' l p q cur [] HR.out HP.out
      have HX := Lib.hid hex; clear hex
      by_cases hc : cur = []
      · have hc0 : cur.length = 0 := by rw [hc]; rfl
        go_wp2
        all_goals (try (exfalso; omega))
        go_ret
        refine ⟨_, rfl, ?_, HI.out.2.2⟩
        rw [HE.out, hc, show lnC [] [] = [] from rfl, List.append_nil]; exact HO.out
      · have hc0 : 1 ≤ cur.length := by cases cur with | nil => exact absurd rfl hc | cons a t => simp
        go_wp2_with fail
        all_goals (try (exfalso; omega))
        refine (lineOf_any _ cur HX.out _ (by omega)).mono ?_
        rintro e w1 ⟨rfl, hb1⟩
        have HO1 := Lib.hid (HO.out.below hb1)
        have HI1 := Lib.hid (HI.out.below hb1 (Nat.le_of_lt hBs)); clear hb1
        have hsz1 := HI1.out.size
        have hal : Below w1.heap.size w1 (w1.alloc (.cells #[.string (sb (trim cur))] 9)) := (Below.refl _ _).alloc (Nat.le_refl _) _
        have HO2 := Lib.hid (HO1.out.below hal)
        have HI2 := Lib.hid (HI1.out.below hal (Nat.le_of_lt hsz1)); clear hal
        have hcell : (w1.alloc (.cells #[.string (sb (trim cur))] 9)).cell? ⟨w1.heap.size, 0, none⟩ = some (.string (sb (trim cur))) := by
          rw [cell_of_row _ _ 0 _ 9 (0, 0) (heap_alloc_new w1 _)]; rfl
        have HC := Lib.hid hcell; clear hcell
        go_wp2_with (at_builtin; refine app_str rfl (.tmp 29) (.tmp 34) rfl w.heap.size _ L (trim cur) rfl HO2.out w1.heap.size rfl HC.out ?c1 ?c2 ?_)
        case c1 => omega
        case c2 => exact Nat.le_of_lt HI2.out.size
        intro v' w2 ho2 hg2
        have HI3 := Lib.hid (HI2.out.grown HO2.out hg2)
        have HO3 := Lib.hid ho2; clear ho2 hg2
        go_wp2
        go_ret
        refine ⟨_, rfl, ?_, HI3.out.2.2⟩
        rw [HE.out, show lnC cur [] = [trim cur] by rw [lnC, if_neg hc]]; exact HO3.out
    · have hnx := fun ty => hr.run (P := Tryz.prog) wr w.heap.size hi.1 ty
      have h1 := hr.lt
      have h2 := hr.rune
      have hpos := hr.pos
      have hg' : ds.length + 1 = gk := by simpa using hg
      have hBs := hi.size
      have HO := Lib.hid (ho.iter hi.1 (p.length + c.bs.length)); clear ho
      have HR := Lib.hid hr; clear hr hg
      have HI := Lib.hid (hi.next c.bs); clear hi
      have HP := Lib.hid hp; clear hp
      have HE := Lib.hid he; clear he
      have hBi : w.heap.size < (wr.iterAt w.heap.size (sb l) (p.length + c.bs.length)).heap.size := HI.out.size
      by_cases h10 : c.r = 10
      · have hex : (sb l).extract q.length p.length = sb cur := cut_mid' l p q cur _ HR.out HP.out
        have HX := Lib.hid hex; clear hex
        have HN := Lib.hid (show c.bs.length = 1 by rw [rg_ascii c ds _ HR.out.rg (by omega)]; rfl)
        go_wp2_with fail
        all_goals (try (exfalso; omega))
        refine (lineOf_any _ cur HX.out _ (by omega)).mono ?_
        rintro e w1 ⟨rfl, hb1⟩
        have HO1 := Lib.hid (HO.out.below hb1)
        have HI1 := Lib.hid (HI.out.below hb1 (Nat.le_of_lt hBi)); clear hb1
        have hsz1 := HI1.out.size
        have hal : Below w1.heap.size w1 (w1.alloc (.cells #[.string (sb (trim cur))] 9)) := (Below.refl _ _).alloc (Nat.le_refl _) _
        have HO2 := Lib.hid (HO1.out.below hal)
        have HI2 := Lib.hid (HI1.out.below hal (Nat.le_of_lt hsz1)); clear hal
        have hcell : (w1.alloc (.cells #[.string (sb (trim cur))] 9)).cell? ⟨w1.heap.size, 0, none⟩ = some (.string (sb (trim cur))) := by
          rw [cell_of_row _ _ 0 _ 9 (0, 0) (heap_alloc_new w1 _)]; rfl
        have HC := Lib.hid hcell; clear hcell
        go_wp2_with (at_builtin; refine app_str rfl (.tmp 15) (.tmp 21) rfl w.heap.size _ L (trim cur) rfl HO2.out w1.heap.size rfl HC.out ?c1 ?c2 ?_)
        case c1 => omega
        case c2 => exact Nat.le_of_lt HI2.out.size
        intro v' w2 ho2 hg2
        have HI3 := Lib.hid (HI2.out.grown HO2.out hg2)
        have HO3 := Lib.hid ho2; clear ho2 hg2
        go_wp2
        go_roundg (gk - 1)
        case measure => omega
        case rel =>
          refine ⟨p ++ c.bs, p ++ c.bs, [], ds, L ++ [trim cur], by omega, HR.out.next, HI3.out, by simp, ?_, HO3.out, by simp; omega, ?_⟩
          · rw [List.length_append, HN.out]; go_num
          · rw [HE.out, lnC, if_pos h10]; simp
      · go_wp2
        go_roundg (gk - 1)
        case measure => omega
        case rel =>
          refine ⟨p ++ c.bs, q, cur ++ c.bs, ds, L, by omega, HR.out.next, HI.out, by rw [HP.out]; simp, rfl, HO.out, by rw [List.length_append]; omega, ?_⟩
          rw [HE.out, lnC, if_neg h10]

end Go.Proofs.YtmcmpjcijbeilaaGreatDoor.Ws

/-
  What is proved here: contracts of words.runs and words.Words: the words of a line, or that it is refused. Conditions: at most 300000 bytes.
-/
namespace Go.Proofs.YtmcmpjcijbeilaaGreatDoor.Ws
open Go.RowKit Wd

def RuRel (w : World) (l : List UInt8) (cs : List Ch) (g : Nat) (v b : Value) (wr : World) : Prop :=
  ∃ (p q : List UInt8) (cur ds : List Ch) (L : List (List Ch)), ds.length = g ∧ Rng l p ds ∧ Itr w wr w.heap.size w.heap.size l p ∧ p = q ++ flat cur ∧
    ((cur = [] ∧ b = .int .i64 (-1)) ∨ (cur ≠ [] ∧ b = .int .i64 (q.length : Int))) ∧ Own wr w.heap.size v (L.map flat) ∧ L.length ≤ p.length ∧ wd [] cs = L ++ wd cur ds

set_option maxRecDepth 100000 in
set_option maxHeartbeats 2000000 in
theorem runs_any (l : List UInt8) (cs : List Ch) (w : World) (h : Rg l cs) (hl : l.length ≤ 300000) :
    Calls Tryz.prog 76 #[.string (sb l)] w fun e w' => ∃ v, e = .returned v ∧ Own w' w.heap.size v ((wd [] cs).map flat) ∧ Below w.heap.size w w' := by
  have HR := Lib.hid (Rng.start l cs h); clear h
  have hsz := sb_size l
  go_enter Tryz.func76, Tryz.ntmps76
  go_wp2
  go_loopg [3, 4] cs.length (fun g v b wr => RuRel w l cs g v b wr)
  case atStart => exact ⟨[], [], [], cs, [], rfl, HR.out, Itr.start (Below.refl _ w) (Nat.le_refl _) l, rfl, Or.inl ⟨rfl, rfl⟩, Own.none_ _ _, Nat.le_refl _, rfl⟩
  case round =>
    clear HR
    obtain ⟨p, q, cur, ds, L, hg, hr, hi, hp, hcur, ho, hL, he⟩ := hrel
    have hpl1 : p.length ≤ q.length + (flat cur).length := by rw [hp, List.length_append]; omega
    have hpl2 : q.length + (flat cur).length ≤ p.length := by rw [hp, List.length_append]; omega
    have hlen := hr.len
    have hBs := hi.size
    rcases ds with _ | ⟨c, ds⟩
    · have hnx := fun ty => hr.fin (P := Tryz.prog) wr w.heap.size hi.1 ty
      have hge : p = l := hr.ge
      have hll : p.length ≤ l.length ∧ l.length ≤ p.length := by rw [hge]; omega
      have HR := Lib.hid hr; clear hr
      have HI := Lib.hid hi; clear hi
      have HP := Lib.hid hp; clear hp
      have HO := Lib.hid ho; clear ho
      have HE := Lib.hid he; clear he
      rcases hcur with ⟨hc, rfl⟩ | ⟨hc, rfl⟩
      · go_wp2
        go_ret
        refine ⟨_, rfl, ?_, HI.out.2.2⟩
        rw [HE.out, hc, show wd [] [] = [] from rfl, List.append_nil]; exact HO.out
      · have hex : (sb l).extract q.length (sb l).size = sb (flat cur) := by
          rw [hsz, show l.length = p.length by omega]; exact cut_mid' l p q (flat cur) [] HR.out HP.out
        have HX := Lib.hid hex; clear hex
        have HC0 := Lib.hid hc; clear hc
        go_wp2_with fail
        all_goals (try (exfalso; omega))
        refine (clone_any _ (flat cur) HX.out _ (by omega)).mono ?_
        rintro e w1 ⟨rfl, hb1⟩
        have HO1 := Lib.hid (HO.out.below hb1)
        have HI1 := Lib.hid (HI.out.below hb1 (Nat.le_of_lt hBs)); clear hb1
        have hsz1 := HI1.out.size
        have hal : Below w1.heap.size w1 (w1.alloc (.cells #[.string (sb (flat cur))] 9)) := (Below.refl _ _).alloc (Nat.le_refl _) _
        have HO2 := Lib.hid (HO1.out.below hal)
        have HI2 := Lib.hid (HI1.out.below hal (Nat.le_of_lt hsz1)); clear hal
        have hcell : (w1.alloc (.cells #[.string (sb (flat cur))] 9)).cell? ⟨w1.heap.size, 0, none⟩ = some (.string (sb (flat cur))) := by
          rw [cell_of_row _ _ 0 _ 9 (0, 0) (heap_alloc_new w1 _)]; rfl
        have HC := Lib.hid hcell; clear hcell
        go_wp2_with (at_builtin; refine app_str rfl (.tmp 38) (.tmp 43) rfl w.heap.size _ (L.map flat) (flat cur) rfl HO2.out w1.heap.size rfl HC.out ?c1 ?c2 ?_)
        case c1 => rw [List.length_map]; omega
        case c2 => exact Nat.le_of_lt HI2.out.size
        intro v' w2 ho2 hg2
        have HI3 := Lib.hid (HI2.out.grown HO2.out hg2)
        have HO3 := Lib.hid ho2; clear ho2 hg2
        go_wp2
        go_ret
        refine ⟨_, rfl, ?_, HI3.out.2.2⟩
        rw [HE.out, show wd cur [] = [cur] by rw [wd, if_neg HC0.out], List.map_append]; exact HO3.out
    · have hnx := fun ty => hr.run (P := Tryz.prog) wr w.heap.size hi.1 ty
      have h1 := hr.lt
      have h2 := hr.rune
      have hpos := hr.pos
      have hg' : ds.length + 1 = gk := by simpa using hg
      have HO := Lib.hid (ho.iter hi.1 (p.length + c.bs.length)); clear ho
      have HR := Lib.hid hr; clear hr hg
      have HI := Lib.hid (hi.next c.bs); clear hi
      have HP := Lib.hid hp; clear hp
      have HE := Lib.hid he; clear he
      have hBi : w.heap.size < (wr.iterAt w.heap.size (sb l) (p.length + c.bs.length)).heap.size := HI.out.size
      have hbl : ∀ (b : Bool), Wd.blank c = b → (c.r == 32 || c.r == 9 || c.r == 160) = b := fun b hb => hb
      cases hb : Wd.blank c with
      | true =>
        have HB := Lib.hid (hbl true hb); clear hbl
        have HBL := Lib.hid hb; clear hb
        rcases hcur with ⟨hc, rfl⟩ | ⟨hc, rfl⟩
        · have HC0 := Lib.hid hc; clear hc
          go_wp2_with fail
          refine (isBlank_any c.r _ h2).mono ?_
          rw [HB.out]
          rintro e w1 ⟨rfl, rfl⟩
          go_wp2
          go_roundg (gk - 1)
          case measure => omega
          case rel =>
            refine ⟨p ++ c.bs, p ++ c.bs, [], ds, L, by omega, HR.out.next, HI.out, by simp [flat], Or.inl ⟨rfl, rfl⟩, HO.out, by rw [List.length_append]; omega, ?_⟩
            rw [HE.out, wd, if_pos HBL.out, if_pos HC0.out]
        · have HC0 := Lib.hid hc; clear hc
          have hex : (sb l).extract q.length p.length = sb (flat cur) := cut_mid' l p q (flat cur) _ HR.out HP.out
          have HX := Lib.hid hex; clear hex
          go_wp2_with fail
          refine (isBlank_any c.r _ h2).mono ?_
          rw [HB.out]
          rintro e w1 ⟨rfl, rfl⟩
          go_wp2_with fail
          all_goals (try (exfalso; omega))
          refine (clone_any _ (flat cur) HX.out _ (by omega)).mono ?_
          rintro e w1 ⟨rfl, hb1⟩
          have HO1 := Lib.hid (HO.out.below hb1)
          have HI1 := Lib.hid (HI.out.below hb1 (Nat.le_of_lt hBi)); clear hb1
          have hsz1 := HI1.out.size
          have hal : Below w1.heap.size w1 (w1.alloc (.cells #[.string (sb (flat cur))] 9)) := (Below.refl _ _).alloc (Nat.le_refl _) _
          have HO2 := Lib.hid (HO1.out.below hal)
          have HI2 := Lib.hid (HI1.out.below hal (Nat.le_of_lt hsz1)); clear hal
          have hcell : (w1.alloc (.cells #[.string (sb (flat cur))] 9)).cell? ⟨w1.heap.size, 0, none⟩ = some (.string (sb (flat cur))) := by
            rw [cell_of_row _ _ 0 _ 9 (0, 0) (heap_alloc_new w1 _)]; rfl
          have HC := Lib.hid hcell; clear hcell
          go_wp2_with (at_builtin; refine app_str rfl (.tmp 21) (.tmp 27) rfl w.heap.size _ (L.map flat) (flat cur) rfl HO2.out w1.heap.size rfl HC.out ?c1 ?c2 ?_)
          case c1 => rw [List.length_map]; omega
          case c2 => exact Nat.le_of_lt HI2.out.size
          intro v' w2 ho2 hg2
          have HI3 := Lib.hid (HI2.out.grown HO2.out hg2)
          have HO3 := Lib.hid ho2; clear ho2 hg2
          go_wp2
          go_roundg (gk - 1)
          case measure => omega
          case rel =>
            refine ⟨p ++ c.bs, p ++ c.bs, [], ds, L ++ [cur], by omega, HR.out.next, HI3.out, by simp [flat], Or.inl ⟨rfl, rfl⟩, by rw [List.map_append]; exact HO3.out, by simp; omega, ?_⟩
            rw [HE.out, wd, if_pos HBL.out, if_neg HC0.out]; simp
      | false =>
        have HB := Lib.hid (hbl false hb); clear hbl
        have HBL := Lib.hid hb; clear hb
        rcases hcur with ⟨hc, rfl⟩ | ⟨hc, rfl⟩
        · have HC0 := Lib.hid hc; clear hc
          go_wp2_with fail
          refine (isBlank_any c.r _ h2).mono ?_
          rw [HB.out]
          rintro e w1 ⟨rfl, rfl⟩
          go_wp2
          go_roundg (gk - 1)
          case measure => omega
          case rel =>
            refine ⟨p ++ c.bs, p, [c], ds, L, by omega, HR.out.next, HI.out, by simp [flat], Or.inr ⟨by simp, rfl⟩, HO.out, by rw [List.length_append]; omega, ?_⟩
            rw [HE.out, wd, if_neg (by rw [HBL.out]; simp), HC0.out]; rfl
        · have HC0 := Lib.hid hc; clear hc
          go_wp2_with fail
          refine (isBlank_any c.r _ h2).mono ?_
          rw [HB.out]
          rintro e w1 ⟨rfl, rfl⟩
          go_wp2
          go_roundg (gk - 1)
          case measure => omega
          case rel =>
            refine ⟨p ++ c.bs, q, cur ++ [c], ds, L, by omega, HR.out.next, HI.out, by rw [HP.out, flat_append]; simp [flat], Or.inr ⟨by simp, rfl⟩, HO.out, by rw [List.length_append]; omega, ?_⟩
            rw [HE.out, wd, if_neg (by rw [HBL.out]; simp)]

theorem flat_tw_len (cs : List Ch) : (flat (tw cs)).length ≤ (flat cs).length := by
  induction cs with
  | nil => simp [tw]
  | cons c cs ih =>
    by_cases h : c.r = 35
    · simp [tw, h, flat]
    · rw [show tw (c :: cs) = c :: tw cs by simp [tw, h], flat_cons, flat_cons, List.length_append, List.length_append]; omega

set_option maxRecDepth 100000 in
set_option maxHeartbeats 1000000 in
theorem words_any (l : List UInt8) (cs : List Ch) (w : World) (h : Rg l cs) (hl : l.length ≤ 300000) :
    Calls Tryz.prog 54 #[.string (sb l)] w fun e w' => ∃ v, e = .returned (.tuple #[v, .int .i64 (wordsOf cs).2]) ∧ Own w' w.heap.size v (wordsOf cs).1 ∧ Below w.heap.size w w' := by
  have hl2 : (flat (tw cs)).length ≤ l.length := by rw [rg_flat cs l h]; exact flat_tw_len cs
  have HG := Lib.hid h; clear h
  go_enter Tryz.func54, Tryz.ntmps54
  go_wp2_with fail
  refine (withoutRemark_any l cs _ HG.out (by omega)).mono ?_
  rintro e w1 ⟨rfl, hb1⟩
  have HB1 := Lib.hid hb1; clear hb1
  go_wp2_with fail
  refine (mayBeSaid_any _ (tw cs) _ (rg_tw cs l HG.out).1 (by omega)).mono ?_
  cases hok : (tw cs).all okC with
  | false =>
    rintro e w2 ⟨rfl, hb2⟩
    have HB2 := Lib.hid (below_trans HB1.out hb2); clear hb2
    have HK := Lib.hid hok; clear hok
    go_wp2
    go_ret2
    have e0 : wordsOf cs = ([], 30) := by unfold wordsOf; rw [HK.out]; rfl
    rw [e0]
    exact ⟨_, rfl, Own.none_ _ _, HB2.out⟩
  | true =>
    rintro e w2 ⟨rfl, hb2⟩
    have HB2 := Lib.hid (below_trans HB1.out hb2); clear hb2
    have HK := Lib.hid hok; clear hok
    go_wp2_with fail
    refine (runs_any _ (tw cs) _ (rg_tw cs l HG.out).1 (by omega)).mono ?_
    rintro e w3 ⟨v, rfl, ho, hb3⟩
    have hs := HB2.out.size
    have HO := Lib.hid ho; clear ho
    have HB3 := Lib.hid (below_trans HB2.out hb3); clear hb3
    go_wp2
    go_ret2
    have e0 : wordsOf cs = ((wd [] (tw cs)).map flat, 0) := by unfold wordsOf; rw [HK.out]; rfl
    rw [e0]
    refine ⟨_, rfl, ?_, HB3.out⟩
    obtain ⟨h0, h1 | ⟨g, cap, cur, h1, h2, h3, h4⟩⟩ := HO.out
    · exact ⟨h0, Or.inl h1⟩
    · exact ⟨h0, Or.inr ⟨g, cap, cur, h1, by omega, h3, h4⟩⟩

end Go.Proofs.YtmcmpjcijbeilaaGreatDoor.Ws

/-
  What is proved here: the contract of SameTexts: two slices of texts are held against each other; and of words.Print where there is nothing to print.
-/
namespace Go.Proofs.YtmcmpjcijbeilaaGreatDoor.Ws
open Go.RowKit Wd

theorem below_drewN {B : Nat} {a w : World} (h : Below B a w) (n : Nat) : Below B a (w.drewN n) := ⟨h.os, h.tape, h.output, h.size, h.block⟩

set_option maxRecDepth 100000 in
theorem print_bad (n k : Int) (w : World) (h : n < 0 ∨ k < 0 ∨ 3 ≤ k) : Calls Tryz.prog 48 #[.int .i64 n, .int .i64 k] w fun e w' => e = .returned (.string (sb [])) ∧ w = w' := by
  go_enter Tryz.func48, Tryz.ntmps48
  go_wp2_with fail
  all_goals (try (exfalso; omega))
  all_goals
    go_ret
    exact ⟨rfl, rfl⟩
set_option maxRecDepth 100000 in
theorem rprint_bad (n k : Int) (w : World) (h : n < 0 ∨ k < 0 ∨ 3 ≤ k) : Calls Tryz.prog 30 #[.int .i64 n, .int .i64 k] w fun e w' => e = .returned (.string (sb [])) ∧ w = w' := by
  go_enter Tryz.func30, Tryz.ntmps30
  go_wp2_with fail
  all_goals (try (exfalso; omega))
  all_goals
    go_ret
    exact ⟨rfl, rfl⟩




end Go.Proofs.YtmcmpjcijbeilaaGreatDoor.Ws

/-
  What is proved here: contracts of the document's own First, Kind, Digit and Print: a rune's kind and value, a number in digits of a kind. No condition but that the kind of First is 0, 1 or 2.
-/
namespace Go.Proofs.YtmcmpjcijbeilaaGreatDoor.Ws
open Go.RowKit Wd

set_option maxRecDepth 100000 in
theorem rfirst_any (K : Int) (k : Nat) (w : World) (hK : K = (k : Int)) (hk : k < 3) : Calls Tryz.prog 49 #[.int .i64 K] w fun e w' => e = .returned (.int .i32 (first k : Int)) ∧ Below w.heap.size w w' := by
  subst hK
  have hb : Below w.heap.size w (w.alloc (.cells #[.int .i32 48, .int .i32 1632, .int .i32 65296] 21)) := (Below.refl _ w).alloc (Nat.le_refl _) _
  have HB := Lib.hid hb; clear hb
  rcases (show k = 0 ∨ k = 1 ∨ k = 2 by omega) with rfl | rfl | rfl
  all_goals
    go_enter Tryz.func49, Tryz.ntmps49
    go_wp2
    go_ret
    exact ⟨rfl, HB.out⟩

set_option maxRecDepth 100000 in
set_option maxHeartbeats 1000000 in
theorem rkind_any (r : Int) (w : World) (_h0 : -2147483648 ≤ r) (_h1 : r ≤ 2147483647) :
    Calls Tryz.prog 60 #[.int .i32 r] w fun e w' => e = .returned (.int .i64 (kdOf r)) ∧ Below w.heap.size w w' := by
  go_enter Tryz.func60, Tryz.ntmps60
  go_wp2
  go_loopg [3] 3 (fun g v wr => KvRel r g v ∧ Below w.heap.size w wr)
  case atStart => exact ⟨⟨0, rfl, rfl, fun j hj => by omega⟩, Below.refl _ w⟩
  case round =>
    obtain ⟨⟨k, hk, rfl, hj⟩, hb⟩ := hrel
    have HB := Lib.hid hb; clear hb
    have HJ := Lib.hid hj; clear hj
    by_cases hk3 : k < 3
    · obtain ⟨F, hF, hF2⟩ : ∃ F : Nat, first k = F ∧ F ≤ 65296 := ⟨_, rfl, by unfold first; split <;> (try split) <;> omega⟩
      have HF := Lib.hid hF; clear hF
      go_wp2_with fail
      refine (rfirst_any (k : Int) k _ rfl hk3).mono ?_
      rw [HF.out]
      rintro e w1 ⟨rfl, hb1⟩
      have HB1 := Lib.hid (below_trans HB.out hb1); clear hb1
      by_cases hge : (F : Int) ≤ r
      · go_wp2_with fail
        refine (rfirst_any (k : Int) k _ rfl hk3).mono ?_
        rw [HF.out]
        rintro e w2 ⟨rfl, hb2⟩
        have HB2 := Lib.hid (below_trans HB1.out hb2); clear hb2
        by_cases hle : r ≤ (F : Int) + 9
        · go_wp2
          all_goals (try (exfalso; omega))
          go_ret
          refine ⟨?_, HB2.out⟩
          have e1 : kdOf r = (k : Int) := by
            have := (kv_first k (r - F).toNat hk3 (by omega)).1
            rw [HF.out, show (F : Int) + ((r - F).toNat : Int) = r by omega] at this
            exact this
          rw [e1]; rfl
        · go_wp2
          all_goals (try (exfalso; omega))
          go_roundg (gk - 1)
          case measure => omega
          case rel =>
            refine ⟨⟨k + 1, by omega, by go_num, ?_⟩, HB2.out⟩
            intro j hj
            rcases Nat.lt_or_ge j k with g | g
            · exact HJ.out j g
            · obtain rfl : j = k := by omega
              rw [HF.out]; omega
      · go_wp2
        all_goals (try (exfalso; omega))
        go_roundg (gk - 1)
        case measure => omega
        case rel =>
          refine ⟨⟨k + 1, by omega, by go_num, ?_⟩, HB1.out⟩
          intro j hj
          rcases Nat.lt_or_ge j k with g | g
          · exact HJ.out j g
          · obtain rfl : j = k := by omega
            rw [HF.out]; omega
    · obtain rfl : k = 3 := by omega
      go_wp2
      go_ret
      refine ⟨?_, HB.out⟩
      rw [(kv3 r (HJ.out 0 (by omega)) (HJ.out 1 (by omega)) (HJ.out 2 (by omega))).1]; rfl

theorem rkind_at (r K : Int) (w : World) (h0 : -2147483648 ≤ r) (h1 : r ≤ 2147483647) (hK : kdOf r = K) :
    Calls Tryz.prog 60 #[.int .i32 r] w fun e w' => e = .returned (.int .i64 K) ∧ Below w.heap.size w w' := by
  subst hK; exact rkind_any r w h0 h1

set_option maxRecDepth 100000 in
set_option maxHeartbeats 1000000 in
theorem rdigit_any (r : Int) (w : World) (h0 : -2147483648 ≤ r) (h1 : r ≤ 2147483647) :
    Calls Tryz.prog 61 #[.int .i32 r] w fun e w' => e = .returned (.int .i64 (dvOf r)) ∧ Below w.heap.size w w' := by
  rcases kv_cases r with ⟨hk, hv⟩ | ⟨k, d, hk3, hd, hr, hk, hv⟩
  · have HK := Lib.hid hk; have HV := Lib.hid hv; clear hk hv
    go_enter Tryz.func61, Tryz.ntmps61
    go_wp2_with fail
    refine (rkind_at r (-1) _ h0 h1 HK.out).mono ?_
    rintro e w1 ⟨rfl, hb1⟩
    have HB1 := Lib.hid hb1; clear hb1
    go_wp2
    go_ret
    rw [HV.out]
    exact ⟨rfl, HB1.out⟩
  · obtain ⟨F, hF, hF2⟩ : ∃ F : Nat, first k = F ∧ F ≤ 65296 := ⟨_, rfl, by unfold first; split <;> (try split) <;> omega⟩
    rw [hF] at hr
    have HF := Lib.hid hF; clear hF
    have HK := Lib.hid hk; have HV := Lib.hid hv; clear hk hv
    have hd1 : r - (F : Int) ≤ d ∧ (d : Int) ≤ r - F := by omega
    clear hr
    go_enter Tryz.func61, Tryz.ntmps61
    go_wp2_with fail
    refine (rkind_at r (k : Int) _ h0 h1 HK.out).mono ?_
    rintro e w1 ⟨rfl, hb1⟩
    have HB1 := Lib.hid hb1; clear hb1
    go_wp2_with fail
    all_goals (try (exfalso; omega))
    refine (rfirst_any (k : Int) k _ rfl hk3).mono ?_
    rw [HF.out]
    rintro e w2 ⟨rfl, hb2⟩
    have HB2 := Lib.hid (below_trans HB1.out hb2); clear hb2
    go_wp2
    go_ret
    rw [HV.out]
    refine ⟨ret_int ?_, HB2.out⟩
    omega

theorem rdigit_at (r V : Int) (w : World) (h0 : -2147483648 ≤ r) (h1 : r ≤ 2147483647) (hV : dvOf r = V) :
    Calls Tryz.prog 61 #[.int .i32 r] w fun e w' => e = .returned (.int .i64 V) ∧ Below w.heap.size w w' := by
  subst hV; exact rdigit_any r w h0 h1

theorem enc_dch_fin : ∀ (k : Fin 3) (d : Fin 10), (Utf8.encode (((first k : Nat) : Int) + ((d : Nat) : Int))).data.toList = (dch k d).bs := by decide +kernel
theorem enc_dch (k d : Nat) (hk : k < 3) (hd : d < 10) : Utf8.encode ((first k : Int) + (d : Int)) = sb (dch k d).bs := by
  rw [sb_list (Utf8.encode _), enc_dch_fin ⟨k, hk⟩ ⟨d, hd⟩]

theorem conv_dch (k d : Nat) (F : Nat) (hF : first k = F) (hk : k < 3) (hd : d < 10) (w : World) : (convert 21 9 (.int .i32 ((F : Int) + (d : Int)))).run Tryz.prog w = .ok (.string (sb (dch k d).bs)) w := by
  rw [run_convert_int_string w 21 9 .i32 _ (by rw [Tryz.underlying21]; rfl) Tryz.underlying9, ← hF, enc_dch k d hk hd]
theorem flat_chs_len (k : Nat) (hk : k < 3) : ∀ t : List Nat, (∀ d ∈ t, d < 10) → (flat (chs k t)).length ≤ 3 * t.length
  | [], _ => by simp [chs, flat]
  | d :: t, h => by
    have h1 := flat_chs_len k hk t fun x hx => h x (List.mem_cons_of_mem _ hx)
    have h2 := dch_len_fin ⟨k, hk⟩ ⟨d, h d List.mem_cons_self⟩
    simp only at h2
    show (flat (dch k d :: chs k t)).length ≤ _
    rw [flat_cons, List.length_append, List.length_cons]; omega
theorem tail_lt {n : Nat} {a t : List Nat} (h : dg n = a ++ t) : ∀ d ∈ t, d < 10 := fun d hd => dg_lt n d (by rw [h]; simp [hd])
def RpRel (w : World) (k n g : Nat) (v s : Value) (wr : World) : Prop :=
  ∃ (m : Nat) (t : List Nat), m = g ∧ m ≤ n ∧ v = .int .i64 (m : Int) ∧ s = .string (sb (flat (chs k t))) ∧ dg n = dg m ++ t ∧ t.length ≤ 100 ∧ Below w.heap.size w wr

set_option maxRecDepth 100000 in
set_option maxHeartbeats 1000000 in
theorem rprint_ok (n k : Nat) (w : World) (hn : n ≤ 9223372036854775807) (hk : k < 3) :
    Calls Tryz.prog 30 #[.int .i64 (n : Int), .int .i64 (k : Int)] w fun e w' => e = .returned (.string (sb (pr k n))) ∧ Below w.heap.size w w' := by
  have hdl : (dg n).length ≤ 19 := dg_len n 18 (by omega)
  obtain ⟨F, hF, hF2⟩ : ∃ F : Nat, first k = F ∧ F ≤ 65296 := ⟨_, rfl, by unfold first; split <;> (try split) <;> omega⟩
  have HF := Lib.hid hF; clear hF
  go_enter Tryz.func30, Tryz.ntmps30
  go_wp2
  all_goals (try (exfalso; omega))
  go_loopg [0, 5] n (fun g v s wr => RpRel w k n g v s wr)
  case atStart => exact ⟨n, [], rfl, Nat.le_refl _, rfl, rfl, by simp, by simp, Below.refl _ w⟩
  case round =>
    obtain ⟨m, t, hmg, hmn, rfl, rfl, hd, ht, hb⟩ := hrel
    subst hmg
    have HB := Lib.hid hb; clear hb
    have htl : t.length ≤ 19 := by have := congrArg List.length hd; rw [List.length_append] at this; omega
    have HD := Lib.hid hd; clear hd
    have hz2 : (sb (flat (chs k t))).size ≤ 400 := by rw [sb_size]; exact Nat.le_trans (flat_chs_len k hk t (tail_lt HD.out)) (by omega)
    by_cases hm : 9 < m
    · obtain ⟨q, d, hq, hd10, hqm⟩ : ∃ q d : Nat, m = 10 * q + d ∧ d < 10 ∧ q < m := ⟨m / 10, m % 10, by omega, by omega, by omega⟩
      have g1 : (m : Int) % 10 = (d : Int) := by omega
      have g2 : (m : Int) / 10 = (q : Int) := by omega
      have HQ := Lib.hid (show m / 10 = q ∧ m % 10 = d by omega); clear hq
      have g3 : IntKind.i32.wrap (d : Int) = (d : Int) := by rw [IntKind.wrap_i32]; omega
      have g4 : IntKind.i32.wrap ((F : Int) + (d : Int)) = (F : Int) + (d : Int) := by rw [IntKind.wrap_i32]; omega
      have hcv := conv_dch k d F HF.out hk hd10
      have hz1 : (sb (dch k d).bs).size ≤ 3 := by rw [sb_size]; exact dch_len_fin ⟨k, hk⟩ ⟨d, hd10⟩
      go_wp2_with fail
      refine (rfirst_any (k : Int) k _ rfl hk).mono ?_
      rw [HF.out]
      rintro e w1 ⟨rfl, hb1⟩
      have HB1 := Lib.hid (below_trans HB.out hb1); clear hb1
      go_wp2
      all_goals (try (exfalso; omega))
      go_roundg q
      case measure => omega
      case rel =>
        refine ⟨q, d :: t, rfl, by omega, rfl, ?_, ?_, by simp; omega, HB1.out⟩
        · rw [sb_append]; rfl
        · rw [HD.out, dg_big m (by omega), HQ.out.1, HQ.out.2]; simp
    · have g3 : IntKind.i32.wrap (m : Int) = (m : Int) := by rw [IntKind.wrap_i32]; omega
      have g4 : IntKind.i32.wrap ((F : Int) + (m : Int)) = (F : Int) + (m : Int) := by rw [IntKind.wrap_i32]; omega
      have hcv := conv_dch k m F HF.out hk (by omega)
      have hz1 : (sb (dch k m).bs).size ≤ 3 := by rw [sb_size]; exact dch_len_fin ⟨k, hk⟩ ⟨m, by omega⟩
      go_wp2_with fail
      refine (rfirst_any (k : Int) k _ rfl hk).mono ?_
      rw [HF.out]
      rintro e w1 ⟨rfl, hb1⟩
      have HB1 := Lib.hid (below_trans HB.out hb1); clear hb1
      go_wp2
      all_goals (try (exfalso; omega))
      go_ret
      refine ⟨ret_str (sb_append _ _) ?_, HB1.out⟩
      rw [pr, HD.out, dg_small m (by omega)]; rfl

end Go.Proofs.YtmcmpjcijbeilaaGreatDoor.Ws

/-
  What is proved here: the contract of the document's own Lines: the lines of a text. Condition: at most 300000 bytes.
-/
namespace Go.Proofs.YtmcmpjcijbeilaaGreatDoor.Ws
open Go.RowKit Wd

theorem sb_at (l : List UInt8) (k : Nat) (b : UInt8) (h : l[k]? = some b) : ∃ h' : k < (sb l).size, (sb l)[k]'h' = b := by
  obtain ⟨h1, h2⟩ := List.getElem?_eq_some_iff.1 h
  refine ⟨by rw [sb_size]; exact h1, ?_⟩
  show (sb l).data[k] = b
  simp only [sb, List.getElem_toArray]; exact h2

/- The bounds from a on: up to k stands cur, behind it rest. -/
structure Cut (l : List UInt8) (a k : Nat) (cur rest : List UInt8) : Prop where
  ex : ∃ q : List UInt8, l = q ++ cur ++ rest ∧ q.length = a ∧ a + cur.length = k
theorem Cut.start (l : List UInt8) : Cut l 0 0 [] l := ⟨[], by simp, rfl, rfl⟩
theorem Cut.len {l : List UInt8} {a k : Nat} {cur rest : List UInt8} (h : Cut l a k cur rest) : k + rest.length ≤ l.length ∧ l.length ≤ k + rest.length ∧ a + cur.length ≤ k ∧ k ≤ a + cur.length := by
  obtain ⟨q, h1, h2, h3⟩ := h.ex
  have := congrArg List.length h1
  simp only [List.length_append] at this
  omega
theorem Cut.byte {l : List UInt8} {a k : Nat} {cur rest : List UInt8} {b : UInt8} (h : Cut l a k cur (b :: rest)) : ∃ h' : k < (sb l).size, (sb l)[k]'h' = b := by
  obtain ⟨q, h1, h2, h3⟩ := h.ex
  apply sb_at
  rw [h1, List.getElem?_append_right (by simp; omega), show k - (q ++ cur).length = 0 by simp; omega]
  rfl
theorem Cut.last {l : List UInt8} {a k : Nat} {t rest : List UInt8} {b : UInt8} (h : Cut l a (k + 1) (t ++ [b]) rest) : ∃ h' : k < (sb l).size, (sb l)[k]'h' = b := by
  obtain ⟨q, h1, h2, h3⟩ := h.ex
  apply sb_at
  simp only [List.length_append, List.length_singleton] at h3
  rw [h1, List.append_assoc, List.append_assoc, List.getElem?_append_right (by omega), List.getElem?_append_right (by omega), show k - q.length - t.length = 0 by omega]
  rfl
theorem Cut.text {l : List UInt8} {a k : Nat} {cur rest : List UInt8} (h : Cut l a k cur rest) : (sb l).extract a k = sb cur := by
  obtain ⟨q, h1, h2, h3⟩ := h.ex
  have := cut_mid0 q cur rest
  rw [← h1] at this
  rw [← this, List.length_append]; congr 1 <;> omega
where
  cut_mid0 (q cur r : List UInt8) : (sb (q ++ cur ++ r)).extract q.length (q ++ cur).length = sb cur := by
    rw [sb_extract]; congr 1; simp
theorem Cut.text1 {l : List UInt8} {a k : Nat} {t rest : List UInt8} {b : UInt8} (h : Cut l a (k + 1) (t ++ [b]) rest) : (sb l).extract a k = sb t := by
  obtain ⟨q, h1, h2, h3⟩ := h.ex
  simp only [List.length_append, List.length_singleton] at h3
  exact Cut.text (rest := b :: rest) ⟨q, by rw [h1]; simp, h2, by omega⟩
theorem Cut.more {l : List UInt8} {a k : Nat} {cur rest : List UInt8} {b : UInt8} (h : Cut l a k cur (b :: rest)) : Cut l a (k + 1) (cur ++ [b]) rest := by
  obtain ⟨q, h1, h2, h3⟩ := h.ex
  exact ⟨q, by rw [h1]; simp, h2, by simp; omega⟩
theorem Cut.fresh {l : List UInt8} {a k : Nat} {cur rest : List UInt8} {b : UInt8} (h : Cut l a k cur (b :: rest)) : Cut l (k + 1) (k + 1) [] rest := by
  obtain ⟨q, h1, h2, h3⟩ := h.ex
  exact ⟨q ++ cur ++ [b], by rw [h1]; simp, by simp; omega, by simp⟩

def RlRel (w : World) (l : List UInt8) (g : Nat) (v f i : Value) (wr : World) : Prop :=
  ∃ L : List (List UInt8), Own wr w.heap.size v L ∧ Below w.heap.size w wr ∧
    ((∃ (a k : Nat) (cur rest : List UInt8), Cut l a k cur rest ∧ rest.length + 1 = g ∧ f = .int .i64 (a : Int) ∧ i = .int .i64 (k : Int) ∧ L.length ≤ a ∧ ln [] l = L ++ ln cur rest) ∨
     (g = 0 ∧ i = .int .i64 ((l.length + 1 : Nat) : Int) ∧ ln [] l = L))

set_option maxRecDepth 100000 in
set_option maxHeartbeats 4000000 in
theorem rlines_any (l : List UInt8) (w : World) (hl : l.length ≤ 300000) :
    Calls Tryz.prog 39 #[.string (sb l)] w fun e w' => ∃ v, e = .returned v ∧ Own w' w.heap.size v (ln [] l) ∧ Below w.heap.size w w' := by
  obtain ⟨n, hn⟩ : ∃ n, n = l.length := ⟨_, rfl⟩
  have hsz : (sb l).size = n := by rw [sb_size, hn]
  go_enter Tryz.func39, Tryz.ntmps39
  go_wp2
  go_loopg [3, 4, 5] (l.length + 1) (fun g v f i wr => RlRel w l g v f i wr)
  case atStart => exact ⟨[], Own.none_ _ _, Below.refl _ _, Or.inl ⟨0, 0, [], l, Cut.start l, rfl, rfl, rfl, Nat.le_refl _, rfl⟩⟩
  case round =>
    obtain ⟨L, ho, hb, hcase⟩ := hrel
    have hBs := hb.size
    have HO := Lib.hid ho; clear ho
    have HB := Lib.hid hb; clear hb
    rcases hcase with ⟨a, k, cur, rest, hcut, hg, rfl, rfl, hL, he⟩ | ⟨hg, rfl, he⟩
    · obtain ⟨hk1, hk2, hk3, hk4⟩ := hcut.len
      have HE := Lib.hid he; clear he
      rcases rest with _ | ⟨b, rest⟩
      · have HC := Lib.hid hcut; clear hcut
        simp only [List.length_nil] at hk1 hk2 hg
        obtain rfl : n = k := by omega
        have HN := Lib.hid hn; clear hn
        rcases snoc_cases cur with hc | ⟨t, x, hc⟩
        · have hc0 : cur.length ≤ 0 := by rw [hc]; simp
          have HCU := Lib.hid hc; clear hc
          obtain rfl : n = a := by omega
          go_wp2
          all_goals (try (exfalso; omega))
          go_roundg (gk - 1)
          case measure => omega
          case rel => exact ⟨L, HO.out, HB.out, Or.inr ⟨by omega, by rw [← HN.out]; go_num, by rw [HE.out, HCU.out, show ln [] [] = [] from rfl, List.append_nil]⟩⟩
        · subst hc
          simp only [List.length_append, List.length_singleton] at hk3 hk4
          obtain ⟨k, rfl⟩ : ∃ j, n = j + 1 := ⟨n - 1, by omega⟩
          by_cases hx : x = 13
          · subst hx
            obtain ⟨hlt, hby⟩ := HC.out.last
            obtain ⟨T, hT⟩ : ∃ T, T = trim (t ++ [13]) := ⟨_, rfl⟩
            have HT := Lib.hid hT; clear hT
            have HX := Lib.hid (show (sb l).extract a k = sb T from by rw [HC.out.text1, HT.out, trim_13]); 
            have hal : Below wr.heap.size wr (wr.alloc (.cells #[.string (sb T)] 9)) := (Below.refl _ _).alloc (Nat.le_refl _) _
            have HO2 := Lib.hid (HO.out.below hal)
            have HB2 := Lib.hid (below_trans HB.out hal); clear hal
            have hcell : (wr.alloc (.cells #[.string (sb T)] 9)).cell? ⟨wr.heap.size, 0, none⟩ = some (.string (sb T)) := by
              rw [cell_of_row _ _ 0 _ 9 (0, 0) (heap_alloc_new wr _)]; rfl
            have HCL := Lib.hid hcell; clear hcell
            have hx := HX.out
            go_wp2_with (at_builtin; refine app_str rfl (.tmp 47) (.tmp 52) rfl w.heap.size _ L T rfl HO2.out wr.heap.size rfl HCL.out ?c1 ?c2 ?_)
            all_goals (try (exfalso; omega))
            case c1 => omega
            case c2 => exact Nat.le_of_lt_succ (Nat.lt_succ_of_le HB2.out.size)
            intro v' w2 ho2 hg2
            have HB3 := Lib.hid (Below.grown HB2.out hg2 HB2.out.size fun g e => (own_lt HO2.out g e).1)
            have HO3 := Lib.hid ho2; clear ho2 hg2
            go_wp2
            go_roundg (gk - 1)
            case measure => omega
            case rel =>
              exact ⟨L ++ [T], HO3.out, HB3.out, Or.inr ⟨by omega, by rw [← HN.out]; go_num, by rw [HE.out, ln, if_neg (by simp), HT.out]⟩⟩
          · obtain ⟨T, hT⟩ : ∃ T, T = trim (t ++ [x]) := ⟨_, rfl⟩
            have HT := Lib.hid hT; clear hT
            have hby2 : x.toNat ≠ 13 := fun e => hx (by rw [← UInt8.toNat_inj]; exact e)
            have HNX := Lib.hid hx; clear hx
            obtain ⟨hlt, hby⟩ := HC.out.last
            have HX := Lib.hid (show (sb l).extract a (k + 1) = sb T from by rw [HC.out.text, HT.out, trim_other _ _ HNX.out]); 
            have hal : Below wr.heap.size wr (wr.alloc (.cells #[.string (sb T)] 9)) := (Below.refl _ _).alloc (Nat.le_refl _) _
            have HO2 := Lib.hid (HO.out.below hal)
            have HB2 := Lib.hid (below_trans HB.out hal); clear hal
            have hcell : (wr.alloc (.cells #[.string (sb T)] 9)).cell? ⟨wr.heap.size, 0, none⟩ = some (.string (sb T)) := by
              rw [cell_of_row _ _ 0 _ 9 (0, 0) (heap_alloc_new wr _)]; rfl
            have HCL := Lib.hid hcell; clear hcell
            have hx := HX.out
            go_wp2_with (at_builtin; refine app_str rfl (.tmp 47) (.tmp 52) rfl w.heap.size _ L T rfl HO2.out wr.heap.size rfl HCL.out ?c1 ?c2 ?_)
            all_goals (try (exfalso; omega))
            case c1 => omega
            case c2 => exact Nat.le_of_lt_succ (Nat.lt_succ_of_le HB2.out.size)
            intro v' w2 ho2 hg2
            have HB3 := Lib.hid (Below.grown HB2.out hg2 HB2.out.size fun g e => (own_lt HO2.out g e).1)
            have HO3 := Lib.hid ho2; clear ho2 hg2
            go_wp2
            go_roundg (gk - 1)
            case measure => omega
            case rel =>
              exact ⟨L ++ [T], HO3.out, HB3.out, Or.inr ⟨by omega, by rw [← HN.out]; go_num, by rw [HE.out, ln, if_neg (by simp), HT.out]⟩⟩
      · have HC := Lib.hid hcut; clear hcut
        simp only [List.length_cons] at hk1 hk2 hg
        obtain ⟨m, hm⟩ : ∃ m, rest.length = m := ⟨_, rfl⟩
        have HM := Lib.hid hm
        obtain rfl : n = k + 1 + m := by omega
        rw [hm] at hg; clear hm
        have HN := Lib.hid hn; clear hn
        obtain ⟨hlt, hby⟩ := HC.out.byte
        by_cases hb10 : b = 10
        · subst hb10
          rcases snoc_cases cur with hc | ⟨t, x, hc⟩
          · have hc0 : cur.length ≤ 0 := by rw [hc]; simp
            obtain rfl : k = a := by omega
            have HCU := Lib.hid hc; clear hc
            have HX := Lib.hid (show trim cur = [] from by rw [HCU.out, trim_nil]); 
            have hal : Below wr.heap.size wr (wr.alloc (.cells #[.string ByteArray.empty] 9)) := (Below.refl _ _).alloc (Nat.le_refl _) _
            have HO2 := Lib.hid (HO.out.below hal)
            have HB2 := Lib.hid (below_trans HB.out hal); clear hal
            have hcell : (wr.alloc (.cells #[.string ByteArray.empty] 9)).cell? ⟨wr.heap.size, 0, none⟩ = some (.string (sb [])) := by
              rw [cell_of_row _ _ 0 _ 9 (0, 0) (heap_alloc_new wr _)]; rfl
            have HCL := Lib.hid hcell; clear hcell
            go_wp2_with (at_builtin; refine app_str rfl (.tmp 47) (.tmp 52) rfl w.heap.size _ L [] rfl HO2.out wr.heap.size rfl HCL.out ?c1 ?c2 ?_)
            all_goals (try (exfalso; omega))
            case c1 => omega
            case c2 => exact Nat.le_of_lt_succ (Nat.lt_succ_of_le HB2.out.size)
            intro v' w2 ho2 hg2
            have HB3 := Lib.hid (Below.grown HB2.out hg2 HB2.out.size fun g e => (own_lt HO2.out g e).1)
            have HO3 := Lib.hid ho2; clear ho2 hg2
            go_wp2
            go_roundg (gk - 1)
            case measure => omega
            case rel =>
              exact ⟨L ++ [[]], HO3.out, HB3.out, Or.inl ⟨k + 1, k + 1, [], rest, HC.out.fresh, by have := HM.out; omega, by go_num, by go_num, by simp; omega, by rw [HE.out, ln, if_pos rfl, HX.out]; simp⟩⟩
          · subst hc
            simp only [List.length_append, List.length_singleton] at hk3 hk4
            obtain ⟨k, rfl⟩ : ∃ j, k = j + 1 := ⟨k - 1, by omega⟩
            by_cases hx : x = 13
            · subst hx
              obtain ⟨hlt2, hby2⟩ := HC.out.last
              obtain ⟨T, hT⟩ : ∃ T, T = trim (t ++ [13]) := ⟨_, rfl⟩
              have HT := Lib.hid hT; clear hT
              have HX := Lib.hid (show (sb l).extract a k = sb T from by rw [HC.out.text1, HT.out, trim_13]); 
              have hal : Below wr.heap.size wr (wr.alloc (.cells #[.string (sb T)] 9)) := (Below.refl _ _).alloc (Nat.le_refl _) _
              have HO2 := Lib.hid (HO.out.below hal)
              have HB2 := Lib.hid (below_trans HB.out hal); clear hal
              have hcell : (wr.alloc (.cells #[.string (sb T)] 9)).cell? ⟨wr.heap.size, 0, none⟩ = some (.string (sb T)) := by
                rw [cell_of_row _ _ 0 _ 9 (0, 0) (heap_alloc_new wr _)]; rfl
              have HCL := Lib.hid hcell; clear hcell
              have hx := HX.out
              go_wp2_with (at_builtin; refine app_str rfl (.tmp 47) (.tmp 52) rfl w.heap.size _ L T rfl HO2.out wr.heap.size rfl HCL.out ?c1 ?c2 ?_)
              all_goals (try (exfalso; omega))
              case c1 => omega
              case c2 => exact Nat.le_of_lt_succ (Nat.lt_succ_of_le HB2.out.size)
              intro v' w2 ho2 hg2
              have HB3 := Lib.hid (Below.grown HB2.out hg2 HB2.out.size fun g e => (own_lt HO2.out g e).1)
              have HO3 := Lib.hid ho2; clear ho2 hg2
              go_wp2
              go_roundg (gk - 1)
              case measure => omega
              case rel =>
                exact ⟨L ++ [T], HO3.out, HB3.out, Or.inl ⟨k + 1 + 1, k + 1 + 1, [], rest, HC.out.fresh, by have := HM.out; omega, by go_num, by go_num, by simp; omega, by rw [HE.out, ln, if_pos rfl, HT.out]; simp⟩⟩
            · have hby3 : x.toNat ≠ 13 := fun e => hx (by rw [← UInt8.toNat_inj]; exact e)
              have HNX := Lib.hid hx; clear hx
              obtain ⟨hlt2, hby2⟩ := HC.out.last
              obtain ⟨T, hT⟩ : ∃ T, T = trim (t ++ [x]) := ⟨_, rfl⟩
              have HT := Lib.hid hT; clear hT
              have HX := Lib.hid (show (sb l).extract a (k + 1) = sb T from by rw [HC.out.text, HT.out, trim_other _ _ HNX.out]); 
              have hal : Below wr.heap.size wr (wr.alloc (.cells #[.string (sb T)] 9)) := (Below.refl _ _).alloc (Nat.le_refl _) _
              have HO2 := Lib.hid (HO.out.below hal)
              have HB2 := Lib.hid (below_trans HB.out hal); clear hal
              have hcell : (wr.alloc (.cells #[.string (sb T)] 9)).cell? ⟨wr.heap.size, 0, none⟩ = some (.string (sb T)) := by
                rw [cell_of_row _ _ 0 _ 9 (0, 0) (heap_alloc_new wr _)]; rfl
              have HCL := Lib.hid hcell; clear hcell
              have hx := HX.out
              go_wp2_with (at_builtin; refine app_str rfl (.tmp 47) (.tmp 52) rfl w.heap.size _ L T rfl HO2.out wr.heap.size rfl HCL.out ?c1 ?c2 ?_)
              all_goals (try (exfalso; omega))
              case c1 => omega
              case c2 => exact Nat.le_of_lt_succ (Nat.lt_succ_of_le HB2.out.size)
              intro v' w2 ho2 hg2
              have HB3 := Lib.hid (Below.grown HB2.out hg2 HB2.out.size fun g e => (own_lt HO2.out g e).1)
              have HO3 := Lib.hid ho2; clear ho2 hg2
              go_wp2
              go_roundg (gk - 1)
              case measure => omega
              case rel =>
                exact ⟨L ++ [T], HO3.out, HB3.out, Or.inl ⟨k + 1 + 1, k + 1 + 1, [], rest, HC.out.fresh, by have := HM.out; omega, by go_num, by go_num, by simp; omega, by rw [HE.out, ln, if_pos rfl, HT.out]; simp⟩⟩
        · have hby3 : b.toNat ≠ 10 := fun e => hb10 (by rw [← UInt8.toNat_inj]; exact e)
          have HNX := Lib.hid hb10; clear hb10
          go_wp2
          all_goals (try (exfalso; omega))
          go_roundg (gk - 1)
          case measure => omega
          case rel => exact ⟨L, HO.out, HB.out, Or.inl ⟨a, k + 1, cur ++ [b], rest, HC.out.more, by have := HM.out; omega, rfl, by go_num, hL, by rw [HE.out, ln, if_neg HNX.out]⟩⟩
    · have HE := Lib.hid he; clear he
      go_wp2
      all_goals (try (exfalso; omega))
      go_ret
      exact ⟨_, rfl, by rw [HE.out]; exact HO.out, HB.out⟩

end Go.Proofs.YtmcmpjcijbeilaaGreatDoor.Ws
