/-
  What is proved here: the contract of words.Print: a number in digits of a kind. Condition: the package variables lie as their texts lay them.
-/
import Derived.Test.YtmcmpjcijbeilaaGreatDoorWdW6
namespace Go.Proofs.YtmcmpjcijbeilaaGreatDoor.Ws
open Go.RowKit Wd

theorem below_grow (w : World) (k : Nat) (os : Array Obj) : Below w.heap.size w (Sort.grow (w.drewN k) os) := by
  have h : (w.drewN k).heap = w.heap := by simp
  refine ⟨rfl, rfl, rfl, by simp [Sort.grow], fun i hi => ?_⟩
  show ((w.drewN k).heap ++ os)[i]? = _
  rw [h, Array.getElem?_append_left hi]

theorem itoa_dg (n : Nat) : (⟨(Lib.itoa (n : Int)).toArray⟩ : ByteArray) = sb (flat (chs 0 (dg n))) := by
  have h1 : Lib.itoa (n : Int) = (dg n).map fun d => UInt8.ofNat (48 + d) := by
    rw [Lib.itoa, if_neg (by omega), ← dec_dg]; rfl
  have h2 : ∀ ds : List Nat, (∀ d ∈ ds, d < 10) → ds.map (fun d => UInt8.ofNat (48 + d)) = flat (chs 0 ds) := by
    intro ds
    induction ds with
    | nil => intro _; rfl
    | cons d ds ih =>
      intro h
      rw [List.map_cons, ih fun x hx => h x (List.mem_cons_of_mem _ hx)]
      show _ = flat (dch 0 d :: chs 0 ds)
      rw [flat_cons, enc_fin0 ⟨d, h d List.mem_cons_self⟩]; rfl
  rw [h1, h2 _ (dg_lt n)]; rfl

theorem bcells (l : List UInt8) : Lib.byteCells l = l.map fun b => Value.int .u8 (b.toNat : Int) := rfl

def PrRel (w : World) (k n B : Nat) (g : Nat) (wr : World) : Prop :=
  ∃ (p : List UInt8) (done ds : List Nat), ds.length = g ∧ dg n = done ++ ds ∧ Rng (flat (chs 0 (dg n))) p (chs 0 ds) ∧ Itr w wr w.heap.size B (flat (chs 0 (dg n))) p ∧ w.heap.size < B ∧
    Lib.IsBuilder 48 5 w.heap.size w.heap.size (Lib.byteCells (flat (chs k done))) wr ∧ (flat (chs k done)).length ≤ 4 * done.length

theorem dch_r (k d : Nat) : (dch k d).r = first k + d := rfl
theorem build_iter {B b : Nat} {bs : List Value} {w : World} (h : Lib.IsBuilder 48 5 B b bs w) {k : Nat} {t : ByteArray} {q : Nat} (hk : w.heap[k]? = some (.stringIter t q)) (q' : Nat) : Lib.IsBuilder 48 5 B b bs (w.iterAt k t q') := by
  have key : ∀ p, Lib.BuilderAt 48 5 B b p bs w → Lib.BuilderAt 48 5 B b p bs (w.iterAt k t q') := by
    rintro p ⟨hB, v, hb, ho, hne⟩
    exact ⟨hB, v, (Lib.iterAt_other w k b t q' (fun e => by rw [e, hk] at hb; cases hb)).trans hb, own_iter ho hk q', hne⟩
  rcases h with h | h
  · exact Or.inl (key _ h)
  · exact Or.inr (key _ h)
theorem build_below {B b : Nat} {bs : List Value} {w w' : World} (h : Lib.IsBuilder 48 5 B b bs w) (hb : Below w.heap.size w w') : Lib.IsBuilder 48 5 B b bs w' := by
  have key : ∀ p, Lib.BuilderAt 48 5 B b p bs w → Lib.BuilderAt 48 5 B b p bs w' := by
    rintro p ⟨hB, v, hb', ho, hne⟩
    exact ⟨hB, v, (hb.block b (lt_of_block hb')).trans hb', own_below ho hb, hne⟩
  rcases h with h | h
  · exact Or.inl (key _ h)
  · exact Or.inr (key _ h)
theorem firstD (k : Nat) (hk : k < 3) (w : World) (hL : Laid w) : w.cell? ⟨0, k, none⟩ = some (.int .i32 (first k : Int)) := by
  obtain ⟨c0, c1, c2⟩ := hL.cells
  rcases (show k = 0 ∨ k = 1 ∨ k = 2 by omega) with rfl | rfl | rfl
  · exact c0
  · exact c1
  · exact c2

theorem Laid.same {w w' : World} (h : Laid w) (e : w'.heap = w.heap) : Laid w' := by
  unfold Laid LaidPow Lib.TabIs World.var? at h ⊢
  rw [e]; exact h
theorem build_same {B b : Nat} {bs : List Value} {w w' : World} (h : Lib.IsBuilder 48 5 B b bs w) (e : w'.heap = w.heap) : Lib.IsBuilder 48 5 B b bs w' := by
  unfold Lib.IsBuilder Lib.BuilderAt World.ownsRow at h ⊢
  rw [e]; exact h
theorem digit_i (r V : Int) (w : World) (hL : Laid w) (h0 : -2147483648 ≤ r) (h1 : r ≤ 2147483647) (hV : dvOf r = V) :
    Calls Tryz.prog 66 #[.int .i32 r] w fun e w' => e = .returned (.int .i64 V) ∧ w = w' := by
  subst hV; exact digit_any r w hL h0 h1
theorem writeRune_s (B b : Nat) (l : List UInt8) (r : Int) (W w : World) (hw : w.heap = W.heap ∧ w.os = W.os ∧ w.tape = W.tape ∧ w.output = W.output) (h : Hid (Lib.IsBuilder 48 5 B b (Lib.byteCells l) W)) (h0 : 0 ≤ r) (h1 : r ≤ 1114111) (hl : l.length ≤ 1000000) (hB : B ≤ W.heap.size) :
    Calls Tryz.prog 65 #[.pointer (some ⟨b, 0, none⟩), .int .i32 r] w fun e w' => (∃ v, e = .returned v) ∧ Hid (Lib.BuilderAt 48 5 B b (.pointer (some ⟨b, 0, none⟩)) (Lib.byteCells l ++ Lib.runeCells r) w') ∧ Hid (Below B W w') ∧ Hid (Lib.OthersKept 5 (some b) W w') := by
  obtain ⟨e1, e2, e3, e4⟩ := hw
  refine (writeRune_any B b _ r w (build_same h.out e1) h0 h1 (by rw [Lib.byteCells_length]; exact hl) (by rw [e1]; exact hB)).mono ?_
  rintro e w' ⟨h1, h2, h3, h4⟩
  refine ⟨h1, Lib.hid h2, Lib.hid ⟨h3.os.trans e2, h3.tape.trans e3, h3.output.trans e4, by rw [← e1]; exact h3.size, fun k hk => (h3.block k hk).trans (by rw [e1])⟩, Lib.hid ?_⟩
  intro k o hk
  exact h4 k o (by rw [e1]; exact hk)
theorem first_le (k : Nat) : first k ≤ 65296 := by unfold first; split <;> (try split) <;> omega

set_option maxRecDepth 100000 in
set_option maxHeartbeats 600000 in
theorem print_ok (n k : Nat) (w : World) (hL : Laid w) (hn : n ≤ 9223372036854775807) (hk : k < 3) :
    Calls Tryz.prog 48 #[.int .i64 (n : Int), .int .i64 (k : Int)] w fun e w' => e = .returned (.string (sb (pr k n))) ∧ Below w.heap.size w w' := by
  have HL := Lib.hid hL
  have hL4 := hL.2.2; clear hL
  have hb0 : Below w.heap.size w (w.alloc (.cells #[.pointer none, .slice none 0 0] 48)) := (Below.refl _ w).alloc (Nat.le_refl _) _
  have HB0 := Lib.hid hb0; clear hb0
  have HI0 := Lib.hid (Lib.fresh_isBuilder 48 5 w)
  have hdl : (dg n).length ≤ 19 := dg_len n 18 (by omega)
  have HC := Lib.hid (itoa_dg n)
  go_enter Tryz.func48, Tryz.ntmps48
  go_wp2_with fail
  all_goals (try (exfalso; omega))
  refine (Tryz.strconv_FormatInt_10 (n : Int) (by omega) (by omega) _ (HL.out.bel HB0.out).1.1).mono ?_
  rintro e w1 ⟨rfl, kk, os, hw1⟩
  rw [HC.out]
  have hb1 := below_grow (w.alloc (.cells #[.pointer none, .slice none 0 0] 48)) kk os
  rw [← hw1] at hb1; clear hw1
  have hs1 := hb1.size
  have hs0 : (w.alloc (.cells #[.pointer none, .slice none 0 0] 48)).heap.size = w.heap.size + 1 := by simp
  rw [hs0] at hs1; clear hs0
  have HI1 := Lib.hid (build_below HI0.out hb1)
  have HB1 := Lib.hid (below_trans HB0.out hb1); clear hb1 HI0
  go_wp2
  go_loopg [] (dg n).length (fun g wr => PrRel w k n w1.heap.size g wr)
  case atStart =>
    refine ⟨[], [], dg n, rfl, rfl, Rng.start _ _ (rg_pr 0 n (by omega)), Itr.start HB1.out (by omega) _, by omega, build_below HI1.out ((Below.refl _ _).alloc (Nat.le_refl _) _), by simp [chs, flat]⟩
  case round =>
    obtain ⟨p, done, ds, hg, hd, hr, hi, hB, hib, hlen⟩ := hrel
    have hdl2 : done.length + ds.length ≤ 19 := by rw [← List.length_append, ← hd]; exact hdl
    rcases ds with _ | ⟨d, ds⟩
    · have hnx := fun ty => hr.fin (P := Tryz.prog) wr w1.heap.size hi.1 ty
      have HR := Lib.hid hr; clear hr
      have hBs := hi.size
      have HI := Lib.hid hi; clear hi
      have HIB := Lib.hid hib; clear hib
      have HD := Lib.hid hd; clear hd
      go_wp2_with fail
      refine (Tryz.Builder_String_any _ _ _ _ HIB.out (by omega)).mono ?_
      rintro e w2 ⟨rfl, hb2⟩
      have HB2 := Lib.hid hb2; clear hb2
      go_wp2
      go_ret
      refine ⟨?_, HI.out.2.2.trans HB2.out⟩
      have := HD.out
      rw [List.append_nil] at this
      rw [pr, this]; rfl
    · have hnx := fun ty => hr.run (P := Tryz.prog) wr w1.heap.size hi.1 ty
      have hd10 : d < 10 := dg_lt n d (by rw [hd]; simp)
      have hg' : ds.length + 1 = gk := by simpa using hg
      have hrr : (dch 0 d).r = 48 + d := rfl
      rw [hrr] at hnx
      have HIB := Lib.hid (build_iter hib hi.1 (p.length + (dch 0 d).bs.length)); clear hib
      have HR := Lib.hid hr; clear hr hg
      have HI := Lib.hid (hi.next (dch 0 d).bs); clear hi
      have HLw := Lib.hid (HL.out.bel HI.out.2.2)
      have HD := Lib.hid hd; clear hd
      have hc1 := firstD k hk _ HLw.out
      have hBi := HI.out.size
      have HV := Lib.hid (show dvOf (48 + (d : Int)) = (d : Int) from by have := (dch_kv 0 d (by omega) hd10).2; simpa [dch, first] using this)
      have hfk := first_le k
      have hw1 : IntKind.i32.wrap (d : Int) = (d : Int) := by rw [IntKind.wrap_i32]; omega
      have hw2 : IntKind.i32.wrap ((first k : Int) + (d : Int)) = (first k : Int) + (d : Int) := by rw [IntKind.wrap_i32]; omega
      go_wp2_with fail
      obtain ⟨W, hW⟩ : ∃ W, W = wr.iterAt w1.heap.size (sb (flat (chs 0 (dg n)))) (p.length + (dch 0 d).bs.length) := ⟨_, rfl⟩
      rw [← hW] at HIB HI HLw hc1 hBi ⊢
      clear hW hnx
      have hx0 : 0 ≤ (first k : Int) + (d : Int) := by omega
      have hx1 : (first k : Int) + (d : Int) ≤ 1114111 := by omega
      have hx2 : (flat (chs k done)).length ≤ 1000000 := by omega
      have hx3 : w.heap.size ≤ W.heap.size := Nat.le_of_lt hBi
      go_region_with (first
        | (go_at_call 66; refine (digit_i (48 + (d : Int)) (d : Int) _ ?_ (by omega) (by omega) HV.out).mono ?_; exact HLw.out.same rfl; rintro e w' ⟨rfl, rfl⟩)
        | (go_at_call 65; refine (writeRune_s w.heap.size w.heap.size (flat (chs k done)) ((first k : Int) + d) W _ ?_ HIB hx0 hx1 hx2 hx3).mono ?_; exact ⟨rfl, rfl, rfl, rfl⟩; rintro e w4 ⟨⟨v4, rfl⟩, H4, HB4, HK4⟩))
      all_goals go_wp2
      all_goals go_roundg (gk - 1)
      all_goals first
        | omega
        | (refine ⟨p ++ (dch 0 d).bs, done ++ [d], ds, by omega, by rw [HD.out]; simp, HR.out.next, ⟨HK4.out.iter HI.out.1 (by omega), HI.out.2.1, HI.out.2.2.trans HB4.out⟩, hB, ?_, ?_⟩
           · have e : flat (chs k (done ++ [d])) = flat (chs k done) ++ (dch k d).bs := by rw [chs, List.map_append, flat_append]; simp [chs, flat]
             rw [e, Lib.byteCells_append]
             refine Or.inr ?_
             have e2 : Lib.byteCells (dch k d).bs = Lib.runeCells ((first k : Int) + d) := by
               rw [dch, Lib.byteCells_encodeRune]; congr 1
             rw [e2]; exact H4.out
           · have e : flat (chs k (done ++ [d])) = flat (chs k done) ++ (dch k d).bs := by rw [chs, List.map_append, flat_append]; simp [chs, flat]
             have := dch_len_fin ⟨k, hk⟩ ⟨d, hd10⟩
             rw [e, List.length_append, List.length_append, List.length_singleton]
             simp only at this
             omega)

end Go.Proofs.YtmcmpjcijbeilaaGreatDoor.Ws
