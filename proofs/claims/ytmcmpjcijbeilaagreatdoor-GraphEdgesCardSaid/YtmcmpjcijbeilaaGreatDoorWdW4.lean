/-
  What is proved here: contracts of words.runs and words.Words: the words of a line, or that it is refused. Conditions: at most 300000 bytes.
-/
import Derived.Test.YtmcmpjcijbeilaaGreatDoorWdW3
namespace Go.Proofs.YtmcmpjcijbeilaaGreatDoor.Ws
open Go.RowKit Wd

def RuRel (w : World) (l : List UInt8) (cs : List Ch) (g : Nat) (v b : Value) (wr : World) : Prop :=
  ∃ (p q : List UInt8) (cur ds : List Ch) (L : List (List Ch)), ds.length = g ∧ Rng l p ds ∧ Itr w wr w.heap.size w.heap.size l p ∧ p = q ++ flat cur ∧
    ((cur = [] ∧ b = .int .i64 (-1)) ∨ (cur ≠ [] ∧ b = .int .i64 (q.length : Int))) ∧ Own wr w.heap.size v (L.map flat) ∧ L.length ≤ p.length ∧ wd [] cs = L ++ wd cur ds

set_option maxRecDepth 100000 in
set_option maxHeartbeats 2000000 in
theorem runs_any (l : List UInt8) (cs : List Ch) (w : World) (h : Rg l cs) (hl : l.length ≤ 300000) :
    Calls Tryz.prog 76 #[.string (sb l)] w fun e w' => ∃ v, e = .returned v ∧ Own w' w.heap.size v ((wd [] cs).map flat) ∧ Below w.heap.size w w' := by
  have HR := Lib.hid (Rng.start l cs h); clear h
  have hsz := sb_size l
  go_enter Tryz.func76, Tryz.ntmps76
  go_wp2
  go_loopg [3, 4] cs.length (fun g v b wr => RuRel w l cs g v b wr)
  case atStart => exact ⟨[], [], [], cs, [], rfl, HR.out, Itr.start (Below.refl _ w) (Nat.le_refl _) l, rfl, Or.inl ⟨rfl, rfl⟩, Own.none_ _ _, Nat.le_refl _, rfl⟩
  case round =>
    clear HR
    obtain ⟨p, q, cur, ds, L, hg, hr, hi, hp, hcur, ho, hL, he⟩ := hrel
    have hpl1 : p.length ≤ q.length + (flat cur).length := by rw [hp, List.length_append]; omega
    have hpl2 : q.length + (flat cur).length ≤ p.length := by rw [hp, List.length_append]; omega
    have hlen := hr.len
    have hBs := hi.size
    rcases ds with _ | ⟨c, ds⟩
    · have hnx := fun ty => hr.fin (P := Tryz.prog) wr w.heap.size hi.1 ty
      have hge : p = l := hr.ge
      have hll : p.length ≤ l.length ∧ l.length ≤ p.length := by rw [hge]; omega
      have HR := Lib.hid hr; clear hr
      have HI := Lib.hid hi; clear hi
      have HP := Lib.hid hp; clear hp
      have HO := Lib.hid ho; clear ho
      have HE := Lib.hid he; clear he
      rcases hcur with ⟨hc, rfl⟩ | ⟨hc, rfl⟩
      · go_wp2
        go_ret
        refine ⟨_, rfl, ?_, HI.out.2.2⟩
        rw [HE.out, hc, show wd [] [] = [] from rfl, List.append_nil]; exact HO.out
      · have hex : (sb l).extract q.length (sb l).size = sb (flat cur) := by
          rw [hsz, show l.length = p.length by omega]; exact cut_mid' l p q (flat cur) [] HR.out HP.out
        have HX := Lib.hid hex; clear hex
        have HC0 := Lib.hid hc; clear hc
        go_wp2_with fail
        all_goals (try (exfalso; omega))
        refine (clone_any _ (flat cur) HX.out _ (by omega)).mono ?_
        rintro e w1 ⟨rfl, hb1⟩
        have HO1 := Lib.hid (HO.out.below hb1)
        have HI1 := Lib.hid (HI.out.below hb1 (Nat.le_of_lt hBs)); clear hb1
        have hsz1 := HI1.out.size
        have hal : Below w1.heap.size w1 (w1.alloc (.cells #[.string (sb (flat cur))] 9)) := (Below.refl _ _).alloc (Nat.le_refl _) _
        have HO2 := Lib.hid (HO1.out.below hal)
        have HI2 := Lib.hid (HI1.out.below hal (Nat.le_of_lt hsz1)); clear hal
        have hcell : (w1.alloc (.cells #[.string (sb (flat cur))] 9)).cell? ⟨w1.heap.size, 0, none⟩ = some (.string (sb (flat cur))) := by
          rw [cell_of_row _ _ 0 _ 9 (0, 0) (heap_alloc_new w1 _)]; rfl
        have HC := Lib.hid hcell; clear hcell
        go_wp2_with (at_builtin; refine app_str rfl (.tmp 38) (.tmp 43) rfl w.heap.size _ (L.map flat) (flat cur) rfl HO2.out w1.heap.size rfl HC.out ?c1 ?c2 ?_)
        case c1 => rw [List.length_map]; omega
        case c2 => exact Nat.le_of_lt HI2.out.size
        intro v' w2 ho2 hg2
        have HI3 := Lib.hid (HI2.out.grown HO2.out hg2)
        have HO3 := Lib.hid ho2; clear ho2 hg2
        go_wp2
        go_ret
        refine ⟨_, rfl, ?_, HI3.out.2.2⟩
        rw [HE.out, show wd cur [] = [cur] by rw [wd, if_neg HC0.out], List.map_append]; exact HO3.out
    · have hnx := fun ty => hr.run (P := Tryz.prog) wr w.heap.size hi.1 ty
      have h1 := hr.lt
      have h2 := hr.rune
      have hpos := hr.pos
      have hg' : ds.length + 1 = gk := by simpa using hg
      have HO := Lib.hid (ho.iter hi.1 (p.length + c.bs.length)); clear ho
      have HR := Lib.hid hr; clear hr hg
      have HI := Lib.hid (hi.next c.bs); clear hi
      have HP := Lib.hid hp; clear hp
      have HE := Lib.hid he; clear he
      have hBi : w.heap.size < (wr.iterAt w.heap.size (sb l) (p.length + c.bs.length)).heap.size := HI.out.size
      have hbl : ∀ (b : Bool), Wd.blank c = b → (c.r == 32 || c.r == 9 || c.r == 160) = b := fun b hb => hb
      cases hb : Wd.blank c with
      | true =>
        have HB := Lib.hid (hbl true hb); clear hbl
        have HBL := Lib.hid hb; clear hb
        rcases hcur with ⟨hc, rfl⟩ | ⟨hc, rfl⟩
        · have HC0 := Lib.hid hc; clear hc
          go_wp2_with fail
          refine (isBlank_any c.r _ h2).mono ?_
          rw [HB.out]
          rintro e w1 ⟨rfl, rfl⟩
          go_wp2
          go_roundg (gk - 1)
          case measure => omega
          case rel =>
            refine ⟨p ++ c.bs, p ++ c.bs, [], ds, L, by omega, HR.out.next, HI.out, by simp [flat], Or.inl ⟨rfl, rfl⟩, HO.out, by rw [List.length_append]; omega, ?_⟩
            rw [HE.out, wd, if_pos HBL.out, if_pos HC0.out]
        · have HC0 := Lib.hid hc; clear hc
          have hex : (sb l).extract q.length p.length = sb (flat cur) := cut_mid' l p q (flat cur) _ HR.out HP.out
          have HX := Lib.hid hex; clear hex
          go_wp2_with fail
          refine (isBlank_any c.r _ h2).mono ?_
          rw [HB.out]
          rintro e w1 ⟨rfl, rfl⟩
          go_wp2_with fail
          all_goals (try (exfalso; omega))
          refine (clone_any _ (flat cur) HX.out _ (by omega)).mono ?_
          rintro e w1 ⟨rfl, hb1⟩
          have HO1 := Lib.hid (HO.out.below hb1)
          have HI1 := Lib.hid (HI.out.below hb1 (Nat.le_of_lt hBi)); clear hb1
          have hsz1 := HI1.out.size
          have hal : Below w1.heap.size w1 (w1.alloc (.cells #[.string (sb (flat cur))] 9)) := (Below.refl _ _).alloc (Nat.le_refl _) _
          have HO2 := Lib.hid (HO1.out.below hal)
          have HI2 := Lib.hid (HI1.out.below hal (Nat.le_of_lt hsz1)); clear hal
          have hcell : (w1.alloc (.cells #[.string (sb (flat cur))] 9)).cell? ⟨w1.heap.size, 0, none⟩ = some (.string (sb (flat cur))) := by
            rw [cell_of_row _ _ 0 _ 9 (0, 0) (heap_alloc_new w1 _)]; rfl
          have HC := Lib.hid hcell; clear hcell
          go_wp2_with (at_builtin; refine app_str rfl (.tmp 21) (.tmp 27) rfl w.heap.size _ (L.map flat) (flat cur) rfl HO2.out w1.heap.size rfl HC.out ?c1 ?c2 ?_)
          case c1 => rw [List.length_map]; omega
          case c2 => exact Nat.le_of_lt HI2.out.size
          intro v' w2 ho2 hg2
          have HI3 := Lib.hid (HI2.out.grown HO2.out hg2)
          have HO3 := Lib.hid ho2; clear ho2 hg2
          go_wp2
          go_roundg (gk - 1)
          case measure => omega
          case rel =>
            refine ⟨p ++ c.bs, p ++ c.bs, [], ds, L ++ [cur], by omega, HR.out.next, HI3.out, by simp [flat], Or.inl ⟨rfl, rfl⟩, by rw [List.map_append]; exact HO3.out, by simp; omega, ?_⟩
            rw [HE.out, wd, if_pos HBL.out, if_neg HC0.out]; simp
      | false =>
        have HB := Lib.hid (hbl false hb); clear hbl
        have HBL := Lib.hid hb; clear hb
        rcases hcur with ⟨hc, rfl⟩ | ⟨hc, rfl⟩
        · have HC0 := Lib.hid hc; clear hc
          go_wp2_with fail
          refine (isBlank_any c.r _ h2).mono ?_
          rw [HB.out]
          rintro e w1 ⟨rfl, rfl⟩
          go_wp2
          go_roundg (gk - 1)
          case measure => omega
          case rel =>
            refine ⟨p ++ c.bs, p, [c], ds, L, by omega, HR.out.next, HI.out, by simp [flat], Or.inr ⟨by simp, rfl⟩, HO.out, by rw [List.length_append]; omega, ?_⟩
            rw [HE.out, wd, if_neg (by rw [HBL.out]; simp), HC0.out]; rfl
        · have HC0 := Lib.hid hc; clear hc
          go_wp2_with fail
          refine (isBlank_any c.r _ h2).mono ?_
          rw [HB.out]
          rintro e w1 ⟨rfl, rfl⟩
          go_wp2
          go_roundg (gk - 1)
          case measure => omega
          case rel =>
            refine ⟨p ++ c.bs, q, cur ++ [c], ds, L, by omega, HR.out.next, HI.out, by rw [HP.out, flat_append]; simp [flat], Or.inr ⟨by simp, rfl⟩, HO.out, by rw [List.length_append]; omega, ?_⟩
            rw [HE.out, wd, if_neg (by rw [HBL.out]; simp)]

theorem flat_tw_len (cs : List Ch) : (flat (tw cs)).length ≤ (flat cs).length := by
  induction cs with
  | nil => simp [tw]
  | cons c cs ih =>
    by_cases h : c.r = 35
    · simp [tw, h, flat]
    · rw [show tw (c :: cs) = c :: tw cs by simp [tw, h], flat_cons, flat_cons, List.length_append, List.length_append]; omega

set_option maxRecDepth 100000 in
set_option maxHeartbeats 1000000 in
theorem words_any (l : List UInt8) (cs : List Ch) (w : World) (h : Rg l cs) (hl : l.length ≤ 300000) :
    Calls Tryz.prog 54 #[.string (sb l)] w fun e w' => ∃ v, e = .returned (.tuple #[v, .int .i64 (wordsOf cs).2]) ∧ Own w' w.heap.size v (wordsOf cs).1 ∧ Below w.heap.size w w' := by
  have hl2 : (flat (tw cs)).length ≤ l.length := by rw [rg_flat cs l h]; exact flat_tw_len cs
  have HG := Lib.hid h; clear h
  go_enter Tryz.func54, Tryz.ntmps54
  go_wp2_with fail
  refine (withoutRemark_any l cs _ HG.out (by omega)).mono ?_
  rintro e w1 ⟨rfl, hb1⟩
  have HB1 := Lib.hid hb1; clear hb1
  go_wp2_with fail
  refine (mayBeSaid_any _ (tw cs) _ (rg_tw cs l HG.out).1 (by omega)).mono ?_
  cases hok : (tw cs).all okC with
  | false =>
    rintro e w2 ⟨rfl, hb2⟩
    have HB2 := Lib.hid (below_trans HB1.out hb2); clear hb2
    have HK := Lib.hid hok; clear hok
    go_wp2
    go_ret2
    have e0 : wordsOf cs = ([], 30) := by unfold wordsOf; rw [HK.out]; rfl
    rw [e0]
    exact ⟨_, rfl, Own.none_ _ _, HB2.out⟩
  | true =>
    rintro e w2 ⟨rfl, hb2⟩
    have HB2 := Lib.hid (below_trans HB1.out hb2); clear hb2
    have HK := Lib.hid hok; clear hok
    go_wp2_with fail
    refine (runs_any _ (tw cs) _ (rg_tw cs l HG.out).1 (by omega)).mono ?_
    rintro e w3 ⟨v, rfl, ho, hb3⟩
    have hs := HB2.out.size
    have HO := Lib.hid ho; clear ho
    have HB3 := Lib.hid (below_trans HB2.out hb3); clear hb3
    go_wp2
    go_ret2
    have e0 : wordsOf cs = ((wd [] (tw cs)).map flat, 0) := by unfold wordsOf; rw [HK.out]; rfl
    rw [e0]
    refine ⟨_, rfl, ?_, HB3.out⟩
    obtain ⟨h0, h1 | ⟨g, cap, cur, h1, h2, h3, h4⟩⟩ := HO.out
    · exact ⟨h0, Or.inl h1⟩
    · exact ⟨h0, Or.inr ⟨g, cap, cur, h1, by omega, h3, h4⟩⟩

end Go.Proofs.YtmcmpjcijbeilaaGreatDoor.Ws
