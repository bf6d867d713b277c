/-
  What is proved here: contracts of words.lineOf, words.Lines, words.runs, words.Words: the lines of a text, the words of a line. Conditions: at most 300000 bytes.
-/
import Derived.Test.YtmcmpjcijbeilaaGreatDoorWdW1
import Derived.Test.YtmcmpjcijbeilaaGreatDoorWdShelf
namespace Go.Proofs.YtmcmpjcijbeilaaGreatDoor.Ws
open Go.RowKit Wd

theorem clone_any (s : ByteArray) (l : List UInt8) (hs : s = sb l) (w : World) (hl : l.length ≤ 300000) :
    Calls Tryz.prog 72 #[.string s] w fun e w' => e = .returned (.string (sb l)) ∧ Below w.heap.size w w' := by
  subst hs
  have hsz := sb_size l
  go_enter Tryz.func72, Tryz.ntmps72
  go_wp2_with (go_at_call 103; refine (Tryz.stringslite_Clone _ _ ?_).mono ?_)
  · omega
  rintro e w1 ⟨rfl, hb⟩
  have HB := Lib.hid hb; clear hb
  go_wp2
  go_ret
  exact ⟨rfl, HB.out⟩

theorem lineOf_any (s : ByteArray) (l : List UInt8) (hs : s = sb l) (w : World) (hl : l.length ≤ 300000) :
    Calls Tryz.prog 53 #[.string s] w fun e w' => e = .returned (.string (sb (trim l))) ∧ Below w.heap.size w w' := by
  subst hs
  have hsz := sb_size l
  have ht := trim_len l
  go_enter Tryz.func53, Tryz.ntmps53
  go_wp2_with fail
  refine (Tryz.strings_TrimSuffix _ _ _ (by omega)).mono ?_
  rintro e w1 ⟨rfl, rfl⟩
  have HS := Lib.hid (show (⟨(Lib.trimSuffix (sb l).data.toList [13]).toArray⟩ : ByteArray) = sb (trim l) by rw [sb_data]; rfl)
  go_wp2_with fail
  refine (clone_any _ (trim l) HS.out _ (by omega)).mono ?_
  rintro e w1 ⟨rfl, hb⟩
  have HB := Lib.hid hb; clear hb
  go_wp2
  go_ret
  exact ⟨rfl, HB.out⟩

def LiRel (w : World) (l : List UInt8) (g : Nat) (v b : Value) (wr : World) : Prop :=
  ∃ (p q cur : List UInt8) (ds : List Ch) (L : List (List UInt8)), ds.length = g ∧ Rng l p ds ∧ Itr w wr w.heap.size w.heap.size l p ∧ p = q ++ cur ∧ b = .int .i64 (q.length : Int) ∧
    Own wr w.heap.size v L ∧ L.length ≤ p.length ∧ ln [] l = L ++ lnC cur ds

theorem cut_mid (q cur r : List UInt8) : (sb (q ++ cur ++ r)).extract q.length (q ++ cur).length = sb cur := by
  rw [sb_extract]; congr 1; simp
theorem cut_mid' (l p q cur : List UInt8) (ds : List Ch) (h : Rng l p ds) (e : p = q ++ cur) : (sb l).extract q.length p.length = sb cur := by
  rw [h.all, e]; exact cut_mid q cur _

set_option maxRecDepth 100000 in
set_option maxHeartbeats 2000000 in
theorem lines_any (l : List UInt8) (w : World) (hl : l.length ≤ 300000) :
    Calls Tryz.prog 37 #[.string (sb l)] w fun e w' => ∃ v, e = .returned v ∧ Own w' w.heap.size v (ln [] l) ∧ Below w.heap.size w w' := by
  obtain ⟨cs, h⟩ := rg_ex l
  have HE := Lib.hid (lnC_eq cs l [] h)
  have HR := Lib.hid (Rng.start l cs h); clear h
  have hsz := sb_size l
  go_enter Tryz.func37, Tryz.ntmps37
  go_wp2
  go_loopg [3, 4] cs.length (fun g v b wr => LiRel w l g v b wr)
  case atStart => exact ⟨[], [], [], cs, [], rfl, HR.out, Itr.start (Below.refl _ w) (Nat.le_refl _) l, rfl, rfl, Own.none_ _ _, Nat.le_refl _, by rw [HE.out]; rfl⟩
  case round =>
    clear HR HE
    obtain ⟨p, q, cur, ds, L, hg, hr, hi, hp, rfl, ho, hL, he⟩ := hrel
    have hpl1 : p.length ≤ q.length + cur.length := by rw [hp, List.length_append]; omega
    have hpl2 : q.length + cur.length ≤ p.length := by rw [hp, List.length_append]; omega
    have hlen := hr.len
    rcases ds with _ | ⟨c, ds⟩
    · have hnx := fun ty => hr.fin (P := Tryz.prog) wr w.heap.size hi.1 ty
      have hge : p = l := hr.ge
      have HR := Lib.hid hr; clear hr
      have hBs := hi.size
      have HI := Lib.hid hi; clear hi
      have HP := Lib.hid hp; clear hp
      have HO := Lib.hid ho; clear ho
      have HE := Lib.hid he; clear he
      have hll : p.length ≤ l.length ∧ l.length ≤ p.length := by rw [hge]; omega
      have hex : (sb l).extract q.length (sb l).size = sb cur := by
        rw [hsz, show l.length = p.length by omega]; exact cut_mid' l p q cur [] HR.out HP.out
      have HX := Lib.hid hex; clear hex
      by_cases hc : cur = []
      · have hc0 : cur.length = 0 := by rw [hc]; rfl
        go_wp2
        all_goals (try (exfalso; omega))
        go_ret
        refine ⟨_, rfl, ?_, HI.out.2.2⟩
        rw [HE.out, hc, show lnC [] [] = [] from rfl, List.append_nil]; exact HO.out
      · have hc0 : 1 ≤ cur.length := by cases cur with | nil => exact absurd rfl hc | cons a t => simp
        go_wp2_with fail
        all_goals (try (exfalso; omega))
        refine (lineOf_any _ cur HX.out _ (by omega)).mono ?_
        rintro e w1 ⟨rfl, hb1⟩
        have HO1 := Lib.hid (HO.out.below hb1)
        have HI1 := Lib.hid (HI.out.below hb1 (Nat.le_of_lt hBs)); clear hb1
        have hsz1 := HI1.out.size
        have hal : Below w1.heap.size w1 (w1.alloc (.cells #[.string (sb (trim cur))] 9)) := (Below.refl _ _).alloc (Nat.le_refl _) _
        have HO2 := Lib.hid (HO1.out.below hal)
        have HI2 := Lib.hid (HI1.out.below hal (Nat.le_of_lt hsz1)); clear hal
        have hcell : (w1.alloc (.cells #[.string (sb (trim cur))] 9)).cell? ⟨w1.heap.size, 0, none⟩ = some (.string (sb (trim cur))) := by
          rw [cell_of_row _ _ 0 _ 9 (0, 0) (heap_alloc_new w1 _)]; rfl
        have HC := Lib.hid hcell; clear hcell
        go_wp2_with (at_builtin; refine app_str rfl (.tmp 29) (.tmp 34) rfl w.heap.size _ L (trim cur) rfl HO2.out w1.heap.size rfl HC.out ?c1 ?c2 ?_)
        case c1 => omega
        case c2 => exact Nat.le_of_lt HI2.out.size
        intro v' w2 ho2 hg2
        have HI3 := Lib.hid (HI2.out.grown HO2.out hg2)
        have HO3 := Lib.hid ho2; clear ho2 hg2
        go_wp2
        go_ret
        refine ⟨_, rfl, ?_, HI3.out.2.2⟩
        rw [HE.out, show lnC cur [] = [trim cur] by rw [lnC, if_neg hc]]; exact HO3.out
    · have hnx := fun ty => hr.run (P := Tryz.prog) wr w.heap.size hi.1 ty
      have h1 := hr.lt
      have h2 := hr.rune
      have hpos := hr.pos
      have hg' : ds.length + 1 = gk := by simpa using hg
      have hBs := hi.size
      have HO := Lib.hid (ho.iter hi.1 (p.length + c.bs.length)); clear ho
      have HR := Lib.hid hr; clear hr hg
      have HI := Lib.hid (hi.next c.bs); clear hi
      have HP := Lib.hid hp; clear hp
      have HE := Lib.hid he; clear he
      have hBi : w.heap.size < (wr.iterAt w.heap.size (sb l) (p.length + c.bs.length)).heap.size := HI.out.size
      by_cases h10 : c.r = 10
      · have hex : (sb l).extract q.length p.length = sb cur := cut_mid' l p q cur _ HR.out HP.out
        have HX := Lib.hid hex; clear hex
        have HN := Lib.hid (show c.bs.length = 1 by rw [rg_ascii c ds _ HR.out.rg (by omega)]; rfl)
        go_wp2_with fail
        all_goals (try (exfalso; omega))
        refine (lineOf_any _ cur HX.out _ (by omega)).mono ?_
        rintro e w1 ⟨rfl, hb1⟩
        have HO1 := Lib.hid (HO.out.below hb1)
        have HI1 := Lib.hid (HI.out.below hb1 (Nat.le_of_lt hBi)); clear hb1
        have hsz1 := HI1.out.size
        have hal : Below w1.heap.size w1 (w1.alloc (.cells #[.string (sb (trim cur))] 9)) := (Below.refl _ _).alloc (Nat.le_refl _) _
        have HO2 := Lib.hid (HO1.out.below hal)
        have HI2 := Lib.hid (HI1.out.below hal (Nat.le_of_lt hsz1)); clear hal
        have hcell : (w1.alloc (.cells #[.string (sb (trim cur))] 9)).cell? ⟨w1.heap.size, 0, none⟩ = some (.string (sb (trim cur))) := by
          rw [cell_of_row _ _ 0 _ 9 (0, 0) (heap_alloc_new w1 _)]; rfl
        have HC := Lib.hid hcell; clear hcell
        go_wp2_with (at_builtin; refine app_str rfl (.tmp 15) (.tmp 21) rfl w.heap.size _ L (trim cur) rfl HO2.out w1.heap.size rfl HC.out ?c1 ?c2 ?_)
        case c1 => omega
        case c2 => exact Nat.le_of_lt HI2.out.size
        intro v' w2 ho2 hg2
        have HI3 := Lib.hid (HI2.out.grown HO2.out hg2)
        have HO3 := Lib.hid ho2; clear ho2 hg2
        go_wp2
        go_roundg (gk - 1)
        case measure => omega
        case rel =>
          refine ⟨p ++ c.bs, p ++ c.bs, [], ds, L ++ [trim cur], by omega, HR.out.next, HI3.out, by simp, ?_, HO3.out, by simp; omega, ?_⟩
          · rw [List.length_append, HN.out]; go_num
          · rw [HE.out, lnC, if_pos h10]; simp
      · go_wp2
        go_roundg (gk - 1)
        case measure => omega
        case rel =>
          refine ⟨p ++ c.bs, q, cur ++ c.bs, ds, L, by omega, HR.out.next, HI.out, by rw [HP.out]; simp, rfl, HO.out, by rw [List.length_append]; omega, ?_⟩
          rw [HE.out, lnC, if_neg h10]

end Go.Proofs.YtmcmpjcijbeilaaGreatDoor.Ws
