/-
  What is proved here: the contract of the document's own Lines: the lines of a text. Condition: at most 300000 bytes.
-/
import Derived.Test.YtmcmpjcijbeilaaGreatDoorWdW1
namespace Go.Proofs.YtmcmpjcijbeilaaGreatDoor.Ws
open Go.RowKit Wd

theorem sb_at (l : List UInt8) (k : Nat) (b : UInt8) (h : l[k]? = some b) : ∃ h' : k < (sb l).size, (sb l)[k]'h' = b := by
  obtain ⟨h1, h2⟩ := List.getElem?_eq_some_iff.1 h
  refine ⟨by rw [sb_size]; exact h1, ?_⟩
  show (sb l).data[k] = b
  simp only [sb, List.getElem_toArray]; exact h2

/- The bounds from a on: up to k stands cur, behind it rest. -/
structure Cut (l : List UInt8) (a k : Nat) (cur rest : List UInt8) : Prop where
  ex : ∃ q : List UInt8, l = q ++ cur ++ rest ∧ q.length = a ∧ a + cur.length = k
theorem Cut.start (l : List UInt8) : Cut l 0 0 [] l := ⟨[], by simp, rfl, rfl⟩
theorem Cut.len {l : List UInt8} {a k : Nat} {cur rest : List UInt8} (h : Cut l a k cur rest) : k + rest.length ≤ l.length ∧ l.length ≤ k + rest.length ∧ a + cur.length ≤ k ∧ k ≤ a + cur.length := by
  obtain ⟨q, h1, h2, h3⟩ := h.ex
  have := congrArg List.length h1
  simp only [List.length_append] at this
  omega
theorem Cut.byte {l : List UInt8} {a k : Nat} {cur rest : List UInt8} {b : UInt8} (h : Cut l a k cur (b :: rest)) : ∃ h' : k < (sb l).size, (sb l)[k]'h' = b := by
  obtain ⟨q, h1, h2, h3⟩ := h.ex
  apply sb_at
  rw [h1, List.getElem?_append_right (by simp; omega), show k - (q ++ cur).length = 0 by simp; omega]
  rfl
theorem Cut.last {l : List UInt8} {a k : Nat} {t rest : List UInt8} {b : UInt8} (h : Cut l a (k + 1) (t ++ [b]) rest) : ∃ h' : k < (sb l).size, (sb l)[k]'h' = b := by
  obtain ⟨q, h1, h2, h3⟩ := h.ex
  apply sb_at
  simp only [List.length_append, List.length_singleton] at h3
  rw [h1, List.append_assoc, List.append_assoc, List.getElem?_append_right (by omega), List.getElem?_append_right (by omega), show k - q.length - t.length = 0 by omega]
  rfl
theorem Cut.text {l : List UInt8} {a k : Nat} {cur rest : List UInt8} (h : Cut l a k cur rest) : (sb l).extract a k = sb cur := by
  obtain ⟨q, h1, h2, h3⟩ := h.ex
  have := cut_mid0 q cur rest
  rw [← h1] at this
  rw [← this, List.length_append]; congr 1 <;> omega
where
  cut_mid0 (q cur r : List UInt8) : (sb (q ++ cur ++ r)).extract q.length (q ++ cur).length = sb cur := by
    rw [sb_extract]; congr 1; simp
theorem Cut.text1 {l : List UInt8} {a k : Nat} {t rest : List UInt8} {b : UInt8} (h : Cut l a (k + 1) (t ++ [b]) rest) : (sb l).extract a k = sb t := by
  obtain ⟨q, h1, h2, h3⟩ := h.ex
  simp only [List.length_append, List.length_singleton] at h3
  exact Cut.text (rest := b :: rest) ⟨q, by rw [h1]; simp, h2, by omega⟩
theorem Cut.more {l : List UInt8} {a k : Nat} {cur rest : List UInt8} {b : UInt8} (h : Cut l a k cur (b :: rest)) : Cut l a (k + 1) (cur ++ [b]) rest := by
  obtain ⟨q, h1, h2, h3⟩ := h.ex
  exact ⟨q, by rw [h1]; simp, h2, by simp; omega⟩
theorem Cut.fresh {l : List UInt8} {a k : Nat} {cur rest : List UInt8} {b : UInt8} (h : Cut l a k cur (b :: rest)) : Cut l (k + 1) (k + 1) [] rest := by
  obtain ⟨q, h1, h2, h3⟩ := h.ex
  exact ⟨q ++ cur ++ [b], by rw [h1]; simp, by simp; omega, by simp⟩

def RlRel (w : World) (l : List UInt8) (g : Nat) (v f i : Value) (wr : World) : Prop :=
  ∃ L : List (List UInt8), Own wr w.heap.size v L ∧ Below w.heap.size w wr ∧
    ((∃ (a k : Nat) (cur rest : List UInt8), Cut l a k cur rest ∧ rest.length + 1 = g ∧ f = .int .i64 (a : Int) ∧ i = .int .i64 (k : Int) ∧ L.length ≤ a ∧ ln [] l = L ++ ln cur rest) ∨
     (g = 0 ∧ i = .int .i64 ((l.length + 1 : Nat) : Int) ∧ ln [] l = L))

set_option maxRecDepth 100000 in
set_option maxHeartbeats 4000000 in
theorem rlines_any (l : List UInt8) (w : World) (hl : l.length ≤ 300000) :
    Calls Tryz.prog 39 #[.string (sb l)] w fun e w' => ∃ v, e = .returned v ∧ Own w' w.heap.size v (ln [] l) ∧ Below w.heap.size w w' := by
  obtain ⟨n, hn⟩ : ∃ n, n = l.length := ⟨_, rfl⟩
  have hsz : (sb l).size = n := by rw [sb_size, hn]
  go_enter Tryz.func39, Tryz.ntmps39
  go_wp2
  go_loopg [3, 4, 5] (l.length + 1) (fun g v f i wr => RlRel w l g v f i wr)
  case atStart => exact ⟨[], Own.none_ _ _, Below.refl _ _, Or.inl ⟨0, 0, [], l, Cut.start l, rfl, rfl, rfl, Nat.le_refl _, rfl⟩⟩
  case round =>
    obtain ⟨L, ho, hb, hcase⟩ := hrel
    have hBs := hb.size
    have HO := Lib.hid ho; clear ho
    have HB := Lib.hid hb; clear hb
    rcases hcase with ⟨a, k, cur, rest, hcut, hg, rfl, rfl, hL, he⟩ | ⟨hg, rfl, he⟩
    · obtain ⟨hk1, hk2, hk3, hk4⟩ := hcut.len
      have HE := Lib.hid he; clear he
      rcases rest with _ | ⟨b, rest⟩
      · have HC := Lib.hid hcut; clear hcut
        simp only [List.length_nil] at hk1 hk2 hg
        obtain rfl : n = k := by omega
        have HN := Lib.hid hn; clear hn
        rcases snoc_cases cur with hc | ⟨t, x, hc⟩
        · have hc0 : cur.length ≤ 0 := by rw [hc]; simp
          have HCU := Lib.hid hc; clear hc
          obtain rfl : n = a := by omega
          go_wp2
          all_goals (try (exfalso; omega))
          go_roundg (gk - 1)
          case measure => omega
          case rel => exact ⟨L, HO.out, HB.out, Or.inr ⟨by omega, by rw [← HN.out]; go_num, by rw [HE.out, HCU.out, show ln [] [] = [] from rfl, List.append_nil]⟩⟩
        · subst hc
          simp only [List.length_append, List.length_singleton] at hk3 hk4
          obtain ⟨k, rfl⟩ : ∃ j, n = j + 1 := ⟨n - 1, by omega⟩
          by_cases hx : x = 13
          · subst hx
            obtain ⟨hlt, hby⟩ := HC.out.last
            obtain ⟨T, hT⟩ : ∃ T, T = trim (t ++ [13]) := ⟨_, rfl⟩
            have HT := Lib.hid hT; clear hT
            have HX := Lib.hid (show (sb l).extract a k = sb T from by rw [HC.out.text1, HT.out, trim_13]); 
            have hal : Below wr.heap.size wr (wr.alloc (.cells #[.string (sb T)] 9)) := (Below.refl _ _).alloc (Nat.le_refl _) _
            have HO2 := Lib.hid (HO.out.below hal)
            have HB2 := Lib.hid (below_trans HB.out hal); clear hal
            have hcell : (wr.alloc (.cells #[.string (sb T)] 9)).cell? ⟨wr.heap.size, 0, none⟩ = some (.string (sb T)) := by
              rw [cell_of_row _ _ 0 _ 9 (0, 0) (heap_alloc_new wr _)]; rfl
            have HCL := Lib.hid hcell; clear hcell
            have hx := HX.out
            go_wp2_with (at_builtin; refine app_str rfl (.tmp 47) (.tmp 52) rfl w.heap.size _ L T rfl HO2.out wr.heap.size rfl HCL.out ?c1 ?c2 ?_)
            all_goals (try (exfalso; omega))
            case c1 => omega
            case c2 => exact Nat.le_of_lt_succ (Nat.lt_succ_of_le HB2.out.size)
            intro v' w2 ho2 hg2
            have HB3 := Lib.hid (Below.grown HB2.out hg2 HB2.out.size fun g e => (own_lt HO2.out g e).1)
            have HO3 := Lib.hid ho2; clear ho2 hg2
            go_wp2
            go_roundg (gk - 1)
            case measure => omega
            case rel =>
              exact ⟨L ++ [T], HO3.out, HB3.out, Or.inr ⟨by omega, by rw [← HN.out]; go_num, by rw [HE.out, ln, if_neg (by simp), HT.out]⟩⟩
          · obtain ⟨T, hT⟩ : ∃ T, T = trim (t ++ [x]) := ⟨_, rfl⟩
            have HT := Lib.hid hT; clear hT
            have hby2 : x.toNat ≠ 13 := fun e => hx (by rw [← UInt8.toNat_inj]; exact e)
            have HNX := Lib.hid hx; clear hx
            obtain ⟨hlt, hby⟩ := HC.out.last
            have HX := Lib.hid (show (sb l).extract a (k + 1) = sb T from by rw [HC.out.text, HT.out, trim_other _ _ HNX.out]); 
            have hal : Below wr.heap.size wr (wr.alloc (.cells #[.string (sb T)] 9)) := (Below.refl _ _).alloc (Nat.le_refl _) _
            have HO2 := Lib.hid (HO.out.below hal)
            have HB2 := Lib.hid (below_trans HB.out hal); clear hal
            have hcell : (wr.alloc (.cells #[.string (sb T)] 9)).cell? ⟨wr.heap.size, 0, none⟩ = some (.string (sb T)) := by
              rw [cell_of_row _ _ 0 _ 9 (0, 0) (heap_alloc_new wr _)]; rfl
            have HCL := Lib.hid hcell; clear hcell
            have hx := HX.out
            go_wp2_with (at_builtin; refine app_str rfl (.tmp 47) (.tmp 52) rfl w.heap.size _ L T rfl HO2.out wr.heap.size rfl HCL.out ?c1 ?c2 ?_)
            all_goals (try (exfalso; omega))
            case c1 => omega
            case c2 => exact Nat.le_of_lt_succ (Nat.lt_succ_of_le HB2.out.size)
            intro v' w2 ho2 hg2
            have HB3 := Lib.hid (Below.grown HB2.out hg2 HB2.out.size fun g e => (own_lt HO2.out g e).1)
            have HO3 := Lib.hid ho2; clear ho2 hg2
            go_wp2
            go_roundg (gk - 1)
            case measure => omega
            case rel =>
              exact ⟨L ++ [T], HO3.out, HB3.out, Or.inr ⟨by omega, by rw [← HN.out]; go_num, by rw [HE.out, ln, if_neg (by simp), HT.out]⟩⟩
      · have HC := Lib.hid hcut; clear hcut
        simp only [List.length_cons] at hk1 hk2 hg
        obtain ⟨m, hm⟩ : ∃ m, rest.length = m := ⟨_, rfl⟩
        have HM := Lib.hid hm
        obtain rfl : n = k + 1 + m := by omega
        rw [hm] at hg; clear hm
        have HN := Lib.hid hn; clear hn
        obtain ⟨hlt, hby⟩ := HC.out.byte
        by_cases hb10 : b = 10
        · subst hb10
          rcases snoc_cases cur with hc | ⟨t, x, hc⟩
          · have hc0 : cur.length ≤ 0 := by rw [hc]; simp
            obtain rfl : k = a := by omega
            have HCU := Lib.hid hc; clear hc
            have HX := Lib.hid (show trim cur = [] from by rw [HCU.out, trim_nil]); 
            have hal : Below wr.heap.size wr (wr.alloc (.cells #[.string ByteArray.empty] 9)) := (Below.refl _ _).alloc (Nat.le_refl _) _
            have HO2 := Lib.hid (HO.out.below hal)
            have HB2 := Lib.hid (below_trans HB.out hal); clear hal
            have hcell : (wr.alloc (.cells #[.string ByteArray.empty] 9)).cell? ⟨wr.heap.size, 0, none⟩ = some (.string (sb [])) := by
              rw [cell_of_row _ _ 0 _ 9 (0, 0) (heap_alloc_new wr _)]; rfl
            have HCL := Lib.hid hcell; clear hcell
            go_wp2_with (at_builtin; refine app_str rfl (.tmp 47) (.tmp 52) rfl w.heap.size _ L [] rfl HO2.out wr.heap.size rfl HCL.out ?c1 ?c2 ?_)
            all_goals (try (exfalso; omega))
            case c1 => omega
            case c2 => exact Nat.le_of_lt_succ (Nat.lt_succ_of_le HB2.out.size)
            intro v' w2 ho2 hg2
            have HB3 := Lib.hid (Below.grown HB2.out hg2 HB2.out.size fun g e => (own_lt HO2.out g e).1)
            have HO3 := Lib.hid ho2; clear ho2 hg2
            go_wp2
            go_roundg (gk - 1)
            case measure => omega
            case rel =>
              exact ⟨L ++ [[]], HO3.out, HB3.out, Or.inl ⟨k + 1, k + 1, [], rest, HC.out.fresh, by have := HM.out; omega, by go_num, by go_num, by simp; omega, by rw [HE.out, ln, if_pos rfl, HX.out]; simp⟩⟩
          · subst hc
            simp only [List.length_append, List.length_singleton] at hk3 hk4
            obtain ⟨k, rfl⟩ : ∃ j, k = j + 1 := ⟨k - 1, by omega⟩
            by_cases hx : x = 13
            · subst hx
              obtain ⟨hlt2, hby2⟩ := HC.out.last
              obtain ⟨T, hT⟩ : ∃ T, T = trim (t ++ [13]) := ⟨_, rfl⟩
              have HT := Lib.hid hT; clear hT
              have HX := Lib.hid (show (sb l).extract a k = sb T from by rw [HC.out.text1, HT.out, trim_13]); 
              have hal : Below wr.heap.size wr (wr.alloc (.cells #[.string (sb T)] 9)) := (Below.refl _ _).alloc (Nat.le_refl _) _
              have HO2 := Lib.hid (HO.out.below hal)
              have HB2 := Lib.hid (below_trans HB.out hal); clear hal
              have hcell : (wr.alloc (.cells #[.string (sb T)] 9)).cell? ⟨wr.heap.size, 0, none⟩ = some (.string (sb T)) := by
                rw [cell_of_row _ _ 0 _ 9 (0, 0) (heap_alloc_new wr _)]; rfl
              have HCL := Lib.hid hcell; clear hcell
              have hx := HX.out
              go_wp2_with (at_builtin; refine app_str rfl (.tmp 47) (.tmp 52) rfl w.heap.size _ L T rfl HO2.out wr.heap.size rfl HCL.out ?c1 ?c2 ?_)
              all_goals (try (exfalso; omega))
              case c1 => omega
              case c2 => exact Nat.le_of_lt_succ (Nat.lt_succ_of_le HB2.out.size)
              intro v' w2 ho2 hg2
              have HB3 := Lib.hid (Below.grown HB2.out hg2 HB2.out.size fun g e => (own_lt HO2.out g e).1)
              have HO3 := Lib.hid ho2; clear ho2 hg2
              go_wp2
              go_roundg (gk - 1)
              case measure => omega
              case rel =>
                exact ⟨L ++ [T], HO3.out, HB3.out, Or.inl ⟨k + 1 + 1, k + 1 + 1, [], rest, HC.out.fresh, by have := HM.out; omega, by go_num, by go_num, by simp; omega, by rw [HE.out, ln, if_pos rfl, HT.out]; simp⟩⟩
            · have hby3 : x.toNat ≠ 13 := fun e => hx (by rw [← UInt8.toNat_inj]; exact e)
              have HNX := Lib.hid hx; clear hx
              obtain ⟨hlt2, hby2⟩ := HC.out.last
              obtain ⟨T, hT⟩ : ∃ T, T = trim (t ++ [x]) := ⟨_, rfl⟩
              have HT := Lib.hid hT; clear hT
              have HX := Lib.hid (show (sb l).extract a (k + 1) = sb T from by rw [HC.out.text, HT.out, trim_other _ _ HNX.out]); 
              have hal : Below wr.heap.size wr (wr.alloc (.cells #[.string (sb T)] 9)) := (Below.refl _ _).alloc (Nat.le_refl _) _
              have HO2 := Lib.hid (HO.out.below hal)
              have HB2 := Lib.hid (below_trans HB.out hal); clear hal
              have hcell : (wr.alloc (.cells #[.string (sb T)] 9)).cell? ⟨wr.heap.size, 0, none⟩ = some (.string (sb T)) := by
                rw [cell_of_row _ _ 0 _ 9 (0, 0) (heap_alloc_new wr _)]; rfl
              have HCL := Lib.hid hcell; clear hcell
              have hx := HX.out
              go_wp2_with (at_builtin; refine app_str rfl (.tmp 47) (.tmp 52) rfl w.heap.size _ L T rfl HO2.out wr.heap.size rfl HCL.out ?c1 ?c2 ?_)
              all_goals (try (exfalso; omega))
              case c1 => omega
              case c2 => exact Nat.le_of_lt_succ (Nat.lt_succ_of_le HB2.out.size)
              intro v' w2 ho2 hg2
              have HB3 := Lib.hid (Below.grown HB2.out hg2 HB2.out.size fun g e => (own_lt HO2.out g e).1)
              have HO3 := Lib.hid ho2; clear ho2 hg2
              go_wp2
              go_roundg (gk - 1)
              case measure => omega
              case rel =>
                exact ⟨L ++ [T], HO3.out, HB3.out, Or.inl ⟨k + 1 + 1, k + 1 + 1, [], rest, HC.out.fresh, by have := HM.out; omega, by go_num, by go_num, by simp; omega, by rw [HE.out, ln, if_pos rfl, HT.out]; simp⟩⟩
        · have hby3 : b.toNat ≠ 10 := fun e => hb10 (by rw [← UInt8.toNat_inj]; exact e)
          have HNX := Lib.hid hb10; clear hb10
          go_wp2
          all_goals (try (exfalso; omega))
          go_roundg (gk - 1)
          case measure => omega
          case rel => exact ⟨L, HO.out, HB.out, Or.inl ⟨a, k + 1, cur ++ [b], rest, HC.out.more, by have := HM.out; omega, rfl, by go_num, hL, by rw [HE.out, ln, if_neg HNX.out]⟩⟩
    · have HE := Lib.hid he; clear he
      go_wp2
      all_goals (try (exfalso; omega))
      go_ret
      exact ⟨_, rfl, by rw [HE.out]; exact HO.out, HB.out⟩

end Go.Proofs.YtmcmpjcijbeilaaGreatDoor.Ws
