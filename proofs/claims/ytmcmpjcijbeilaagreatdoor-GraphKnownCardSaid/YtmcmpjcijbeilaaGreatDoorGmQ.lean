/-
  What is proved here: the texts GrPar of this seat, laid together (each says itself what it proves; no condition beyond theirs).
-/
import Derived.Test.YtmcmpjcijbeilaaGreatDoorGmH
import Derived.Test.YtmcmpjcijbeilaaGreatDoorGmK
import Derived.Test.YtmcmpjcijbeilaaGreatDoorGmP
import Derived.Deep.Cut
/-
  What is proved here: the law on Parse, walked. Conditions: what the program's start has laid down.
-/
namespace Go.Proofs.YtmcmpjcijbeilaaGreatDoor.Gr
open Go.RowKit Wd Ws

theorem order_max : Hid (OrderOK 8192) := Lib.hid (order_all 8192 (by decide))
/- What a Parse tells, in one form. -/
def GoodP : Nat × Option (Int × List Ed) → Int → List Ed → Nat → Int → Prop
  | (n, none), V, L, k, E => V = 0 ∧ L = [] ∧ k = n ∧ E = 41
  | (_, some (U, M)), V, L, k, E => V = U ∧ L.Perm M ∧ Rise L ∧ k = 0 ∧ E = 0
theorem GoodP.one {T : Nat × Option (Int × List Ed)} {V V' E E' : Int} {L L' : List Ed} {k k' : Nat} (h : GoodP T V L k E) (h' : GoodP T V' L' k' E') : V = V' ∧ L = L' ∧ k = k' ∧ E = E' := by
  obtain ⟨n, o⟩ := T
  cases o with
  | none =>
    obtain ⟨rfl, rfl, rfl, rfl⟩ := h
    obtain ⟨rfl, rfl, rfl, rfl⟩ := h'
    exact ⟨rfl, rfl, rfl, rfl⟩
  | some s =>
    obtain ⟨U, M⟩ := s
    obtain ⟨rfl, p, r, rfl, rfl⟩ := h
    obtain ⟨rfl, p', r', rfl, rfl⟩ := h'
    exact ⟨rfl, rise_one _ _ r r' (p.trans p'.symm), rfl, rfl⟩
theorem parse_form {B : Nat} {w' : World} {e : Ending} {T : Nat × Option (Int × List Ed)} (h : ParseRes B w' e T) :
    ∃ (V : Int) (A : Option Addr) (c : Nat) (L : List Ed) (n : Nat) (E : Int), e = .returned (.tuple #[.agg #[.int .i64 V, .slice A L.length c], .int .i64 (n : Int), .int .i64 E]) ∧ Hid (EAt w' A L) ∧ Hid (GoodP T V L n E) := by
  obtain ⟨n, o⟩ := T
  cases o with
  | none =>
    have he : e = .returned (.tuple #[.agg #[.int .i64 0, .slice none 0 0], .int .i64 (n : Int), .int .i64 41]) := h
    exact ⟨0, none, 0, [], n, 41, he, Lib.hid (EAt.nil _ _), Lib.hid ⟨rfl, rfl, rfl, rfl⟩⟩
  | some s =>
    obtain ⟨U, M⟩ := s
    obtain ⟨v, L, he, ho, hp, hr⟩ := h
    obtain ⟨A, c, rfl, hA, _⟩ := ho.out.form
    exact ⟨U, A, c, L, 0, 0, he, Lib.hid hA, Lib.hid ⟨rfl, hp, hr, rfl, rfl⟩⟩
theorem line_len {l x : List UInt8} (h : x ∈ ln [] l) : x.length ≤ l.length + 1 := by
  obtain ⟨k, hk⟩ := List.getElem?_of_mem h
  have h1 := lns_mem _ k x hk
  have h2 := ln_total l []
  simp only [List.length_nil] at h2; omega
/- Parse of a text that is not too long: one form. -/
theorem parse_hid (l : List UInt8) (w : World) (hl : l.length ≤ 99999) (hLd : Hid (Laid w)) (T : Nat × Option (Int × List Ed)) (hT : Hid (through 0 [] 0 (ln [] l) = T)) :
    Calls Tryz.prog 18 #[.string (sb l)] w fun e w' => (∃ (V : Int) (A : Option Addr) (c : Nat) (L : List Ed) (n : Nat) (E : Int), e = .returned (.tuple #[.agg #[.int .i64 V, .slice A L.length c], .int .i64 (n : Int), .int .i64 E]) ∧ Hid (EAt w' A L) ∧ Hid (GoodP T V L n E)) ∧ Hid (Below w.heap.size w w') :=
  (parse_any 8192 order_max l w (by omega) (Lib.hid fun x hx => by have := line_len hx; omega) hLd T hT (Lib.hid fun s hs => by
    obtain ⟨n, o⟩ := T
    simp only at hs
    subst hs
    exact (Sd.through _ Sd.nil hT.out).1.len)).mono fun _ _ ⟨h, hb⟩ => ⟨parse_form h, hb⟩
theorem rparse_hid (l : List UInt8) (w : World) (hl : l.length ≤ 99999) (T : Nat × Option (Int × List Ed)) (hT : Hid (through 0 [] 0 (ln [] l) = T)) :
    Calls Tryz.prog 19 #[.string (sb l)] w fun e w' => (∃ (V : Int) (A : Option Addr) (c : Nat) (L : List Ed) (n : Nat) (E : Int), e = .returned (.tuple #[.agg #[.int .i64 V, .slice A L.length c], .int .i64 (n : Int), .int .i64 E]) ∧ Hid (EAt w' A L) ∧ Hid (GoodP T V L n E)) ∧ Hid (Below w.heap.size w w') :=
  (rparse_any l w (by omega) (Lib.hid fun x hx => by have := line_len hx; omega) T hT).mono fun _ _ ⟨h, hb⟩ => ⟨parse_form h, hb⟩
theorem good_len {l : List UInt8} {T : Nat × Option (Int × List Ed)} (hT : through 0 [] 0 (ln [] l) = T) {V : Int} {L : List Ed} {n : Nat} {E : Int} (h : GoodP T V L n E) : L.length ≤ 8192 := by
  obtain ⟨k, o⟩ := T
  cases o with
  | none => obtain ⟨_, rfl, _, _⟩ := h; exact Nat.zero_le _
  | some s =>
    obtain ⟨U, M⟩ := s
    obtain ⟨_, p, _⟩ := h
    rw [p.length_eq]; exact (Sd.through _ Sd.nil hT).1.len

set_option maxRecDepth 100000 in
set_option maxHeartbeats 1000000 in
theorem law_parse (s : ByteArray) (w : World) (hLd : Hid (Laid w)) (_ks : s.size ≤ 9223372036854775807) :
    Calls Tryz.prog 4 #[.string s] w fun e w' => e = .returned (.bool true) ∧ Below w.heap.size w w' := by
  by_cases hbig : 1500 < s.size
  · go_enter Tryz.func4, Tryz.ntmps4
    go_wp2_with fail
    all_goals (try (exfalso; omega))
    refine (works_any _ hLd).mono ?_
    rintro e w1 ⟨rfl, HB⟩
    go_wp2
    go_ret
    exact ⟨rfl, HB.out⟩
  · obtain ⟨l, rfl⟩ : ∃ l, s = sb l := ⟨_, sb_list s⟩
    rw [sb_size] at hbig
    have hsz := sb_size l
    have HLd : Hid (∀ w', Below w.heap.size w w' → Laid w') := Lib.hid fun w' h => hLd.out.bel h
    obtain ⟨T, hT⟩ : ∃ T, through 0 [] 0 (ln [] l) = T := ⟨_, rfl⟩
    have HT := Lib.hid hT; clear hT
    go_enter Tryz.func4, Tryz.ntmps4
    go_wp2_with fail
    all_goals (try (exfalso; omega))
    refine (parse_hid l _ (by omega) hLd T HT).mono ?_
    rintro e w1 ⟨⟨V, A, c, L, n, E, rfl, HA, HG⟩, HB1⟩
    have hL8 := good_len HT.out HG.out
    obtain ⟨W1, hW1⟩ : ∃ W1, W1 = w1.alloc (.cells #[.int .i64 V, .slice A L.length c] 24) := ⟨_, rfl⟩
    have hb1 : Below w1.heap.size w1 W1 := by rw [hW1]; exact (Below.refl _ w1).alloc (Nat.le_refl _) _
    have HG1 : Hid (Gb w W1 w1.heap.size V A c L) := Lib.hid ⟨HB1.out.trans (hb1.mono HB1.out.size), by rw [hW1]; exact heap_alloc_new w1 _, HA.out.below hb1⟩
    have HW1 := Lib.hid hW1
    clear hW1 hb1
    go_wp2_with fail
    rw [← HW1.out]
    refine (rparse_hid l W1 (by omega) T HT).mono ?_
    rintro e w2 ⟨⟨V', A', c', L', n', E', rfl, HA', HG'⟩, HB2⟩
    obtain ⟨e1, e2, e3, e4⟩ := HG.out.one HG'.out
    subst e1 e2 e3 e4
    obtain ⟨W2, hW2⟩ : ∃ W2, W2 = w2.alloc (.cells #[.int .i64 V, .slice A' L.length c'] 24) := ⟨_, rfl⟩
    have hb2 : Below w2.heap.size w2 W2 := by rw [hW2]; exact (Below.refl _ w2).alloc (Nat.le_refl _) _
    have HG12 := HG1.out.step HB2.out
    have HG2 := Lib.hid (HG12.step hb2)
    have HG3 : Hid (Gb w W2 w2.heap.size V A' c' L) := Lib.hid ⟨HG2.out.below, by rw [hW2]; exact heap_alloc_new w2 _, HA'.out.below hb2⟩
    have HW2 := Lib.hid hW2
    clear hW2 hb2 HG12
    obtain ⟨a0, a1, ha⟩ := HG2.out.facts
    obtain ⟨b0, b1, hb⟩ := HG3.out.facts
    go_upto_region 5 with fail
    rw [← HW2.out]
    go_wp2_with fail
    refine (rsame_any V V A A' c c' L L W2 HG2.out.at_ HG3.out.at_ (by omega) (by omega)).mono ?_
    rintro e w3 ⟨rfl, hb3⟩
    have HZ3 := Lib.hid (HG2.out.step hb3).below
    rw [show (decide (V = V) && decide (L = L)) = true by simp]
    clear hb3 a0 a1 b0 b1
    go_wp2_with fail
    refine (works_any w3 (Lib.hid (HLd.out _ HZ3.out))).mono ?_
    rintro e w4 ⟨rfl, HB4⟩
    have HZ4 := Lib.hid (HZ3.out.trans (HB4.out.mono HZ3.out.size))
    go_wp2
    go_ret
    exact ⟨rfl, HZ4.out⟩

end Go.Proofs.YtmcmpjcijbeilaaGreatDoor.Gr
