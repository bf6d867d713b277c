/-
  What is proved here: the contract of the library's insertionSort_func over graph.order's closure. Conditions: the row is one that the call has made.
-/
import Derived.Test.YtmcmpjcijbeilaaGreatDoorGrSort1
namespace Go.Proofs.YtmcmpjcijbeilaaGreatDoor.Gr
open Go.RowKit Wd Ws Go.Sort

theorem SWd.start {w0 w : World} {g N : Nat} {d : Array Ed} (h : SWd w0 w g N d) : SWd w w g N d := ⟨h.holds, ⟨rfl, rfl, rfl, Nat.le_refl _, fun _ _ _ => rfl⟩, h.row, Nat.lt_of_lt_of_le h.lt h.size⟩
theorem SWd.on {w0 w w' : World} {g N : Nat} {d d' : Array Ed} (h : SWd w0 w g N d) (k : SWd w w' g N d') : SWd w0 w' g N d' := ⟨k.holds, h.grown.trans k.grown, k.row, h.lt⟩
theorem Bes.on {w0 w : World} {g N Bs n c : Nat} {d : Array Ed} (h : Bes w0 g Bs n c) (k : SWd w0 w g N d) : Bes w g Bs n c :=
  ⟨(k.grown.block Bs (lt_of_block h.at_) (fun e => h.ne (Option.some.inj e))).trans h.at_, h.ne⟩
/- The box in which the library keeps the two functions. -/
structure Fx (w : World) (b Bs g n c : Nat) (th : Value) : Prop where
  at_ : w.heap[b]? = some (.cells #[.func (.func 51) #[] #[.pointer (some ⟨Bs, 0, none⟩)], .func (.func 92) #[] #[.slice (some ⟨g, 0, none⟩) n c, th]] 105 (0, 0))
  ne : b ≠ g
theorem Fx.on {w0 w : World} {b Bs g N n c : Nat} {th : Value} {d : Array Ed} (h : Fx w0 b Bs g n c th) (k : SWd w0 w g N d) :
    w.cell? ⟨b, 0, none⟩ = some (.func (.func 51) #[] #[.pointer (some ⟨Bs, 0, none⟩)]) ∧ w.cell? ⟨b, 1, none⟩ = some (.func (.func 92) #[] #[.slice (some ⟨g, 0, none⟩) n c, th]) ∧ b < w.heap.size := by
  have e := (k.grown.block b (lt_of_block h.at_) (fun e => h.ne (Option.some.inj e))).trans h.at_
  exact ⟨by rw [Lib.cell_of_heap e]; rfl, by rw [Lib.cell_of_heap e]; rfl, lt_of_block e⟩

def IoRel (w1 : World) (g N n a b : Nat) (d : Array Ed) (gk : Nat) (vi : Value) (wr : World) : Prop :=
  ∃ (i : Nat) (dk : Array Ed), vi = .int .i64 (i : Int) ∧ a < i ∧ i + gk = b + 1 ∧ dk.size = n ∧ SWd w1 wr g N dk ∧ insOuter ahd a b i dk = insOuter ahd a b (a + 1) d
def IiRel (w1 : World) (g N n a i : Nat) (dk : Array Ed) (gk : Nat) (vj : Value) (wr : World) : Prop :=
  ∃ (j : Nat) (dj : Array Ed), vj = .int .i64 (j : Int) ∧ a ≤ j ∧ j ≤ i ∧ j = gk ∧ dj.size = n ∧ SWd w1 wr g N dj ∧ insInner ahd a j dj = insInner ahd a i dk

set_option maxRecDepth 100000 in
set_option maxHeartbeats 600000 in
theorem insertionSort_any (w : World) (g N Bs n c a b : Nat) (d : Array Ed) (th : Value) (hth : Hid (th = typeHandle Tryz.prog 42)) (h : Hid (SWd w w g N d)) (hB : Hid (Bes w g Bs n c)) (hd : Hid (d.size = n)) (hab : a ≤ b) (hbn : b ≤ n) (hn : n < 4611686018427387904) :
    Calls Tryz.prog 95 #[.agg #[.func (.func 51) #[] #[.pointer (some ⟨Bs, 0, none⟩)], .func (.func 92) #[] #[.slice (some ⟨g, 0, none⟩) n c, th]], .int .i64 (a : Int), .int .i64 (b : Int)] w fun e w' => e = .returned (.tuple #[]) ∧ Hid (SWd w w' g N (insertionSort ahd d a b)) := by
  obtain ⟨w1, hw1⟩ : ∃ w1, w1 = w.alloc (.cells #[.func (.func 51) #[] #[.pointer (some ⟨Bs, 0, none⟩)], .func (.func 92) #[] #[.slice (some ⟨g, 0, none⟩) n c, th]] 105) := ⟨_, rfl⟩
  have hb1 : Below w.heap.size w w1 := by rw [hw1]; exact (Below.refl _ w).alloc (Nat.le_refl _) _
  have HS1 := Lib.hid (h.out.below hb1)
  have HS := Lib.hid (h.out.below hb1).start
  have HBe := Lib.hid (hB.out.on HS1.out)
  have HF : Hid (Fx w1 w.heap.size Bs g n c th) := Lib.hid ⟨by rw [hw1]; exact heap_alloc_new w _, by have := h.out.lt; omega⟩
  have HW := Lib.hid hw1
  clear hw1 hb1
  go_enter Tryz.func95, Tryz.ntmps95
  go_wp2
  rw [← HW.out]
  go_loopg [6] (b - a) (fun gk vi wr => IoRel w1 g N n a b d gk vi wr)
  case atStart => exact ⟨a + 1, d, by go_num, by omega, by omega, hd.out, HS.out, rfl⟩
  case round =>
    obtain ⟨i, dk, rfl, hai, hig, hdk, hsw, ho⟩ := hrel
    have HO := Lib.hid ho; have HSW := Lib.hid hsw; have HDK := Lib.hid hdk; clear ho hsw hdk
    by_cases hib : i < b
    · go_wp2
      obtain ⟨G, rfl⟩ : ∃ G : Nat, G = gk := ⟨_, rfl⟩
      obtain ⟨wo, rfl⟩ : ∃ wo : World, wo = wr := ⟨_, rfl⟩
      go_loopg [7] i (fun gk vj wr => IiRel w1 g N n a i dk gk vj wr)
      case atStart => exact ⟨i, dk, rfl, by omega, Nat.le_refl _, rfl, HDK.out, HSW.out, rfl⟩
      case round =>
        obtain ⟨j, dj, rfl, haj, hji, hjg, hdj, hsj, hi⟩ := hrel
        obtain ⟨k0, k1, hks⟩ := HF.out.on hsj
        have HI := Lib.hid hi; have HSJ := Lib.hid hsj; have HDJ := Lib.hid hdj; have HG := Lib.hid hjg; clear hi hsj hdj hjg
        by_cases hja : a < j
        · obtain ⟨r, hr⟩ : ∃ r, ahd dj[j]! dj[j - 1]! = r := ⟨_, rfl⟩
          have HR := Lib.hid hr; clear hr
          have HC := Lib.hid (less_any w1 wr g N Bs n c dj j (j - 1) (j : Int) ((j : Int) - 1) rfl (by omega) r HSJ HDJ HBe (by omega) (by omega) HR)
          go_wp2_with fail
          refine HC.out.mono ?_
          rintro e w2 ⟨rfl, HS2⟩
          cases r with
          | true =>
            obtain ⟨k0', k1', hks'⟩ := HF.out.on HS2.out
            clear k0 k1
            have hsr := swap_run g n c w2 dj HS2.out.holds HDJ.out j (j - 1) (by omega) (by omega) (j : Int) ((j : Int) - 1) rfl (by omega)
            rw [← hth.out] at hsr
            obtain ⟨W5, hW5⟩ : ∃ W5, W5 = (w2.setCells g (0 + j * 3) (ec dj[j - 1]!)).setCells g (0 + (j - 1) * 3) (ec dj[j]!) := ⟨_, rfl⟩
            rw [← hW5] at hsr
            have HS5 : Hid (SWd w1 W5 g N (swp dj j (j - 1))) := Lib.hid (by rw [hW5]; exact HS2.out.swap j (j - 1) (by rw [HDJ.out]; omega) (by rw [HDJ.out]; omega))
            have HSR := Lib.hid hsr; clear hsr hW5
            go_wp2
            rw [HSR.out, Oper.upon_value]
            go_wp2
            go_roundg (gk - 1)
            case measure => have := HG.out; omega
            case rel =>
              refine ⟨j - 1, swp dj j (j - 1), by congr 1; omega, by omega, by omega, by have := HG.out; omega, by rw [size_swp]; exact HDJ.out, HS5.out, ?_⟩
              rw [← HI.out, insInner_go ahd a j dj hja HR.out]
          | false =>
            go_wp2
            go_roundg (G - 1)
            case measure => omega
            case rel =>
              exact ⟨i + 1, dj, by go_num, by omega, by omega, HDJ.out, HS2.out, by rw [← HO.out, insOuter_go _ _ _ _ _ hib, ← HI.out, insInner_stop _ _ _ _ (Or.inr HR.out)]⟩
        · go_wp2
          go_roundg (G - 1)
          case measure => omega
          case rel =>
            exact ⟨i + 1, dj, by go_num, by omega, by omega, HDJ.out, HSJ.out, by rw [← HO.out, insOuter_go _ _ _ _ _ hib, ← HI.out, insInner_stop _ _ _ _ (Or.inl (by omega))]⟩
    · go_wp2
      go_end0
      refine ⟨rfl, Lib.hid (HS1.out.on ?_)⟩
      have : insertionSort ahd d a b = dk := by unfold Sort.insertionSort; rw [← HO.out, insOuter_stop _ _ _ _ _ hib]
      rw [this]; exact HSW.out

end Go.Proofs.YtmcmpjcijbeilaaGreatDoor.Gr
