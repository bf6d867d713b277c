/-
  What is proved here: contracts of words.isBlank, words.withoutRemark, words.width, words.mayBeSaid: what stands ahead of the first #, how wide a text's first character is, whether each character may be said. Conditions: texts fit an int.
-/
import Derived.Test.YtmcmpjcijbeilaaGreatDoorWdMem
namespace Go.Proofs.YtmcmpjcijbeilaaGreatDoor.Ws
open Go.RowKit Wd

theorem ret_str {a b : List UInt8} {s : ByteArray} (h : s = sb a) (e : a = b) : Ending.returned (.string s) = .returned (.string (sb b)) := by rw [h, e]
theorem ret_bool {a b : Bool} (h : a = b) : Ending.returned (.bool a) = .returned (.bool b) := by rw [h]
theorem ret_int {k : IntKind} {a b : Int} (h : a = b) : Ending.returned (.int k a) = .returned (.int k b) := by rw [h]

def WrRel (w : World) (l : List UInt8) (cs : List Ch) (g : Nat) (wr : World) : Prop :=
  ∃ (p : List UInt8) (ds : List Ch), ds.length = g ∧ Rng l p ds ∧ Itr w wr w.heap.size w.heap.size l p ∧ flat (tw cs) = p ++ flat (tw ds)

set_option maxRecDepth 100000 in
set_option maxHeartbeats 1000000 in
theorem withoutRemark_any (l : List UInt8) (cs : List Ch) (w : World) (h : Rg l cs) (_hl : l.length ≤ 9223372036854775807) :
    Calls Tryz.prog 74 #[.string (sb l)] w fun e w' => e = .returned (.string (sb (flat (tw cs)))) ∧ Below w.heap.size w w' := by
  have HR := Lib.hid (Rng.start l cs h); clear h
  have hsz := sb_size l
  go_enter Tryz.func74, Tryz.ntmps74
  go_wp2
  go_loopg [] cs.length (fun g wr => WrRel w l cs g wr)
  case atStart => exact ⟨[], cs, rfl, HR.out, Itr.start (Below.refl _ w) (Nat.le_refl _) l, rfl⟩
  case round =>
    clear HR
    obtain ⟨p, ds, hg, hr, hi, hf⟩ := hrel
    rcases ds with _ | ⟨c, ds⟩
    · have hnx := fun ty => hr.fin (P := Tryz.prog) wr w.heap.size hi.1 ty
      have HR := Lib.hid hr; clear hr
      have HI := Lib.hid hi; clear hi
      have HF := Lib.hid hf; clear hf
      go_wp2
      go_ret
      refine ⟨?_, HI.out.2.2⟩
      have := HF.out; rw [HR.out.ge] at this
      rw [this]; simp [tw, flat]
    · have hnx := fun ty => hr.run (P := Tryz.prog) wr w.heap.size hi.1 ty
      have h1 := hr.lt
      have h2 := hr.rune
      have HR := Lib.hid hr; clear hr
      have HI := Lib.hid (hi.next c.bs); clear hi
      have HF := Lib.hid hf; clear hf
      by_cases h35 : c.r = 35
      · go_wp2
        go_ret
        refine ⟨?_, HI.out.2.2⟩
        refine ret_str (sb_extract l 0 p.length) ?_
        have e := HF.out
        rw [show tw (c :: ds) = [] by simp [tw, h35]] at e
        rw [e]
        have := HR.out.all
        rw [this]; simp [flat]
      · go_wp2
        go_roundg (gk - 1)
        case measure => simp at hg; omega
        case rel =>
          refine ⟨p ++ c.bs, ds, by simp at hg; omega, HR.out.next, HI.out, ?_⟩
          have e := HF.out
          rw [show tw (c :: ds) = c :: tw ds by simp [tw, h35]] at e
          rw [e, flat_cons, List.append_assoc]

theorem isBlank_any (r : Nat) (w : World) (h : r ≤ 1114111) : Calls Tryz.prog 106 #[.int .i32 (r : Int)] w fun e w' => e = .returned (.bool (r == 32 || r == 9 || r == 160)) ∧ w = w' := by
  by_cases h1 : r = 32
  · subst h1
    go_enter Tryz.func106, Tryz.ntmps106
    go_wp2
    go_ret
    exact ⟨rfl, rfl⟩
  · by_cases h2 : r = 9
    · subst h2
      go_enter Tryz.func106, Tryz.ntmps106
      go_wp2
      go_ret
      exact ⟨rfl, rfl⟩
    · by_cases h3 : r = 160
      · subst h3
        go_enter Tryz.func106, Tryz.ntmps106
        go_wp2
        go_ret
        exact ⟨rfl, rfl⟩
      · have e : (r == 32 || r == 9 || r == 160) = false := by simp [h1, h2, h3]
        rw [e]
        go_enter Tryz.func106, Tryz.ntmps106
        go_wp2
        go_ret
        refine ⟨ret_bool ?_, rfl⟩
        simp; omega

def WiRel (w : World) (l : List UInt8) (c : Ch) (cs : List Ch) (g : Nat) (wr : World) : Prop :=
  (g = 2 ∧ Rng l [] (c :: cs) ∧ Itr w wr w.heap.size w.heap.size l []) ∨ (g = 1 ∧ Rng l c.bs cs ∧ Itr w wr w.heap.size w.heap.size l c.bs)

set_option maxRecDepth 100000 in
set_option maxHeartbeats 1000000 in
theorem width_any (s : ByteArray) (l : List UInt8) (hs : s = sb l) (c : Ch) (cs : List Ch) (w : World) (h : Rg l (c :: cs)) (_hl : l.length ≤ 9223372036854775807) :
    Calls Tryz.prog 105 #[.string s] w fun e w' => e = .returned (.int .i64 (c.bs.length : Int)) ∧ Below w.heap.size w w' := by
  subst hs
  have HR := Lib.hid (Rng.start l _ h); clear h
  have hsz := sb_size l
  go_enter Tryz.func105, Tryz.ntmps105
  go_wp2
  go_loopg [] 2 (fun g wr => WiRel w l c cs g wr)
  case atStart => exact Or.inl ⟨rfl, HR.out, Itr.start (Below.refl _ w) (Nat.le_refl _) l⟩
  case round =>
    have hp := HR.out.pos
    clear HR
    rcases hrel with ⟨hg, hr, hi⟩ | ⟨hg, hr, hi⟩
    · have hnx := fun ty => hr.run (P := Tryz.prog) wr w.heap.size hi.1 ty
      have h1 := hr.lt
      have h2 := hr.rune
      have HR := Lib.hid hr; clear hr
      have HI := Lib.hid (hi.next c.bs); clear hi
      go_wp2
      go_roundg (gk - 1)
      case measure => omega
      case rel => exact Or.inr ⟨by omega, HR.out.next, by simpa using HI.out⟩
    · rcases cs with _ | ⟨d, ds⟩
      · have hnx := fun ty => hr.fin (P := Tryz.prog) wr w.heap.size hi.1 ty
        have HR := Lib.hid hr; clear hr
        have HI := Lib.hid hi; clear hi
        go_wp2
        go_ret
        refine ⟨ret_int ?_, HI.out.2.2⟩
        rw [HR.out.ge]
      · have hnx := fun ty => hr.run (P := Tryz.prog) wr w.heap.size hi.1 ty
        have h1 := hr.lt
        have h2 := hr.rune
        have HR := Lib.hid hr; clear hr
        have HI := Lib.hid (hi.next d.bs); clear hi
        go_wp2
        go_ret
        exact ⟨rfl, HI.out.2.2⟩

def MaRel (w : World) (l : List UInt8) (cs : List Ch) (g : Nat) (wr : World) : Prop :=
  ∃ (p : List UInt8) (ds : List Ch), ds.length = g ∧ Rng l p ds ∧ Itr w wr w.heap.size w.heap.size l p ∧ cs.all okC = ds.all okC

theorem ok_bad1 (c : Ch) (h : (c.r < 32 ∧ c.r ≠ 9) ∨ c.r = 127) : okC c = false := by
  rcases h with ⟨h1, h2⟩ | h
  · simp [okC, h1, h2]
  · simp [okC, h]
theorem ok_bad2 (c : Ch) (h : c.r = 65533) (h1 : c.bs.length = 1) : okC c = false := by simp [okC, Ch.broken, h, h1]
theorem ok_good (c : Ch) (h : ¬ ((c.r < 32 ∧ c.r ≠ 9) ∨ c.r = 127)) (h1 : ¬ (c.r = 65533 ∧ c.bs.length = 1)) : okC c = true := by
  unfold okC
  rw [decide_eq_false (show ¬ c.broken from h1)]
  simp only [Bool.false_or, Bool.not_eq_true', Bool.or_eq_false_iff, Bool.and_eq_false_iff, decide_eq_false_iff_not, bne_eq_false_iff_eq, beq_eq_false_iff_ne]
  omega

set_option maxRecDepth 100000 in
set_option maxHeartbeats 2000000 in
theorem mayBeSaid_any (l : List UInt8) (cs : List Ch) (w : World) (h : Rg l cs) (hl : l.length ≤ 9223372036854775807) :
    Calls Tryz.prog 75 #[.string (sb l)] w fun e w' => e = .returned (.bool (cs.all okC)) ∧ Below w.heap.size w w' := by
  have HR := Lib.hid (Rng.start l cs h); clear h
  have hsz := sb_size l
  go_enter Tryz.func75, Tryz.ntmps75
  go_wp2
  go_loopg [] cs.length (fun g wr => MaRel w l cs g wr)
  case atStart => exact ⟨[], cs, rfl, HR.out, Itr.start (Below.refl _ w) (Nat.le_refl _) l, rfl⟩
  case round =>
    clear HR
    obtain ⟨p, ds, hg, hr, hi, hf⟩ := hrel
    rcases ds with _ | ⟨c, ds⟩
    · have hnx := fun ty => hr.fin (P := Tryz.prog) wr w.heap.size hi.1 ty
      have HR := Lib.hid hr; clear hr
      have HI := Lib.hid hi; clear hi
      have HF := Lib.hid hf; clear hf
      go_wp2
      go_ret
      refine ⟨?_, HI.out.2.2⟩
      rw [HF.out]; rfl
    · have hnx := fun ty => hr.run (P := Tryz.prog) wr w.heap.size hi.1 ty
      have h1 := hr.lt
      have h2 := hr.rune
      have hg' : ds.length + 1 = gk := by simpa using hg
      have HR := Lib.hid hr; clear hr hg
      have HI := Lib.hid (hi.next c.bs); clear hi
      have HF := Lib.hid hf; clear hf
      by_cases hb : (c.r < 32 ∧ c.r ≠ 9) ∨ c.r = 127
      · go_wp2
        all_goals (try (exfalso; omega))
        all_goals
          go_ret
          refine ⟨?_, HI.out.2.2⟩
          rw [HF.out, List.all_cons, ok_bad1 c hb]; rfl
      · by_cases hx : c.r = 65533
        · have hex : (sb l).extract p.length (sb l).size = sb (flat (c :: ds)) := by
            rw [sb_extract, sb_size, HR.out.all, List.drop_left, List.take_of_length_le (by simp)]
          have HX := Lib.hid hex; clear hex
          go_wp2_with (go_at_call 105; refine (width_any _ _ HX.out c ds _ HR.out.rg ?_).mono ?_)
          · have := HR.out.all; rw [this, List.length_append] at hl; omega
          rintro e w1 ⟨rfl, hb1⟩
          have HI1 := Lib.hid (HI.out.below hb1 (Nat.le_of_lt HI.out.size)); clear hb1
          by_cases hw : c.bs.length = 1
          · go_wp2
            go_ret
            refine ⟨?_, HI1.out.2.2⟩
            rw [HF.out, List.all_cons, ok_bad2 c hx hw]; rfl
          · go_wp2
            go_roundg (gk - 1)
            case measure => omega
            case rel =>
              refine ⟨p ++ c.bs, ds, by omega, HR.out.next, HI1.out, ?_⟩
              rw [HF.out, List.all_cons, ok_good c hb (fun hh => hw hh.2)]; rfl
        · go_wp2
          all_goals (try (exfalso; omega))
          all_goals go_roundg (gk - 1)
          all_goals first
            | omega
            | (refine ⟨p ++ c.bs, ds, by omega, HR.out.next, HI.out, ?_⟩
               rw [HF.out, List.all_cons, ok_good c hb (fun hh => hx hh.1)]; rfl)

end Go.Proofs.YtmcmpjcijbeilaaGreatDoor.Ws
