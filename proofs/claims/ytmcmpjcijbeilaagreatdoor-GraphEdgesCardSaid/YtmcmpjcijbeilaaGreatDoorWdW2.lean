/-
  What is proved here: contracts of words.kindAndValue and words.Digit: which digit a rune is. Condition: the package's first digits lie as its text lays them.
-/
import Derived.Test.YtmcmpjcijbeilaaGreatDoorWdW1
import Derived.Lib.LaidTab
namespace Go.Proofs.YtmcmpjcijbeilaaGreatDoor.Ws
open Go.RowKit Wd

/- What the package variables hold. -/
def LaidPow (w : World) : Prop := Lib.TabIs Tryz.prog w "internal/strconv.uint64pow10" .u64 Lib.pow10Tab ∧ 1 < w.heap.size
def Laid (w : World) : Prop := LaidPow w ∧ Lib.TabIs Tryz.prog w "treadwheel/words.firstDigits" .i32 [48, 1632, 65296] ∧ 0 < w.heap.size
theorem glob_pow : Tryz.prog.globalNamed "internal/strconv.uint64pow10" = some 1 := by kernel_rfl
theorem glob_dig : Tryz.prog.globalNamed "treadwheel/words.firstDigits" = some 0 := by kernel_rfl
theorem tab_below {w w' : World} {g : Nat} {n : String} {k : IntKind} {zs : List Int} (hg : Tryz.prog.globalNamed n = some g) (h : Lib.TabIs Tryz.prog w n k zs) {B : Nat} (hb : Below B w w') (hB : g < B) : Lib.TabIs Tryz.prog w' n k zs := by
  unfold Lib.TabIs World.var? at h ⊢
  rw [hg] at h ⊢
  simp only [Option.bind_some] at h ⊢
  rw [hb.block g hB]; exact h
theorem LaidPow.bel {w w' : World} (h : LaidPow w) (hb : Below w.heap.size w w') : LaidPow w' := ⟨tab_below glob_pow h.1 hb h.2, Nat.lt_of_lt_of_le h.2 hb.size⟩
theorem Laid.bel {w w' : World} (h : Laid w) (hb : Below w.heap.size w w') : Laid w' := by
  obtain ⟨h1, h2, h3⟩ := h
  exact ⟨h1.bel hb, tab_below glob_dig h2 hb h3, Nat.lt_of_lt_of_le h3 hb.size⟩
theorem Laid.cells {w : World} (h : Laid w) : w.cell? ⟨0, 0, none⟩ = some (.int .i32 48) ∧ w.cell? ⟨0, 1, none⟩ = some (.int .i32 1632) ∧ w.cell? ⟨0, 2, none⟩ = some (.int .i32 65296) :=
  ⟨h.2.1.cell glob_dig 0 (by decide), h.2.1.cell glob_dig 1 (by decide), h.2.1.cell glob_dig 2 (by decide)⟩

theorem first0 : ((first 0 : Nat) : Int) = 48 := by decide
theorem first1 : ((first 1 : Nat) : Int) = 1632 := by decide
theorem first2 : ((first 2 : Nat) : Int) = 65296 := by decide
theorem kv0 (r : Int) (h : 48 ≤ r ∧ r ≤ 57) : kdOf r = 0 ∧ dvOf r = r - 48 := by simp [kdOf, dvOf, h]
theorem kv1 (r : Int) (h : 1632 ≤ r ∧ r ≤ 1641) : kdOf r = 1 ∧ dvOf r = r - 1632 := by
  have : ¬ (48 ≤ r ∧ r ≤ 57) := by omega
  simp [kdOf, dvOf, h, this]
theorem kv2 (r : Int) (h : 65296 ≤ r ∧ r ≤ 65305) : kdOf r = 2 ∧ dvOf r = r - 65296 := by
  have h1 : ¬ (48 ≤ r ∧ r ≤ 57) := by omega
  have h2 : ¬ (1632 ≤ r ∧ r ≤ 1641) := by omega
  simp [kdOf, dvOf, h, h1, h2]
theorem kv3 (r : Int) (h0 : ¬ ((first 0 : Int) ≤ r ∧ r ≤ first 0 + 9)) (h1 : ¬ ((first 1 : Int) ≤ r ∧ r ≤ first 1 + 9)) (h2 : ¬ ((first 2 : Int) ≤ r ∧ r ≤ first 2 + 9)) : kdOf r = -1 ∧ dvOf r = -1 := by
  rw [first0] at h0; rw [first1] at h1; rw [first2] at h2
  have g0 : ¬ (48 ≤ r ∧ r ≤ 57) := by omega
  have g1 : ¬ (1632 ≤ r ∧ r ≤ 1641) := by omega
  have g2 : ¬ (65296 ≤ r ∧ r ≤ 65305) := by omega
  simp [kdOf, dvOf, g0, g1, g2]
def KvRel (r : Int) (g : Nat) (v : Value) : Prop := ∃ k : Nat, k + g = 3 ∧ v = .int .i64 (k : Int) ∧ ∀ j < k, ¬ ((first j : Int) ≤ r ∧ r ≤ (first j : Int) + 9)

set_option maxRecDepth 100000 in
set_option maxHeartbeats 1000000 in
theorem kindAndValue_any (r : Int) (w : World) (hL : Laid w) (h0 : -2147483648 ≤ r) (h1 : r ≤ 2147483647) :
    Calls Tryz.prog 83 #[.int .i32 r] w fun e w' => e = .returned (.tuple #[.int .i64 (kdOf r), .int .i64 (dvOf r)]) ∧ w = w' := by
  obtain ⟨c0, c1, c2⟩ := hL.cells
  clear hL
  have i0 : ∀ w : World, (Instr.index 91 (.agg #[.int .i32 48, .int .i32 1632, .int .i32 65296]) (.int .i64 0)).run Tryz.prog w = .ok (.int .i32 48) w := fun _ => by kernel_rfl
  have i1 : ∀ w : World, (Instr.index 91 (.agg #[.int .i32 48, .int .i32 1632, .int .i32 65296]) (.int .i64 1)).run Tryz.prog w = .ok (.int .i32 1632) w := fun _ => by kernel_rfl
  have i2 : ∀ w : World, (Instr.index 91 (.agg #[.int .i32 48, .int .i32 1632, .int .i32 65296]) (.int .i64 2)).run Tryz.prog w = .ok (.int .i32 65296) w := fun _ => by kernel_rfl
  go_enter Tryz.func83, Tryz.ntmps83
  go_wp2
  go_loopg [7] 3 (fun g v wr => KvRel r g v ∧ wr = w)
  case atStart => exact ⟨⟨0, rfl, rfl, fun j hj => by omega⟩, rfl⟩
  case round =>
    obtain ⟨⟨k, hk, rfl, hj⟩, rfl⟩ := hrel
    have : k = 0 ∨ k = 1 ∨ k = 2 ∨ k = 3 := by omega
    rcases this with rfl | rfl | rfl | rfl
    · by_cases hr : 48 ≤ r ∧ r ≤ 57
      · obtain ⟨e1, e2⟩ := kv0 r hr
        have HJ := Lib.hid hj; clear hj
        go_wp2
        go_ret2
        rw [e1, e2]; exact ⟨rfl, rfl⟩
      · have HJ := Lib.hid hj; clear hj
        go_wp2
        all_goals (try (exfalso; omega))
        all_goals go_roundg (gk - 1)
        all_goals first
          | omega
          | (refine ⟨⟨1, by omega, rfl, ?_⟩, rfl⟩
             intro j hj
             obtain rfl : j = 0 := by omega
             rw [first0]; omega)
    · by_cases hr : 1632 ≤ r ∧ r ≤ 1641
      · obtain ⟨e1, e2⟩ := kv1 r hr
        have HJ := Lib.hid hj; clear hj
        go_wp2
        go_ret2
        rw [e1, e2]; exact ⟨rfl, rfl⟩
      · have HJ := Lib.hid hj; clear hj
        go_wp2
        all_goals (try (exfalso; omega))
        all_goals go_roundg (gk - 1)
        all_goals first
          | omega
          | (refine ⟨⟨2, by omega, rfl, ?_⟩, rfl⟩
             intro j hj
             rcases (show j = 0 ∨ j = 1 by omega) with rfl | rfl
             · exact HJ.out 0 (by omega)
             · rw [first1]; omega)
    · by_cases hr : 65296 ≤ r ∧ r ≤ 65305
      · obtain ⟨e1, e2⟩ := kv2 r hr
        have HJ := Lib.hid hj; clear hj
        go_wp2
        go_ret2
        rw [e1, e2]; exact ⟨rfl, rfl⟩
      · have HJ := Lib.hid hj; clear hj
        go_wp2
        all_goals (try (exfalso; omega))
        all_goals go_roundg (gk - 1)
        all_goals first
          | omega
          | (refine ⟨⟨3, by omega, rfl, ?_⟩, rfl⟩
             intro j hj
             rcases (show j = 0 ∨ j = 1 ∨ j = 2 by omega) with rfl | rfl | rfl
             · exact HJ.out 0 (by omega)
             · exact HJ.out 1 (by omega)
             · rw [first2]; omega)
    · obtain ⟨e1, e2⟩ := kv3 r (hj 0 (by omega)) (hj 1 (by omega)) (hj 2 (by omega))
      have HJ := Lib.hid hj; clear hj
      go_wp2
      go_ret2
      rw [e1, e2]; exact ⟨rfl, rfl⟩

set_option maxRecDepth 100000 in
theorem digit_any (r : Int) (w : World) (hL : Laid w) (h0 : -2147483648 ≤ r) (h1 : r ≤ 2147483647) :
    Calls Tryz.prog 66 #[.int .i32 r] w fun e w' => e = .returned (.int .i64 (dvOf r)) ∧ w = w' := by
  go_enter Tryz.func66, Tryz.ntmps66
  go_wp2_with (go_at_call 83; refine (kindAndValue_any r _ hL h0 h1).mono ?_)
  rintro e w' ⟨rfl, rfl⟩
  go_wp2
  go_ret
  exact ⟨rfl, rfl⟩

end Go.Proofs.YtmcmpjcijbeilaaGreatDoor.Ws
