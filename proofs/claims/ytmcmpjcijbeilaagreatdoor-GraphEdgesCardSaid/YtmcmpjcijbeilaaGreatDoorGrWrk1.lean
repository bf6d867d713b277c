/-
  What is proved here: what the law's four texts say (by computation, over plain characters), and the print of what the first says. No condition.
-/
import Derived.Test.YtmcmpjcijbeilaaGreatDoorGrSort5
import Derived.Test.YtmcmpjcijbeilaaGreatDoorGrW9
import Derived.Test.YtmcmpjcijbeilaaGreatDoorGrW6
namespace Go.Proofs.YtmcmpjcijbeilaaGreatDoor.Gr
open Go.RowKit Wd Ws

def chA (l : List UInt8) : List Ch := l.map fun b => ⟨b.toNat, [b]⟩
theorem chOf_A (l : List UInt8) (h : rgB l (chA l) = true) : chOf l = chA l := chOf_eq (rg_of_B _ _ h)
def numsA : List (List UInt8) → Option (Option (List Nat))
  | [] => some (some [])
  | w :: ws => if rgB w (chA w) then (if (numOf (chA w)).2 = 0 then (match numsA ws with | none => none | some none => some none | some (some l) => some (some ((numOf (chA w)).1 :: l))) else some none) else none
theorem numsOf_A : ∀ (ws : List (List UInt8)) (r : Option (List Nat)), numsA ws = some r → numsOf ws = r
  | [], r, h => by obtain rfl := Option.some.inj h; rfl
  | w :: ws, r, h => by
    rw [numsA] at h
    rw [numsOf]
    split at h
    · rename_i hb
      have e : numB w = numOf (chA w) := by rw [numB, chOf_A w hb]
      rw [e]
      split at h
      · rename_i h0
        rw [if_pos h0]
        split at h
        · cases h
        · rename_i h1
          obtain rfl := Option.some.inj h
          rw [numsOf_A ws _ h1]
        · rename_i l h1
          obtain rfl := Option.some.inj h
          rw [numsOf_A ws _ h1]
      · rename_i h0
        rw [if_neg h0]; exact Option.some.inj h
    · cases h
def stepWA (V : Int) (L : List Ed) : List (List UInt8) → Option (Option (Int × List Ed))
  | [] => some (some (V, L))
  | w :: t => match numsA t with
    | none => none
    | some none => some none
    | some (some ns) => some (stepN V L w ns)
def stepA (V : Int) (L : List Ed) (l : List UInt8) : Option (Option (Int × List Ed)) :=
  if rgB l (chA l) then (if (wordsOf (chA l)).2 = 0 then stepWA V L (wordsOf (chA l)).1 else some none) else none
theorem step_A {V : Int} {L : List Ed} {l : List UInt8} {r : Option (Int × List Ed)} (h : stepA V L l = some r) : step V L l = r := by
  unfold stepA at h
  split at h
  · rename_i hb
    have e : wordsB l = wordsOf (chA l) := by rw [wordsB, chOf_A l hb]
    unfold step
    rw [e]
    split at h
    · rename_i h0
      rw [if_pos h0]
      cases hws : (wordsOf (chA l)).1 with
      | nil => rw [hws] at h; obtain rfl := Option.some.inj h; rfl
      | cons w t =>
        rw [hws] at h
        show (match numsOf t with | none => none | some ns => stepN V L w ns) = r
        replace h : (match numsA t with | none => none | some none => some none | some (some ns) => some (stepN V L w ns)) = some r := h
        cases hn : numsA t with
        | none => rw [hn] at h; cases h
        | some q =>
          rw [hn] at h
          rw [numsOf_A t _ hn]
          cases q with
          | none => exact Option.some.inj h
          | some ns => exact Option.some.inj h
    · rename_i h0
      rw [if_neg h0]; exact Option.some.inj h
  · cases h
def throughA (V : Int) (L : List Ed) (k : Nat) : List (List UInt8) → Option (Nat × Option (Int × List Ed))
  | [] => some (if V = 0 then (k + 1, none) else (0, some (V, L)))
  | x :: xs => match stepA V L x with
    | none => none
    | some none => some (k + 1, none)
    | some (some s) => throughA s.1 s.2 (k + 1) xs
theorem through_A : ∀ (xs : List (List UInt8)) (V : Int) (L : List Ed) (k : Nat) (T : Nat × Option (Int × List Ed)), throughA V L k xs = some T → through V L k xs = T
  | [], V, L, k, T, h => by obtain rfl := Option.some.inj h; rfl
  | x :: xs, V, L, k, T, h => by
    rw [throughA] at h
    rw [through]
    split at h
    · cases h
    · rename_i h1; rw [step_A h1]; exact Option.some.inj h
    · rename_i s h1; rw [step_A h1]; exact through_A xs _ _ _ _ h

def tA : List UInt8 := [118, 101, 114, 116, 105, 99, 101, 115, 32, 51, 10, 98, 111, 116, 104, 32, 48, 32, 50, 32, 53, 10, 101, 100, 103, 101, 32, 49, 32, 48, 10]
def tB : List UInt8 := [118, 101, 114, 116, 105, 99, 101, 115, 32, 50, 10, 101, 100, 103, 101, 32, 48, 32, 49, 10, 101, 100, 103, 101, 32, 48, 32, 49, 32, 57]
def tC : List UInt8 := [118, 101, 114, 116, 105, 99, 101, 115, 32, 50, 10, 101, 100, 103, 101, 32, 48, 32, 50]
def lA : List Ed := [(0, 2, 5), (2, 0, 5), (1, 0, 1)]
def mA : List Ed := [(0, 2, 5), (1, 0, 1), (2, 0, 5)]
def tP : List UInt8 := [118, 101, 114, 116, 105, 99, 101, 115, 32, 51, 10, 101, 100, 103, 101, 32, 48, 32, 50, 32, 53, 10, 101, 100, 103, 101, 32, 49, 32, 48, 32, 49, 10, 101, 100, 103, 101, 32, 50, 32, 48, 32, 53, 10]
theorem say_A : through 0 [] 0 (ln [] tA) = (0, some (3, lA)) := through_A _ _ _ _ _ (by kernel_rfl)
theorem say_B : through 0 [] 0 (ln [] tB) = (3, none) := through_A _ _ _ _ _ (by kernel_rfl)
theorem say_C : through 0 [] 0 (ln [] tC) = (2, none) := through_A _ _ _ _ _ (by kernel_rfl)
theorem say_D : through 0 [] 0 (ln [] []) = (1, none) := through_A _ _ _ _ _ (by kernel_rfl)
theorem rise_mA : Rise mA := by unfold Rise mA; decide
theorem rows_A {L : List Ed} (h : L.Perm lA) (k : Rise L) : L = mA := rise_one _ _ k rise_mA (h.trans (by unfold lA mA; decide))
theorem chk_A : chk 3 mA = 0 := by kernel_rfl
theorem print_A : printB 3 mA = tP := by
  unfold printB
  rw [if_pos chk_A]
  simp [textP, mA, edgeT, lineN, blnk, pr, dg_small, tP, vertB, edgeB, chs, flat, dch, first]
  try decide

end Go.Proofs.YtmcmpjcijbeilaaGreatDoor.Gr
