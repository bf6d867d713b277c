/-
  What is proved here: plain facts on a state's parts: each is right; joined, they are the state (mail that there is none of does not count). No program.
-/
import Derived.Test.YtfbfckdabbaocaaQaStPart
namespace Go.Proofs.Ytfbfckdabbaocaa.Fld
end Go.Proofs.Ytfbfckdabbaocaa.Fld
namespace Go.Proofs.Ytfbfckdabbaocaa.In
end Go.Proofs.Ytfbfckdabbaocaa.In
namespace Go.Proofs.Ytfbfckdabbaocaa.Pt
end Go.Proofs.Ytfbfckdabbaocaa.Pt
namespace Go.Proofs.Ytfbfckdabbaocaa.St
open Fld In Pt
structure Stt where
  st : Int
  vals : List Int
  chg : List Bool
  inb : List Ml
def wholeP (s : Stt) : Pr := ⟨s.st, vs s.vals.length, s.vals, s.chg, s.inb⟩
def takeP (s : Stt) (k w : Int) : Pr :=
  ⟨s.st, ow k w s.vals.length, (ow k w s.vals.length).map fun v => nu s.vals v.toNat, (ow k w s.vals.length).map fun v => bo s.chg v.toNat, (ow k w s.vals.length).map fun v => mi s.inb v.toNat⟩
def MayP (s : Stt) : Prop := 0 < s.vals.length ∧ Rgt (wholeP s)
instance (s : Stt) : Decidable (MayP s) := inferInstanceAs (Decidable (_ ∧ _))
def sameP (a b : Pr) : Prop := a.st = b.st ∧ a.own = b.own ∧ a.vals = b.vals ∧ a.chg = b.chg ∧ sameB a.inb b.inb = true
instance (a b : Pr) : Decidable (sameP a b) := inferInstanceAs (Decidable (_ ∧ _))
def sameS (a b : Stt) : Prop := a.st = b.st ∧ a.vals = b.vals ∧ a.chg = b.chg ∧ sameB a.inb b.inb = true
instance (a b : Stt) : Decidable (sameS a b) := inferInstanceAs (Decidable (_ ∧ _))
theorem nrmL_iff (x y : Ml) : (x.1 == y.1 && (!x.1 || x.2 == y.2)) = true ↔ nrmL x = nrmL y := by
  obtain ⟨a, b⟩ := x; obtain ⟨c, d⟩ := y
  cases a <;> cases c <;> simp [nrmL]
theorem sameB_iff : ∀ (a b : List Ml), sameB a b = true ↔ a.map nrmL = b.map nrmL
  | [], [] => by simp [sameB]
  | [], _ :: _ => by simp [sameB]
  | _ :: _, [] => by simp [sameB]
  | x :: a, y :: b => by
    have ih := sameB_iff a b
    have hx := nrmL_iff x y
    unfold sameB at ih ⊢
    simp only [List.zip_cons_cons, List.all_cons, List.length_cons, List.map_cons, List.cons.injEq, Bool.and_eq_true, beq_iff_eq] at ih hx ⊢
    rw [← ih, ← hx]
    constructor
    · rintro ⟨h1, h2, h3⟩; exact ⟨h2, by omega, h3⟩
    · rintro ⟨h2, h1, h3⟩; exact ⟨by omega, h2, h3⟩
theorem sameP_iff (a b : Pr) : sameP a b ↔ nrmP a = nrmP b := by
  unfold sameP nrmP
  rw [sameB_iff]
  simp only [Pr.mk.injEq]
theorem sameP_nrm (a : Pr) : sameP a (nrmP a) := by
  rw [sameP_iff]
  unfold nrmP
  simp only [List.map_map, Pr.mk.injEq, true_and]
  apply List.map_congr_left
  intro m _
  show nrmL m = nrmL (nrmL m)
  unfold nrmL
  split
  · rfl
  · rfl
def noPr : Pr := ⟨0, [], [], [], []⟩
def prt (l : List Pr) (w : Int) : Pr := l.getD w.toNat noPr
def plcV (l : List Pr) (v : Nat) : Int := plc (prt l (ofI v l.length)).own v
def gather (l : List Pr) (n : Nat) : Stt :=
  ⟨(prt l 0).st, (List.range n).map fun (v : Nat) => nu (prt l (ofI v l.length)).vals (plcV l v).toNat, (List.range n).map fun (v : Nat) => bo (prt l (ofI v l.length)).chg (plcV l v).toNat, (List.range n).map fun (v : Nat) => mi (prt l (ofI v l.length)).inb (plcV l v).toNat⟩
def allO (l : List Pr) : Nat := (l.map fun p => p.own.length).sum
def JoinsR (l : List Pr) : Prop := 1 ≤ l.length ∧ l.length ≤ 64 ∧ (∀ p ∈ l, Rgt p) ∧ allO l ≤ 512 ∧ (∀ v, v < allO l → 0 ≤ plcV l v) ∧ MayP (gather l (allO l)) ∧ ∀ w : Nat, w < l.length → sameP (takeP (gather l (allO l)) l.length w) (prt l w)
instance (l : List Pr) : Decidable (JoinsR l) := inferInstanceAs (Decidable (_ ∧ _))
end Go.Proofs.Ytfbfckdabbaocaa.St
