/-
  What is proved here: plain facts on messages: put into a row one after another, or sorted and put together, they are one row; how values and totals are put together. No program.
-/
import Derived.Test.YtbbmgandkmlojaaGreatPtGm
import Derived.Test.YtbbmgandkmlojaaGreatFxMath
import Derived.Test.YtbbmgandkmlojaaGreatRkMath
import Derived.Test.YtbbmgandkmlojaaGreatLbMath
namespace Go.Proofs.YtbbmgandkmlojaaGreat.Al
open Gr Fx Rk Lb

/- A message: to, value. -/
abbrev Ms := Int × Int
def comb (k a b : Int) : Int := if k = 1 then addI a b else if k = 2 ∨ k = 3 then min a b else 0
theorem comb_one (a b : Int) : comb 1 a b = addI a b := rfl
theorem comb_comm (k a b : Int) : comb k a b = comb k b a := by
  unfold comb; split
  · exact addI_comm a b
  · split <;> omega
theorem comb_right (k v a b : Int) : comb k (comb k v a) b = comb k (comb k v b) a := by
  unfold comb
  by_cases h : k = 1
  · simp only [if_pos h]; rw [addI_assoc, addI_comm a b, ← addI_assoc]
  · simp only [if_neg h]; split <;> omega
theorem comb_assoc (k a b c : Int) : comb k (comb k a b) c = comb k a (comb k b c) := by
  unfold comb
  by_cases h : k = 1
  · simp only [if_pos h]; rw [addI_assoc]
  · simp only [if_neg h]; split <;> omega

/- A row, rising, each vertex once, with one more. -/
def insM (k : Int) : List Ms → Ms → List Ms
  | [], m => [m]
  | x :: l, m => if x.1 < m.1 then x :: insM k l m else if x.1 = m.1 then (m.1, comb k x.2 m.2) :: l else m :: x :: l
def UpM (l : List Ms) : Prop := l.Pairwise fun a b => a.1 < b.1
theorem mem_insM {k : Int} {m y : Ms} : ∀ {l : List Ms}, y ∈ insM k l m → y.1 = m.1 ∨ y ∈ l
  | [], h => by simp [insM] at h; exact Or.inl (by rw [h])
  | x :: l, h => by
    unfold insM at h
    split at h
    · rcases List.mem_cons.1 h with rfl | h
      · exact Or.inr List.mem_cons_self
      · rcases mem_insM h with h | h
        · exact Or.inl h
        · exact Or.inr (List.mem_cons_of_mem _ h)
    · split at h
      · rcases List.mem_cons.1 h with rfl | h
        · exact Or.inl rfl
        · exact Or.inr (List.mem_cons_of_mem _ h)
      · rcases List.mem_cons.1 h with rfl | h
        · exact Or.inl rfl
        · exact Or.inr h
theorem up_insM {k : Int} {m : Ms} : ∀ {l : List Ms}, UpM l → UpM (insM k l m)
  | [], _ => by simp [insM, UpM]
  | x :: l, h => by
    obtain ⟨h1, h2⟩ := List.pairwise_cons.1 h
    unfold insM
    split
    · rename_i c
      refine List.pairwise_cons.2 ⟨fun y hy => ?_, up_insM h2⟩
      rcases mem_insM hy with g | g
      · rw [g]; exact c
      · exact h1 y g
    · split
      · rename_i c d
        refine List.pairwise_cons.2 ⟨fun y hy => ?_, h2⟩
        have := h1 y hy
        show m.1 < y.1
        omega
      · rename_i c d
        refine List.pairwise_cons.2 ⟨fun y hy => ?_, h⟩
        rcases List.mem_cons.1 hy with rfl | g
        · omega
        · have := h1 y g; omega
theorem insM_right (k : Int) (a b : Ms) : ∀ {l : List Ms}, UpM l → insM k (insM k l a) b = insM k (insM k l b) a
  | [], _ => by
    obtain ⟨a1, a2⟩ := a; obtain ⟨b1, b2⟩ := b
    simp only [insM]
    rcases Int.lt_trichotomy a1 b1 with h | h | h
    · rw [if_pos h, if_neg (by omega), if_neg (by omega)]
    · subst h; simp [comb_comm k a2 b2]
    · rw [if_neg (by omega), if_neg (by omega), if_pos h]
  | x :: l, hu => by
    obtain ⟨h1, h2⟩ := List.pairwise_cons.1 hu
    have ih := insM_right k a b h2
    obtain ⟨x1, x2⟩ := x; obtain ⟨a1, a2⟩ := a; obtain ⟨b1, b2⟩ := b
    rcases Int.lt_trichotomy x1 a1 with ha | ha | ha
    · rcases Int.lt_trichotomy x1 b1 with hb | hb | hb
      · simp only [insM, if_pos ha, if_pos hb]; rw [ih]
      · subst hb; simp [insM, ha]
      · simp only [insM, if_pos ha, if_neg (show ¬ x1 < b1 by omega), if_neg (show ¬ x1 = b1 by omega), if_neg (show ¬ b1 = a1 by omega), if_pos (show b1 < a1 by omega)]
    · subst ha
      rcases Int.lt_trichotomy x1 b1 with hb | hb | hb
      · simp [insM, hb]
      · subst hb; simp [insM, comb_right k x2 a2 b2]
      · simp [insM, hb, show ¬ x1 < b1 by omega, show ¬ x1 = b1 by omega]
    · rcases Int.lt_trichotomy x1 b1 with hb | hb | hb
      · simp [insM, hb, show ¬ x1 < a1 by omega, show ¬ x1 = a1 by omega, show a1 < b1 by omega]
      · subst hb; simp [insM, ha, show ¬ x1 < a1 by omega, show ¬ x1 = a1 by omega]
      · rcases Int.lt_trichotomy a1 b1 with h | h | h
        · simp [insM, h, show ¬ x1 < a1 by omega, show ¬ x1 = a1 by omega, show ¬ x1 < b1 by omega, show ¬ x1 = b1 by omega, show ¬ b1 < a1 by omega, show ¬ b1 = a1 by omega]
        · subst h; simp [insM, show ¬ x1 < a1 by omega, show ¬ x1 = a1 by omega, comb_comm k a2 b2]
        · simp [insM, h, show ¬ x1 < a1 by omega, show ¬ x1 = a1 by omega, show ¬ x1 < b1 by omega, show ¬ x1 = b1 by omega, show ¬ a1 < b1 by omega, show ¬ a1 = b1 by omega]
def putM (k : Int) (l xs : List Ms) : List Ms := xs.foldl (insM k) l
theorem putM_snoc (k : Int) (l xs : List Ms) (x : Ms) : putM k l (xs ++ [x]) = insM k (putM k l xs) x := by simp [putM, List.foldl_append]
theorem up_putM (k : Int) : ∀ (xs : List Ms) {l : List Ms}, UpM l → UpM (putM k l xs)
  | [], _, h => h
  | _ :: xs, _, h => up_putM k xs (up_insM h)
theorem putM_perm (k : Int) {xs ys : List Ms} (h : xs.Perm ys) : ∀ {l : List Ms}, UpM l → putM k l xs = putM k l ys := by
  induction h with
  | nil => intro l _; rfl
  | cons x _ ih => intro l hl; exact ih (up_insM hl)
  | swap x y zs => intro l hl; show putM k (insM k (insM k l y) x) zs = putM k (insM k (insM k l x) y) zs; rw [insM_right k y x hl]
  | trans _ _ ih1 ih2 => intro l hl; rw [ih1 hl, ih2 hl]

/- A row whose last one is to the same vertex, or not. -/
def stp (k : Int) : List Ms → Ms → List Ms
  | [], m => [m]
  | [x], m => if x.1 = m.1 then [(x.1, comb k x.2 m.2)] else [x, m]
  | x :: y :: l, m => x :: stp k (y :: l) m
theorem stp_snoc (k : Int) (z m : Ms) : ∀ l : List Ms, stp k (l ++ [z]) m = if z.1 = m.1 then l ++ [(z.1, comb k z.2 m.2)] else l ++ [z, m]
  | [] => rfl
  | [x] => by
    show x :: stp k [z] m = _
    rw [show stp k [z] m = if z.1 = m.1 then [(z.1, comb k z.2 m.2)] else [z, m] from rfl]; split <;> rfl
  | x :: y :: l => by
    show x :: stp k ((y :: l) ++ [z]) m = _
    rw [stp_snoc k z m (y :: l)]; split <;> rfl
theorem stp_ins (k : Int) (m : Ms) : ∀ {l : List Ms}, UpM l → (∀ x ∈ l, x.1 ≤ m.1) → stp k l m = insM k l m
  | [], _, _ => rfl
  | [x], _, h => by
    have := h x List.mem_cons_self
    unfold stp insM
    by_cases e : x.1 = m.1
    · rw [if_pos e, if_neg (by omega), if_pos e, e]
    · rw [if_neg e, if_pos (by omega)]; rfl
  | x :: y :: l, hu, h => by
    obtain ⟨h1, h2⟩ := List.pairwise_cons.1 hu
    have hy := h1 y List.mem_cons_self
    have hm := h y (List.mem_cons_of_mem _ List.mem_cons_self)
    show x :: stp k (y :: l) m = insM k (x :: y :: l) m
    rw [insM, if_pos (show x.1 < m.1 by omega), stp_ins k m h2 (fun z hz => h z (List.mem_cons_of_mem _ hz))]
def SrtM (l : List Ms) : Prop := l.Pairwise fun a b => a.1 ≤ b.1
def grp (k : Int) (l xs : List Ms) : List Ms := xs.foldl (stp k) l
theorem grp_snoc (k : Int) (l xs : List Ms) (x : Ms) : grp k l (xs ++ [x]) = stp k (grp k l xs) x := by simp [grp, List.foldl_append]
theorem grp_put (k : Int) : ∀ (xs : List Ms) {l : List Ms}, SrtM xs → UpM l → (∀ x ∈ l, ∀ y ∈ xs, x.1 ≤ y.1) → grp k l xs = putM k l xs
  | [], _, _, _, _ => rfl
  | m :: xs, l, hs, hu, hl => by
    obtain ⟨h1, h2⟩ := List.pairwise_cons.1 hs
    show grp k (stp k l m) xs = putM k (insM k l m) xs
    rw [stp_ins k m hu (fun x hx => hl x hx m List.mem_cons_self)]
    refine grp_put k xs h2 (up_insM hu) fun x hx y hy => ?_
    rcases mem_insM hx with g | g
    · rw [g]; exact h1 y hy
    · exact hl x g y (List.mem_cons_of_mem _ hy)
/- Sorted and put together it is what was put in one after another. -/
theorem grp_sorted (k : Int) {S L : List Ms} (hs : SrtM S) (hp : S.Perm L) : grp k [] S = putM k [] L := by
  rw [grp_put k S hs (by simp [UpM]) (by simp)]
  exact putM_perm k hp (by simp [UpM])
theorem insM_end (k : Int) (m : Ms) : ∀ {l : List Ms}, (∀ x ∈ l, x.1 < m.1) → insM k l m = l ++ [m]
  | [], _ => rfl
  | x :: l, h => by
    rw [insM, if_pos (h x List.mem_cons_self), insM_end k m (fun y hy => h y (List.mem_cons_of_mem _ hy))]; rfl
theorem putM_up (k : Int) : ∀ (xs l : List Ms), UpM (l ++ xs) → putM k l xs = l ++ xs
  | [], l, _ => by simp [putM]
  | m :: xs, l, h => by
    have h0 := List.pairwise_append.1 h
    show putM k (insM k l m) xs = _
    rw [insM_end k m (fun x hx => h0.2.2 x hx m List.mem_cons_self), putM_up k xs (l ++ [m]) (by simpa using h)]; simp
theorem grp_len (k : Int) (m : Ms) : ∀ l : List Ms, (stp k l m).length ≤ l.length + 1
  | [] => by simp [stp]
  | [x] => by unfold stp; split <;> simp
  | x :: y :: l => by have := grp_len k m (y :: l); simp [stp] at this ⊢; omega
theorem insM_len (k : Int) (m : Ms) : ∀ l : List Ms, (insM k l m).length ≤ l.length + 1
  | [] => by simp [insM]
  | x :: l => by
    have := insM_len k m l
    unfold insM; split
    · simp; omega
    · split <;> simp
theorem putM_len (k : Int) : ∀ (xs l : List Ms), (putM k l xs).length ≤ l.length + xs.length
  | [], l => by simp [putM]
  | m :: xs, l => by have := putM_len k xs (insM k l m); have := insM_len k m l; show (putM k (insM k l m) xs).length ≤ _; simp at *; omega

/- What a vertex sends. -/
def sentR (v : Int) (n : Nat) (L : List Ed) : List Ms := L.map fun e => (e.2.1, giveI v n)
def sentL (v : Int) (L : List Int) : List Ms := L.map fun u => (u, v)
def sentP (v : Int) (L : List Ed) : List Ms := L.map fun e => (e.2.1, addI v e.2.2)
def rawM (k v x : Int) (ch : Bool) (L M : List Ed) : List Ms :=
  if k = 1 then sentR x L.length L else if ch = true then (if k = 2 then sentL x (nearL v L M) else if k = 3 then sentP x L else []) else []
def sendM (k v x : Int) (ch : Bool) (L M : List Ed) : List Ms := putM k [] (rawM k v x ch L M)
theorem sentL_up (v : Int) {L : List Int} (h : Up L) : UpM (sentL v L) := by
  unfold UpM sentL
  exact List.pairwise_map.2 (h.imp fun {a b} g => g)
theorem up_send (k v x : Int) (ch : Bool) (L M : List Ed) : UpM (sendM k v x ch L M) := up_putM k _ (by simp [UpM])

end Go.Proofs.YtbbmgandkmlojaaGreat.Al
