/-
  What is proved here: words for the items that the law FieldsKnown makes: a slice of the call's own, whose bytes lie in blocks of their own. No condition.
-/
import Derived.Test.YtepcfinojifecaaItems
namespace Go.Proofs.Ytepcfinojifecaa
open Go.RowKit

structure Ki where
  kind : Nat
  n : Nat
  blk : Nat
  len : Nat
def kcells (k : Ki) : List Value := [.int .u8 (k.kind : Int), .int .u64 (k.n : Int), .slice (some ⟨k.blk, 0, none⟩) k.len 3]
def kit (k : Ki) : It := ⟨k.kind, k.n, [k.kind, 255, 0].take k.len⟩
def KOk (w : World) (k : Ki) : Prop := k.kind < 256 ∧ k.n < 18446744073709551616 ∧ k.len ≤ 3 ∧ w.heap[k.blk]? = some (.cells #[.int .u8 (k.kind : Int), .int .u8 255, .int .u8 0] 5 (0, 0))
def flat (ks : List Ki) : List Value := ks.flatMap kcells
def KOwn (w : World) (base : Nat) (v : Value) (ks : List Ki) : Prop := w.ownsRow base 33 3 v ks.length (flat ks) ∧ ∀ k ∈ ks, KOk w k
theorem KOk.kept {w w' : World} {k : Ki} (h : KOk w k) (e : w'.heap[k.blk]? = w.heap[k.blk]?) : KOk w' k := ⟨h.1, h.2.1, h.2.2.1, e.trans h.2.2.2⟩
theorem own_below {w w' : World} {base e size : Nat} {v : Value} {n : Nat} {xs : List Value} (h : w.ownsRow base e size v n xs) (hb : Below w.heap.size w w') : w'.ownsRow base e size v n xs := by
  obtain ⟨h1, h2⟩ := h
  refine ⟨h1, ?_⟩
  rcases h2 with h2 | ⟨g, cap, cur, e1, e2, e3, e4⟩
  · exact Or.inl h2
  · exact Or.inr ⟨g, cap, cur, e1, e2, (hb.block g (lt_of_block e3)).trans e3, e4⟩
theorem KOwn.below {w w' : World} {base : Nat} {v : Value} {ks : List Ki} (h : KOwn w base v ks) (hb : Below w.heap.size w w') : KOwn w' base v ks :=
  ⟨own_below h.1 hb, fun k hk => (h.2 k hk).kept (hb.block _ (lt_of_block (h.2 k hk).2.2.2))⟩
theorem KOwn.none_ (w : World) (base : Nat) : KOwn w base (.slice none 0 0) [] := ⟨⟨rfl, Or.inl ⟨rfl, rfl⟩⟩, fun k hk => by cases hk⟩
theorem flat_at (ks : List Ki) (i j : Nat) (k : Ki) (hk : ks[i]? = some k) (hj : j < 3) : (flat ks)[i * 3 + j]? = (kcells k)[j]? := by
  induction ks generalizing i with
  | nil => simp at hk
  | cons x ks ih =>
    have e : flat (x :: ks) = kcells x ++ flat ks := by simp [flat]
    have l3 : (kcells x).length = 3 := rfl
    cases i with
    | zero =>
      simp at hk
      subst hk
      rw [e, List.getElem?_append_left (by omega)]
      simp
    | succ i =>
      rw [e, List.getElem?_append_right (by omega), l3, show (i + 1) * 3 + j - 3 = i * 3 + j by omega]
      exact ih i (by simpa using hk)
theorem KOwn.items {w : World} {base : Nat} {v : Value} {ks : List Ki} (h : KOwn w base v ks) (hn : 0 < ks.length) :
    ∃ (g c : Nat), v = .slice (some ⟨g, 0, none⟩) ks.length c ∧ ks.length ≤ c ∧ ItemsAt w (some ⟨g, 0, none⟩) (ks.map kit) := by
  obtain ⟨h1, h2⟩ := h
  rcases h1.2 with ⟨_, h0⟩ | ⟨g, cap, cur, rfl, _, _, hc, _⟩
  · omega
  · refine ⟨g, cap, rfl, hc, fun i x hx => ?_⟩
    rw [List.getElem?_map] at hx
    cases hk : ks[i]? with
    | none => rw [hk] at hx; cases hx
    | some k =>
      rw [hk] at hx
      simp at hx
      subst hx
      obtain ⟨k1, k2, k3, k4⟩ := h2 k (List.mem_of_getElem? hk)
      have key : ∀ j, j < 3 → ∀ u, (kcells k)[j]? = some u → w.cell? ⟨g, i * 3 + j, none⟩ = some u := by
        intro j hj u hu
        have := h1.cells (g := g) rfl (i * 3 + j) u ((flat_at ks i j k hk hj).trans hu)
        rw [add_plain, Nat.zero_add] at this; exact this
      have hl : (kit k).b.length = k.len := by simp [kit]; omega
      refine ⟨k1, k2, by rw [hl]; omega, g, 0, some ⟨k.blk, 0, none⟩, 3, rfl, ?_, ?_, ?_, ?_⟩
      · rw [Nat.zero_add]; exact key 0 (by omega) _ rfl
      · rw [Nat.zero_add]; exact key 1 (by omega) _ rfl
      · rw [Nat.zero_add, hl]; exact key 2 (by omega) _ rfl
      · have hr : Row w k.blk [k.kind, 255, 0] := k4
        refine (hr.at_ ?_).take k.len
        intro y hy
        simp at hy
        omega
theorem ItemsAt.take {w : World} {A : Option Addr} {ls : List It} (h : ItemsAt w A ls) (n : Nat) : ItemsAt w A (ls.take n) := by
  intro i x hx
  rw [List.getElem?_take] at hx
  split at hx
  · exact h i x hx
  · cases hx
theorem KOwn.snoc {w w' : World} {base : Nat} {v v' : Value} {ks : List Ki} {k : Ki} (h : KOwn w base v ks) (hk : KOk w k) (ho : w'.ownsRow base 33 3 v' (ks.length + 1) (flat ks ++ kcells k)) (hg : w.grownBy w' v.ownBlock) : KOwn w' base v' (ks ++ [k]) := by
  have hlt : ∀ x, KOk w x → w'.heap[x.blk]? = w.heap[x.blk]? := by
    intro x hx
    refine hg.block _ (lt_of_block hx.2.2.2) (fun e => ?_)
    rcases h.1.2 with ⟨rfl, _⟩ | ⟨g, cap, cur, rfl, _, hh, _⟩
    · cases e
    · have e2 : x.blk = g := by simpa [Value.ownBlock] using e
      have := hx.2.2.2
      rw [e2, hh] at this
      injection this with this
      injection this with _ this
      cases this
  refine ⟨?_, fun x hx => ?_⟩
  · have e : flat (ks ++ [k]) = flat ks ++ kcells k := by simp [flat]
    rw [e, List.length_append]; exact ho
  · rcases List.mem_append.1 hx with hx | hx
    · exact (h.2 x hx).kept (hlt x (h.2 x hx))
    · simp at hx
      subst hx
      exact hk.kept (hlt _ hk)

end Go.Proofs.Ytepcfinojifecaa
