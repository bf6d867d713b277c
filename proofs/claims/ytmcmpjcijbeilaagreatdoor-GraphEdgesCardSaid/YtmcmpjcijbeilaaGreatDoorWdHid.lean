/-
  What is proved here: contracts of words (and of the document's own words) once more, with what they ask behind a word of their own ('Hid'), their answers named; two slices of texts that are the same; texts just laid out; how long printed numbers and joined words are.
-/
import Derived.Test.YtmcmpjcijbeilaaGreatDoorWdW4
import Derived.Test.YtmcmpjcijbeilaaGreatDoorWdW5
import Derived.Test.YtmcmpjcijbeilaaGreatDoorWdW8
import Derived.Test.YtmcmpjcijbeilaaGreatDoorWdR2
import Derived.Test.YtmcmpjcijbeilaaGreatDoorWdR1
import Derived.Test.YtmcmpjcijbeilaaGreatDoorWdR5
import Derived.Test.YtmcmpjcijbeilaaGreatDoorWdR7
namespace Go.Proofs.YtmcmpjcijbeilaaGreatDoor.Wd
open Go Go.Lib

def rgB : List UInt8 → List Ch → Bool
  | l, [] => l.isEmpty
  | l, c :: cs => l.take c.bs.length == c.bs && !c.bs.isEmpty && dec l == (c.r, c.bs.length) && rgB (l.drop c.bs.length) cs
theorem rg_of_B : ∀ (cs : List Ch) (l : List UInt8), rgB l cs = true → Rg l cs
  | [], l, h => by show l = []; simpa [rgB] using h
  | c :: cs, l, h => by
    simp only [rgB, Bool.and_eq_true, beq_iff_eq, Bool.not_eq_true', List.isEmpty_eq_false_iff] at h
    obtain ⟨⟨⟨h1, h2⟩, h3⟩, h4⟩ := h
    exact ⟨l.drop c.bs.length, by rw [← h1, List.length_take]; rw [← h1] at h2; exact (by
      have : min (min c.bs.length l.length) l.length = min c.bs.length l.length := by omega
      rw [h1]
      conv => lhs; rw [← List.take_append_drop c.bs.length l]
      rw [h1]
      congr 1
      have hl := congrArg List.length h1
      rw [List.length_take] at hl
      rw [hl]), h2, h3, rg_of_B cs _ h4⟩
def asc (l : List UInt8) : List Ch := l.map fun b => ⟨b.toNat, [b]⟩

end Go.Proofs.YtmcmpjcijbeilaaGreatDoor.Wd
namespace Go.Proofs.YtmcmpjcijbeilaaGreatDoor.Ws
open Go.RowKit Wd

theorem below_step {B : Nat} {a b c : World} (h : Below B a b) (hB : B ≤ b.heap.size) (k : Below b.heap.size b c) : Below B a c := h.trans (k.mono hB)
theorem lit_txt (w : World) (L : List (List UInt8)) (n : Nat) (hn : L.length = n) : Txt (w.alloc (.cells (strs L).toArray 9)) (.slice (some ⟨w.heap.size, 0, none⟩) n n) L := by
  subst hn
  refine ⟨some ⟨w.heap.size, 0, none⟩, L.length, rfl, fun k x hx => ⟨_, rfl, ?_⟩⟩
  rw [add_plain, Nat.zero_add, cell_of_row _ _ k _ 9 (0, 0) (heap_alloc_new w _), List.getElem?_toArray, strs_at, hx]; rfl
theorem lines_at (s : ByteArray) (l : List UInt8) (L : List (List UInt8)) (w : World) (hs : s = sb l) (hl : l.length ≤ 300000) (hL : ln [] l = L) :
    Calls Tryz.prog 37 #[.string s] w fun e w' => ∃ v, e = .returned v ∧ Hid (Own w' w.heap.size v L) ∧ Hid (Below w.heap.size w w') := by
  subst hs hL; exact (lines_any l w hl).mono fun e w' ⟨v, h1, h2, h3⟩ => ⟨v, h1, Lib.hid h2, Lib.hid h3⟩
theorem words_at (s : ByteArray) (l : List UInt8) (cs : List Ch) (L : List (List UInt8)) (E : Int) (w : World) (hs : s = sb l) (h : rgB l cs = true) (hl : l.length ≤ 300000) (hL : wordsOf cs = (L, E)) :
    Calls Tryz.prog 54 #[.string s] w fun e w' => ∃ v, e = .returned (.tuple #[v, .int .i64 E]) ∧ Hid (Own w' w.heap.size v L) ∧ Hid (Below w.heap.size w w') := by
  subst hs
  refine (words_any l cs w (rg_of_B cs l h) hl).mono fun e w' ⟨v, h1, h2, h3⟩ => ?_
  rw [hL] at h1 h2
  exact ⟨v, h1, Lib.hid h2, Lib.hid h3⟩
theorem number_at (s : ByteArray) (l : List UInt8) (cs : List Ch) (n : Nat) (E : Int) (w : World) (hs : s = sb l) (hLd : Hid (Laid w)) (h : rgB l cs = true) (hl : l.length ≤ 300000) (hL : numOf cs = (n, E)) :
    Calls Tryz.prog 77 #[.string s] w fun e w' => e = .returned (.tuple #[.int .i64 (n : Int), .int .i64 E]) ∧ Hid (Below w.heap.size w w') := by
  subst hs
  refine (number_any l cs w hLd.out (rg_of_B cs l h) hl).mono fun e w' ⟨h1, h3⟩ => ?_
  rw [hL] at h1
  exact ⟨h1, Lib.hid h3⟩
theorem number_hid (s : ByteArray) (l : List UInt8) (cs : List Ch) (n : Nat) (E : Int) (w : World) (hs : s = sb l) (hLd : Hid (Laid w)) (h : Hid (Rg l cs)) (hl : l.length ≤ 300000) (hL : Hid (numOf cs = (n, E))) :
    Calls Tryz.prog 77 #[.string s] w fun e w' => e = .returned (.tuple #[.int .i64 (n : Int), .int .i64 E]) ∧ Hid (Below w.heap.size w w') := by
  subst hs
  refine (number_any l cs w hLd.out h.out hl).mono fun e w' ⟨h1, h3⟩ => ?_
  rw [hL.out] at h1
  exact ⟨h1, Lib.hid h3⟩
theorem rnumber_hid (s : ByteArray) (l : List UInt8) (cs : List Ch) (n : Nat) (E : Int) (w : World) (hs : s = sb l) (h : Hid (Rg l cs)) (hl : l.length ≤ 300000) (hL : Hid (numOf cs = (n, E))) :
    Calls Tryz.prog 41 #[.string s] w fun e w' => e = .returned (.tuple #[.int .i64 (n : Int), .int .i64 E]) ∧ Hid (Below w.heap.size w w') := by
  subst hs
  refine (rnumber_any l cs w h.out hl).mono fun e w' ⟨h1, h3⟩ => ?_
  rw [hL.out] at h1
  exact ⟨h1, Lib.hid h3⟩
theorem pr_len (k n : Nat) (hk : k < 3) (hn : n ≤ 9223372036854775807) : (pr k n).length ≤ 57 := by
  have h1 := flat_chs_len k hk (dg n) (dg_lt n)
  have h2 := dg_len n 18 (by omega)
  unfold pr; omega
theorem numOf_cases (cs : List Ch) : (isNum cs = true ∧ num 0 cs ≤ 4611686018427387904 ∧ numOf cs = (num 0 cs, 0)) ∨ numOf cs = (0, 30) ∨ numOf cs = (0, 50) := by
  unfold numOf
  cases isNum cs with
  | false => right; left; rfl
  | true =>
    by_cases h : 4611686018427387904 < num 0 cs
    · right; right; rw [if_pos rfl, if_pos h]
    · left; exact ⟨rfl, by omega, by rw [if_pos rfl, if_neg h]⟩
theorem lines_hid (s : ByteArray) (l : List UInt8) (L : List (List UInt8)) (w : World) (hs : s = sb l) (hl : l.length ≤ 300000) (hL : Hid (ln [] l = L)) :
    Calls Tryz.prog 37 #[.string s] w fun e w' => ∃ v, e = .returned v ∧ Hid (Own w' w.heap.size v L) ∧ Hid (Below w.heap.size w w') := by
  subst hs; rw [← hL.out]; exact (lines_any l w hl).mono fun e w' ⟨v, h1, h2, h3⟩ => ⟨v, h1, Lib.hid h2, Lib.hid h3⟩
theorem rlines_at (s : ByteArray) (l : List UInt8) (L : List (List UInt8)) (w : World) (hs : s = sb l) (hl : l.length ≤ 300000) (hL : Hid (ln [] l = L)) :
    Calls Tryz.prog 39 #[.string s] w fun e w' => ∃ v, e = .returned v ∧ Hid (Own w' w.heap.size v L) ∧ Hid (Below w.heap.size w w') := by
  subst hs; rw [← hL.out]; exact (rlines_any l w hl).mono fun e w' ⟨v, h1, h2, h3⟩ => ⟨v, h1, Lib.hid h2, Lib.hid h3⟩
theorem lns_append (a b : List (List UInt8)) : lns (a ++ b) = lns a ++ lns b := by simp [lns]
theorem lns_take (L : List (List UInt8)) (k : Nat) : (lns (L.take k)).length ≤ (lns L).length := by
  conv => rhs; rw [← List.take_append_drop k L, lns_append, List.length_append]
  omega
theorem lns_mem (L : List (List UInt8)) (k : Nat) (x : List UInt8) (h : L[k]? = some x) : x.length ≤ (lns L).length := by
  obtain ⟨h1, h2⟩ := List.getElem?_eq_some_iff.1 h
  have := lns_take L (k + 1)
  rw [List.take_succ_eq_append_getElem h1, h2, lns_snoc] at this
  simp only [List.length_append] at this
  omega
theorem take_more {α : Type} (L : List α) (k : Nat) (x : α) (h : L[k]? = some x) : L.take (k + 1) = L.take k ++ [x] := by
  obtain ⟨h1, h2⟩ := List.getElem?_eq_some_iff.1 h
  rw [List.take_succ_eq_append_getElem h1, h2]
theorem words_hid (s : ByteArray) (l : List UInt8) (cs : List Ch) (L : List (List UInt8)) (E : Int) (w : World) (hs : s = sb l) (h : Hid (Rg l cs)) (hl : l.length ≤ 300000) (hL : Hid (wordsOf cs = (L, E))) :
    Calls Tryz.prog 54 #[.string s] w fun e w' => ∃ v, e = .returned (.tuple #[v, .int .i64 E]) ∧ Hid (Own w' w.heap.size v L) ∧ Hid (Below w.heap.size w w') := by
  subst hs
  refine (words_any l cs w h.out hl).mono fun e w' ⟨v, h1, h2, h3⟩ => ?_
  rw [hL.out] at h1 h2
  exact ⟨v, h1, Lib.hid h2, Lib.hid h3⟩
theorem rwords_hid (s : ByteArray) (l : List UInt8) (cs : List Ch) (L : List (List UInt8)) (E : Int) (w : World) (hs : s = sb l) (h : Hid (Rg l cs)) (hl : l.length ≤ 300000) (hL : Hid (wordsOf cs = (L, E))) :
    Calls Tryz.prog 40 #[.string s] w fun e w' => ∃ v, e = .returned (.tuple #[v, .int .i64 E]) ∧ Hid (Own w' w.heap.size v L) ∧ Hid (Below w.heap.size w w') := by
  subst hs
  refine (rwords_any l cs w h.out hl).mono fun e w' ⟨v, h1, h2, h3⟩ => ?_
  rw [hL.out] at h1 h2
  exact ⟨v, h1, Lib.hid h2, Lib.hid h3⟩

/- Words with one blank between. -/
theorem flat_nonempty {cur : List Ch} (h : ∀ c ∈ cur, c.bs ≠ []) (hn : cur ≠ []) : flat cur ≠ [] := by
  cases cur with
  | nil => exact absurd rfl hn
  | cons c t => rw [flat_cons]; simp [h c List.mem_cons_self]
theorem wd_count : ∀ (cs cur : List Ch), (wd cur cs).length ≤ cur.length + cs.length
  | [], cur => by
    rw [wd]; split
    · simp
    · rename_i h; cases cur with
      | nil => exact absurd rfl h
      | cons a t => simp
  | c :: cs, cur => by
    rw [wd]
    have h1 := wd_count cs []
    have h2 := wd_count cs (cur ++ [c])
    simp only [List.length_nil, List.length_append, List.length_cons] at h1 h2
    split
    · split
      · simp only [List.length_cons]; omega
      · rename_i h
        have : 1 ≤ cur.length := by cases cur with
          | nil => exact absurd rfl h
          | cons a t => simp
        simp only [List.length_cons]; omega
    · simp only [List.length_cons]; omega
def tot (M : List (List Ch)) : Nat := (M.map fun x => (flat x).length).sum
theorem wd_tot : ∀ (cs cur : List Ch), tot (wd cur cs) ≤ (flat cur).length + (flat cs).length
  | [], cur => by
    rw [wd]; split
    · simp [tot]
    · simp [tot]
  | c :: cs, cur => by
    rw [wd]
    have h1 := wd_tot cs []
    have h2 := wd_tot cs (cur ++ [c])
    rw [flat_append, List.length_append] at h2
    simp only [flat_nil, List.length_nil] at h1
    have h3 : (flat [c]).length = c.bs.length := by simp [flat]
    rw [flat_cons, List.length_append]
    split
    · split
      · omega
      · show (flat cur).length + tot (wd [] cs) ≤ _
        omega
    · omega
theorem jn_len : ∀ M : List (List Ch), (flat (jn M)).length ≤ tot M + M.length
  | [] => by simp [jn, flat]
  | [x] => by simp [jn, tot]
  | x :: y :: M => by
    have := jn_len (y :: M)
    rw [jn, flat_append, flat_cons, List.length_append, List.length_append]
    have e : tot (x :: y :: M) = (flat x).length + tot (y :: M) := by simp [tot]
    rw [e]
    have h32 : sp.bs.length = 1 := rfl
    simp only [List.length_cons] at this ⊢
    omega
theorem tot_take (M : List (List Ch)) (k : Nat) : tot (M.take k) ≤ tot M := by
  have : tot M = tot (M.take k) + tot (M.drop k) := by
    conv => lhs; rw [← List.take_append_drop k M]
    unfold tot; rw [List.map_append, List.sum_append]
  omega
theorem tot_mem (M : List (List Ch)) (k : Nat) (x : List Ch) (h : M[k]? = some x) : (flat x).length ≤ tot M := by
  have := tot_take M (k + 1)
  rw [take_more M k x h] at this
  simp only [tot, List.map_append, List.sum_append, List.map_cons, List.map_nil, List.sum_cons, List.sum_nil] at this
  simp only [tot]; omega
structure Wds (l : List UInt8) (M : List (List Ch)) : Prop where
  ne : ∀ x ∈ M, flat x ≠ []
  rg : Rg (flat (jn M)) (jn M)
  back : wordsOf (jn M) = (M.map flat, 0)
  tots : tot M + M.length ≤ 2 * l.length
theorem wds_of (l : List UInt8) (cs : List Ch) (h : Rg l cs) : ∃ (M : List (List Ch)) (E : Int), wordsOf cs = (M.map flat, E) ∧ Wds l M := by
  cases hok : (tw cs).all okC with
  | false =>
    refine ⟨[], 30, by unfold wordsOf; rw [hok]; rfl, by simp, rfl, by decide, by simp [tot]⟩
  | true =>
    obtain ⟨h1, h2⟩ := words_back cs l h hok
    refine ⟨wd [] (tw cs), 0, by unfold wordsOf; rw [hok]; rfl, ?_, h1, h2, ?_⟩
    · intro x hx
      obtain ⟨g1, g2⟩ := wd_mem (tw cs) [] (by simp) x hx
      refine flat_nonempty (fun c hc => ?_) g1
      rcases (g2 c hc).2 with g | g
      · simp at g
      · exact rg_ne cs l h c (tw_mem cs c g).1
    · have a := wd_tot (tw cs) []
      have b := wd_count (tw cs) []
      have c1 := flat_tw_len cs
      have d := rg_len _ _ (rg_tw cs l h).1
      rw [← rg_flat cs l h] at c1
      simp only [flat_nil, List.length_nil] at a b
      omega

end Go.Proofs.YtmcmpjcijbeilaaGreatDoor.Ws
