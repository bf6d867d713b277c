/-
  What is proved here: the texts WdHid GrW10 GrKey GrW11 GrW12 GrW13 GrW14 GrW15 GrSort3 GrSort4 GrSort5 GrW4 of this seat, laid together (each says itself what it proves; no condition beyond theirs).
-/
import Derived.Test.YtmcmpjcijbeilaaGreatDoorGmA
import Derived.Test.YtmcmpjcijbeilaaGreatDoorGmB
import Derived.Test.YtmcmpjcijbeilaaGreatDoorGmC
import Derived.Test.YtmcmpjcijbeilaaGreatDoorGmE
import Derived.DeepKeys4
import Derived.MapViews
import Derived.Maps.OwnSet
import Derived.Maps.Views
import Derived.Deep.RegionLaw
import Derived.RegionTactic
import Derived.ScopeJumps
import Derived.WalkMore
import Derived.Shelf.GgSortFunc.Tiny
import Derived.Sort.LotA
/-
  What is proved here: contracts of words (and of the document's own words) once more, with what they ask behind a word of their own ('Hid'), their answers named; two slices of texts that are the same; texts just laid out; how long printed numbers and joined words are.
-/
namespace Go.Proofs.YtmcmpjcijbeilaaGreatDoor.Wd
open Go Go.Lib

def rgB : List UInt8 → List Ch → Bool
  | l, [] => l.isEmpty
  | l, c :: cs => l.take c.bs.length == c.bs && !c.bs.isEmpty && dec l == (c.r, c.bs.length) && rgB (l.drop c.bs.length) cs
theorem rg_of_B : ∀ (cs : List Ch) (l : List UInt8), rgB l cs = true → Rg l cs
  | [], l, h => by show l = []; simpa [rgB] using h
  | c :: cs, l, h => by
    simp only [rgB, Bool.and_eq_true, beq_iff_eq, Bool.not_eq_true', List.isEmpty_eq_false_iff] at h
    obtain ⟨⟨⟨h1, h2⟩, h3⟩, h4⟩ := h
    exact ⟨l.drop c.bs.length, by rw [← h1, List.length_take]; rw [← h1] at h2; exact (by
      have : min (min c.bs.length l.length) l.length = min c.bs.length l.length := by omega
      rw [h1]
      conv => lhs; rw [← List.take_append_drop c.bs.length l]
      rw [h1]
      congr 1
      have hl := congrArg List.length h1
      rw [List.length_take] at hl
      rw [hl]), h2, h3, rg_of_B cs _ h4⟩
def asc (l : List UInt8) : List Ch := l.map fun b => ⟨b.toNat, [b]⟩

end Go.Proofs.YtmcmpjcijbeilaaGreatDoor.Wd
namespace Go.Proofs.YtmcmpjcijbeilaaGreatDoor.Ws
open Go.RowKit Wd

theorem below_step {B : Nat} {a b c : World} (h : Below B a b) (hB : B ≤ b.heap.size) (k : Below b.heap.size b c) : Below B a c := h.trans (k.mono hB)
theorem lit_txt (w : World) (L : List (List UInt8)) (n : Nat) (hn : L.length = n) : Txt (w.alloc (.cells (strs L).toArray 9)) (.slice (some ⟨w.heap.size, 0, none⟩) n n) L := by
  subst hn
  refine ⟨some ⟨w.heap.size, 0, none⟩, L.length, rfl, fun k x hx => ⟨_, rfl, ?_⟩⟩
  rw [add_plain, Nat.zero_add, cell_of_row _ _ k _ 9 (0, 0) (heap_alloc_new w _), List.getElem?_toArray, strs_at, hx]; rfl
theorem lines_at (s : ByteArray) (l : List UInt8) (L : List (List UInt8)) (w : World) (hs : s = sb l) (hl : l.length ≤ 300000) (hL : ln [] l = L) :
    Calls Tryz.prog 37 #[.string s] w fun e w' => ∃ v, e = .returned v ∧ Hid (Own w' w.heap.size v L) ∧ Hid (Below w.heap.size w w') := by
  subst hs hL; exact (lines_any l w hl).mono fun e w' ⟨v, h1, h2, h3⟩ => ⟨v, h1, Lib.hid h2, Lib.hid h3⟩
theorem words_at (s : ByteArray) (l : List UInt8) (cs : List Ch) (L : List (List UInt8)) (E : Int) (w : World) (hs : s = sb l) (h : rgB l cs = true) (hl : l.length ≤ 300000) (hL : wordsOf cs = (L, E)) :
    Calls Tryz.prog 54 #[.string s] w fun e w' => ∃ v, e = .returned (.tuple #[v, .int .i64 E]) ∧ Hid (Own w' w.heap.size v L) ∧ Hid (Below w.heap.size w w') := by
  subst hs
  refine (words_any l cs w (rg_of_B cs l h) hl).mono fun e w' ⟨v, h1, h2, h3⟩ => ?_
  rw [hL] at h1 h2
  exact ⟨v, h1, Lib.hid h2, Lib.hid h3⟩
theorem number_at (s : ByteArray) (l : List UInt8) (cs : List Ch) (n : Nat) (E : Int) (w : World) (hs : s = sb l) (hLd : Hid (Laid w)) (h : rgB l cs = true) (hl : l.length ≤ 300000) (hL : numOf cs = (n, E)) :
    Calls Tryz.prog 77 #[.string s] w fun e w' => e = .returned (.tuple #[.int .i64 (n : Int), .int .i64 E]) ∧ Hid (Below w.heap.size w w') := by
  subst hs
  refine (number_any l cs w hLd.out (rg_of_B cs l h) hl).mono fun e w' ⟨h1, h3⟩ => ?_
  rw [hL] at h1
  exact ⟨h1, Lib.hid h3⟩
theorem number_hid (s : ByteArray) (l : List UInt8) (cs : List Ch) (n : Nat) (E : Int) (w : World) (hs : s = sb l) (hLd : Hid (Laid w)) (h : Hid (Rg l cs)) (hl : l.length ≤ 300000) (hL : Hid (numOf cs = (n, E))) :
    Calls Tryz.prog 77 #[.string s] w fun e w' => e = .returned (.tuple #[.int .i64 (n : Int), .int .i64 E]) ∧ Hid (Below w.heap.size w w') := by
  subst hs
  refine (number_any l cs w hLd.out h.out hl).mono fun e w' ⟨h1, h3⟩ => ?_
  rw [hL.out] at h1
  exact ⟨h1, Lib.hid h3⟩
theorem rnumber_hid (s : ByteArray) (l : List UInt8) (cs : List Ch) (n : Nat) (E : Int) (w : World) (hs : s = sb l) (h : Hid (Rg l cs)) (hl : l.length ≤ 300000) (hL : Hid (numOf cs = (n, E))) :
    Calls Tryz.prog 41 #[.string s] w fun e w' => e = .returned (.tuple #[.int .i64 (n : Int), .int .i64 E]) ∧ Hid (Below w.heap.size w w') := by
  subst hs
  refine (rnumber_any l cs w h.out hl).mono fun e w' ⟨h1, h3⟩ => ?_
  rw [hL.out] at h1
  exact ⟨h1, Lib.hid h3⟩
theorem pr_len (k n : Nat) (hk : k < 3) (hn : n ≤ 9223372036854775807) : (pr k n).length ≤ 57 := by
  have h1 := flat_chs_len k hk (dg n) (dg_lt n)
  have h2 := dg_len n 18 (by omega)
  unfold pr; omega
theorem numOf_cases (cs : List Ch) : (isNum cs = true ∧ num 0 cs ≤ 4611686018427387904 ∧ numOf cs = (num 0 cs, 0)) ∨ numOf cs = (0, 30) ∨ numOf cs = (0, 50) := by
  unfold numOf
  cases isNum cs with
  | false => right; left; rfl
  | true =>
    by_cases h : 4611686018427387904 < num 0 cs
    · right; right; rw [if_pos rfl, if_pos h]
    · left; exact ⟨rfl, by omega, by rw [if_pos rfl, if_neg h]⟩
theorem lines_hid (s : ByteArray) (l : List UInt8) (L : List (List UInt8)) (w : World) (hs : s = sb l) (hl : l.length ≤ 300000) (hL : Hid (ln [] l = L)) :
    Calls Tryz.prog 37 #[.string s] w fun e w' => ∃ v, e = .returned v ∧ Hid (Own w' w.heap.size v L) ∧ Hid (Below w.heap.size w w') := by
  subst hs; rw [← hL.out]; exact (lines_any l w hl).mono fun e w' ⟨v, h1, h2, h3⟩ => ⟨v, h1, Lib.hid h2, Lib.hid h3⟩
theorem rlines_at (s : ByteArray) (l : List UInt8) (L : List (List UInt8)) (w : World) (hs : s = sb l) (hl : l.length ≤ 300000) (hL : Hid (ln [] l = L)) :
    Calls Tryz.prog 39 #[.string s] w fun e w' => ∃ v, e = .returned v ∧ Hid (Own w' w.heap.size v L) ∧ Hid (Below w.heap.size w w') := by
  subst hs; rw [← hL.out]; exact (rlines_any l w hl).mono fun e w' ⟨v, h1, h2, h3⟩ => ⟨v, h1, Lib.hid h2, Lib.hid h3⟩
theorem lns_append (a b : List (List UInt8)) : lns (a ++ b) = lns a ++ lns b := by simp [lns]
theorem lns_take (L : List (List UInt8)) (k : Nat) : (lns (L.take k)).length ≤ (lns L).length := by
  conv => rhs; rw [← List.take_append_drop k L, lns_append, List.length_append]
  omega
theorem lns_mem (L : List (List UInt8)) (k : Nat) (x : List UInt8) (h : L[k]? = some x) : x.length ≤ (lns L).length := by
  obtain ⟨h1, h2⟩ := List.getElem?_eq_some_iff.1 h
  have := lns_take L (k + 1)
  rw [List.take_succ_eq_append_getElem h1, h2, lns_snoc] at this
  simp only [List.length_append] at this
  omega
theorem take_more {α : Type} (L : List α) (k : Nat) (x : α) (h : L[k]? = some x) : L.take (k + 1) = L.take k ++ [x] := by
  obtain ⟨h1, h2⟩ := List.getElem?_eq_some_iff.1 h
  rw [List.take_succ_eq_append_getElem h1, h2]
theorem words_hid (s : ByteArray) (l : List UInt8) (cs : List Ch) (L : List (List UInt8)) (E : Int) (w : World) (hs : s = sb l) (h : Hid (Rg l cs)) (hl : l.length ≤ 300000) (hL : Hid (wordsOf cs = (L, E))) :
    Calls Tryz.prog 54 #[.string s] w fun e w' => ∃ v, e = .returned (.tuple #[v, .int .i64 E]) ∧ Hid (Own w' w.heap.size v L) ∧ Hid (Below w.heap.size w w') := by
  subst hs
  refine (words_any l cs w h.out hl).mono fun e w' ⟨v, h1, h2, h3⟩ => ?_
  rw [hL.out] at h1 h2
  exact ⟨v, h1, Lib.hid h2, Lib.hid h3⟩
theorem rwords_hid (s : ByteArray) (l : List UInt8) (cs : List Ch) (L : List (List UInt8)) (E : Int) (w : World) (hs : s = sb l) (h : Hid (Rg l cs)) (hl : l.length ≤ 300000) (hL : Hid (wordsOf cs = (L, E))) :
    Calls Tryz.prog 40 #[.string s] w fun e w' => ∃ v, e = .returned (.tuple #[v, .int .i64 E]) ∧ Hid (Own w' w.heap.size v L) ∧ Hid (Below w.heap.size w w') := by
  subst hs
  refine (rwords_any l cs w h.out hl).mono fun e w' ⟨v, h1, h2, h3⟩ => ?_
  rw [hL.out] at h1 h2
  exact ⟨v, h1, Lib.hid h2, Lib.hid h3⟩

/- Words with one blank between. -/
theorem flat_nonempty {cur : List Ch} (h : ∀ c ∈ cur, c.bs ≠ []) (hn : cur ≠ []) : flat cur ≠ [] := by
  cases cur with
  | nil => exact absurd rfl hn
  | cons c t => rw [flat_cons]; simp [h c List.mem_cons_self]
theorem wd_count : ∀ (cs cur : List Ch), (wd cur cs).length ≤ cur.length + cs.length
  | [], cur => by
    rw [wd]; split
    · simp
    · rename_i h; cases cur with
      | nil => exact absurd rfl h
      | cons a t => simp
  | c :: cs, cur => by
    rw [wd]
    have h1 := wd_count cs []
    have h2 := wd_count cs (cur ++ [c])
    simp only [List.length_nil, List.length_append, List.length_cons] at h1 h2
    split
    · split
      · simp only [List.length_cons]; omega
      · rename_i h
        have : 1 ≤ cur.length := by cases cur with
          | nil => exact absurd rfl h
          | cons a t => simp
        simp only [List.length_cons]; omega
    · simp only [List.length_cons]; omega
def tot (M : List (List Ch)) : Nat := (M.map fun x => (flat x).length).sum
theorem wd_tot : ∀ (cs cur : List Ch), tot (wd cur cs) ≤ (flat cur).length + (flat cs).length
  | [], cur => by
    rw [wd]; split
    · simp [tot]
    · simp [tot]
  | c :: cs, cur => by
    rw [wd]
    have h1 := wd_tot cs []
    have h2 := wd_tot cs (cur ++ [c])
    rw [flat_append, List.length_append] at h2
    simp only [flat_nil, List.length_nil] at h1
    have h3 : (flat [c]).length = c.bs.length := by simp [flat]
    rw [flat_cons, List.length_append]
    split
    · split
      · omega
      · show (flat cur).length + tot (wd [] cs) ≤ _
        omega
    · omega
theorem jn_len : ∀ M : List (List Ch), (flat (jn M)).length ≤ tot M + M.length
  | [] => by simp [jn, flat]
  | [x] => by simp [jn, tot]
  | x :: y :: M => by
    have := jn_len (y :: M)
    rw [jn, flat_append, flat_cons, List.length_append, List.length_append]
    have e : tot (x :: y :: M) = (flat x).length + tot (y :: M) := by simp [tot]
    rw [e]
    have h32 : sp.bs.length = 1 := rfl
    simp only [List.length_cons] at this ⊢
    omega
theorem tot_take (M : List (List Ch)) (k : Nat) : tot (M.take k) ≤ tot M := by
  have : tot M = tot (M.take k) + tot (M.drop k) := by
    conv => lhs; rw [← List.take_append_drop k M]
    unfold tot; rw [List.map_append, List.sum_append]
  omega
theorem tot_mem (M : List (List Ch)) (k : Nat) (x : List Ch) (h : M[k]? = some x) : (flat x).length ≤ tot M := by
  have := tot_take M (k + 1)
  rw [take_more M k x h] at this
  simp only [tot, List.map_append, List.sum_append, List.map_cons, List.map_nil, List.sum_cons, List.sum_nil] at this
  simp only [tot]; omega
structure Wds (l : List UInt8) (M : List (List Ch)) : Prop where
  ne : ∀ x ∈ M, flat x ≠ []
  rg : Rg (flat (jn M)) (jn M)
  back : wordsOf (jn M) = (M.map flat, 0)
  tots : tot M + M.length ≤ 2 * l.length
theorem wds_of (l : List UInt8) (cs : List Ch) (h : Rg l cs) : ∃ (M : List (List Ch)) (E : Int), wordsOf cs = (M.map flat, E) ∧ Wds l M := by
  cases hok : (tw cs).all okC with
  | false =>
    refine ⟨[], 30, by unfold wordsOf; rw [hok]; rfl, by simp, rfl, by decide, by simp [tot]⟩
  | true =>
    obtain ⟨h1, h2⟩ := words_back cs l h hok
    refine ⟨wd [] (tw cs), 0, by unfold wordsOf; rw [hok]; rfl, ?_, h1, h2, ?_⟩
    · intro x hx
      obtain ⟨g1, g2⟩ := wd_mem (tw cs) [] (by simp) x hx
      refine flat_nonempty (fun c hc => ?_) g1
      rcases (g2 c hc).2 with g | g
      · simp at g
      · exact rg_ne cs l h c (tw_mem cs c g).1
    · have a := wd_tot (tw cs) []
      have b := wd_count (tw cs) []
      have c1 := flat_tw_len cs
      have d := rg_len _ _ (rg_tw cs l h).1
      rw [← rg_flat cs l h] at c1
      simp only [flat_nil, List.length_nil] at a b
      omega

end Go.Proofs.YtmcmpjcijbeilaaGreatDoor.Ws

/-
  What is proved here: the contract of graph.numbersOf: the numbers that words are, if each is one. Conditions: each word has at most 300000 bytes; the package variables lie as their texts lay them.
-/
namespace Go.Proofs.YtmcmpjcijbeilaaGreatDoor.Gr
open Go.RowKit Wd Ws

/- Numbers that a call has made, from block B on. -/
def nums (ns : List Nat) : List Value := ns.map fun n : Nat => Value.int .i64 (n : Int)
theorem nums_append (a b : List Nat) : nums (a ++ b) = nums a ++ nums b := by simp [nums]
theorem nums_one (ns : List Nat) : ∀ u ∈ nums ns, u.oneCell' = true := by
  intro u hu
  simp only [nums, List.mem_map] at hu
  obtain ⟨x, _, rfl⟩ := hu
  rfl
def NOwn (w : World) (B : Nat) (v : Value) (ns : List Nat) : Prop := w.ownsRow B 2 1 v ns.length (nums ns)
theorem NOwn.none_ (w : World) (B : Nat) : NOwn w B (.slice none 0 0) [] := World.ownsRow_nil _ _ _ _
theorem NOwn.below {w w' : World} {B : Nat} {v : Value} {L : List Nat} (h : NOwn w B v L) (hb : Below w.heap.size w w') : NOwn w' B v L := own_below h hb
theorem NOwn.form {w : World} {B : Nat} {v : Value} {ns : List Nat} (h : NOwn w B v ns) : ∃ (A : Option Addr) (c : Nat), v = .slice A ns.length c ∧ ∀ (k n : Nat), ns[k]? = some n → ∃ g, A = some ⟨g, 0, none⟩ ∧ B ≤ g ∧ g < w.heap.size ∧ w.cell? ⟨g, k, none⟩ = some (.int .i64 (n : Int)) := by
  obtain ⟨h0, h1 | ⟨g, cap, cur, h1, h2, h3, h4, h5, h6, h7⟩⟩ := h
  · have : ns = [] := List.eq_nil_of_length_eq_zero h1.2
    subst this
    exact ⟨none, 0, h1.1, fun k n h => by simp at h⟩
  · refine ⟨some ⟨g, 0, none⟩, cap, h1, fun k n hx => ⟨g, rfl, h2, lt_of_block h3, ?_⟩⟩
    have hk : k < ns.length := lt_at hx
    rw [cell_of_row w g k _ 2 (0, 0) h3]
    have e1 : cur[k]? = (cur.toList.take (ns.length * 1))[k]? := by
      rw [List.getElem?_take, if_pos (by omega), Array.getElem?_toList]
    rw [e1, h7, nums, List.getElem?_map, hx]; rfl
theorem infoN : (Tryz.prog.info? 2).map (fun i => (i.zero, i.size, i.bytes)) = some (some (.int .i64 0), 1, 8) := by kernel_rfl
theorem app_n {w : World} {ops : Array Oper} {rest : List Oper} {o : Oper} {a : Act} {Q : Exit → Act → World → Prop} (hgd : o.guard = none) (s x : Operand)
    (ho : o.op = .call { callee := .builtin .append, args := #[s, x], argTypes := #[69, 69] }) (B : Nat) (v : Value) (L : List Nat) (y : Nat) (hs : a.eval s = v) (hown : NOwn w B v L)
    (g : Nat) (hx : a.eval x = .slice (some ⟨g, 0, none⟩) 1 1) (hg : w.heap[g]? = some (.cells #[.int .i64 (y : Int)] 2 (0, 0))) (hn : L.length < 1000000000) (hB : B ≤ w.heap.size)
    (h : ∀ v' w', NOwn w' B v' (L ++ [y]) → w.grownBy w' v.ownBlock → wpList Tryz.prog ops Q rest (a.put o.dst v') w') : wpList Tryz.prog ops Q (o :: rest) a w := by
  obtain ⟨i0, hi, hz0, hz1, hz2⟩ := info_parts infoN
  refine wpList_append_own w hgd s x 69 ho B 2 i0 (.int .i64 0) 1 8 Tryz.underlying69 hi hz0 hz1 hz2 rfl (by decide) v L.length (nums L) hs hown ⟨g, 0, none⟩ 1 1 (nums [y]) hx rfl ?_ (nums_one _) ?_ ?_ hB ?_
  · intro j u hu
    rcases j with _ | j
    · simp [nums] at hu
      rw [← hu, add_plain, Lib.cell_of_heap hg]; rfl
    · simp [nums] at hu
  · unfold maxLen; omega
  · omega
  · intro v' w' h1 h2 _
    refine h v' w' ?_ h2
    unfold NOwn
    rw [nums_append, List.length_append]
    exact h1

def NuR (w : World) (ws : List (List UInt8)) (g : Nat) (v i : Value) (wr : World) : Prop :=
  ∃ (k : Nat) (done : List Nat), k + g = ws.length ∧ done.length = k ∧ i = .int .i64 (k : Int) ∧ NOwn wr w.heap.size v done ∧ Below w.heap.size w wr ∧ numsOf ws = (match numsOf (ws.drop k) with | none => none | some l => some (done ++ l))

def NumRes (B : Nat) (w' : World) (e : Ending) : Option (List Nat) → Prop
  | none => e = .returned (.tuple #[.slice none 0 0, .bool false])
  | some ns => ∃ v, e = .returned (.tuple #[v, .bool true]) ∧ Hid (NOwn w' B v ns)

set_option maxRecDepth 100000 in
set_option maxHeartbeats 600000 in
theorem numbersOf_any (A : Option Addr) (c n : Nat) (ws : List (List UInt8)) (w : World) (hn : ws.length = n) (hA : Hid (∀ k x, ws[k]? = some x → ∃ g o, A = some ⟨g, o, none⟩ ∧ w.cell? ⟨g, o + k, none⟩ = some (.string (sb x)))) (hLd : Hid (Laid w)) (hw : Hid (∀ x ∈ ws, x.length ≤ 300000)) (hl : n ≤ 1000000)
    (r : Option (List Nat)) (hr : Hid (numsOf ws = r)) :
    Calls Tryz.prog 55 #[.slice A n c] w fun e w' => NumRes w.heap.size w' e r ∧ Hid (Below w.heap.size w w') := by
  have HN := Lib.hid hn; clear hn
  go_enter Tryz.func55, Tryz.ntmps55
  go_wp2
  go_loopg [4, 11] n (fun g v i wr => NuR w ws g v i wr)
  case atStart => exact ⟨0, [], by rw [HN.out]; omega, rfl, rfl, NOwn.none_ _ _, Below.refl _ w, by rw [List.drop_zero]; cases numsOf ws <;> rfl⟩
  case round =>
    obtain ⟨k, done, hk, hd, rfl, ho, hb, hq⟩ := hrel
    rw [HN.out] at hk
    have hsz := hb.size
    by_cases hlt : k < n
    · obtain ⟨x, hx⟩ := at_lt ws k (by rw [HN.out]; exact hlt)
      obtain ⟨g, o, rfl, hc0⟩ := hA.out k x hx
      have hc := (hb.cell (block_lt_of_cell hc0)).trans hc0
      rw [drop_at hx] at hq
      have hxl := hw.out x (List.mem_of_getElem? hx)
      obtain ⟨m, E, hm⟩ : ∃ m E, numB x = (m, E) := ⟨_, _, rfl⟩
      have HNB : Hid (numOf (chOf x) = (m, E)) := Lib.hid hm
      have HLw := Lib.hid (hLd.out.bel hb)
      have HRG := Lib.hid (chOf_rg x)
      have HM := Lib.hid hm
      have HQ := Lib.hid hq; have HB := Lib.hid hb; have HO := Lib.hid ho
      clear hq hb ho hm hx hc0
      go_wp2_with fail
      refine (number_hid _ x (chOf x) m E _ rfl HLw HRG hxl HNB).mono ?_
      rintro e w1 ⟨rfl, HB1⟩
      have HO1 := Lib.hid (HO.out.below HB1.out)
      have HBB := Lib.hid (step_below HB.out hsz HB1.out)
      have hs1 := HB1.out.size
      by_cases hE : E = 0
      · subst hE
        have hnew := heap_alloc_new w1 (.cells #[.int .i64 (m : Int)] 2)
        have HNW := Lib.hid hnew; clear hnew
        have HO2 : Hid (NOwn (w1.alloc (.cells #[.int .i64 (m : Int)] 2)) w.heap.size _ done) := Lib.hid (World.ownsRow.alloc HO1.out _)
        have HB2 := Lib.hid (HBB.out.alloc (by omega) (.cells #[.int .i64 (m : Int)] 2))
        go_wp2_with (at_builtin; refine app_n rfl (.tmp 22) (.tmp 24) rfl w.heap.size _ done m rfl HO2.out _ rfl HNW.out ?c1 ?c2 ?_)
        case c1 => omega
        case c2 => simp; omega
        intro v' w2 ho2 hg2
        have HB3 := Lib.hid (Below.grown HB2.out hg2 HB2.out.size fun j e => (own_lt HO2.out j e).1)
        have HO3 := Lib.hid ho2; clear ho2 hg2
        go_wp2
        go_roundg (gk - 1)
        case measure => omega
        case rel =>
          refine ⟨k + 1, done ++ [m], by rw [HN.out]; omega, by simp [hd], by go_num, HO3.out, HB3.out, ?_⟩
          rw [HQ.out]
          have e : numsOf (x :: ws.drop (k + 1)) = (match numsOf (ws.drop (k + 1)) with | none => none | some l => some (m :: l)) := by
            rw [numsOf, HM.out, if_pos rfl]; cases numsOf (ws.drop (k + 1)) <;> rfl
          rw [e]
          cases numsOf (ws.drop (k + 1)) with
          | none => rfl
          | some l => simp
      · have hnone : r = none := by
          rw [← hr.out, HQ.out]
          have e : numsOf (x :: ws.drop (k + 1)) = none := by rw [numsOf, HM.out, if_neg hE]
          rw [e]
        subst hnone
        go_wp2
        all_goals (try (exfalso; omega))
        go_ret2
        exact ⟨rfl, Lib.hid HBB.out⟩
    · have hkn : k = n := by omega
      have hsome : r = some done := by
        rw [← hr.out, hq, hkn, ← HN.out, List.drop_length]
        simp [numsOf]
      subst hsome
      have HB := Lib.hid hb; have HO := Lib.hid ho
      clear hq hb ho
      go_wp2
      go_ret2
      exact ⟨⟨_, rfl, HO⟩, HB⟩

end Go.Proofs.YtmcmpjcijbeilaaGreatDoor.Gr

/-
  What is proved here: pairs as keys of a map: which keys there are, what a map's lookup and store do. Conditions: both numbers of a pair fit an int.
-/
namespace Go.Proofs.YtmcmpjcijbeilaaGreatDoor.Gr
open Go.RowKit Wd Ws Go.Maps

theorem laidOutK : laidOutB Tryz.prog = true := by kernel_rfl
theorem rowP : (131 : TypeId) < Tryz.prog.types.size := of_decide_eq_true (by kernel_rfl)
theorem keyT : Tryz.prog.keyTypeAt 2 131 = true := by kernel_rfl
theorem deepP : Tryz.prog.keyTypeAt (Tryz.prog.types.size + 1) 131 = true := by kernel_rfl
theorem wide_of {P : Program} {k : TypeId} {fs : Array Field} (h : P.underlying k = some (.struct fs)) : (match P.underlying k with | some (.array _ _) | some (.struct _) => true | _ => false) = true := by rw [h]
theorem law_of {P : Program} (hl : laidOutB P = true) {k : TypeId} {fs : Array Field} (hrow : k < P.types.size) (hk : P.keyTypeAt 2 k = true) (h : P.underlying k = some (.struct fs)) : Keyed P k :=
  Keyed.of_law (deep_law_laid hl (m := 2) (by omega) hrow hk (wide_of h))
theorem key_some {H : Type} {P : Program} {k : TypeId} {fs : Array Field} {enc : TypeId × Value → H} {w : World} {base : Nat} {sp : Nat → Bool} {held : Bool} (hk : P.keyTypeAt (P.types.size + 1) k = true) (h : P.underlying k = some (.struct fs)) {v : Value} (hf : v.formed P k = true)
    {d : DataW H} {ps : List MemPlace} (hd : DataW.Trod enc P w base sp held k v d ps) : ∃ l, keyOf P k v = some l := ⟨_, (keyOf_asKey hk (wide_of h) hf hd).1⟩
theorem lawP : Keyed Tryz.prog 131 := law_of laidOutK rowP keyT Tryz.underlying131
theorem cellsP : Tryz.prog.cellsOf 131 = 2 := by kernel_rfl
theorem cells3 : Tryz.prog.cellsOf 3 = 1 := by kernel_rfl
theorem zeroU (w : World) : (zeroValue 132).run Tryz.prog w = .ok (.agg #[]) w := by kernel_rfl
def pk (a b : Int) : Value := .agg #[.int .i64 a, .int .i64 b]
theorem wf64 {a : Int} (h : -9223372036854775808 ≤ a ∧ a ≤ 9223372036854775807) : (Lit.int .i64 a).wf = true := by
  have h3 : IntKind.i64.min = -9223372036854775808 := by decide
  have h4 : IntKind.i64.max = 9223372036854775807 := by decide
  simp only [Lit.wf, Bool.and_eq_true, decide_eq_true_eq]; omega
theorem key_ex (a b : Int) (ha : -9223372036854775808 ≤ a ∧ a ≤ 9223372036854775807) (hb : -9223372036854775808 ≤ b ∧ b ≤ 9223372036854775807) : ∃ l, keyOf Tryz.prog 131 (pk a b) = some l := by
  have hf : (pk a b).formed Tryz.prog 131 = true := by simp [pk, Value.formed, Tryz.underlying131, cellsP]
  have t0 : DataW.trod (fun _ => ()) Tryz.prog (default : World) 0 (fun _ => true) true 1 3 [.int .i64 a] = some (.lit (.int .i64 a), []) := by
    simp [DataW.trod, Tryz.underlying3, wf64 ha]
  have t1 : DataW.trod (fun _ => ()) Tryz.prog (default : World) 0 (fun _ => true) true 1 3 [.int .i64 b] = some (.lit (.int .i64 b), []) := by
    simp [DataW.trod, Tryz.underlying3, wf64 hb]
  have hd := Go.ChangeShapes.trod_struct2_mk (enc := fun _ => ()) (P := Tryz.prog) (w := default) (base := 0) (spare := fun _ => true) (held := true) (n := 1) (cs := [.int .i64 a, .int .i64 b]) (y0 := (.lit (.int .i64 a), [])) (y1 := (.lit (.int .i64 b), [])) Tryz.underlying131 (by rw [cellsP]; rfl) (by rw [cells3]; exact t0) (by rw [cells3]; exact t1)
  exact key_some deepP Tryz.underlying131 hf ⟨2, hd⟩

/- A map that holds the pairs of these edges. -/
def PM (w : World) (M : Nat) (L : List Ed) : Prop := ∃ (D : DataW Unit), w.ownsMap Tryz.prog 131 unitElem M L.length D ∧ ∀ (a b : Int) (l : Lit), keyOf Tryz.prog 131 (pk a b) = some l → Maps.has D l = L.any (same (a, b, 0))
theorem PM.made (w : World) : PM (w.alloc (.map #[] 0)) w.heap.size [] := ⟨.map [], World.ownsMap_made _ _ _ _, fun _ _ _ _ => rfl⟩
theorem PM.kept {w w' : World} {M : Nat} {L : List Ed} (h : PM w M L) (hk : w'.heap[M]? = w.heap[M]?) : PM w' M L := by
  obtain ⟨D, ⟨es, clock, h1, h2⟩, h3⟩ := h
  exact ⟨D, ⟨es, clock, hk.trans h1, h2⟩, h3⟩
theorem PM.lt {w : World} {M : Nat} {L : List Ed} (h : PM w M L) : M < w.heap.size := by
  obtain ⟨D, h1, _⟩ := h; exact h1.lt
theorem PM.below {w w' : World} {M : Nat} {L : List Ed} (h : PM w M L) (hb : Below w.heap.size w w') : PM w' M L := h.kept (hb.block M h.lt)
theorem PM.isMap {w : World} {M : Nat} {L : List Ed} (h : PM w M L) : ∃ es clock, w.heap[M]? = some (.map es clock) := by
  obtain ⟨D, ⟨es, clock, h1, _⟩, _⟩ := h; exact ⟨es, clock, h1⟩
/- 'is it there?' -/
theorem PM.look {w : World} {M : Nat} {L : List Ed} (h : PM w M L) (a b : Int) (ha : -9223372036854775808 ≤ a ∧ a ≤ 9223372036854775807) (hb : -9223372036854775808 ≤ b ∧ b ≤ 9223372036854775807) :
    (Instr.lookup 57 (.map (some M)) (pk a b) true).run Tryz.prog w = .ok (.tuple #[.agg #[], .bool (L.any (same (a, b, 0)))]) w := by
  obtain ⟨D, h1, h2⟩ := h
  obtain ⟨l, hl⟩ := key_ex a b ha hb
  obtain ⟨v, ps, hrun, hv⟩ := h1.look_ok lawP Tryz.underlying57 (zeroU w) unitElem_mk hl
  obtain ⟨rfl, _⟩ := unitElem_inv hv
  rw [hrun, h2 a b l hl]
/- .. and it is put in. -/
theorem PM.store {w : World} {M : Nat} {L : List Ed} (h : PM w M L) (a b c : Int) (ha : -9223372036854775808 ≤ a ∧ a ≤ 9223372036854775807) (hb : -9223372036854775808 ≤ b ∧ b ≤ 9223372036854775807) (hn : L.length < 1000000) :
    ∃ w', (Instr.mapUpdate 57 (.map (some M)) (pk a b) (.agg #[])).run Tryz.prog w = .ok () w' ∧ PM w' M (L ++ [(a, b, c)]) ∧ w.grownBy w' (some M) := by
  obtain ⟨D, h1, h2⟩ := h
  obtain ⟨l, hl⟩ := key_ex a b ha hb
  obtain ⟨w', hrun, h3, h4⟩ := h1.store lawP Tryz.underlying57 (by unfold maxLen; omega) hl unitElem_mk
  refine ⟨w', hrun, ⟨_, by rw [List.length_append]; exact h3, fun x y k hk => ?_⟩, h4.grown⟩
  by_cases e : k = l
  · subst e
    have := lawP.inj hk hl
    have e2 : x = a ∧ y = b := by simpa [pk] using this
    rw [has_put_same h1.isMap (lawP.key hl), List.any_append]
    simp [same, e2]
  · rw [has_put_other e, h2 x y k hk, List.any_append]
    have : same (x, y, 0) (a, b, c) = false := by
      rw [same_not]
      rintro ⟨e1, e2⟩
      simp only at e1 e2
      subst e1 e2
      exact e (Option.some.inj (hk.symm.trans hl))
    simp [this]

end Go.Proofs.YtmcmpjcijbeilaaGreatDoor.Gr

/-
  What is proved here: contracts of graph's (*draft).edgeOf and takeVertices: the edge, and the number of vertices, that a line's numbers are. Conditions: numbers fit an int.
-/
namespace Go.Proofs.YtmcmpjcijbeilaaGreatDoor.Gr
open Go.RowKit Wd Ws

def NAt (w : World) (A : Option Addr) (ns : List Nat) : Prop := ∀ (k m : Nat), ns[k]? = some m → ∃ g, A = some ⟨g, 0, none⟩ ∧ w.cell? ⟨g, k, none⟩ = some (.int .i64 (m : Int))
theorem NAt.below {w w' : World} {A : Option Addr} {ns : List Nat} (h : NAt w A ns) (hb : Below w.heap.size w w') : NAt w' A ns := fun k m hm => by
  obtain ⟨g, h1, h2⟩ := h k m hm
  exact ⟨g, h1, (hb.cell (block_lt_of_cell h2)).trans h2⟩
theorem NOwn.nat {w : World} {B : Nat} {v : Value} {ns : List Nat} (h : NOwn w B v ns) : ∃ (A : Option Addr) (c : Nat), v = .slice A ns.length c ∧ NAt w A ns := by
  obtain ⟨A, c, h1, h2⟩ := h.form
  exact ⟨A, c, h1, fun k m hm => by obtain ⟨g, a1, _, _, a4⟩ := h2 k m hm; exact ⟨g, a1, a4⟩⟩
def EdgeRes (e : Ending) : Option Ed → Prop
  | none => e = .returned (.tuple #[.agg #[.int .i64 0, .int .i64 0, .int .i64 0], .bool false])
  | some (a, b, c) => e = .returned (.tuple #[.agg #[.int .i64 a, .int .i64 b, .int .i64 c], .bool true])
theorem zbox (w : World) : Below w.heap.size w (w.alloc (.cells #[.int .i64 0, .int .i64 0, .int .i64 0] 42)) := (Below.refl _ w).alloc (Nat.le_refl _) _

theorem alloc_cell {w : World} {o : Obj} {a : Addr} {v : Value} (h : w.cell? a = some v) : (w.alloc o).cell? a = some v := by
  rw [Sort.alloc_eq_grow, Sort.cell?_grow _ _ _ (block_lt_of_cell h)]; exact h

theorem edgeP_two (V : Int) (a b : Nat) (r : Bool) (h : fitE V ((a : Int), (b : Int), 1) = r) : edgeP V [a, b] = if r then some ((a : Int), (b : Int), 1) else none := by
  show (if fitE V ((a : Int), (b : Int), 1) then _ else _) = _
  rw [h]
theorem edgeP_three (V : Int) (a b c : Nat) (r : Bool) (h : fitE V ((a : Int), (b : Int), (c : Int)) = r) : edgeP V [a, b, c] = if r then some ((a : Int), (b : Int), (c : Int)) else none := by
  show (if fitE V ((a : Int), (b : Int), (c : Int)) then _ else _) = _
  rw [h]
theorem edgeP_few (V : Int) (ns : List Nat) (h : ns.length < 2 ∨ 3 < ns.length) : edgeP V ns = none := by
  rcases ns with _ | ⟨a, _ | ⟨b, _ | ⟨c, _ | ⟨d, t⟩⟩⟩⟩
  · rfl
  · rfl
  · simp at h
  · simp at h
  · rfl

set_option maxRecDepth 100000 in
set_option maxHeartbeats 400000 in
theorem edgeOf_two (D : Nat) (V : Int) (A : Option Addr) (c : Nat) (a b : Nat) (w : World) (hD : w.cell? ⟨D, 0, none⟩ = some (.int .i64 V)) (hA : NAt w A [a, b]) :
    Calls Tryz.prog 78 #[.pointer (some ⟨D, 0, none⟩), .slice A 2 c] w fun e w' => EdgeRes e (edgeP V [a, b]) ∧ Below w.heap.size w w' := by
  obtain ⟨g, rfl, c0⟩ := hA 0 a rfl
  obtain ⟨g', hg, c1⟩ := hA 1 b rfl
  obtain rfl : g = g' := by simpa using hg
  obtain ⟨r, hr⟩ : ∃ r, fitE V ((a : Int), (b : Int), 1) = r := ⟨_, rfl⟩
  rw [edgeP_two V a b r hr]
  have HR := Lib.hid hr; clear hr hA hg
  have d0 := alloc_cell (o := .cells #[.int .i64 0, .int .i64 0, .int .i64 0] 42) hD
  have e0 := alloc_cell (o := .cells #[.int .i64 0, .int .i64 0, .int .i64 0] 42) c0
  have e1 := alloc_cell (o := .cells #[.int .i64 0, .int .i64 0, .int .i64 0] 42) c1
  have HZ := Lib.hid (zbox w)
  clear hD c0 c1
  go_enter Tryz.func78, Tryz.ntmps78
  go_wp2
  go_quiet (fail)
  go_wp2_with fail
  refine (edgeMayBe_at _ _ _ _ _ _ HR).mono ?_
  rintro e w1 ⟨rfl, rfl⟩
  cases r with
  | true =>
    go_wp2
    refine bodyPost_ret (v := .tuple #[.agg #[.int .i64 (a : Int), .int .i64 (b : Int), .int .i64 1], .bool true]) (by simp [results, Tryz.results78, go_sem]) rfl ⟨rfl, ?_⟩
    exact (((below_drewN HZ.out _).setCell (p := ⟨w.heap.size, 0, none⟩) (Nat.le_refl _) _).setCell (p := ⟨w.heap.size, 1, none⟩) (Nat.le_refl _) _).setCell (p := ⟨w.heap.size, 2, none⟩) (Nat.le_refl _) _
  | false =>
    go_wp2
    refine bodyPost_ret (v := .tuple #[.agg #[.int .i64 0, .int .i64 0, .int .i64 0], .bool false]) (by simp [results, Tryz.results78, go_sem]) rfl ⟨rfl, ?_⟩
    exact (((below_drewN HZ.out _).setCell (p := ⟨w.heap.size, 0, none⟩) (Nat.le_refl _) _).setCell (p := ⟨w.heap.size, 1, none⟩) (Nat.le_refl _) _).setCell (p := ⟨w.heap.size, 2, none⟩) (Nat.le_refl _) _

set_option maxRecDepth 100000 in
set_option maxHeartbeats 400000 in
theorem edgeOf_three (D : Nat) (V : Int) (A : Option Addr) (c : Nat) (a b d : Nat) (w : World) (hD : w.cell? ⟨D, 0, none⟩ = some (.int .i64 V)) (hA : NAt w A [a, b, d]) :
    Calls Tryz.prog 78 #[.pointer (some ⟨D, 0, none⟩), .slice A 3 c] w fun e w' => EdgeRes e (edgeP V [a, b, d]) ∧ Below w.heap.size w w' := by
  obtain ⟨g, rfl, c0⟩ := hA 0 a rfl
  obtain ⟨g', hg, c1⟩ := hA 1 b rfl
  obtain rfl : g = g' := by simpa using hg
  obtain ⟨g2, hg2, c2⟩ := hA 2 d rfl
  obtain rfl : g = g2 := by simpa using hg2
  clear hg2
  obtain ⟨r, hr⟩ : ∃ r, fitE V ((a : Int), (b : Int), (d : Int)) = r := ⟨_, rfl⟩
  rw [edgeP_three V a b d r hr]
  have HR := Lib.hid hr; clear hr hA hg
  have d0 := alloc_cell (o := .cells #[.int .i64 0, .int .i64 0, .int .i64 0] 42) hD
  have e0 := alloc_cell (o := .cells #[.int .i64 0, .int .i64 0, .int .i64 0] 42) c0
  have e1 := alloc_cell (o := .cells #[.int .i64 0, .int .i64 0, .int .i64 0] 42) c1
  have HZ := Lib.hid (zbox w)
  have e2 := alloc_cell (o := .cells #[.int .i64 0, .int .i64 0, .int .i64 0] 42) c2
  clear hD c0 c1 c2
  go_enter Tryz.func78, Tryz.ntmps78
  go_wp2
  go_quiet (fail)
  go_wp2_with fail
  refine (edgeMayBe_at _ _ _ _ _ _ HR).mono ?_
  rintro e w1 ⟨rfl, rfl⟩
  cases r with
  | true =>
    go_wp2
    refine bodyPost_ret (v := .tuple #[.agg #[.int .i64 (a : Int), .int .i64 (b : Int), .int .i64 (d : Int)], .bool true]) (by simp [results, Tryz.results78, go_sem]) rfl ⟨rfl, ?_⟩
    exact (((below_drewN HZ.out _).setCell (p := ⟨w.heap.size, 0, none⟩) (Nat.le_refl _) _).setCell (p := ⟨w.heap.size, 1, none⟩) (Nat.le_refl _) _).setCell (p := ⟨w.heap.size, 2, none⟩) (Nat.le_refl _) _
  | false =>
    go_wp2
    refine bodyPost_ret (v := .tuple #[.agg #[.int .i64 0, .int .i64 0, .int .i64 0], .bool false]) (by simp [results, Tryz.results78, go_sem]) rfl ⟨rfl, ?_⟩
    exact (((below_drewN HZ.out _).setCell (p := ⟨w.heap.size, 0, none⟩) (Nat.le_refl _) _).setCell (p := ⟨w.heap.size, 1, none⟩) (Nat.le_refl _) _).setCell (p := ⟨w.heap.size, 2, none⟩) (Nat.le_refl _) _

set_option maxRecDepth 100000 in
set_option maxHeartbeats 400000 in
theorem edgeOf_few (D : Nat) (A : Option Addr) (c n : Nat) (w : World) (hn : n < 2 ∨ 3 < n) :
    Calls Tryz.prog 78 #[.pointer (some ⟨D, 0, none⟩), .slice A n c] w fun e w' => e = .returned (.tuple #[.agg #[.int .i64 0, .int .i64 0, .int .i64 0], .bool false]) ∧ Below w.heap.size w w' := by
  have HZ := Lib.hid (zbox w)
  by_cases h2 : n < 2
  · go_enter Tryz.func78, Tryz.ntmps78
    go_wp2
    refine bodyPost_ret (v := .tuple #[.agg #[.int .i64 0, .int .i64 0, .int .i64 0], .bool false]) (by simp [results, Tryz.results78, go_sem]) rfl ⟨rfl, ?_⟩
    exact HZ.out
  · have h3 : 3 < n := by omega
    clear hn
    go_enter Tryz.func78, Tryz.ntmps78
    go_wp2
    refine bodyPost_ret (v := .tuple #[.agg #[.int .i64 0, .int .i64 0, .int .i64 0], .bool false]) (by simp [results, Tryz.results78, go_sem]) rfl ⟨rfl, ?_⟩
    exact HZ.out

theorem edgeOf_any (D : Nat) (V : Int) (A : Option Addr) (c n : Nat) (ns : List Nat) (w : World) (hn : ns.length = n) (hD : w.cell? ⟨D, 0, none⟩ = some (.int .i64 V)) (hA : Hid (NAt w A ns)) (r : Option Ed) (hr : Hid (edgeP V ns = r)) :
    Calls Tryz.prog 78 #[.pointer (some ⟨D, 0, none⟩), .slice A n c] w fun e w' => EdgeRes e r ∧ Hid (Below w.heap.size w w') := by
  subst hn
  rw [← hr.out]
  by_cases hf : ns.length < 2 ∨ 3 < ns.length
  · rw [edgeP_few V ns hf]
    exact (edgeOf_few D A c _ w hf).mono fun e w' ⟨h1, h2⟩ => ⟨h1, Lib.hid h2⟩
  · rcases ns with _ | ⟨a, _ | ⟨b, _ | ⟨d, _ | ⟨x, t⟩⟩⟩⟩
    · simp at hf
    · simp at hf
    · exact (edgeOf_two D V A c a b w hD hA.out).mono fun e w' ⟨h1, h2⟩ => ⟨h1, Lib.hid h2⟩
    · exact (edgeOf_three D V A c a b d w hD hA.out).mono fun e w' ⟨h1, h2⟩ => ⟨h1, Lib.hid h2⟩
    · simp at hf

end Go.Proofs.YtmcmpjcijbeilaaGreatDoor.Gr

/-
  What is proved here: the contract of graph's (*draft).add: an edge more, if it has room and is not there yet. Conditions: numbers fit an int; the draft is one that the call has made.
-/
namespace Go.Proofs.YtmcmpjcijbeilaaGreatDoor.Gr
open Go.RowKit Wd Ws

/- Texts stay, whatever is done to the draft. -/
def Kp (w w' : World) : Prop := ∀ (k : Nat) (c : Array Value) (fz : Nat × Nat), w.heap[k]? = some (.cells c 9 fz) → w'.heap[k]? = w.heap[k]?
theorem Kp.refl (w : World) : Kp w w := fun _ _ _ _ => rfl
theorem Kp.trans {a b c : World} (h : Kp a b) (k : Kp b c) : Kp a c := fun i cs fz hi => (k i cs fz ((h i cs fz hi).trans hi)).trans (h i cs fz hi)
theorem Kp.of_below {w w' : World} (h : Below w.heap.size w w') : Kp w w' := fun k _ _ hk => h.block k (lt_of_block hk)
/- What a text says so far, in block D. -/
def Dr (w : World) (B D : Nat) (V : Int) (L : List Ed) : Prop :=
  ∃ (v : Value) (M : Nat), w.heap[D]? = some (.cells #[.int .i64 V, v, .map (some M)] 59 (0, 0)) ∧ EOwn w B v L ∧ PM w M L ∧ B ≤ D ∧ B ≤ M
theorem Dr.below {w w' : World} {B D : Nat} {V : Int} {L : List Ed} (h : Dr w B D V L) (hb : Below w.heap.size w w') : Dr w' B D V L := by
  obtain ⟨v, M, h1, h2, h3, h4, h5⟩ := h
  exact ⟨v, M, (hb.block D (lt_of_block h1)).trans h1, h2.below hb, h3.below hb, h4, h5⟩
theorem Dr.cells {w : World} {D : Nat} {V : Int} {v m : Value} (h : w.heap[D]? = some (.cells #[.int .i64 V, v, m] 59 (0, 0))) :
    w.cell? ⟨D, 0, none⟩ = some (.int .i64 V) ∧ w.cell? ⟨D, 1, none⟩ = some v ∧ w.cell? ⟨D, 2, none⟩ = some m ∧ D < w.heap.size ∧ ∀ j, w.frozen? ⟨D, j, none⟩ = false :=
  ⟨by rw [Lib.cell_of_heap h]; rfl, by rw [Lib.cell_of_heap h]; rfl, by rw [Lib.cell_of_heap h]; rfl, lt_of_block h, fun j => Lib.frozen_of_heap h j⟩
theorem alloc_c {w : World} {o : Obj} {a : Addr} {v : Value} (h : w.cell? a = some v) : (w.alloc o).cell? a = some v := by
  rw [Sort.alloc_eq_grow, Sort.cell?_grow _ _ _ (block_lt_of_cell h)]; exact h
theorem pb_cells {w : World} {b : Nat} {x y : Int} (h : w.heap[b]? = some (.cells #[.int .i64 x, .int .i64 y] 131 (0, 0))) :
    w.cell? ⟨b, 0, none⟩ = some (.int .i64 x) ∧ w.cell? ⟨b, 1, none⟩ = some (.int .i64 y) ∧ b < w.heap.size :=
  ⟨by rw [Lib.cell_of_heap h]; rfl, by rw [Lib.cell_of_heap h]; rfl, lt_of_block h⟩

theorem same_any0 (L : List Ed) (a b c : Int) : L.any (same (a, b, c)) = L.any (same (a, b, 0)) := rfl
theorem step_e {ops : Array Oper} {o : Oper} {a : Act} {w : World} {K : Act → World → Prop} {Q : Exit → Act → World → Prop} {E : Prop} (hgd : o.guard = none) (s x : Operand)
    (ho : o.op = .call { callee := .builtin .append, args := #[s, x], argTypes := #[22, 22] }) (B : Nat) (v : Value) (L : List Ed) (e0 e1 e2 : Int) (hs : a.eval s = v) (hown : EOwn w B v L)
    (g : Nat) (hx : a.eval x = .slice (some ⟨g, 0, none⟩) 1 1) (hg : w.heap[g]? = some (.cells #[.int .i64 e0, .int .i64 e1, .int .i64 e2] 42 (0, 0))) (hn : L.length < 1000000000) (hB : B ≤ w.heap.size)
    (h : ∀ v' w', EOwn w' B v' (L ++ [(e0, e1, e2)]) → w.grownBy w' v.ownBlock → K (a.put o.dst v') w') : if Region.wanted o (yielded ops a.tmps) = true then Oper.wp Tryz.prog o a w K Q else E := by
  have hw : Region.wanted o (yielded ops a.tmps) = true := by simp [Region.wanted, hgd]
  rw [if_pos hw]
  obtain ⟨i0, hi, hz0, hz1, hz2⟩ := info_parts infoE
  refine wp_append_own w s x 22 ho B 42 i0 _ 3 24 Tryz.underlying22 hi hz0 hz1 hz2 rfl (by decide) v L.length (ecs L) hs hown ⟨g, 0, none⟩ 1 1 (ec (e0, e1, e2)) hx rfl ?_ ?_ ?_ ?_ hB ?_
  · intro j u hu
    rw [add_plain, Lib.cell_of_heap hg]
    rcases j with _ | _ | _ | j
    · simpa [ec] using hu
    · simpa [ec] using hu
    · simpa [ec] using hu
    · simp [ec] at hu
  · intro u hu
    simp only [ec, List.mem_cons, List.not_mem_nil, or_false] at hu
    rcases hu with rfl | rfl | rfl <;> rfl
  · unfold maxLen; omega
  · omega
  · intro v' w' h1 h2 _
    refine h v' w' ?_ h2
    unfold EOwn
    rw [ecs_append, List.length_append]
    have : ecs [(e0, e1, e2)] = ec (e0, e1, e2) := by simp [ecs]
    rw [this]; exact h1

theorem keepD {w w' : World} {B D : Nat} {V : Int} {v x m : Value} {L : List Ed} (hD : w.heap[D]? = some (.cells #[.int .i64 V, x, m] 59 (0, 0))) (ho : EOwn w B v L) (hg : w.grownBy w' v.ownBlock) :
    w'.heap[D]? = some (.cells #[.int .i64 V, x, m] 59 (0, 0)) := by
  refine (hg.block D (lt_of_block hD) fun e => ?_).trans hD
  obtain ⟨_, cs, hc⟩ := own_lt ho D e.symm
  rw [hD] at hc
  simp at hc
theorem mid {w W3 W4 : World} {B D M b : Nat} {V : Int} {v : Value} {L : List Ed} {x y z : Int} (hD : W3.heap[D]? = some (.cells #[.int .i64 V, v, .map (some M)] 59 (0, 0))) (hE : EOwn W3 B v L) (hM : PM W3 M L)
    (hY : W3.heap[b]? = some (.cells #[.int .i64 x, .int .i64 y, .int .i64 z] 42 (0, 0))) (hg : W3.drew.grownBy W4 (some M)) (hB : Below B w W3) (hBM : B ≤ M) (hs : B ≤ W3.heap.size) (hK : Kp w W3) :
    W4.heap[D]? = some (.cells #[.int .i64 V, v, .map (some M)] 59 (0, 0)) ∧ EOwn W4 B v L ∧ W4.heap[b]? = some (.cells #[.int .i64 x, .int .i64 y, .int .i64 z] 42 (0, 0)) ∧ Below B w W4 ∧ Kp w W4 := by
  obtain ⟨es, clock, hm⟩ := hM.isMap
  have key : ∀ (k : Nat) (c : Array Value) (t : TypeId) (fz : Nat × Nat), W3.heap[k]? = some (.cells c t fz) → W4.heap[k]? = W3.heap[k]? := fun k c t fz hk =>
    hg.block k (lt_of_block (w := W3) hk) fun e => by
      obtain rfl := Option.some.inj e
      rw [hm] at hk; cases hk
  refine ⟨(key D _ _ _ hD).trans hD, own_kept hE fun g c fz _ hc => key g _ _ _ hc, (key b _ _ _ hY).trans hY, Below.grown hB.drew hg hs (fun k e => by cases e; exact hBM), ?_⟩
  exact fun k c fz hk => (key k c _ fz ((hK k c fz hk).trans hk)).trans (hK k c fz hk)
theorem addFin {w W5 w5 : World} {B D M : Nat} {V : Int} {v v' : Value} {L L' : List Ed} (hD : W5.heap[D]? = some (.cells #[.int .i64 V, v, .map (some M)] 59 (0, 0))) (hE : EOwn W5 B v L) (hM : PM W5 M L')
    (hg : W5.grownBy w5 v.ownBlock) (ho : EOwn w5 B v' L') (hB : Below B w W5) (hBD : B ≤ D) (hBM : B ≤ M) (hs : B ≤ W5.heap.size) (hK : Kp w W5) :
    Dr (w5.setCell ⟨D, 1, none⟩ v') B D V L' ∧ Below B w (w5.setCell ⟨D, 1, none⟩ v') ∧ Kp w (w5.setCell ⟨D, 1, none⟩ v') := by
  have hD5 := keepD hD hE hg
  have oth : ∀ (k : Nat) (c : Array Value) (t : TypeId) (fz : Nat × Nat), w5.heap[k]? = some (.cells c t fz) → t ≠ 59 → (w5.setCell ⟨D, 1, none⟩ v').heap[k]? = w5.heap[k]? := fun k c t fz hk hn =>
    heap_setCell_other w5 ⟨D, 1, none⟩ k v' (fun e => by
      have e' : k = D := e
      rw [e', hD5] at hk; simp at hk; exact hn hk.2.1.symm)
  obtain ⟨es, clock, hm⟩ := hM.isMap
  have hMD : M ≠ D := fun e => by rw [e, hD] at hm; cases hm
  have hm5 : w5.heap[M]? = W5.heap[M]? := hg.block M (lt_of_block hm) fun e => by
    obtain ⟨_, cs, hc⟩ := own_lt hE M e.symm
    rw [hm] at hc; cases hc
  refine ⟨⟨v', M, heap_setCell_same w5 D 1 _ _ v' hD5, own_kept ho fun g c fz _ hc => oth g _ _ _ hc (by decide), hM.kept ((heap_setCell_other w5 ⟨D, 1, none⟩ M v' hMD).trans hm5), hBD, hBM⟩, ?_, ?_⟩
  · exact (Below.grown hB hg hs fun k e => (own_lt hE k e).1).setCell (p := ⟨D, 1, none⟩) hBD _
  · intro k c fz hk
    have h1 := hK k c fz hk
    have h2 : w5.heap[k]? = W5.heap[k]? := hg.block k (lt_of_block (h1.trans hk)) fun e => by
      obtain ⟨_, cs, hc⟩ := own_lt hE k e.symm
      rw [h1.trans hk] at hc; simp at hc
    exact (oth k c _ fz (h2.trans (h1.trans hk)) (by decide)).trans (h2.trans h1)

/- All but the draft's own blocks stay. -/
def Kq (D : Nat) (V : Int) (w w' : World) : Prop := ∀ (v : Value) (M : Nat), w.heap[D]? = some (.cells #[.int .i64 V, v, .map (some M)] 59 (0, 0)) → ∀ (k : Nat) (o : Obj), w.heap[k]? = some o → k ≠ D → k ≠ M → v.ownBlock ≠ some k → w'.heap[k]? = some o
theorem Kq.of_below {D : Nat} {V : Int} {w w' : World} (h : Below w.heap.size w w') : Kq D V w w' := fun _ _ _ k _ hk _ _ _ => (h.block k (lt_of_block hk)).trans hk
theorem kqFin {w W3 W4 W5 w5 : World} {D M : Nat} {V : Int} {v v' : Value} (hD : w.heap[D]? = some (.cells #[.int .i64 V, v, .map (some M)] 59 (0, 0))) (h3 : Below w.heap.size w W3) (hg4 : W3.drew.grownBy W4 (some M)) (h5 : Below W4.heap.size W4 W5) (hg5 : W5.grownBy w5 v.ownBlock) :
    Kq D V w (w5.setCell ⟨D, 1, none⟩ v') := by
  intro v2 M2 h2 k o hk k1 k2 k3
  rw [hD] at h2
  simp at h2
  obtain ⟨rfl, rfl⟩ := h2
  have a3 := (h3.block k (lt_of_block hk)).trans hk
  have a4 : W4.heap[k]? = some o := (hg4.block k (lt_of_block (w := W3) a3) fun e => k2 (Option.some.inj e)).trans a3
  have a5 := (h5.block k (lt_of_block a4)).trans a4
  have a6 := (hg5.block k (lt_of_block a5) fun e => k3 e.symm).trans a5
  exact (heap_setCell_other w5 ⟨D, 1, none⟩ k v' k1).trans a6

set_option maxRecDepth 100000 in
set_option maxHeartbeats 600000 in
theorem add_any (B D : Nat) (V : Int) (L : List Ed) (a b c : Int) (w : World) (h : Hid (Dr w B D V L)) (ha : -9223372036854775808 ≤ a ∧ a ≤ 9223372036854775807) (hb : -9223372036854775808 ≤ b ∧ b ≤ 9223372036854775807) (hl : L.length ≤ 8192) (hB : B ≤ w.heap.size) (r : Option (List Ed)) (hr : Hid (addP L (a, b, c) = r)) :
    Calls Tryz.prog 79 #[.pointer (some ⟨D, 0, none⟩), .agg #[.int .i64 a, .int .i64 b, .int .i64 c]] w fun e w' => e = .returned (.bool r.isSome) ∧ Hid (Dr w' B D V (r.getD L)) ∧ Hid (Below B w w') ∧ Hid (Kp w w') ∧ Hid (Kq D V w w') := by
  have mixed := mixedO
  obtain ⟨v, M, hD, hE, hM, hBD, hBM⟩ := h.out
  have HV0 := Lib.hid hD
  obtain ⟨d0, d1, d2, hDs, dfz⟩ := Dr.cells hD
  go_enter Tryz.func79, Tryz.ntmps79
  have hy := heap_alloc_new w (.cells #[.int .i64 a, .int .i64 b, .int .i64 c] 42)
  obtain ⟨W1, hW1⟩ : ∃ W1, W1 = w.alloc (.cells #[.int .i64 a, .int .i64 b, .int .i64 c] 42) := ⟨_, rfl⟩
  have hp := heap_alloc_new W1 (.cells #[.int .i64 a, .int .i64 b] 131)
  have hs1 : W1.heap.size = w.heap.size + 1 := by rw [hW1]; simp
  have hb1 : Below w.heap.size w W1 := by rw [hW1]; exact (Below.refl _ w).alloc (Nat.le_refl _) _
  obtain ⟨W2, hW2⟩ : ∃ W2, W2 = W1.alloc (.cells #[.int .i64 a, .int .i64 b] 131) := ⟨_, rfl⟩
  have hb2 : Below w.heap.size w W2 := by rw [hW2]; exact hb1.alloc (by omega) _
  rw [← hW1] at hy
  rw [← hW2, hs1] at hp
  have hs2 : W2.heap.size = w.heap.size + 2 := by rw [hW2]; simp; omega
  have hy2 : W2.heap[w.heap.size]? = some (.cells #[.int .i64 a, .int .i64 b, .int .i64 c] 42 (0, 0)) := by
    rw [hW2, Lib.alloc_old _ _ _ (by omega)]; exact hy
  have HW : Hid (W2 = (w.alloc (.cells #[.int .i64 a, .int .i64 b, .int .i64 c] 42)).alloc (.cells #[.int .i64 a, .int .i64 b] 131)) := Lib.hid (by rw [hW2, hW1])
  clear hW1 hW2 hy hb1
  have HDD := Lib.hid ((hb2.block _ hDs).trans hD)
  have HEE := Lib.hid (hE.below hb2)
  have HMM := Lib.hid (hM.below hb2)
  have HP := Lib.hid hp; have HY := Lib.hid hy2; have HB2 := Lib.hid hb2
  clear hD hE hM d0 d1 d2 dfz hp hy2 hb2 hs1
  go_wp2
  rw [← HW.out]
  obtain ⟨d0, d1, d2, hDs2, dfz⟩ := Dr.cells HDD.out
  obtain ⟨p0, p1, hps⟩ := pb_cells HP.out
  have lk1 := (HMM.out.below ((Below.refl _ W2).drew)).look a b ha hb
  have lk2 := (HMM.out.below (((Below.refl _ W2).alloc (Nat.le_refl _) (.cells #[] 132)).drew)).look a b ha hb
  have q2 := alloc_c (o := .cells #[] 132) d2
  have q3 := alloc_c (o := .cells #[] 132) p0
  have q4 := alloc_c (o := .cells #[] 132) p1
  unfold pk at lk1 lk2
  obtain ⟨q, hq⟩ : ∃ q, L.any (same (a, b, 0)) = q := ⟨_, rfl⟩
  rw [hq] at lk1 lk2
  have HQ := Lib.hid hq; clear hq
  go_region
  all_goals
    generalize hW3 : (W2.alloc (.cells #[] 132)).drew = W3
    have hb3 : Below W2.heap.size W2 W3 := by rw [← hW3]; exact ((Below.refl _ W2).alloc (Nat.le_refl _) _).drew
    clear hW3 lk1 lk2 q2 q3 q4 d0 d1 d2 p0 p1 dfz
    have hD3 := (hb3.block _ hDs2).trans HDD.out
    have hY3 := (hb3.block _ (by omega)).trans HY.out
    have hP3 := (hb3.block _ hps).trans HP.out
    have hE3 := HEE.out.below hb3
    have hM3 := HMM.out.below hb3
    have hB3 := HB2.out.trans (hb3.mono (by omega))
    obtain ⟨A, cc, rfl, _, _, _⟩ := hE3.form
    obtain ⟨d0, d1, d2, hDs3, dfz⟩ := Dr.cells hD3
    obtain ⟨p0, p1, hps3⟩ := pb_cells hP3
    obtain ⟨y0, y1, y2, hys3⟩ := eb_cells hY3
    have HD3 := Lib.hid hD3; have HE3 := Lib.hid hE3; have HM3 := Lib.hid hM3; have HB3 := Lib.hid hB3; have HY3 := Lib.hid hY3
    clear hb3 hD3 hE3 hM3 hB3 hY3 hP3
    cases q with
    | true =>
      have hrn : r = none := by rw [← hr.out]; unfold addP; rw [same_any0, if_pos (Or.inl HQ.out)]
      subst hrn
      go_wp2
      go_ret
      exact ⟨rfl, Lib.hid ⟨_, M, HD3.out, HE3.out, HM3.out, hBD, hBM⟩, Lib.hid (HB3.out.mono hB), Lib.hid (Kp.of_below HB3.out), Lib.hid (Kq.of_below HB3.out)⟩
    | false =>
      by_cases h8 : L.length = 8192
      · have hrn : r = none := by rw [← hr.out]; unfold addP; rw [if_pos (Or.inr h8)]
        subst hrn
        have h8' : (L.length : Int) = 8192 := by omega
        go_wp2
        all_goals (try (exfalso; omega))
        go_ret
        exact ⟨rfl, Lib.hid ⟨_, M, HD3.out, HE3.out, HM3.out, hBD, hBM⟩, Lib.hid (HB3.out.mono hB), Lib.hid (Kp.of_below HB3.out), Lib.hid (Kq.of_below HB3.out)⟩
      · have hrs : r = some (L ++ [(a, b, c)]) := by
          rw [← hr.out]; unfold addP; rw [same_any0, if_neg]; intro hh; rcases hh with hh | hh
          · rw [HQ.out] at hh; cases hh
          · exact h8 hh
        subst hrs
        have h8' : ¬ (L.length : Int) = 8192 := by omega
        go_wp2
        all_goals (try (exfalso; omega))
        obtain ⟨W4, hrun, hM4, hg4⟩ := (HM3.out.below ((Below.refl _ W3).drew)).store a b c ha hb (by omega)
        unfold pk at hrun
        have HM4 := Lib.hid hM4; have HG4 := Lib.hid hg4; clear hM4 hg4
        go_region
        all_goals
          obtain ⟨hD4, hE4, hY4, hB4, hK4⟩ := mid HD3.out HE3.out HM3.out HY3.out HG4.out (HB3.out.mono hB) hBM (by omega) (Kp.of_below HB3.out)
          clear d0 d1 d2 dfz y0 y1 y2 p0 p1 hrun
          obtain ⟨d0, d1, d2, hDs4, dfz⟩ := Dr.cells hD4
          obtain ⟨y0, y1, y2, hys4⟩ := eb_cells hY4
          have e1 := alloc_c (o := .cells #[.int .i64 a, .int .i64 b, .int .i64 c] 42) d1
          have HN5 := Lib.hid (heap_alloc_new W4 (.cells #[.int .i64 a, .int .i64 b, .int .i64 c] 42))
          have hb5 : Below W4.heap.size W4 ((W4.alloc (.cells #[.int .i64 a, .int .i64 b, .int .i64 c] 42)).drew) := ((Below.refl _ W4).alloc (Nat.le_refl _) _).drew
          have HO5 := Lib.hid (hE4.below hb5)
          have HD5 := Lib.hid ((hb5.block _ hDs4).trans hD4)
          have HM5 := Lib.hid (HM4.out.below hb5)
          have hsz4 : B ≤ W4.heap.size := by have := hB4.size; omega
          have HB5 := Lib.hid (hB4.trans (hb5.mono hsz4))
          have HK5 := Lib.hid (hK4.trans (Kp.of_below hb5))
          have hsz5 : B ≤ ((W4.alloc (.cells #[.int .i64 a, .int .i64 b, .int .i64 c] 42)).drew).heap.size := Nat.le_trans hsz4 hb5.size
          have HB45 := Lib.hid hb5
          clear hD4 hE4 hY4 hB4 hK4 hb5
          go_wp2
          go_region_law (refine step_e rfl (.tmp 41) (.tmp 43) rfl B _ L a b c (by simp [Act.eval]) HO5.out W4.heap.size (by simp [Act.eval]) HN5.out (by omega) hsz5 ?_; intro v' w5 ho5 hg5; obtain ⟨A6, c6, rfl, _, _, _⟩ := ho5.form; have hd5 := keepD HD5.out HO5.out hg5; have f0 := (Dr.cells hd5).2.1; have f1 := (Dr.cells hd5).2.2.2.2)
          all_goals
            obtain ⟨g1, g2, g3⟩ := addFin HD5.out HO5.out HM5.out hg5 ho5 HB5.out hBD hBM hsz5 HK5.out
            have g4 : Kq D V w (w5.setCell ⟨D, 1, none⟩ (.slice A6 (L ++ [(a, b, c)]).length c6)) := kqFin HV0.out HB3.out HG4.out HB45.out hg5
            rw [show (L ++ [(a, b, c)]).length = L.length + 1 by simp] at g1 g2 g3 g4
            have HG1 := Lib.hid g1; have HG2 := Lib.hid g2; have HG3 := Lib.hid g3; have HG4' := Lib.hid g4
            clear g1 g2 g3 g4 hg5 ho5 hd5 f0 f1
            go_wp2
            go_ret
            exact ⟨rfl, HG1, HG2, HG3, HG4'⟩

end Go.Proofs.YtmcmpjcijbeilaaGreatDoor.Gr

/-
  What is proved here: contracts of graph's (*draft).takeVertices, takeEdge, takeBoth: what a line's numbers say. Conditions: the draft is one that the call has made.
-/
namespace Go.Proofs.YtmcmpjcijbeilaaGreatDoor.Gr
open Go.RowKit Wd Ws

theorem nat_i64 (n : Nat) (h : n ≤ 4611686018427387904) : -9223372036854775808 ≤ (n : Int) ∧ (n : Int) ≤ 9223372036854775807 := by omega
/- A draft whose number of vertices is told. -/
theorem Dr.vert {w : World} {B D : Nat} {V : Int} {L : List Ed} (h : Dr w B D V L) (n : Int) : Dr (w.setCell ⟨D, 0, none⟩ (.int .i64 n)) B D n L ∧ (∀ {a : World}, Below B a w → Below B a (w.setCell ⟨D, 0, none⟩ (.int .i64 n))) ∧ Kp w (w.setCell ⟨D, 0, none⟩ (.int .i64 n)) := by
  obtain ⟨v, M, hD, hE, hM, hBD, hBM⟩ := h
  have oth : ∀ (k : Nat) (c : Array Value) (t : TypeId) (fz : Nat × Nat), w.heap[k]? = some (.cells c t fz) → t ≠ 59 → (w.setCell ⟨D, 0, none⟩ (.int .i64 n)).heap[k]? = w.heap[k]? := fun k c t fz hk hn =>
    heap_setCell_other w ⟨D, 0, none⟩ k _ (fun e => by
      have e' : k = D := e
      rw [e', hD] at hk; simp at hk; exact hn hk.2.1.symm)
  obtain ⟨es, clock, hm⟩ := hM.isMap
  have hMD : M ≠ D := fun e => by rw [e, hD] at hm; cases hm
  exact ⟨⟨v, M, heap_setCell_same w D 0 _ _ _ hD, own_kept hE fun g c fz _ hc => oth g _ _ _ hc (by decide), hM.kept (heap_setCell_other w ⟨D, 0, none⟩ M _ hMD), hBD, hBM⟩, fun hb => hb.setCell (p := ⟨D, 0, none⟩) hBD _, fun k c fz hk => oth k c _ fz hk (by decide)⟩

theorem vertP_not (ns : List Nat) (h : ns.length ≠ 1) : vertP ns = none := by
  rcases ns with _ | ⟨a, _ | ⟨b, t⟩⟩
  · rfl
  · simp at h
  · rfl

set_option maxRecDepth 100000 in
set_option maxHeartbeats 600000 in
theorem takeVertices_any (B D : Nat) (V : Int) (L : List Ed) (A : Option Addr) (c n : Nat) (ns : List Nat) (w : World) (hn : ns.length = n) (h : Hid (Dr w B D V L)) (hA : Hid (NAt w A ns)) (r : Option Int) (hr : Hid (vertP ns = r)) :
    Calls Tryz.prog 56 #[.pointer (some ⟨D, 0, none⟩), .slice A n c] w fun e w' => e = .returned (.bool r.isSome) ∧ Hid (Dr w' B D (r.getD V) L) ∧ Hid (Below B w w') ∧ Hid (Kp w w') := by
  obtain ⟨v, M, hD, _, _, _, _⟩ := h.out
  obtain ⟨d0, d1, d2, hDs, dfz⟩ := Dr.cells hD
  clear hD
  by_cases h1 : n = 1
  · subst h1
    rcases ns with _ | ⟨a, _ | ⟨b, t⟩⟩
    · simp at hn
    · clear hn
      obtain ⟨g, rfl, c0⟩ := hA.out 0 a rfl
      by_cases hv : 1 ≤ a ∧ a ≤ 512
      · have hrs : r = some (a : Int) := by rw [← hr.out]; show (if _ then _ else _) = _; rw [if_pos hv]
        subst hrs
        have HG := Lib.hid (h.out.vert (a : Int))
        go_enter Tryz.func56, Tryz.ntmps56
        go_wp2
        all_goals (try (exfalso; omega))
        go_ret
        exact ⟨rfl, Lib.hid HG.out.1, Lib.hid (HG.out.2.1 (Below.refl _ w)), Lib.hid HG.out.2.2⟩
      · have hrn : r = none := by rw [← hr.out]; show (if _ then _ else _) = _; rw [if_neg hv]
        subst hrn
        by_cases hv1 : (a : Int) < 1
        · go_enter Tryz.func56, Tryz.ntmps56
          go_wp2
          all_goals (try (exfalso; omega))
          go_ret
          exact ⟨rfl, h, Lib.hid (Below.refl _ w), Lib.hid (Kp.refl w)⟩
        · have hv2 : 512 < (a : Int) := by omega
          go_enter Tryz.func56, Tryz.ntmps56
          go_wp2
          all_goals (try (exfalso; omega))
          go_ret
          exact ⟨rfl, h, Lib.hid (Below.refl _ w), Lib.hid (Kp.refl w)⟩
    · simp at hn
  · have hrn : r = none := by rw [← hr.out]; exact vertP_not ns (by omega)
    subst hrn
    have h1' : ¬ (n : Int) = 1 := by omega
    go_enter Tryz.func56, Tryz.ntmps56
    go_wp2
    all_goals (try (exfalso; omega))
    go_ret
    exact ⟨rfl, h, Lib.hid (Below.refl _ w), Lib.hid (Kp.refl w)⟩

def oneP (V : Int) (L : List Ed) (ns : List Nat) : Option (List Ed) := match edgeP V ns with
  | none => none
  | some e => addP L e
def twoP (V : Int) (L : List Ed) (ns : List Nat) : Option (List Ed) := match edgeP V ns with
  | none => none
  | some e => bothP L e
theorem edgeP_in {V : Int} {ns : List Nat} {e : Ed} (hV : V ≤ 512) (h : edgeP V ns = some e) : (-9223372036854775808 ≤ e.1 ∧ e.1 ≤ 9223372036854775807) ∧ (-9223372036854775808 ≤ e.2.1 ∧ e.2.1 ≤ 9223372036854775807) := by
  have := edgeP_fit h
  rw [fitE_iff] at this; omega

set_option maxRecDepth 100000 in
set_option maxHeartbeats 600000 in
theorem takeEdge_any (B D : Nat) (V : Int) (L : List Ed) (A : Option Addr) (c n : Nat) (ns : List Nat) (w : World) (hn : ns.length = n) (h : Hid (Dr w B D V L)) (hA : Hid (NAt w A ns)) (hB : B ≤ w.heap.size) (hV : V ≤ 512) (hl : L.length ≤ 8192) (r : Option (List Ed)) (hr : Hid (oneP V L ns = r)) :
    Calls Tryz.prog 57 #[.pointer (some ⟨D, 0, none⟩), .slice A n c] w fun e w' => e = .returned (.bool r.isSome) ∧ Hid (Dr w' B D V (r.getD L)) ∧ Hid (Below B w w') ∧ Hid (Kp w w') := by
  obtain ⟨v, M, hD, _, _, _, _⟩ := h.out
  obtain ⟨d0, _, _, _, _⟩ := Dr.cells hD
  clear hD
  obtain ⟨re, hre⟩ : ∃ re, edgeP V ns = re := ⟨_, rfl⟩
  have HC := Lib.hid (edgeOf_any D V A c n ns w hn d0 hA re (Lib.hid hre))
  cases re with
  | none =>
    have hrn : r = none := by rw [← hr.out]; unfold oneP; rw [hre]
    subst hrn
    clear hre d0
    go_enter Tryz.func57, Tryz.ntmps57
    go_wp2_with fail
    refine HC.out.mono ?_
    rintro e w1 ⟨he, HB1⟩
    have he' : e = .returned (.tuple #[.agg #[.int .i64 0, .int .i64 0, .int .i64 0], .bool false]) := he
    subst he'
    have hb2 : Below w.heap.size w (w1.alloc (.cells #[.int .i64 0, .int .i64 0, .int .i64 0] 42)) := HB1.out.alloc HB1.out.size _
    have HR := Lib.hid (h.out.below hb2); have HB2 := Lib.hid (hb2.mono hB); have HK := Lib.hid (Kp.of_below hb2)
    clear hb2 he
    go_wp2_with fail
    go_ret
    exact ⟨rfl, HR, HB2, HK⟩
  | some e =>
    obtain ⟨i1, i2⟩ := edgeP_in hV hre
    have hrs : addP L e = r := by rw [← hr.out]; unfold oneP; rw [hre]
    obtain ⟨e0, e1, e2⟩ := e
    have HRS := Lib.hid hrs
    clear hre d0 hrs
    go_enter Tryz.func57, Tryz.ntmps57
    go_wp2_with fail
    refine HC.out.mono ?_
    rintro e w1 ⟨he, HB1⟩
    have he' : e = .returned (.tuple #[.agg #[.int .i64 e0, .int .i64 e1, .int .i64 e2], .bool true]) := he
    subst he'
    have hb2 : Below w.heap.size w (w1.alloc (.cells #[.int .i64 e0, .int .i64 e1, .int .i64 e2] 42)) := HB1.out.alloc HB1.out.size _
    have HD2 := Lib.hid (h.out.below hb2); have HB2 := Lib.hid (hb2.mono hB); have HK := Lib.hid (Kp.of_below hb2)
    have hs2 : B ≤ (w1.alloc (.cells #[.int .i64 e0, .int .i64 e1, .int .i64 e2] 42)).heap.size := Nat.le_trans hB hb2.size
    clear hb2 he
    go_wp2_with fail
    refine (add_any B D V L e0 e1 e2 _ HD2 i1 i2 hl hs2 r HRS).mono ?_
    rintro e w3 ⟨rfl, HD3, HB3, HK3, _⟩
    go_wp2_with fail
    go_ret
    exact ⟨rfl, HD3, Lib.hid (HB2.out.trans HB3.out), Lib.hid (HK.out.trans HK3.out)⟩

set_option maxRecDepth 100000 in
set_option maxHeartbeats 600000 in
theorem takeBoth_any (B D : Nat) (V : Int) (L : List Ed) (A : Option Addr) (c n : Nat) (ns : List Nat) (w : World) (hn : ns.length = n) (h : Hid (Dr w B D V L)) (hA : Hid (NAt w A ns)) (hB : B ≤ w.heap.size) (hV : V ≤ 512) (hl : L.length ≤ 8192) (r : Option (List Ed)) (hr : Hid (twoP V L ns = r)) :
    Calls Tryz.prog 58 #[.pointer (some ⟨D, 0, none⟩), .slice A n c] w fun e w' => e = .returned (.bool r.isSome) ∧ (∃ L', Hid (Dr w' B D V L') ∧ (r.isSome = true → r = some L')) ∧ Hid (Below B w w') ∧ Hid (Kp w w') := by
  obtain ⟨v, M, hD, hE0, hM0, _, _⟩ := h.out
  obtain ⟨d0, _, _, hDs, _⟩ := Dr.cells hD
  obtain ⟨re, hre⟩ : ∃ re, edgeP V ns = re := ⟨_, rfl⟩
  have HC := Lib.hid (edgeOf_any D V A c n ns w hn d0 hA re (Lib.hid hre))
  have HV := Lib.hid hD; have HE0 := Lib.hid hE0; have HM0 := Lib.hid hM0
  clear hD hE0 hM0
  cases re with
  | none =>
    have hrn : r = none := by rw [← hr.out]; unfold twoP; rw [hre]
    subst hrn
    clear hre d0
    go_enter Tryz.func58, Tryz.ntmps58
    go_wp2_with fail
    refine HC.out.mono ?_
    rintro e w1 ⟨he, HB1⟩
    have he' : e = .returned (.tuple #[.agg #[.int .i64 0, .int .i64 0, .int .i64 0], .bool false]) := he
    subst he'
    have hb2 : Below w.heap.size w (w1.alloc (.cells #[.int .i64 0, .int .i64 0, .int .i64 0] 42)) := HB1.out.alloc HB1.out.size _
    have HR := Lib.hid (h.out.below hb2); have HB2 := Lib.hid (hb2.mono hB); have HK := Lib.hid (Kp.of_below hb2)
    clear hb2 he
    go_wp2_with fail
    go_ret
    exact ⟨rfl, ⟨L, HR, fun h => by cases h⟩, HB2, HK⟩
  | some e =>
    obtain ⟨i1, i2⟩ := edgeP_in hV hre
    have hrs : bothP L e = r := by rw [← hr.out]; unfold twoP; rw [hre]
    obtain ⟨e0, e1, e2⟩ := e
    obtain ⟨ra, hra⟩ : ∃ ra, addP L (e0, e1, e2) = ra := ⟨_, rfl⟩
    have HRA := Lib.hid hra
    have HRS := Lib.hid hrs
    clear hre d0 hrs hra
    go_enter Tryz.func58, Tryz.ntmps58
    go_wp2_with fail
    refine HC.out.mono ?_
    rintro e w1 ⟨he, HB1⟩
    have he' : e = .returned (.tuple #[.agg #[.int .i64 e0, .int .i64 e1, .int .i64 e2], .bool true]) := he
    subst he'
    have hb2 : Below w.heap.size w (w1.alloc (.cells #[.int .i64 e0, .int .i64 e1, .int .i64 e2] 42)) := HB1.out.alloc HB1.out.size _
    have HY2 := Lib.hid (heap_alloc_new w1 (.cells #[.int .i64 e0, .int .i64 e1, .int .i64 e2] 42))
    have HV2 := Lib.hid ((hb2.block _ hDs).trans HV.out)
    have HD2 := Lib.hid (h.out.below hb2); have HB2 := Lib.hid (hb2.mono hB); have HK := Lib.hid (Kp.of_below hb2)
    have hs2 : B ≤ (w1.alloc (.cells #[.int .i64 e0, .int .i64 e1, .int .i64 e2] 42)).heap.size := Nat.le_trans hB hb2.size
    have hw1 := HB1.out.size
    clear hb2 he
    go_wp2_with fail
    refine (add_any B D V L e0 e1 e2 _ HD2 i1 i2 hl hs2 ra HRA).mono ?_
    rintro e w3 ⟨rfl, HD3, HB3, HK3, HQ3⟩
    have hmlt := HM0.out.lt
    have hy3 := HQ3.out v M HV2.out w1.heap.size _ HY2.out (by omega) (by omega) (fun e => by have := (World.ownsRow.lt HE0.out) _ e; omega)
    cases ra with
    | none =>
      have hrn : r = none := by rw [← HRS.out]; unfold bothP; rw [HRA.out]
      subst hrn
      clear hy3
      go_wp2_with fail
      go_ret
      exact ⟨rfl, ⟨L, HD3, fun h => by cases h⟩, Lib.hid (HB2.out.trans HB3.out), Lib.hid (HK.out.trans HK3.out)⟩
    | some L1 =>
      obtain ⟨y0, y1, y2, hys⟩ := eb_cells hy3
      have HD3' : Hid (Dr w3 B D V L1) := HD3
      have hL1 : L1.length ≤ 8192 := by
        obtain ⟨h1, _, h3⟩ := addP_some HRA.out
        rw [h1, List.length_append, List.length_singleton]; omega
      clear hy3 HD3
      by_cases he : e0 = e1
      · have hrs : r = some L1 := by rw [← HRS.out]; unfold bothP; rw [HRA.out]; simp only; rw [if_pos he]
        subst hrs
        subst he
        go_wp2_with fail
        go_ret
        exact ⟨rfl, ⟨L1, HD3', fun _ => rfl⟩, Lib.hid (HB2.out.trans HB3.out), Lib.hid (HK.out.trans HK3.out)⟩
      · have hrs : addP L1 (e1, e0, e2) = r := by rw [← HRS.out]; unfold bothP; rw [HRA.out]; simp only; rw [if_neg he]; rfl
        have HR2 := Lib.hid hrs
        clear hrs
        go_wp2_with fail
        refine (turned_any e0 e1 e2 _).mono ?_
        rintro e w4 ⟨rfl, hg4⟩
        have hb4 := hg4.below
        have HD4 := Lib.hid (HD3'.out.below hb4)
        have hs3 : B ≤ w3.heap.size := Nat.le_trans hs2 HB3.out.size
        have HB4 := Lib.hid (hb4.mono hs3)
        have HK4 := Lib.hid (Kp.of_below hb4)
        have hs4 : B ≤ w4.heap.size := Nat.le_trans hs3 hb4.size
        clear hb4 hg4 y0 y1 y2
        go_wp2_with fail
        refine (add_any B D V L1 e1 e0 e2 _ HD4 i2 i1 hL1 hs4 r HR2).mono ?_
        rintro e w5 ⟨rfl, HD5, HB5, HK5, _⟩
        go_wp2_with fail
        go_ret
        refine ⟨ret_b (by simp [he]), ⟨_, HD5, fun h => ?_⟩, Lib.hid (HB2.out.trans (HB3.out.trans (HB4.out.trans HB5.out))), Lib.hid (HK.out.trans (HK3.out.trans (HK4.out.trans HK5.out)))⟩
        cases r with
        | none => cases h
        | some x => rfl

end Go.Proofs.YtmcmpjcijbeilaaGreatDoor.Gr

/-
  What is proved here: the contract of graph's (*draft).take: a line more. Conditions: at most 300000 bytes; the draft is one that the call has made; the package variables lie as their texts lay them.
-/
namespace Go.Proofs.YtmcmpjcijbeilaaGreatDoor.Gr
open Go.RowKit Wd Ws

theorem own_str {w : World} {B : Nat} {v : Value} {x : List UInt8} {t : List (List UInt8)} (h : Own w B v (x :: t)) : ∃ g cap n, v = .slice (some ⟨g, 0, none⟩) n cap ∧ n = t.length + 1 ∧ n ≤ cap ∧ B ≤ g ∧ g < w.heap.size ∧ ∀ k y, (x :: t)[k]? = some y → w.cell? ⟨g, k, none⟩ = some (.string (sb y)) := by
  obtain ⟨h0, h1 | ⟨g, cap, cur, h1, h2, h3, h4, h5, h6, h7⟩⟩ := h
  · simp at h1
  · refine ⟨g, cap, t.length + 1, h1, rfl, h4, h2, lt_of_block h3, fun k y hy => ?_⟩
    have hk := lt_at hy
    rw [cell_of_row w g k _ 9 (0, 0) h3]
    have e1 : cur[k]? = (cur.toList.take ((x :: t).length * 1))[k]? := by
      rw [List.getElem?_take, if_pos (by omega), Array.getElem?_toList]
    rw [e1, h7, strs_at, hy]; rfl
theorem own_nil {w : World} {B : Nat} {v : Value} (h : Own w B v []) : ∃ A cap, v = .slice A 0 cap := by
  obtain ⟨h0, h1 | ⟨g, cap, cur, h1, _⟩⟩ := h
  · exact ⟨none, 0, h1.1⟩
  · exact ⟨_, cap, h1⟩
theorem words_len (l x : List UInt8) (h : x ∈ (wordsB l).1) : x.length ≤ 2 * l.length := by
  obtain ⟨M, E, h1, h2⟩ := wds_of l (chOf l) (chOf_rg l)
  unfold wordsB at h
  rw [h1] at h
  simp only [List.mem_map] at h
  obtain ⟨y, hy, rfl⟩ := h
  obtain ⟨k, hk⟩ := List.getElem?_of_mem hy
  have := tot_mem M k y hk
  have := h2.tots
  omega
theorem words_count (l : List UInt8) : (wordsB l).1.length ≤ 2 * l.length := by
  obtain ⟨M, E, h1, h2⟩ := wds_of l (chOf l) (chOf_rg l)
  unfold wordsB
  rw [h1]
  simp only [List.length_map]
  have := h2.tots
  omega

noncomputable def afterN (V : Int) (L : List Ed) (x : List UInt8) : Option (List Nat) → Option (Int × List Ed)
  | none => none
  | some ns => stepN V L x ns
theorem stepW_cons (V : Int) (L : List Ed) (x : List UInt8) (t : List (List UInt8)) : stepW V L (x :: t) = afterN V L x (numsOf t) := by
  show (match numsOf t with | none => none | some ns => stepN V L x ns) = _
  cases numsOf t <;> rfl
def vr (L : List Ed) : Option Int → Option (Int × List Ed)
  | none => none
  | some n => some (n, L)
def er (V : Int) : Option (List Ed) → Option (Int × List Ed)
  | none => none
  | some M => some (V, M)
theorem stepN_vert (L : List Ed) (ns : List Nat) (rv : Option Int) (h : vertP ns = rv) : stepN 0 L vertB ns = vr L rv := by
  unfold stepN; rw [if_pos rfl, if_pos rfl, h]; cases rv <;> rfl
theorem stepN_novert (L : List Ed) (x : List UInt8) (ns : List Nat) (h : ¬ x = vertB) : stepN 0 L x ns = none := by
  unfold stepN; rw [if_pos rfl, if_neg h]
theorem stepN_edge (V : Int) (hV : ¬ V = 0) (L : List Ed) (ns : List Nat) (ro : Option (List Ed)) (h : oneP V L ns = ro) : stepN V L edgeB ns = er V ro := by
  unfold stepN; rw [if_neg hV, if_pos rfl, ← h]; unfold oneP
  cases edgeP V ns with
  | none => rfl
  | some e => simp only; cases addP L e <;> rfl
theorem stepN_both (V : Int) (hV : ¬ V = 0) (L : List Ed) (ns : List Nat) (ro : Option (List Ed)) (h : twoP V L ns = ro) : stepN V L bothB ns = er V ro := by
  unfold stepN; rw [if_neg hV, if_neg (by decide), if_pos rfl, ← h]; unfold twoP
  cases edgeP V ns with
  | none => rfl
  | some e => simp only; cases bothP L e <;> rfl
theorem stepN_else (V : Int) (hV : ¬ V = 0) (L : List Ed) (x : List UInt8) (ns : List Nat) (h1 : ¬ x = edgeB) (h2 : ¬ x = bothB) : stepN V L x ns = none := by
  unfold stepN; rw [if_neg hV, if_neg h1, if_neg h2]
/- What a line leads to. -/
def TakeRes (B D : Nat) (w w' : World) (e : Ending) (r : Option (Int × List Ed)) : Prop :=
  e = .returned (.bool r.isSome) ∧ (∀ s, r = some s → Hid (Dr w' B D s.1 s.2)) ∧ Hid (Below B w w') ∧ Hid (Kp w w')

set_option maxRecDepth 100000 in
set_option maxHeartbeats 2000000 in
theorem take_any (B D : Nat) (V : Int) (L : List Ed) (l : List UInt8) (w : World) (h : Hid (Dr w B D V L)) (hLd : Hid (∀ w', Below B w w' → Laid w')) (hl : l.length ≤ 100000) (hB : B ≤ w.heap.size) (hV : V ≤ 512) (hL : L.length ≤ 8192) (r : Option (Int × List Ed)) (hr : Hid (step V L l = r)) :
    Calls Tryz.prog 38 #[.pointer (some ⟨D, 0, none⟩), .string (sb l)] w fun e w' => TakeRes B D w w' e r := by
  obtain ⟨ws, E, hw⟩ : ∃ ws E, wordsB l = (ws, E) := ⟨_, _, rfl⟩
  have hst : step V L l = if E = 0 then stepW V L ws else none := by unfold step; rw [hw]
  have HST := Lib.hid hst; clear hst
  have HWL : Hid (∀ x ∈ ws, x.length ≤ 300000) := Lib.hid fun x hx => by
    have := words_len l x (by rw [hw]; exact hx); omega
  have hwc : ws.length ≤ 200000 := by have := words_count l; rw [hw] at this; simp only at this; omega
  have HWO : Hid (wordsOf (chOf l) = (ws, E)) := Lib.hid hw
  have HRG := Lib.hid (chOf_rg l)
  clear hw
  go_enter Tryz.func38, Tryz.ntmps38
  go_wp2_with fail
  refine (words_hid _ l (chOf l) ws E _ rfl HRG (by omega) HWO).mono ?_
  rintro e w1 ⟨v, rfl, HO1, HB1⟩
  have HB1' := Lib.hid (HB1.out.mono hB)
  have HK1 := Lib.hid (Kp.of_below HB1.out)
  have HD1 := Lib.hid (h.out.below HB1.out)
  have hs1 := HB1.out.size
  by_cases hE : E = 0
  · subst hE
    rcases ws with _ | ⟨x, t⟩
    · have hrs : r = some (V, L) := by rw [← hr.out, HST.out, if_pos rfl]; rfl
      subst hrs
      obtain ⟨A, cap, rfl⟩ := own_nil HO1.out
      go_wp2
      go_ret
      exact ⟨rfl, fun s hs => by cases hs; exact HD1, HB1', HK1⟩
    · obtain ⟨g, cap, n, rfl, hn, hnc, hBg, hgl, hc⟩ := own_str HO1.out
      obtain ⟨rn, hrn⟩ : ∃ rn, numsOf t = rn := ⟨_, rfl⟩
      have hrs : r = afterN V L x rn := by
        rw [← hr.out, HST.out, if_pos rfl, stepW_cons, hrn]
      have HRS := Lib.hid hrs; clear hrs
      have HRN := Lib.hid hrn; clear hrn
      have HN := Lib.hid hn
      have HC := Lib.hid hc
      have c0 := hc 0 x rfl
      have hn1 : 1 ≤ n := by omega
      have hn2 : n ≤ 200000 := by simp at hwc; omega
      clear hn hc
      have HNG : Hid (∀ A' c', (∃ o, A' = some ⟨g, o, none⟩ ∧ (o = 1 ∨ t = [])) → Calls Tryz.prog 55 #[.slice A' (n - 1) c'] w1 fun e w' => NumRes w1.heap.size w' e rn ∧ Hid (Below w1.heap.size w1 w')) := Lib.hid fun A' c' hA' => by
        obtain ⟨o, rfl, ho⟩ := hA'
        refine numbersOf_any (some ⟨g, o, none⟩) c' (n - 1) t w1 (by have := HN.out; omega) (Lib.hid fun k y hy => ⟨g, o, rfl, ?_⟩) (Lib.hid (hLd.out _ HB1'.out)) (Lib.hid fun y hy => HWL.out y (List.mem_cons_of_mem _ hy)) (by omega) rn HRN
        rcases ho with rfl | rfl
        · rw [Nat.add_comm]; exact HC.out (k + 1) y hy
        · simp at hy
      have HTN : Hid (n ≤ 1 → t = []) := Lib.hid fun h => List.eq_nil_of_length_eq_zero (by have := HN.out; omega)
      go_wp2_with fail
      all_goals
        refine (HNG.out _ _ (by first | exact ⟨1, rfl, Or.inl rfl⟩ | exact ⟨0, rfl, Or.inr (HTN.out (by omega))⟩)).mono ?_
        rintro e w2 ⟨hN, HB2⟩
        have hs2 := HB2.out.size
        have HB12 := Lib.hid (HB1'.out.trans (HB2.out.mono (by omega)))
        have HK12 := Lib.hid (HK1.out.trans (Kp.of_below HB2.out))
        cases rn with
        | none =>
          have he' : e = .returned (.tuple #[.slice none 0 0, .bool false]) := hN
          subst he'
          have hrn : r = none := HRS.out
          subst hrn
          clear hN c0
          go_wp2
          go_ret
          exact ⟨rfl, fun s hs => (by cases hs), HB12, HK12⟩
        | some ns =>
          obtain ⟨vn, rfl, HNO⟩ := hN
          obtain ⟨A2, cn, rfl, hnat⟩ := HNO.out.nat
          have HNA := Lib.hid hnat
          have HD2 := Lib.hid (HD1.out.below HB2.out)
          obtain ⟨vD, MD, hDb, _, _, _, _⟩ := HD2.out
          obtain ⟨d0, _, _, _, _⟩ := Dr.cells hDb
          have q0 := (HB2.out.cell (block_lt_of_cell c0)).trans c0
          obtain ⟨m, hm⟩ : ∃ m, ns.length = m := ⟨_, rfl⟩
          rw [hm]
          have HM := Lib.hid hm
          clear hDb hnat c0 hm
          have HRS' : Hid (stepN V L x ns = r) := Lib.hid HRS.out.symm
          have hsB : B ≤ w2.heap.size := by omega
          by_cases hV0 : V = 0
          · subst hV0
            by_cases hx : x = vertB
            · have hxl : (sb x).toList = [118, 101, 114, 116, 105, 99, 101, 115] := by rw [sb_toList, hx]; rfl
              obtain ⟨rv, hrv⟩ : ∃ rv, vertP ns = rv := ⟨_, rfl⟩
              have HRV := Lib.hid hrv
              have hr2 : r = vr L rv := by rw [← HRS'.out, hx]; exact stepN_vert L ns rv hrv
              subst hr2
              have HX := Lib.hid hx
              clear hrv hx
              go_wp2_with fail
              refine (takeVertices_any B D 0 L A2 cn m ns w2 HM.out HD2 HNA rv HRV).mono ?_
              rintro e w3 ⟨rfl, HD3, HB3, HK3⟩
              clear d0 q0
              go_wp2
              go_ret
              refine ⟨ret_b (by cases rv <;> rfl), fun s hs => ?_, Lib.hid (HB12.out.trans HB3.out), Lib.hid (HK12.out.trans HK3.out)⟩
              cases rv with
              | none => cases hs
              | some n => cases hs; exact HD3
            · have hxl : ¬ (sb x).toList = [118, 101, 114, 116, 105, 99, 101, 115] := by rw [sb_toList]; exact hx
              have hr2 : r = none := by rw [← HRS'.out]; exact stepN_novert L x ns hx
              subst hr2
              clear hx
              go_wp2
              go_ret
              exact ⟨rfl, fun s hs => (by cases hs), HB12, HK12⟩
          · by_cases hx : x = edgeB
            · have hxl : (sb x).toList = [101, 100, 103, 101] := by rw [sb_toList, hx]; rfl
              obtain ⟨rv, hrv⟩ : ∃ rv, oneP V L ns = rv := ⟨_, rfl⟩
              have HRV := Lib.hid hrv
              have hr2 : r = er V rv := by rw [← HRS'.out, hx]; exact stepN_edge V hV0 L ns rv hrv
              subst hr2
              have HX := Lib.hid hx
              clear hrv hx
              go_wp2_with fail
              refine (takeEdge_any B D V L A2 cn m ns w2 HM.out HD2 HNA hsB hV hL rv HRV).mono ?_
              rintro e w3 ⟨rfl, HD3, HB3, HK3⟩
              clear d0 q0
              go_wp2
              go_ret
              refine ⟨ret_b (by cases rv <;> rfl), fun s hs => ?_, Lib.hid (HB12.out.trans HB3.out), Lib.hid (HK12.out.trans HK3.out)⟩
              cases rv with
              | none => cases hs
              | some n => cases hs; exact HD3
            · have hxn : ¬ (sb x).toList = [101, 100, 103, 101] := by rw [sb_toList]; exact hx
              by_cases hy : x = bothB
              · have hxl : (sb x).toList = [98, 111, 116, 104] := by rw [sb_toList, hy]; rfl
                have hxn' : ¬ ([98, 111, 116, 104] : List UInt8) = [101, 100, 103, 101] := by decide
                obtain ⟨rv, hrv⟩ : ∃ rv, twoP V L ns = rv := ⟨_, rfl⟩
                have HRV := Lib.hid hrv
                have hr2 : r = er V rv := by rw [← HRS'.out, hy]; exact stepN_both V hV0 L ns rv hrv
                subst hr2
                have HX := Lib.hid hx; have HY := Lib.hid hy
                clear hrv hx hy hxn
                go_wp2_with fail
                refine (takeBoth_any B D V L A2 cn m ns w2 HM.out HD2 HNA hsB hV hL rv HRV).mono ?_
                rintro e w3 ⟨rfl, ⟨L', HD3, HL'⟩, HB3, HK3⟩
                clear d0 q0
                have HLL := Lib.hid HL'; clear HL'
                go_wp2
                go_ret
                refine ⟨ret_b (by cases rv <;> rfl), fun s hs => ?_, Lib.hid (HB12.out.trans HB3.out), Lib.hid (HK12.out.trans HK3.out)⟩
                cases rv with
                | none => cases hs
                | some n => cases hs; have := HLL.out rfl; cases this; exact HD3
              · have hyn : ¬ (sb x).toList = [98, 111, 116, 104] := by rw [sb_toList]; exact hy
                have hr2 : r = none := by rw [← HRS'.out]; exact stepN_else V hV0 L x ns hx hy
                subst hr2
                have hxb : ((sb x).toList == [101, 100, 103, 101]) = false := by rw [sb_toList]; exact beq_false_of_ne hx
                have hyb : ((sb x).toList == [98, 111, 116, 104]) = false := by rw [sb_toList]; exact beq_false_of_ne hy
                clear hx hy hxn hyn
                go_wp2
                go_ret
                exact ⟨rfl, fun s hs => (by cases hs), HB12, HK12⟩
  · have hrn : r = none := by rw [← hr.out, HST.out, if_neg hE]
    subst hrn
    go_wp2
    all_goals (try (exfalso; omega))
    go_ret
    exact ⟨rfl, fun s hs => (by cases hs), HB1', HK1⟩

end Go.Proofs.YtmcmpjcijbeilaaGreatDoor.Gr

/-
  What is proved here: the contract of graph.Parse: the graph that a text is, or the first line with which it is none. Conditions: at most 262144 bytes, lines of at most 100000; what order does to so many edges is known; the package variables lie as their texts lay them.
-/
namespace Go.Proofs.YtmcmpjcijbeilaaGreatDoor.Gr
open Go.RowKit Wd Ws

/- What order does to at most N edges that the call has made. -/
def OrderOK (N : Nat) : Prop := ∀ (B : Nat) (v : Value) (L : List Ed) (w : World), Hid (EOwn w B v L) → L.length ≤ N → B ≤ w.heap.size →
  Calls Tryz.prog 32 #[v] w fun e w' => e = .returned (.tuple #[]) ∧ ∃ L', L'.Perm L ∧ L'.Pairwise (fun a b => ahd b a = false) ∧ Hid (EOwn w' B v L') ∧ Hid (w.grownBy w' v.ownBlock)
def ParseRes (B : Nat) (w' : World) (e : Ending) : Nat × Option (Int × List Ed) → Prop
  | (n, none) => e = .returned (.tuple #[.agg #[.int .i64 0, .slice none 0 0], .int .i64 (n : Int), .int .i64 41])
  | (_, some (V, L)) => ∃ (v : Value) (L' : List Ed), e = .returned (.tuple #[.agg #[.int .i64 V, v], .int .i64 0, .int .i64 0]) ∧ Hid (EOwn w' B v L') ∧ L'.Perm L ∧ Rise L'
def JP (w : World) (n : Nat) (a' : Act) (w' : World) : Prop := Below w.heap.size w w' ∧ w'.heap[w.heap.size]? = some (.cells #[.int .i64 0, .slice none 0 0] 24 (0, 0)) ∧
  ∃ u0 u1 u3 u4 u5 u7 u8 u9 u10 u11 u12 u13 u14 u15 u16 u17 u18 u19 u20 u21 u22 u23 u24 u25 u26 u27 u28 u29 u30 u31 u32 u33 u34 u35 u36 u37 u38 u39 u40 u41 u42 : Value, a' = { tmps := #[u0, u1, .pointer (some ⟨w.heap.size, 0, none⟩), u3, u4, u5, .int .i64 (n : Int), u7, u8, u9, u10, u11, u12, u13, u14, u15, u16, u17, u18, u19, u20, u21, u22, u23, u24, u25, u26, u27, u28, u29, u30, u31, u32, u33, u34, u35, u36, u37, u38, u39, u40, u41, u42], defers := [] }
def JT (w : World) (T : Nat × Option (Int × List Ed)) (a' : Act) (w' : World) : Prop := ∃ n, Hid (T = (n, none)) ∧ JP w n a' w'

def PsRel (w w0 w1 : World) (D : Nat) (T : Nat × Option (Int × List Ed)) (xs : List (List UInt8)) (g : Nat) (m i : Value) (wr : World) : Prop :=
  ∃ (k : Nat) (V : Int) (L : List Ed), k + g = xs.length ∧ m = .int .i64 (k : Int) ∧ i = .int .i64 (k : Int) ∧ Dr wr (w.heap.size + 1) D V L ∧ Sd V L ∧ Below (w.heap.size + 1) w0 wr ∧ Kp w1 wr ∧ T = through V L k (xs.drop k)
theorem gx_put {w : World} {b : Nat} {V : Int} {s : Value} (h : w.heap[b]? = some (.cells #[.int .i64 V, s] 24 (0, 0))) (x y : Value) :
    ((w.setCell ⟨b, 0, none⟩ x).setCell ⟨b, 1, none⟩ y).cell? ⟨b, 0, none⟩ = some x ∧ ((w.setCell ⟨b, 0, none⟩ x).setCell ⟨b, 1, none⟩ y).cell? ⟨b, 1, none⟩ = some y := by
  have e1 := heap_setCell_same w b 0 _ _ x h
  have e2 := heap_setCell_same _ b 1 _ _ y e1
  exact ⟨by rw [Lib.cell_of_heap e2]; rfl, by rw [Lib.cell_of_heap e2]; rfl⟩
noncomputable def tr2 (k : Nat) (xs : List (List UInt8)) : Option (Int × List Ed) → Nat × Option (Int × List Ed)
  | none => (k + 1, none)
  | some s => through s.1 s.2 (k + 1) xs
theorem through_cons (V : Int) (L : List Ed) (k : Nat) (x : List UInt8) (xs : List (List UInt8)) : through V L k (x :: xs) = tr2 k xs (step V L x) := by
  rw [through]; cases step V L x <;> rfl
theorem own_any {w : World} {B : Nat} {v : Value} {L : List (List UInt8)} (h : Own w B v L) : ∃ A cap, v = .slice A L.length cap ∧ ∀ k y, L[k]? = some y → ∃ g, A = some ⟨g, 0, none⟩ ∧ ∃ cur, w.heap[g]? = some (.cells cur 9 (0, 0)) ∧ w.cell? ⟨g, k, none⟩ = some (.string (sb y)) := by
  obtain ⟨h0, h1 | ⟨g, cap, cur, h1, h2, h3, h4, h5, h6, h7⟩⟩ := h
  · have : L = [] := List.eq_nil_of_length_eq_zero h1.2
    subst this
    exact ⟨none, 0, h1.1, fun k y hy => by simp at hy⟩
  · refine ⟨some ⟨g, 0, none⟩, cap, h1, fun k y hy => ⟨g, rfl, cur, h3, ?_⟩⟩
    have hk := lt_at hy
    rw [cell_of_row w g k _ 9 (0, 0) h3]
    have e1 : cur[k]? = (cur.toList.take (L.length * 1))[k]? := by
      rw [List.getElem?_take, if_pos (by omega), Array.getElem?_toList]
    rw [e1, h7, strs_at, hy]; rfl
theorem Gx.cells {w : World} {b : Nat} {V : Int} {s : Value} (h : w.heap[b]? = some (.cells #[.int .i64 V, s] 24 (0, 0))) : ∀ j, w.frozen? ⟨b, j, none⟩ = false := fun j => Lib.frozen_of_heap h j

set_option maxRecDepth 100000 in
set_option maxHeartbeats 1000000 in
theorem parse_any (N : Nat) (hO : Hid (OrderOK N)) (l : List UInt8) (w : World) (hl : l.length ≤ 262144) (hll : Hid (∀ x ∈ ln [] l, x.length ≤ 100000)) (hLd : Hid (Laid w)) (T : Nat × Option (Int × List Ed)) (hT : Hid (through 0 [] 0 (ln [] l) = T)) (hN : Hid (∀ s, T.2 = some s → s.2.length ≤ N)) :
    Calls Tryz.prog 18 #[.string (sb l)] w fun e w' => ParseRes w.heap.size w' e T ∧ Hid (Below w.heap.size w w') := by
  have hsz := sb_size l
  have hmm := @run_makeMap Tryz.prog
  obtain ⟨w0, hw0⟩ : ∃ w0, w0 = w.alloc (.cells #[.int .i64 0, .slice none 0 0] 24) := ⟨_, rfl⟩
  have hb0 : Below w.heap.size w w0 := by rw [hw0]; exact (Below.refl _ w).alloc (Nat.le_refl _) _
  have hx0 : w0.heap[w.heap.size]? = some (.cells #[.int .i64 0, .slice none 0 0] 24 (0, 0)) := by rw [hw0]; exact heap_alloc_new w _
  have hs0 : w0.heap.size = w.heap.size + 1 := by rw [hw0]; simp
  have hLd0 : Hid (∀ w', Below (w.heap.size + 1) w0 w' → Laid w') := Lib.hid fun w' h => by rw [← hs0] at h; exact (hLd.out.bel hb0).bel h
  have HW0 := Lib.hid hw0; have HB0 := Lib.hid hb0; have HX0 := Lib.hid hx0
  clear hw0 hb0 hx0
  obtain ⟨xs, hxs⟩ : ∃ xs, ln [] l = xs := ⟨_, rfl⟩
  have HXS := Lib.hid hxs
  rw [hxs] at hT hll
  clear hxs
  go_enter Tryz.func18, Tryz.ntmps18
  go_wp2_with fail
  rw [← HW0.out]
  refine wp_scope_jumps 0 (JT w T) (fun _ _ => 0) rfl ?_ ?_
  · go_wp2_with fail
    all_goals (try (exfalso; omega))
    obtain ⟨w2, hw2⟩ : ∃ w2, w2 = (w0.alloc (.map #[] 0)).alloc (.cells #[.int .i64 0, .slice none 0 0, .map (some (w.heap.size + 1))] 59) := ⟨_, rfl⟩
    have hb2 : Below (w.heap.size + 1) w0 w2 := by rw [hw2, ← hs0]; exact ((Below.refl _ w0).alloc (Nat.le_refl _) _).alloc (by simp) _
    have hs2 : w2.heap.size = w.heap.size + 3 := by rw [hw2]; simp; omega
    have hpm : PM (w0.alloc (.map #[] 0)) (w.heap.size + 1) [] := by rw [← hs0]; exact PM.made w0
    have hdr : Dr w2 (w.heap.size + 1) (w.heap.size + 2) 0 [] := by
      refine ⟨.slice none 0 0, w.heap.size + 1, ?_, EOwn.none_ _ _, ?_, by omega, by omega⟩
      · rw [hw2]
        have := heap_alloc_new (w0.alloc (.map #[] 0)) (.cells #[.int .i64 0, .slice none 0 0, .map (some (w.heap.size + 1))] 59)
        rw [show (w0.alloc (.map #[] 0)).heap.size = w.heap.size + 2 by simp; omega] at this
        exact this
      · rw [hw2]; exact hpm.below ((Below.refl _ _).alloc (Nat.le_refl _) _)
    rw [← hw2]
    have HB2 := Lib.hid hb2; have HD2 := Lib.hid hdr
    clear hw2 hb2 hpm hdr
    refine (lines_hid _ l xs _ rfl (by omega) HXS).mono ?_
    rintro e w3 ⟨v, rfl, HO3, HB3⟩
    have hs3 := HB3.out.size
    have HB03 := Lib.hid (HB2.out.trans (HB3.out.mono (by omega)))
    have HD3 := Lib.hid (HD2.out.below HB3.out)
    obtain ⟨A, cv, rfl, hcell⟩ := own_any HO3.out
    have HCELL := Lib.hid hcell; clear hcell
    obtain ⟨n, hn⟩ : ∃ n, n = xs.length := ⟨_, rfl⟩
    rw [← hn]
    have hnl : n ≤ 300000 := by
      have h1 := lns_len xs
      have h2 := ln_total l []
      rw [HXS.out] at h2
      simp only [List.length_nil] at h2; omega
    have HN2 := Lib.hid hn; clear hn
    go_wp2
    go_loopg [6, 18] n (fun g m i wr => PsRel w w0 w3 (w.heap.size + 2) T xs g m i wr)
    case atStart => exact ⟨0, 0, [], by rw [← HN2.out]; omega, rfl, rfl, HD3.out, Sd.nil, HB03.out, Kp.refl _, by rw [List.drop_zero]; exact hT.out.symm⟩
    case round =>
      obtain ⟨k, V, L, hk, rfl, rfl, hd, hsd, hb, hkp, hth⟩ := hrel
      rw [← HN2.out] at hk
      have hsr := hb.size
      have hV := hsd.v
      have hLl := hsd.len
      by_cases hlt : k < n
      · obtain ⟨x, hx⟩ := at_lt xs k (by rw [← HN2.out]; exact hlt)
        obtain ⟨g, rfl, cur, hcb, hcc⟩ := HCELL.out k x hx
        have hc : wr.cell? ⟨g, k, none⟩ = some (.string (sb x)) := by
          rw [World.cell?, (hkp g cur (0, 0) hcb)]; exact hcc
        rw [drop_at hx] at hth
        obtain ⟨r, hr⟩ : ∃ r, step V L x = r := ⟨_, rfl⟩
        have hth2 : T = tr2 k (xs.drop (k + 1)) r := by rw [hth, through_cons, hr]
        have HTH := Lib.hid hth2; have HR := Lib.hid hr; have HD := Lib.hid hd; have HSD := Lib.hid hsd; have HB := Lib.hid hb; have HKP := Lib.hid hkp
        have hxl := hll.out x (List.mem_of_getElem? hx)
        clear hth hth2 hr hd hsd hb hkp hcb hcc hx
        go_wp2_with fail
        refine (take_any (w.heap.size + 1) (w.heap.size + 2) V L x wr HD (Lib.hid fun w' h => hLd0.out w' (HB.out.trans h)) hxl (by omega) (by omega) hLl r HR).mono ?_
        rintro e w4 ⟨rfl, hD4, HB4, HK4⟩
        have HB5 := Lib.hid (HB.out.trans HB4.out)
        cases r with
        | some s =>
          have HD4 := hD4 s rfl
          have hSD := HSD.out.step HR.out
          clear hD4
          have HSD4 := Lib.hid hSD.1; clear hSD
          go_wp2
          go_roundg (gk - 1)
          case measure => omega
          case rel => exact ⟨k + 1, s.1, s.2, by rw [← HN2.out]; omega, by go_num, by go_num, HD4.out, HSD4.out, HB5.out, HKP.out.trans HK4.out, HTH.out⟩
        | none =>
          have HTN : Hid (T = (k + 1, none)) := HTH
          clear hD4
          have hx4 := (HB5.out.block w.heap.size (by omega)).trans HX0.out
          have HX4 := Lib.hid hx4; have HBW := Lib.hid (HB0.out.trans (HB5.out.mono (by omega : w.heap.size ≤ w.heap.size + 1)))
          clear hx4
          go_wp2
          go_step3
          exact ⟨rfl, k + 1, HTN, HBW.out, HX4.out, _, _, _, _, _, _, _, _, _, _, _, _, _, _, _, _, _, _, _, _, _, _, _, _, _, _, _, _, _, _, _, _, _, _, _, _, _, _, _, _, _, rfl⟩
      · have hkn : k = n := by omega
        have hte : T = if V = 0 then (n + 1, none) else (0, some (V, L)) := by
          rw [hth, hkn, HN2.out, List.drop_length, through]
        obtain ⟨vD, MD, hDb, hE0, _, _, _⟩ := hd
        obtain ⟨d0, d1, _, _, _⟩ := Dr.cells hDb
        obtain ⟨AD, cD, rfl, _, hAD, _⟩ := hE0.form
        have hx4 := (hb.block w.heap.size (by omega)).trans HX0.out
        have HE0 := Lib.hid hE0; have HB := Lib.hid hb; have HX4 := Lib.hid hx4; have HSD := Lib.hid hsd; have HAD := Lib.hid hAD; have HDB := Lib.hid hDb
        have HBW := Lib.hid (HB0.out.trans (hb.mono (by omega : w.heap.size ≤ w.heap.size + 1)))
        obtain ⟨x0, x1, hxs⟩ := Bx.cells hx4
        have xf := Gx.cells hx4
        clear hth hb hx4 hsd hAD hDb hkp hE0
        by_cases hV0 : V = 0
        · subst hV0
          have HTE : Hid (T = (n + 1, none)) := Lib.hid (by rw [hte, if_pos rfl])
          clear hte
          go_wp2
          go_step3
          go_wp2
          simp only [Exit.jump]
          obtain ⟨k0, k1⟩ := gx_put HX4.out (.int .i64 0) (.slice none 0 0)
          refine bodyPost_ret (v := .tuple #[.agg #[.int .i64 0, .slice none 0 0], .int .i64 ((n + 1 : Nat) : Int), .int .i64 41]) (by simp [results, Tryz.results18, go_sem, k0, k1]) rfl ⟨(by rw [HTE.out]; rfl), Lib.hid ?_⟩
          exact (HBW.out.setCell (p := ⟨w.heap.size, 0, none⟩) (Nat.le_refl _) _).setCell (p := ⟨w.heap.size, 1, none⟩) (Nat.le_refl _) _
        · have HTE : Hid (T = (0, some (V, L))) := Lib.hid (by rw [hte, if_neg hV0])
          have hV1 : 0 < V := by omega
          have hLN := hN.out (V, L) (by rw [HTE.out])
          clear hte
          go_wp2_with fail
          refine (hO.out (w.heap.size + 1) _ L wr HE0 hLN (by omega)).mono ?_
          rintro e w5 ⟨rfl, L', hp, hpw, HE5, HG5⟩
          have hD5 := keepD HDB.out HE0.out HG5.out
          have hx5 := (HG5.out.block w.heap.size (lt_of_block HX4.out) (fun e => by have := (own_lt HE0.out _ e.symm).1; omega)).trans HX4.out
          have hb5 : Below w.heap.size w w5 := Below.grown HBW.out HG5.out (by omega) (fun g e => by have := (own_lt HE0.out g e).1; omega)
          have HRise := Lib.hid (rise_of (apart_perm HSD.out.apart hp.symm) hpw)
          have HP := Lib.hid hp; have HB5 := Lib.hid hb5
          clear d0 d1 x0 x1 xf hp hpw hb5
          obtain ⟨d0, d1, _, _, _⟩ := Dr.cells hD5
          obtain ⟨x0, x1, hxs5⟩ := Bx.cells hx5
          have xf := Gx.cells hx5
          have HX5 := Lib.hid hx5
          clear hD5 hx5
          go_wp2
          simp only [Exit.jump]
          obtain ⟨k0, k1⟩ := gx_put HX5.out (.int .i64 V) (.slice AD L.length cD)
          refine bodyPost_ret (v := .tuple #[.agg #[.int .i64 V, .slice AD L.length cD], .int .i64 0, .int .i64 0]) (by simp [results, Tryz.results18, go_sem, k0, k1]) rfl ⟨(by
            rw [HTE.out]
            refine ⟨_, L', rfl, Lib.hid ?_, HP.out, HRise.out⟩
            exact own_mono (ownsRow_setCell_below (ownsRow_setCell_below HE5.out (a := ⟨w.heap.size, 0, none⟩) (by show w.heap.size < _; omega) _) (a := ⟨w.heap.size, 1, none⟩) (by show w.heap.size < _; omega) _) (by omega)), Lib.hid ?_⟩
          exact (HB5.out.setCell (p := ⟨w.heap.size, 0, none⟩) (Nat.le_refl _) _).setCell (p := ⟨w.heap.size, 1, none⟩) (Nat.le_refl _) _
  · rintro a' w' ⟨n, HTN, hb, hx, u0, u1, u3, u4, u5, u7, u8, u9, u10, u11, u12, u13, u14, u15, u16, u17, u18, u19, u20, u21, u22, u23, u24, u25, u26, u27, u28, u29, u30, u31, u32, u33, u34, u35, u36, u37, u38, u39, u40, u41, u42, rfl⟩
    obtain ⟨x0, x1, hxs⟩ := Bx.cells hx
    have xf := Gx.cells hx
    have HB := Lib.hid hb; have HX := Lib.hid hx; clear hb hx
    go_wp2
    simp only [Exit.jump]
    obtain ⟨k0, k1⟩ := gx_put HX.out (.int .i64 0) (.slice none 0 0)
    refine bodyPost_ret (v := .tuple #[.agg #[.int .i64 0, .slice none 0 0], .int .i64 (n : Int), .int .i64 41]) (by simp [results, Tryz.results18, go_sem, k0, k1]) rfl ⟨(by rw [HTN.out]; rfl), Lib.hid ?_⟩
    exact (HB.out.setCell (p := ⟨w.heap.size, 0, none⟩) (Nat.le_refl _) _).setCell (p := ⟨w.heap.size, 1, none⟩) (Nat.le_refl _) _

end Go.Proofs.YtmcmpjcijbeilaaGreatDoor.Gr

/-
  What is proved here: what graph.order does, from what the library's pdqsort_func does over its closure; and the latter at no more than twelve edges. Conditions: the row is one that the call has made.
-/
namespace Go.Proofs.YtmcmpjcijbeilaaGreatDoor.Gr
open Go.RowKit Wd Ws Go.Sort

/- From a row that the call owns to one that is being sorted, and back. -/
theorem flat_ecs (L : List Ed) : (flatK ec 3 L.toArray).toList = ecs L := by
  apply List.ext_getElem?
  intro t
  rcases Nat.lt_or_ge t (L.length * 3) with ht | ht
  · have h3 : t / 3 < L.length := by omega
    obtain ⟨a0, a1, a2⟩ := ecs_at L (t / 3) L[t / 3] (List.getElem?_eq_getElem h3)
    have e1 : (flatK ec 3 L.toArray).toList[t]? = some (flatK ec 3 L.toArray)[t]! := by
      rw [Array.getElem?_toList, getElem!_pos _ t (by simpa using ht), Array.getElem?_eq_getElem]
    have e2 : (L.toArray)[t / 3]! = L[t / 3] := by rw [getElem!_pos _ _ (by simpa using h3)]; simp
    rw [e1, get_flatK ec 3 L.toArray t (by simpa using ht), e2]
    have h4 : t % 3 = 0 ∨ t % 3 = 1 ∨ t % 3 = 2 := by omega
    rcases h4 with h4 | h4 | h4
    · rw [h4]; rw [show t / 3 * 3 = t by omega] at a0; rw [a0]; rfl
    · rw [h4]; rw [show t / 3 * 3 + 1 = t by omega] at a1; rw [a1]; rfl
    · rw [h4]; rw [show t / 3 * 3 + 2 = t by omega] at a2; rw [a2]; rfl
  · rw [List.getElem?_eq_none (by simpa using ht), List.getElem?_eq_none (by rw [ecs_len]; exact ht)]
theorem swd_of {w : World} {B g n c : Nat} {L : List Ed} (h : EOwn w B (.slice (some ⟨g, 0, none⟩) n c) L) : n = L.length ∧ B ≤ g ∧ SWd w w g (c * 3) L.toArray ∧ n ≤ c ∧ c ≤ maxLen := by
  obtain ⟨h0, h1 | ⟨g', cap, cur, h1, h2, h3, h4, h5, h6, h7⟩⟩ := h
  · cases h1.1
  · cases h1
    refine ⟨rfl, h2, ⟨fun j hj => ?_, ⟨rfl, rfl, rfl, Nat.le_refl _, fun _ _ _ => rfl⟩, ⟨cur, h3, h6⟩, lt_of_block h3⟩, h4, h5⟩
    have hj' : j < L.length * 3 := by simpa using hj
    refine ⟨?_, Lib.frozen_of_heap h3 _⟩
    rw [Nat.zero_add, cell_of_row w g j _ 42 (0, 0) h3]
    have e1 : cur[j]? = (cur.toList.take (L.length * 3))[j]? := by
      rw [List.getElem?_take, if_pos hj', Array.getElem?_toList]
    rw [e1, h7, ← flat_ecs, Array.getElem?_toList, getElem!_pos _ j hj, Array.getElem?_eq_getElem hj]; rfl
theorem own_of {w0 w : World} {B g n c : Nat} {d : Array Ed} (h : SWd w0 w g (c * 3) d) (hB : B ≤ g) (hd : d.size = n) (hn : n ≤ c) (hc : c ≤ maxLen) : EOwn w B (.slice (some ⟨g, 0, none⟩) n c) d.toList := by
  obtain ⟨cur, h1, h2⟩ := h.row
  refine ⟨by rw [ecs_len], Or.inr ⟨g, c, cur, by rw [Array.length_toList, hd], hB, h1, by rw [Array.length_toList, hd]; exact hn, hc, h2, ?_⟩⟩
  rw [← flat_ecs, Array.toArray_toList]
  apply List.ext_getElem?
  intro j
  rw [List.getElem?_take]
  split
  · rename_i hj
    have hj' : j < (flatK ec 3 d).size := by simpa using hj
    have := (h.holds j hj').1
    rw [Nat.zero_add, cell_of_row w g j _ 42 (0, 0) h1] at this
    rw [Array.getElem?_toList, this, Array.getElem?_toList, getElem!_pos _ j hj', Array.getElem?_eq_getElem hj']; rfl
  · rename_i hj
    rw [List.getElem?_eq_none (by simpa using hj)]

theorem swo_ahd : SWO ahd := ⟨ahd_irr, fun x y z h k => ahd_trans h k, fun x y z h k => by rw [ahd_not] at *; omega⟩
theorem pairs_of {n : Nat} {d : Array Ed} (h : SortedIn ahd 0 n d) (hd : d.size = n) : d.toList.Pairwise fun a b => ahd b a = false := by
  rw [List.pairwise_iff_getElem]
  intro i j hi hj hij
  have hi' : i < d.size := by simpa using hi
  have hj' : j < d.size := by simpa using hj
  have := h i j (Nat.zero_le _) hij (by omega)
  rw [getElem!_pos d i hi', getElem!_pos d j hj'] at this
  simpa using this

/- What the library's pdqsort_func does to at most M edges. -/
def PdqOK (M : Nat) : Prop := ∀ (w : World) (g N Bs n c : Nat) (d : Array Ed) (lim : Nat) (th : Value), Hid (th = typeHandle Tryz.prog 42) → Hid (SWd w w g N d) → Hid (Bes w g Bs n c) → Hid (d.size = n) → n ≤ M → n < 4611686018427387904 → lim < 4611686018427387904 →
  Calls Tryz.prog 71 #[.agg #[.func (.func 51) #[] #[.pointer (some ⟨Bs, 0, none⟩)], .func (.func 92) #[] #[.slice (some ⟨g, 0, none⟩) n c, th]], .int .i64 0, .int .i64 (n : Int), .int .i64 (lim : Int)] w fun e w' => e = .returned (.tuple #[]) ∧ ∃ d', Hid (PermIn 0 n d d' ∧ SortedIn ahd 0 n d') ∧ Hid (SWd w w' g N d')

set_option maxRecDepth 100000 in
set_option maxHeartbeats 600000 in
theorem pdq_twelve : PdqOK 12 := by
  intro w g N Bs n c d lim th hth h hB hd hn hn' hlim
  obtain ⟨w1, hw1⟩ : ∃ w1, w1 = w.alloc (.cells #[.func (.func 51) #[] #[.pointer (some ⟨Bs, 0, none⟩)], .func (.func 92) #[] #[.slice (some ⟨g, 0, none⟩) n c, th]] 105) := ⟨_, rfl⟩
  have hb1 : Below w.heap.size w w1 := by rw [hw1]; exact (Below.refl _ w).alloc (Nat.le_refl _) _
  have HS1 := Lib.hid (h.out.below hb1)
  have HS := Lib.hid (h.out.below hb1).start
  have HBe := Lib.hid (hB.out.on HS1.out)
  have HF : Hid (Fx w1 w.heap.size Bs g n c th) := Lib.hid ⟨by rw [hw1]; exact heap_alloc_new w _, by have := h.out.lt; omega⟩
  obtain ⟨k0, k1, hks⟩ := HF.out.on HS.out
  have HW := Lib.hid hw1
  clear hw1 hb1
  have HC := Lib.hid (insertionSort_any w1 g N Bs n c 0 n d th hth HS HBe hd (Nat.zero_le _) (Nat.le_refl _) hn')
  go_enter Tryz.func71, Tryz.ntmps71
  go_wp2
  rw [← HW.out]
  refine wp_loop_rounds 1 ?_
  rw [rounds_succ]
  go_wp2_with fail
  refine HC.out.mono ?_
  rintro e w2 ⟨rfl, HS2⟩
  go_wp2
  (try simp only [Exit.inBlock, Exit.then]); refine bodyPost_ret (results_none rfl _ _ _) rfl ?_
  exact ⟨rfl, _, Lib.hid (insertionSort_holds swo_ahd d 0 n (Nat.zero_le _) (by rw [hd.out]; exact Nat.le_refl _)), Lib.hid (HS1.out.on HS2.out)⟩

end Go.Proofs.YtmcmpjcijbeilaaGreatDoor.Gr

/-
  What is proved here: graph.order: it sorts what it is given, from what the library's pdqsort_func does over its closure. Conditions: the row is one that the call has made.
-/
namespace Go.Proofs.YtmcmpjcijbeilaaGreatDoor.Gr
open Go.RowKit Wd Ws Go.Sort

noncomputable def svT : TypeInfo := (Tryz.prog.info? 22).get (by kernel_rfl)
theorem swK (n : Nat) (h2 : 2 ≤ n) : Lib.swapperK n ieE 25 = 9 := by
  have a : ieE.hasPointers = false := by kernel_rfl
  have b : ieE.bytes = 24 := by kernel_rfl
  have c : (n == 0) = false := by simp; omega
  have d : (n == 1) = false := by simp; omega
  simp [Lib.swapperK, a, b, c, d]
theorem grown_none {w w' : World} (h : w.grownBy w' none) (r : Option Nat) : w.grownBy w' r := ⟨h.os, h.tape, h.output, h.size, fun i hi _ => h.block i hi nofun⟩
theorem below_grow (w : World) (os : Array Obj) : Below w.heap.size w (Sort.grow w os) := { size := by simp [Sort.grow], os := rfl, tape := rfl, output := rfl, block := fun i hi => by simp [Sort.grow, Array.getElem?_append_left hi] }

set_option maxRecDepth 100000 in
set_option maxHeartbeats 600000 in
theorem slice_any (M : Nat) (hP : Hid (PdqOK M)) (w : World) (B g n c Bs : Nat) (L : List Ed) (h : Hid (EOwn w B (.slice (some ⟨g, 0, none⟩) n c) L)) (hb : Hid (Bes w g Bs n c)) (hn : L.length ≤ M) (hM : M < 4611686018427387904) :
    Calls Tryz.prog 50 #[.iface 22 (.slice (some ⟨g, 0, none⟩) n c), .func (.func 51) #[] #[.pointer (some ⟨Bs, 0, none⟩)]] w fun e w' => e = .returned (.tuple #[]) ∧ ∃ L', Hid (L'.Perm L ∧ L'.Pairwise (fun a b => ahd b a = false) ∧ EOwn w' B (.slice (some ⟨g, 0, none⟩) n c) L' ∧ w.grownBy w' (some g)) := by
  obtain ⟨hnl, hBg, hS, hnc, hcm⟩ := swd_of h.out
  have hm : n < 4611686018427387904 := by omega
  by_cases h2 : 2 ≤ n
  · have hK : Tryz.prog.funcs.findIdx? (·.name == "internal/reflectlite" ++ ".Swapper$" ++ toString (Lib.swapperK n ieE 25)) = some 92 := by rw [swK n h2]; kernel_rfl
    refine Any.sort_Slice_of_pdq Tryz.laysGg6 22 42 svT ieE (by kernel_rfl) (by kernel_rfl) (by kernel_rfl) ieE_is 25 (fun _ => by kernel_rfl) (some ⟨g, 0, none⟩) n c hm _ hK _ _ _ w _ ?_
    have hB : sliceBound Tryz.prog 42 ieE 25 (some ⟨g, 0, none⟩) n c = #[.slice (some ⟨g, 0, none⟩) n c, typeHandle Tryz.prog 42] := by
      unfold sliceBound; rw [if_neg (by rw [swK n h2]; decide)]
    rw [hB]
    obtain ⟨w1, hw1⟩ : ∃ w1, w1 = sliceWorld Tryz.prog Tryz.laysGg6_ren 22 (some ⟨g, 0, none⟩) n c w := ⟨_, rfl⟩
    have hb1 : Below w.heap.size w w1 := by
      rw [hw1]; unfold sliceWorld
      exact ((Below.refl _ w).alloc (Nat.le_refl _) _).alloc (by simp) _
    rw [← hw1]
    have hS1 := hS.below hb1
    have hl : Lib.bitLen n < 4611686018427387904 := Nat.lt_of_le_of_lt (Lib.bitLen_le n 62 (by omega) (by omega)) (by omega)
    refine (hP.out w1 g (c * 3) Bs n c L.toArray (Lib.bitLen n) _ (Lib.hid rfl) (Lib.hid hS1.start) (Lib.hid (hb.out.on hS1)) (Lib.hid (by simpa using hnl.symm)) (by omega) hm hl).mono ?_
    rintro e w' ⟨rfl, d', hd, hS'⟩
    obtain ⟨hp, hs⟩ := hd.out
    have hsz : d'.size = n := by rw [hp.1]; simpa using hnl.symm
    refine ⟨rfl, d'.toList, Lib.hid ⟨?_, pairs_of hs hsz, own_of (hS1.on hS'.out) hBg hsz hnc hcm, (hS1.on hS'.out).grown⟩⟩
    have := hp.2.2
    rw [show d'.extract 0 n = d' by rw [← hsz]; exact Array.extract_size .., show L.toArray.extract 0 n = L.toArray by rw [hnl]; exact Array.extract_size ..] at this
    simpa using this
  · have hK : ∃ f, Tryz.prog.funcs.findIdx? (·.name == "internal/reflectlite" ++ ".Swapper$" ++ toString (Lib.swapperK n ieE 25)) = some f := by
      have h3 : n = 0 ∨ n = 1 := by omega
      rcases h3 with rfl | rfl
      · exact ⟨84, by kernel_rfl⟩
      · exact ⟨85, by kernel_rfl⟩
    obtain ⟨f, hK⟩ := hK
    refine (Any.sort_Slice_tiny Tryz.laysGg6 22 42 svT ieE (by kernel_rfl) (by kernel_rfl) (by kernel_rfl) ieE_is 25 (fun _ => by kernel_rfl) (some ⟨g, 0, none⟩) n c (by omega) f hK _ _ _ w).mono ?_
    rintro e w' ⟨rfl, os, rfl⟩
    refine ⟨rfl, L, Lib.hid ⟨List.Perm.refl _, ?_, h.out.below (below_grow w os), grown_below (below_grow w os) _⟩⟩
    match L, hnl with
    | [], _ => exact List.Pairwise.nil
    | [a], _ => simp
    | a :: b :: l, hh => simp at hh; omega

end Go.Proofs.YtmcmpjcijbeilaaGreatDoor.Gr

/-
  What is proved here: graph.order itself. Conditions: the row is one that the call has made.
-/
namespace Go.Proofs.YtmcmpjcijbeilaaGreatDoor.Gr
open Go.RowKit Wd Ws Go.Sort

theorem slice_nil (w : World) (c Bs : Nat) :
    Calls Tryz.prog 50 #[.iface 22 (.slice none 0 c), .func (.func 51) #[] #[.pointer (some ⟨Bs, 0, none⟩)]] w fun e w' => e = .returned (.tuple #[]) ∧ Hid (Below w.heap.size w w') := by
  have hK : Tryz.prog.funcs.findIdx? (·.name == "internal/reflectlite" ++ ".Swapper$" ++ toString (Lib.swapperK 0 ieE 25)) = some 84 := by kernel_rfl
  refine (Any.sort_Slice_tiny Tryz.laysGg6 22 42 svT ieE (by kernel_rfl) (by kernel_rfl) (by kernel_rfl) ieE_is 25 (fun _ => by kernel_rfl) none 0 c (by omega) _ hK _ _ _ w).mono ?_
  rintro e w' ⟨rfl, os, rfl⟩
  exact ⟨rfl, Lib.hid (below_grow w os)⟩

set_option maxRecDepth 100000 in
set_option maxHeartbeats 600000 in
theorem order_any (M : Nat) (hM : M < 4611686018427387904) (hP : Hid (PdqOK M)) : OrderOK M := by
  intro B v L w h hL hB
  obtain ⟨w1, hw1⟩ : ∃ w1, w1 = w.alloc (.cells #[v] 22) := ⟨_, rfl⟩
  have hb1 : Below w.heap.size w w1 := by rw [hw1]; exact (Below.refl _ w).alloc (Nat.le_refl _) _
  have hx : w1.heap[w.heap.size]? = some (.cells #[v] 22 (0, 0)) := by rw [hw1]; exact heap_alloc_new w _
  have H1 := Lib.hid (h.out.below hb1)
  obtain ⟨A, c, hv, _, hA, hc0⟩ := h.out.form
  have mixed := mixedO
  rcases hA with rfl | ⟨g, rfl, hBg, hg, _⟩
  · have hL0 : L = [] := by
      rcases L with _ | ⟨x, L⟩
      · rfl
      · obtain ⟨h0, h1 | ⟨g, cap, cur, h1, _⟩⟩ := h.out
        · exact absurd h1.2 (by simp)
        · rw [hv] at h1; cases h1
    subst hL0
    obtain rfl := hc0 rfl
    subst hv
    obtain ⟨k0, hks⟩ : w1.cell? ⟨w.heap.size, 0, none⟩ = some (.slice none 0 0) ∧ w.heap.size < w1.heap.size := ⟨by rw [Lib.cell_of_heap hx]; rfl, lt_of_block hx⟩
    have HC := Lib.hid (slice_nil w1 0 w.heap.size)
    have HW := Lib.hid hw1
    have HB := Lib.hid hb1
    clear hw1 hb1 hx
    go_enter Tryz.func32, Tryz.ntmps32
    go_wp2_with fail
    rw [show ([] : List Ed).length = 0 from rfl] at HW
    rw [← HW.out]
    refine HC.out.mono ?_
    rintro e w2 ⟨rfl, HB2⟩
    go_wp2
    go_end0
    have hbb : Below w.heap.size w w2 := HB.out.trans (HB2.out.mono HB.out.size)
    exact ⟨rfl, [], List.Perm.refl _, List.Pairwise.nil, Lib.hid (h.out.below hbb), Lib.hid (grown_below hbb _)⟩
  · subst hv
    obtain ⟨k0, hks⟩ : w1.cell? ⟨w.heap.size, 0, none⟩ = some (.slice (some ⟨g, 0, none⟩) L.length c) ∧ w.heap.size < w1.heap.size := ⟨by rw [Lib.cell_of_heap hx]; rfl, lt_of_block hx⟩
    have HC := Lib.hid (slice_any M hP w1 B g L.length c w.heap.size L H1 (Lib.hid ⟨hx, by omega⟩) hL hM)
    have HW := Lib.hid hw1
    have HB := Lib.hid hb1
    clear hw1 hb1 hx
    go_enter Tryz.func32, Tryz.ntmps32
    go_wp2_with fail
    rw [← HW.out]
    refine HC.out.mono ?_
    rintro e w2 ⟨rfl, L', HK⟩
    go_wp2
    go_end0
    obtain ⟨q1, q2, q3, q4⟩ := HK.out
    exact ⟨rfl, L', q1, q2, Lib.hid q3, Lib.hid ((grown_below HB.out _).trans q4)⟩
theorem order_twelve : OrderOK 12 := order_any 12 (by decide) (Lib.hid pdq_twelve)

end Go.Proofs.YtmcmpjcijbeilaaGreatDoor.Gr

/-
  What is proved here: the contract of the document's own Check: may a graph be? Conditions: numbers and counts fit an int.
-/
namespace Go.Proofs.YtmcmpjcijbeilaaGreatDoor.Gr
open Go.RowKit Wd Ws

set_option maxRecDepth 100000 in
set_option maxHeartbeats 600000 in
theorem rcheck_any (V : Int) (A : Option Addr) (c : Nat) (L : List Ed) (w : World) (hL : EAt w A L) (hm : L.length ≤ 9223372036854775807) :
    Calls Tryz.prog 16 #[.agg #[.int .i64 V, .slice A L.length c]] w fun e w' => e = .returned (.int .i64 (chk V L)) ∧ Below w.heap.size w w' := by
  have mixed := mixedO
  have HL := Lib.hid hL; clear hL
  have hz : Below w.heap.size w (w.alloc (.cells #[.int .i64 V, .slice A L.length c] 24)) := (Below.refl _ w).alloc (Nat.le_refl _) _
  have HZ := Lib.hid hz; clear hz
  by_cases hV : 512 < V
  · have hk : chk V L = 3 := by unfold chk; rw [if_pos (Or.inl hV)]
    rw [hk]; clear hk
    go_enter Tryz.func16, Tryz.ntmps16
    go_wp2
    go_ret
    exact ⟨rfl, HZ.out⟩
  · by_cases hn : 8192 < L.length
    · have hk : chk V L = 3 := by unfold chk; rw [if_pos (Or.inr hn)]
      rw [hk]; clear hk
      go_enter Tryz.func16, Tryz.ntmps16
      go_wp2
      go_ret
      exact ⟨rfl, HZ.out⟩
    · have hk : chk V L = if okL V none L then (if V < 1 then 40 else 0) else 40 := by
        unfold chk; rw [if_neg (by omega)]
        by_cases h1 : V < 1
        · rw [if_pos h1, if_pos h1]; split <;> rfl
        · rw [if_neg h1, if_neg h1]
      rw [hk]
      clear hk
      obtain ⟨R, hR⟩ : ∃ R : Int, (if okL V none L then (if V < 1 then (40 : Int) else 0) else 40) = R := ⟨_, rfl⟩
      rw [hR]
      have HRR := Lib.hid hR; clear hR
      go_enter Tryz.func16, Tryz.ntmps16
      go_wp2
      go_loopg [3] L.length (fun g i wr => CkRel w V A c L g i wr)
      case atStart => exact ⟨0, by omega, rfl, HZ.out, heap_alloc_new w _, rfl⟩
      case round =>
        obtain ⟨k, hk, rfl, hb, hbx, hok⟩ := hrel
        by_cases hlt : k < L.length
        · obtain ⟨e, he⟩ := at_lt L k hlt
          obtain ⟨x0, x1, hsz⟩ := Bx.cells hbx
          have hea := HL.out.below hb
          obtain ⟨bk, o, rfl, c0, c1, c2⟩ := hea k e he
          have hokk : okL V (prv L k) (L.drop k) = (fitE V e && ahdO (prv L k) e && okL V (some e) (L.drop (k + 1))) := by rw [drop_at he]; rfl
          rw [hokk] at hok
          clear hokk
          have HNX : Hid (prv L (k + 1) = some e) := Lib.hid (by unfold prv; rw [if_neg (by omega), Nat.add_sub_cancel]; exact he)
          obtain ⟨e0, e1, e2⟩ := e
          have HB := Lib.hid hb; have HX := Lib.hid hbx; have HO := Lib.hid hok; have HE := Lib.hid he; have HA := Lib.hid hea
          clear hb hbx hok he hea
          go_wp2
          generalize hW : wr = W at HB HX HA hsz x0 x1 c0 c1 c2 ⊢
          clear hW
          have hsz1 := hsz
          have fx0 := cell_grown hsz1 x0; have fx1 := cell_grown hsz1 x1
          have fy0 := cell_grown (block_lt_of_cell c0) c0; have fy1 := cell_grown (block_lt_of_cell c1) c1; have fy2 := cell_grown (block_lt_of_cell c2) c2
          clear x0 x1 c0 c1 c2
          cases hf : fitE V (e0, e1, e2) with
          | false =>
            have HF := Lib.hid hf; clear hf
            have HC1 := Lib.hid (fun n os => Grw.quiet (rfits_at e0 e1 e2 V false (Sort.grow (W.drewN n) os) HF))
            refine wp_region_quiet_grown mixed (by kernel_rfl) ?_
            repeat (go_big_quiet_step (first | (go_at_call 35; exact HC1.out _ _)))
            refine wpQuiet_nil ?_
            intro _ hw'
            obtain ⟨⟨nq, osq⟩, hw''⟩ := hw'
            subst hw''
            go_wp2
            go_ret
            refine ⟨?_, HB.out.trans ((grw_at _ _ _).below.mono (by omega))⟩
            exact ret_int (by rw [← HRR.out, HO.out, HF.out]; rfl)
          | true =>
            have HF := Lib.hid hf; clear hf
            have HC1 := Lib.hid (fun n os => Grw.quiet (rfits_at e0 e1 e2 V true (Sort.grow (W.drewN n) os) HF))
            rcases k with _ | j
            · simp only [Nat.zero_mul, Nat.add_zero] at fy0 fy1 fy2
              refine wp_region_quiet_grown mixed (by kernel_rfl) ?_
              repeat (go_big_quiet_step (first | (go_at_call 35; exact HC1.out _ _)))
              refine wpQuiet_nil ?_
              intro _ hw'
              obtain ⟨⟨nq, osq⟩, hw''⟩ := hw'
              subst hw''
              go_wp2
              go_roundg (gk - 1)
              case measure => omega
              case rel => 
                refine ⟨1, by omega, by go_num, HB.out.trans ((grw_at _ _ _).below.mono (by omega)), ?_, ?_⟩
                · exact ((grw_at _ _ _).below.block _ hsz1).trans HX.out
                · rw [HO.out, HF.out, HNX.out]; rfl
            · obtain ⟨q, hq⟩ := at_lt L j (by omega)
              obtain ⟨bk', o', hA, p0, p1, p2⟩ := HA.out j q hq
              obtain ⟨rfl, rfl⟩ : bk = bk' ∧ o = o' := by simpa using hA
              have hP : Hid (prv L (j + 1) = some q) := Lib.hid (by unfold prv; rw [if_neg (by omega), Nat.add_sub_cancel]; exact hq)
              obtain ⟨q0, q1, q2⟩ := q
              have fp0 := cell_grown (block_lt_of_cell p0) p0; have fp1 := cell_grown (block_lt_of_cell p1) p1; have fp2 := cell_grown (block_lt_of_cell p2) p2
              clear p0 p1 p2 hq hA
              obtain ⟨r, hr⟩ : ∃ r, ahd (q0, q1, q2) (e0, e1, e2) = r := ⟨_, rfl⟩
              have HR := Lib.hid hr; clear hr
              have HC2 := Lib.hid (fun n os => Grw.quiet (rahead_at q0 q1 q2 e0 e1 e2 r (Sort.grow (W.drewN n) os) HR))
              cases r with
              | false =>
                refine wp_region_quiet_grown mixed (by kernel_rfl) ?_
                repeat (go_big_quiet_step (first | (go_at_call 35; exact HC1.out _ _) | (go_at_call 36; exact HC2.out _ _)))
                refine wpQuiet_nil ?_
                intro _ hw'
                obtain ⟨⟨nq, osq⟩, hw''⟩ := hw'
                subst hw''
                go_wp2
                go_ret
                refine ⟨?_, HB.out.trans ((grw_at _ _ _).below.mono (by omega))⟩
                exact ret_int (by rw [← HRR.out, HO.out, HF.out, hP.out, show ahdO (some (q0, q1, q2)) (e0, e1, e2) = false from HR.out]; rfl)
              | true =>
                refine wp_region_quiet_grown mixed (by kernel_rfl) ?_
                repeat (go_big_quiet_step (first | (go_at_call 35; exact HC1.out _ _) | (go_at_call 36; exact HC2.out _ _)))
                refine wpQuiet_nil ?_
                intro _ hw'
                obtain ⟨⟨nq, osq⟩, hw''⟩ := hw'
                subst hw''
                go_wp2
                go_roundg (gk - 1)
                case measure => omega
                case rel =>
                  refine ⟨j + 2, by omega, by go_num, HB.out.trans ((grw_at _ _ _).below.mono (by omega)), ?_, ?_⟩
                  · exact ((grw_at _ _ _).below.block _ hsz1).trans HX.out
                  · rw [HO.out, HF.out, HNX.out, hP.out, show ahdO (some (q0, q1, q2)) (e0, e1, e2) = true from HR.out]; rfl
        · have hkn : k = L.length := by omega
          have HB := Lib.hid hb
          have HO : Hid (okL V none L = true) := Lib.hid (by rw [hok, hkn, List.drop_length]; rfl)
          obtain ⟨x0, x1, hsz⟩ := Bx.cells hbx
          clear hok hbx hb
          by_cases h1 : V < 1
          · go_wp2
            go_ret
            refine ⟨?_, HB.out⟩
            exact ret_int (by rw [← HRR.out, HO.out, if_pos rfl, if_pos h1])
          · go_wp2
            go_ret
            refine ⟨?_, HB.out⟩
            exact ret_int (by rw [← HRR.out, HO.out, if_pos rfl, if_neg (by omega)])

end Go.Proofs.YtmcmpjcijbeilaaGreatDoor.Gr
