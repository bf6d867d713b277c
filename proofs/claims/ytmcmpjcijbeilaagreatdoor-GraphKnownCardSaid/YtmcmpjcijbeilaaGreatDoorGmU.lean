/-
  What is proved here: the texts GrText GrBck1 GrBck2 of this seat, laid together (each says itself what it proves; no condition beyond theirs).
-/
import Derived.Test.YtmcmpjcijbeilaaGreatDoorGmF
import Derived.Test.YtmcmpjcijbeilaaGreatDoorGmG
import Derived.Test.YtmcmpjcijbeilaaGreatDoorGmQ
import Derived.Test.YtmcmpjcijbeilaaGreatDoorGmT
/-
  What is proved here: plain facts: the lines of a printed graph say that graph. No condition.
-/
namespace Go.Proofs.YtmcmpjcijbeilaaGreatDoor.Gr
open Wd Ws

/- A character that may stand in a word, and is neither a line's end nor what may stand ahead of one. -/
def nice (c : Ch) : Bool := !Wd.blank c && okC c && c.r != 35 && !c.bs.contains 10 && !c.bs.contains 13
theorem nice_digit : ∀ d : Fin 10, nice (dch 0 d) = true := by decide +kernel
theorem nice_word : ∀ w ∈ [vertB, edgeB], ∀ c ∈ asc w, nice c = true := by decide +kernel
theorem good_word : ∀ w ∈ [vertB, edgeB], ∀ c ∈ asc w, dec (c.bs ++ []) = (c.r, c.bs.length) ∧ c.bs ≠ [] ∧ ¬ c.broken := by decide +kernel
theorem flat_asc (w : List UInt8) : flat (asc w) = w := by
  unfold flat asc
  induction w with
  | nil => rfl
  | cons b w ih => rw [List.map_cons, List.flatMap_cons, ih]; rfl
/- The words of a printed line, in characters. -/
def lineM (w : List UInt8) (ns : List Nat) : List (List Ch) := asc w :: ns.map fun n => chs 0 (dg n)
theorem jn_cons (x : List Ch) : ∀ ys : List (List Ch), jn (x :: ys) = x ++ ys.flatMap fun y => sp :: y
  | [] => by simp [jn]
  | y :: ys => by
    rw [jn, jn_cons y ys]; simp
theorem line_flat (w : List UInt8) (ns : List Nat) : flat (jn (lineM w ns)) = lineN w ns := by
  unfold lineM lineN
  rw [jn_cons, flat_append, flat_asc]
  congr 1
  unfold blnk
  induction ns with
  | nil => rfl
  | cons n ns ih =>
    simp only [List.map_cons, List.flatMap_cons]
    rw [flat_append, flat_cons, ih]
    rfl
theorem line_chars {w : List UInt8} (hw : w ∈ [vertB, edgeB]) (ns : List Nat) : ∀ x ∈ lineM w ns, x ≠ [] ∧ ∀ c ∈ x, nice c = true ∧ c.good := by
  intro x hx
  rcases List.mem_cons.1 hx with rfl | hx
  · refine ⟨?_, fun c hc => ⟨nice_word w hw c hc, ?_⟩⟩
    · simp only [List.mem_cons, List.not_mem_nil, or_false] at hw
      rcases hw with rfl | rfl <;> decide
    · obtain ⟨h1, h2, h3⟩ := good_word w hw c hc
      exact good_of c [] h1 h2 h3
  · obtain ⟨n, _, rfl⟩ := List.mem_map.1 hx
    refine ⟨?_, fun c hc => ?_⟩
    · intro h
      have := congrArg List.length h
      simp only [chs, List.length_map, List.length_nil] at this
      exact dg_ne n (List.eq_nil_of_length_eq_zero this)
    · obtain ⟨d, hd, rfl⟩ := List.mem_map.1 hc
      exact ⟨nice_digit ⟨d, dg_lt n d hd⟩, dch_good 0 d (by omega) (dg_lt n d hd)⟩
theorem nice_parts {c : Ch} (h : nice c = true) : Wd.blank c = false ∧ okC c = true ∧ c.r ≠ 35 ∧ (∀ b ∈ c.bs, b ≠ 10 ∧ b ≠ 13) := by
  unfold nice at h
  simp only [Bool.and_eq_true, Bool.not_eq_true', bne_iff_ne, List.contains_eq_mem, decide_eq_false_iff_not] at h
  obtain ⟨⟨⟨⟨h1, h2⟩, h3⟩, h4⟩, h5⟩ := h
  exact ⟨h1, h2, h3, fun b hb => ⟨fun e => h4 (by rw [← e]; exact hb), fun e => h5 (by rw [← e]; exact hb)⟩⟩
theorem line_jn {w : List UInt8} (hw : w ∈ [vertB, edgeB]) (ns : List Nat) : ∀ c ∈ jn (lineM w ns), c.r ≠ 35 ∧ okC c = true ∧ c.good ∧ ∀ b ∈ c.bs, b ≠ 10 ∧ b ≠ 13 := by
  intro c hc
  rcases jn_mem _ c hc with rfl | ⟨x, hx, hcx⟩
  · exact ⟨by decide, by decide, sp_good, by decide⟩
  · obtain ⟨h1, h2⟩ := (line_chars hw ns x hx).2 c hcx
    obtain ⟨_, h4, h5, h6⟩ := nice_parts h1
    exact ⟨h5, h4, h2, h6⟩
theorem line_words {w : List UInt8} (hw : w ∈ [vertB, edgeB]) (ns : List Nat) : wordsB (lineN w ns) = (w :: ns.map (pr 0), 0) := by
  have hj := line_jn hw ns
  have hr : Rg (lineN w ns) (jn (lineM w ns)) := by
    rw [← line_flat]; exact rg_good _ fun c hc => (hj c hc).2.2.1
  unfold wordsB
  rw [chOf_eq hr]
  unfold wordsOf
  rw [tw_all _ fun c hc => (hj c hc).1, if_pos (List.all_eq_true.2 fun c hc => (hj c hc).2.1), wd_jn (lineM w ns) fun x hx => ⟨(line_chars hw ns x hx).1, fun c hc => (nice_parts ((line_chars hw ns x hx).2 c hc).1).1⟩]
  unfold lineM
  rw [List.map_cons, flat_asc, List.map_map]
  rfl
theorem line_bytes {w : List UInt8} (hw : w ∈ [vertB, edgeB]) (ns : List Nat) : ∀ b ∈ lineN w ns, b ≠ 10 ∧ b ≠ 13 := by
  intro b hb
  rw [← line_flat] at hb
  unfold flat at hb
  obtain ⟨c, hc, hbc⟩ := List.mem_flatMap.1 hb
  exact (line_jn hw ns c hc).2.2.2 b hbc
theorem trim_clean (l : List UInt8) (h : ∀ b ∈ l, b ≠ 13) : trim l = l := by
  rcases snoc_cases l with rfl | ⟨t, b, rfl⟩
  · exact trim_nil
  · exact trim_other t b (h b (by simp))
theorem nums_pr : ∀ ns : List Nat, (∀ n ∈ ns, n ≤ 4611686018427387904) → numsOf (ns.map (pr 0)) = some ns
  | [], _ => rfl
  | n :: ns, h => by
    have e : numB (pr 0 n) = (n, 0) := by
      unfold numB
      rw [chOf_eq (rg_pr 0 n (by omega)), numOf_pr 0 n (by omega), if_neg (by have := h n List.mem_cons_self; omega)]
    rw [List.map_cons, numsOf, e, if_pos rfl, nums_pr ns fun m hm => h m (List.mem_cons_of_mem _ hm)]
theorem step_v (V : Nat) (h1 : 1 ≤ V) (h2 : V ≤ 512) : step 0 [] (lineN vertB [V]) = some ((V : Int), []) := by
  rw [show step 0 [] (lineN vertB [V]) = (if (wordsB (lineN vertB [V])).2 = 0 then stepW 0 [] (wordsB (lineN vertB [V])).1 else none) from rfl, line_words (by simp) [V], if_pos rfl]
  rw [stepW_cons, nums_pr [V] (fun n hn => by simp at hn; omega)]
  show stepN 0 [] vertB [V] = _
  rw [stepN_vert [] [V] (some (V : Int)) (by show (if 1 ≤ V ∧ V ≤ 512 then some (V : Int) else none) = _; rw [if_pos ⟨h1, h2⟩])]
  rfl
theorem step_e1 {V : Int} {L : List Ed} {e : Ed} (hV : V ≠ 0) (hvs : V ≤ 512) (hf : fitE V e = true) (ha : addP L e = some (L ++ [e])) : step V L (lineN edgeB [e.1.toNat, e.2.1.toNat, e.2.2.toNat]) = some (V, L ++ [e]) := by
  have hf' := (fitE_iff V e).1 hf
  have h0 : ((e.1.toNat : Nat) : Int) = e.1 := Int.toNat_of_nonneg hf'.1
  have h1 : ((e.2.1.toNat : Nat) : Int) = e.2.1 := Int.toNat_of_nonneg hf'.2.2.1
  have h2 : ((e.2.2.toNat : Nat) : Int) = e.2.2 := Int.toNat_of_nonneg hf'.2.2.2.2.1
  rw [show step V L (lineN edgeB [e.1.toNat, e.2.1.toNat, e.2.2.toNat]) = (if (wordsB (lineN edgeB [e.1.toNat, e.2.1.toNat, e.2.2.toNat])).2 = 0 then stepW V L (wordsB (lineN edgeB [e.1.toNat, e.2.1.toNat, e.2.2.toNat])).1 else none) from rfl, line_words (by simp), if_pos rfl]
  rw [stepW_cons, nums_pr _ (fun n hn => by
    simp only [List.mem_cons, List.not_mem_nil, or_false] at hn
    have := hvs
    rcases hn with rfl | rfl | rfl <;> omega)]
  show stepN V L edgeB [e.1.toNat, e.2.1.toNat, e.2.2.toNat] = _
  rw [stepN_edge V hV L _ (some (L ++ [e])) (by
    show (match (if fitE V (((e.1.toNat : Nat) : Int), ((e.2.1.toNat : Nat) : Int), ((e.2.2.toNat : Nat) : Int)) then some (((e.1.toNat : Nat) : Int), ((e.2.1.toNat : Nat) : Int), ((e.2.2.toNat : Nat) : Int)) else none) with | none => none | some e => addP L e) = _
    rw [h0, h1, h2, if_pos hf]
    exact ha)]
  rfl
theorem add_ok {L : List Ed} {e : Ed} (ha : Apart (L ++ [e])) (hl : L.length < 8192) : addP L e = some (L ++ [e]) := by
  unfold addP
  rw [if_neg]
  rintro (h | h)
  · obtain ⟨x, hx, hs⟩ := List.any_eq_true.1 h
    have := (List.pairwise_append.1 ha).2.2 x hx e (by simp)
    rw [same_not] at this; rw [same_iff] at hs; omega
  · omega
def edL (e : Ed) : List UInt8 := lineN edgeB [e.1.toNat, e.2.1.toNat, e.2.2.toNat]
theorem through_eds {V : Int} (hV : V ≠ 0) (hV2 : V ≤ 512) : ∀ (M L : List Ed) (k : Nat), Apart (L ++ M) → (L ++ M).length ≤ 8192 → (∀ e ∈ M, fitE V e = true) → through V L k (M.map edL) = (0, some (V, L ++ M))
  | [], L, k, _, _, _ => by
    rw [List.map_nil, through, if_neg hV, List.append_nil]
  | e :: M, L, k, ha, hl, hf => by
    have e1 : L ++ e :: M = (L ++ [e]) ++ M := by simp
    rw [e1] at ha hl
    have hl' : L.length < 8192 := by simp only [List.length_append, List.length_cons, List.length_nil] at hl; omega
    have hs := step_e1 hV hV2 (hf e List.mem_cons_self) (add_ok (List.pairwise_append.1 ha).1 hl')
    rw [List.map_cons, through_cons, show step V L (edL e) = some (V, L ++ [e]) from hs]
    show through V (L ++ [e]) (k + 1) (M.map edL) = _
    rw [through_eds hV hV2 M (L ++ [e]) (k + 1) ha hl fun x hx => hf x (List.mem_cons_of_mem _ hx), e1]
theorem text_lines (V : Int) (L : List Ed) : textP V L = lns (lineN vertB [V.toNat] :: L.map edL) := by
  unfold textP lns
  rw [List.flatMap_cons]
  congr 1
  rw [List.flatMap_map]
  rfl
theorem through_text {V : Int} {L : List Ed} (hc : chk V L = 0) : through 0 [] 0 (ln [] (textP V L)) = (0, some (V, L)) := by
  obtain ⟨h1, h2, h3, h4, h5⟩ := (chk_zero V L).1 hc
  rw [text_lines, ln_back]
  · have hv : ((V.toNat : Nat) : Int) = V := Int.toNat_of_nonneg (by omega)
    rw [through_cons, step_v V.toNat (by omega) (by omega)]
    show through ((V.toNat : Nat) : Int) [] 1 (L.map edL) = _
    rw [hv, through_eds (by omega) h2 L [] 1 (rise_apart h5) h3 h4]
    rfl
  · intro x hx b hb
    rcases List.mem_cons.1 hx with rfl | hx
    · exact (line_bytes (by simp) _ b hb).1
    · obtain ⟨e, _, rfl⟩ := List.mem_map.1 hx
      exact (line_bytes (by simp) _ b hb).1
  · intro x hx
    rcases List.mem_cons.1 hx with rfl | hx
    · exact trim_clean _ fun b hb => (line_bytes (by simp) _ b hb).2
    · obtain ⟨e, _, rfl⟩ := List.mem_map.1 hx
      exact trim_clean _ fun b hb => (line_bytes (by simp) _ b hb).2
theorem edgeT_len2 (e : Ed) {V : Int} (hV : V ≤ 512) (hf : fitE V e = true) : (edgeT e).length ≤ 200 := by
  obtain ⟨a, b, c, rfl, h1, h2, h3⟩ := fit_nat hf
  have p1 := pr_len' a (by omega)
  have p2 := pr_len' b (by omega)
  have p3 := pr_len' c (by omega)
  unfold edgeT lineN blnk edgeB
  simp only [List.length_append, List.flatMap_cons, List.flatMap_nil, List.length_cons, List.length_nil, Int.toNat_natCast]
  omega
theorem text_len {V : Int} {L : List Ed} (hc : chk V L = 0) : (textP V L).length ≤ 100 + L.length * 200 := by
  obtain ⟨h1, h2, h3, h4, h5⟩ := (chk_zero V L).1 hc
  unfold textP
  have p1 := pr_len' V.toNat (by omega)
  have key : ∀ M : List Ed, (∀ e ∈ M, fitE V e = true) → (M.flatMap edgeT).length ≤ M.length * 200 := by
    intro M
    induction M with
    | nil => intro _; simp
    | cons e M ih =>
      intro h
      have a1 := edgeT_len2 e h2 (h e List.mem_cons_self)
      have a2 := ih fun x hx => h x (List.mem_cons_of_mem _ hx)
      rw [List.flatMap_cons, List.length_append, List.length_cons]; omega
  have := key L h4
  unfold lineN blnk vertB
  simp only [List.length_append, List.flatMap_cons, List.flatMap_nil, List.length_cons, List.length_nil]
  omega

end Go.Proofs.YtmcmpjcijbeilaaGreatDoor.Gr

/-
  What is proved here: plain facts: how many edges a text's lines say at most, how long a printed graph is, what may be printed and parsed again. No condition.
-/
namespace Go.Proofs.YtmcmpjcijbeilaaGreatDoor.Gr
open Wd Ws

theorem addP_len {L M : List Ed} {e : Ed} (h : addP L e = some M) : M.length = L.length + 1 := by
  obtain ⟨rfl, _⟩ := addP_some h
  simp
theorem stepN_len {V : Int} {L : List Ed} {w : List UInt8} {ns : List Nat} {s : Int × List Ed} (h : stepN V L w ns = some s) : s.2.length ≤ L.length + 2 := by
  unfold stepN at h
  split at h
  · split at h
    · split at h
      · cases h
      · cases h; simp
    · cases h
  · split at h
    · split at h
      · cases h
      · split at h
        · cases h
        · rename_i M hM
          cases h
          have := addP_len hM; simp only; omega
    · split at h
      · split at h
        · cases h
        · split at h
          · cases h
          · rename_i M hM
            cases h
            unfold bothP at hM
            split at hM
            · cases hM
            · rename_i N hN
              have h1 := addP_len hN
              split at hM
              · cases hM; simp only; omega
              · have h2 := addP_len hM; simp only; omega
      · cases h
theorem step_len {V : Int} {L : List Ed} {l : List UInt8} {s : Int × List Ed} (h : step V L l = some s) : s.2.length ≤ L.length + 2 := by
  unfold step at h
  split at h
  · unfold stepW at h
    split at h
    · cases h; simp
    · split at h
      · cases h
      · exact stepN_len h
  · cases h
theorem through_len : ∀ (xs : List (List UInt8)) {V : Int} {L : List Ed} {k n : Nat} {s : Int × List Ed}, through V L k xs = (n, some s) → s.2.length ≤ L.length + 2 * xs.length
  | [], V, L, k, n, s, h => by
    rw [through] at h
    split at h
    · cases h
    · cases h; simp
  | x :: xs, V, L, k, n, s, h => by
    rw [through] at h
    split at h
    · cases h
    · rename_i t ht
      have h1 := step_len ht
      have h2 := through_len xs h
      rw [List.length_cons]; omega
theorem lines_count (l : List UInt8) : (ln [] l).length ≤ l.length + 1 := by
  have h1 := lns_len (ln [] l)
  have h2 := ln_total l []
  simp only [List.length_nil] at h2; omega
theorem dch_one : ∀ d : Fin 10, (dch 0 d).bs.length = 1 := by decide +kernel
theorem pr_short (n m : Nat) (h : n < 10 ^ (m + 1)) : (pr 0 n).length ≤ m + 1 := by
  have h1 := dg_len n m h
  have h2 : (pr 0 n).length = (dg n).length := by
    have h3 := dg_lt n
    show (flat (chs 0 (dg n))).length = (dg n).length
    generalize dg n = ds at h3
    clear h1 h
    induction ds with
    | nil => rfl
    | cons d ds ih =>
      have e1 := dch_one ⟨d, h3 d List.mem_cons_self⟩
      show (flat (dch 0 d :: chs 0 ds)).length = _
      rw [flat_cons, List.length_append, ih fun x hx => h3 x (List.mem_cons_of_mem _ hx), List.length_cons]
      simp only at e1
      omega
  omega
theorem edgeT_short (e : Ed) {V : Int} (hV : V ≤ 512) (hf : fitE V e = true) : (edgeT e).length ≤ 25 := by
  obtain ⟨a, b, c, rfl, h1, h2, h3⟩ := fit_nat hf
  have p1 := pr_short a 2 (by omega)
  have p2 := pr_short b 2 (by omega)
  have p3 := pr_short c 9 (by omega)
  unfold edgeT lineN blnk edgeB
  simp only [List.length_append, List.flatMap_cons, List.flatMap_nil, List.length_cons, List.length_nil, Int.toNat_natCast]
  omega
theorem text_short {V : Int} {L : List Ed} (hc : chk V L = 0) : (textP V L).length ≤ 20 + L.length * 25 := by
  obtain ⟨h1, h2, h3, h4, h5⟩ := (chk_zero V L).1 hc
  unfold textP
  have p1 := pr_short V.toNat 2 (by omega)
  have key : ∀ M : List Ed, (∀ e ∈ M, fitE V e = true) → (M.flatMap edgeT).length ≤ M.length * 25 := by
    intro M
    induction M with
    | nil => intro _; simp
    | cons e M ih =>
      intro h
      have a1 := edgeT_short e h2 (h e List.mem_cons_self)
      have a2 := ih fun x hx => h x (List.mem_cons_of_mem _ hx)
      rw [List.flatMap_cons, List.length_append, List.length_cons]; omega
  have := key L h4
  unfold lineN blnk vertB
  simp only [List.length_append, List.flatMap_cons, List.flatMap_nil, List.length_cons, List.length_nil]
  omega
theorem print_text {V : Int} {L : List Ed} (hc : chk V L = 0) : printB V L = textP V L := by unfold printB; rw [if_pos hc]
/- What is printed is parsed as it was. -/
theorem print_good {V : Int} {L : List Ed} (hc : chk V L = 0) {V' E : Int} {L' : List Ed} {n : Nat} (h : GoodP (0, some (V, L)) V' L' n E) : V' = V ∧ L' = L ∧ n = 0 ∧ E = 0 := by
  obtain ⟨rfl, p, r, rfl, rfl⟩ := h
  exact ⟨rfl, rise_one _ _ r ((chk_zero _ L).1 hc).2.2.2.2 p, rfl, rfl⟩
/- What is parsed may be. -/
theorem good_chk {l : List UInt8} {T : Nat × Option (Int × List Ed)} (hT : through 0 [] 0 (ln [] l) = T) {V : Int} {L : List Ed} {n : Nat} (h : GoodP T V L n 0) : chk V L = 0 ∧ L.length ≤ 2 * (l.length + 1) := by
  obtain ⟨k, o⟩ := T
  cases o with
  | none => obtain ⟨_, _, _, h4⟩ := h; cases h4
  | some s =>
    obtain ⟨U, M⟩ := s
    obtain ⟨rfl, p, r, _, _⟩ := h
    obtain ⟨h1, h2, _⟩ := Sd.through _ Sd.nil hT
    have h3 := through_len _ hT
    have h4 := lines_count l
    refine ⟨(chk_zero _ _).2 ⟨h2, h1.v.2, by rw [p.length_eq]; exact h1.len, fun e he => h1.fit e (p.mem_iff.1 he), r⟩, ?_⟩
    rw [p.length_eq]
    simp only [List.length_nil] at h3
    omega

end Go.Proofs.YtmcmpjcijbeilaaGreatDoor.Gr

/-
  What is proved here: the law on what is printed and parsed again, walked. Conditions: what the program's start has laid down; the graph can be read.
-/
namespace Go.Proofs.YtmcmpjcijbeilaaGreatDoor.Gr
open Go.RowKit Wd Ws

theorem eat_max {w : World} {A : Option Addr} {L : List Ed} (_h : EAt w A L) (h : L.length ≤ 8192) : L.length ≤ 9223372036854775807 := by omega
/- A second graph's box, beside the first. -/
theorem gb_new {w w' W : World} {V U : Int} {A B : Option Addr} {c d : Nat} {L M : List Ed} {b : Nat} (h : Gb w w' b V A c L) (hB : EAt w' B M) (hW : W = w'.alloc (.cells #[.int .i64 U, .slice B M.length d] 24)) :
    Gb w W b V A c L ∧ Gb w W w'.heap.size U B d M := by
  have hb : Below w'.heap.size w' W := by rw [hW]; exact (Below.refl _ w').alloc (Nat.le_refl _) _
  have h1 := h.step hb
  exact ⟨h1, h1.below, by rw [hW]; exact heap_alloc_new w' _, hB.below hb⟩
theorem gb_also {w w' W : World} {V : Int} {A : Option Addr} {c : Nat} {L : List Ed} {b : Nat} {o : Obj} (h : Gb w w' b V A c L) (hW : W = w'.alloc o) : Gb w W b V A c L :=
  h.step (by rw [hW]; exact (Below.refl _ w').alloc (Nat.le_refl _) _)

/- Behind the first half: what is parsed may be, and printed and parsed again is the same. -/
def BackOK (w : World) (l : List UInt8) : Prop := ∀ W, Below w.heap.size w W → Calls Tryz.prog 18 #[.string (sb l)] W fun e w' => (∃ (V : Int) (A : Option Addr) (c : Nat) (L : List Ed) (n : Nat) (E : Int), e = .returned (.tuple #[.agg #[.int .i64 V, .slice A L.length c], .int .i64 (n : Int), .int .i64 E]) ∧ Hid (EAt w' A L) ∧ Hid (E = 0 → chk V L = 0 ∧ L.length ≤ 3002)) ∧ Hid (Below W.heap.size W w')
theorem back_ok (w : World) (l : List UInt8) (hl : l.length ≤ 1500) (hLd : Hid (∀ w', Below w.heap.size w w' → Laid w')) : BackOK w l := fun W h => by
  obtain ⟨T, hT⟩ : ∃ T, through 0 [] 0 (ln [] l) = T := ⟨_, rfl⟩
  refine (parse_hid l W (by omega) (Lib.hid (hLd.out W h)) T (Lib.hid hT)).mono ?_
  rintro e w1 ⟨⟨V, A, c, L, n, E, h1, h2, h3⟩, h4⟩
  refine ⟨⟨V, A, c, L, n, E, h1, h2, Lib.hid fun hE => ?_⟩, h4⟩
  subst hE
  obtain ⟨g1, g2⟩ := good_chk hT h3.out
  exact ⟨g1, by omega⟩
/- A printed graph, parsed. -/
theorem parse_text (V : Int) (L : List Ed) (w : World) (hLd : Hid (Laid w)) (hc : Hid (chk V L = 0)) (hl : L.length ≤ 3500) (s : ByteArray) (hs : Hid (s = sb (printB V L))) :
    Calls Tryz.prog 18 #[.string s] w fun e w' => (∃ A c, e = .returned (.tuple #[.agg #[.int .i64 V, .slice A L.length c], .int .i64 0, .int .i64 0]) ∧ Hid (EAt w' A L)) ∧ Hid (Below w.heap.size w w') := by
  rw [hs.out, print_text hc.out]
  have ht := text_short hc.out
  refine (parse_hid (textP V L) w (by omega) hLd _ (Lib.hid (through_text hc.out))).mono ?_
  rintro e w1 ⟨⟨V', A, c, L', n, E, rfl, h2, h3⟩, h4⟩
  obtain ⟨rfl, rfl, rfl, rfl⟩ := print_good hc.out h3.out
  exact ⟨⟨A, c, rfl, h2⟩, h4⟩
/- Turn of a graph that may be. -/
theorem turn_ok (V : Int) (A : Option Addr) (c : Nat) (L M : List Ed) (w : World) (hL : Hid (EAt w A L)) (hm : L.length ≤ 9223372036854775807) (hc : Hid (chk V L = 0)) (hM : Hid (turnP V L = M)) :
    Calls Tryz.prog 13 #[.agg #[.int .i64 V, .slice A L.length c]] w fun e w' => (∃ A' c', e = .returned (.tuple #[.agg #[.int .i64 V, .slice A' M.length c'], .int .i64 0]) ∧ Hid (EAt w' A' M)) ∧ Hid (Below w.heap.size w w') :=
  turn_hid V V A c L M 0 w hL hm (Lib.hid (by unfold tV; rw [if_pos hc.out])) (Lib.hid (by unfold tL; rw [if_pos hc.out]; exact hM.out)) hc

set_option maxRecDepth 100000 in
set_option maxHeartbeats 4000000 in
theorem law_back (V : Int) (A : Option Addr) (c : Nat) (L : List Ed) (s : ByteArray) (w : World) (hL : Hid (EAt w A L)) (hl : L.length ≤ 9223372036854775807) (hLd : Hid (Laid w)) (_ks : s.size ≤ 9223372036854775807) :
    Calls Tryz.prog 5 #[.agg #[.int .i64 V, .slice A L.length c], .string s] w fun e w' => e = .returned (.bool true) ∧ Below w.heap.size w w' := by
  have mixed := mixedO
  have HC1 := Lib.hid (fun W => light_any V A L.length c 300 W)
  obtain ⟨w1, hw1⟩ : ∃ w1, w1 = w.alloc (.cells #[.int .i64 V, .slice A L.length c] 24) := ⟨_, rfl⟩
  have hz : Below w.heap.size w w1 := by rw [hw1]; exact (Below.refl _ w).alloc (Nat.le_refl _) _
  have x0 : w1.heap[w.heap.size]? = some (.cells #[.int .i64 V, .slice A L.length c] 24 (0, 0)) := by
    rw [hw1]; exact heap_alloc_new w _
  have HG1 : Hid (Gb w w1 w.heap.size V A c L) := Lib.hid ⟨hz, x0, hL.out.below hz⟩
  have HW := Lib.hid hw1
  have HLd : Hid (∀ w', Below w.heap.size w w' → Laid w') := Lib.hid fun w' h => hLd.out.bel h
  clear hw1 hz x0
  obtain ⟨r1, hr1⟩ : ∃ r, decide (L.length ≤ 300) = r := ⟨_, rfl⟩
  rw [hr1] at HC1
  have HR1 := Lib.hid hr1
  clear hr1
  go_enter Tryz.func5, Tryz.ntmps5
  go_wp2_with fail
  rw [← HW.out]
  refine (HC1.out w1).mono ?_
  rintro e w2 ⟨rfl, hg2⟩
  have HA2 := Lib.hid (HG1.out.step hg2.below)
  clear hg2
  cases r1 with
  | false =>
    go_wp2_with fail
    refine (works_any w2 (Lib.hid (HLd.out _ HA2.out.below))).mono ?_
    rintro e w3 ⟨rfl, HB⟩
    have HZ := Lib.hid (HA2.out.step HB.out).below
    clear HB
    go_wp2
    go_ret
    exact ⟨rfl, HZ.out⟩
  | true =>
    have h300 : L.length ≤ 300 := of_decide_eq_true HR1.out
    by_cases hbig : 1500 < s.size
    · go_wp2_with fail
      all_goals (try (exfalso; omega))
      refine (works_any w2 (Lib.hid (HLd.out _ HA2.out.below))).mono ?_
      rintro e w3 ⟨rfl, HB⟩
      have HZ := Lib.hid (HA2.out.step HB.out).below
      clear HB
      go_wp2
      go_ret
      exact ⟨rfl, HZ.out⟩
    · obtain ⟨l, rfl⟩ : ∃ l, s = sb l := ⟨_, sb_list s⟩
      rw [sb_size] at hbig
      have hsz := sb_size l
      obtain ⟨S, hS⟩ : ∃ S, sb (printB V L) = S := ⟨_, rfl⟩
      obtain ⟨E, hE⟩ : ∃ E, chk V L = E := ⟨_, rfl⟩
      have HS := Lib.hid hS; have HE := Lib.hid hE
      obtain ⟨k0, k1, hk⟩ := HA2.out.facts
      have hp := print_any V A c L w2 HA2.out.at_ (HLd.out _ HA2.out.below) hl
      rw [hS, hE] at hp
      have HP := Lib.hid hp; clear hp hS hE
      go_wp2_with fail
      all_goals (try (exfalso; omega))
      refine HP.out.mono ?_
      rintro e w3 ⟨rfl, hb3⟩
      have HA3 := Lib.hid (HA2.out.step hb3)
      clear hb3 k0 k1 hk
      obtain ⟨k0, k1, hk⟩ := HA3.out.facts
      go_upto_if 37 with fail
      go_cut [7, 8, 9, 10, 11, 12, 13] from 38 (fun _ _ _ _ _ _ _ wx => Hid (Below w.heap.size w wx))
      case first =>
        by_cases hE0 : E = 0
        · subst hE0
          obtain ⟨M, hM⟩ : ∃ M, turnP V L = M := ⟨_, rfl⟩
          have HM := Lib.hid hM
          have HM0 : Hid (chk V M = 0) := Lib.hid (by rw [← hM]; exact turnP_chk HE.out)
          have HM2 : Hid (turnP V M = L) := Lib.hid (by rw [← hM]; exact turnP_twice HE.out)
          have hM8 : M.length ≤ 8192 := ((chk_zero V M).1 HM0.out).2.2.1
          clear hM
          go_wp2_with fail
          refine (parse_text V L w3 (Lib.hid (HLd.out _ HA3.out.below)) HE (by omega) S (Lib.hid HS.out.symm)).mono ?_
          rintro e w4 ⟨⟨A4, c4, rfl, HT4⟩, HB4⟩
          obtain ⟨W4, hW4⟩ : ∃ W4, W4 = w4.alloc (.cells #[.int .i64 V, .slice A4 L.length c4] 24) := ⟨_, rfl⟩
          obtain ⟨q1, q2⟩ := gb_new (HA3.out.step HB4.out) HT4.out hW4
          have HA4 := Lib.hid q1; have HG4 := Lib.hid q2; have HW4 := Lib.hid hW4
          clear q1 q2 hW4 k0 k1 hk
          obtain ⟨k0, k1, hk⟩ := HA4.out.facts
          go_upto_region 6 with fail
          rw [← HW4.out]
          go_wp2_with fail
          refine (turn_ok V A c L M W4 (Lib.hid HA4.out.at_) hl HE HM).mono ?_
          rintro e w5 ⟨⟨A5, c5, rfl, HT5⟩, HB5⟩
          obtain ⟨W5, hW5⟩ : ∃ W5, W5 = w5.alloc (.cells #[.int .i64 V, .slice A5 M.length c5] 24) := ⟨_, rfl⟩
          obtain ⟨q1, q2⟩ := gb_new (HA4.out.step HB5.out) HT5.out hW5
          have HG5 := Lib.hid (gb_also (HG4.out.step HB5.out) hW5)
          have HA5 := Lib.hid q1; have HH5 := Lib.hid q2; have HW5 := Lib.hid hW5
          clear q1 q2 hW5 k0 k1 hk
          obtain ⟨k0, k1, hk⟩ := HH5.out.facts
          go_upto_region 7 with fail
          rw [← HW5.out]
          go_wp2_with fail
          refine (turn_ok V A5 c5 M L W5 (Lib.hid HH5.out.at_) (by omega) HM0 HM2).mono ?_
          rintro e w6 ⟨⟨A6, c6, rfl, HT6⟩, HB6⟩
          obtain ⟨W6, hW6⟩ : ∃ W6, W6 = w6.alloc (.cells #[.int .i64 V, .slice A6 L.length c6] 24) := ⟨_, rfl⟩
          obtain ⟨q1, q2⟩ := gb_new (HA5.out.step HB6.out) HT6.out hW6
          have HG6 := Lib.hid (gb_also (HG5.out.step HB6.out) hW6)
          have HA6 := Lib.hid q1; have HH6 := Lib.hid q2; have HW6 := Lib.hid hW6
          clear q1 q2 hW6 k0 k1 hk
          obtain ⟨k0, k1, hk⟩ := HA6.out.facts
          obtain ⟨b0, b1, hb⟩ := HG6.out.facts
          go_upto_region 8 with fail
          rw [← HW6.out]
          go_wp2_with fail
          refine (same_any V V A4 A c4 c L L W6 HG6.out.at_ HA6.out.at_ hl hl).mono ?_
          rintro e w7 ⟨rfl, hb7⟩
          rw [show (decide (V = V) && decide (L = L)) = true by simp]
          have HA7 := Lib.hid (HA6.out.step hb7); have HH7 := Lib.hid (HH6.out.step hb7)
          clear hb7 k0 k1 hk b0 b1 hb
          obtain ⟨k0, k1, hk⟩ := HA7.out.facts
          obtain ⟨b0, b1, hb⟩ := HH7.out.facts
          go_wp2_with fail
          refine (same_any V V A6 A c6 c L L w7 HH7.out.at_ HA7.out.at_ hl hl).mono ?_
          rintro e w8 ⟨rfl, hb8⟩
          rw [show (decide (V = V) && decide (L = L)) = true by simp]
          have HA8 := Lib.hid (HA7.out.step hb8).below
          clear hb8 k0 k1 hk b0 b1 hb
          go_wp2_with fail
          go_meet
          case rel => exact HA8
        · have hE1 : ¬ E = 0 := hE0
          go_wp2_with fail
          go_meet
          case rel => exact Lib.hid HA3.out.below
      case rest =>
        rename World => wq
        have HBq := hcut
        have HBK := Lib.hid (back_ok w l (by omega) (Lib.hid fun w' h => HLd.out w' h))
        clear k0 k1 hk
        go_wp2_with fail
        refine (HBK.out wq HBq.out).mono ?_
        rintro e w4 ⟨⟨V2, A2, c2, L2, n2, E2, rfl, HT4, HOK⟩, HB4⟩
        obtain ⟨W4, hW4⟩ : ∃ W4, W4 = w4.alloc (.cells #[.int .i64 V2, .slice A2 L2.length c2] 24) := ⟨_, rfl⟩
        have hbz := HBq.out.trans (HB4.out.mono HBq.out.size)
        have hb4 : Below w4.heap.size w4 W4 := by rw [hW4]; exact (Below.refl _ w4).alloc (Nat.le_refl _) _
        have HG4 : Hid (Gb w W4 w4.heap.size V2 A2 c2 L2) := Lib.hid ⟨hbz.trans (hb4.mono hbz.size), by rw [hW4]; exact heap_alloc_new w4 _, HT4.out.below hb4⟩
        have HW4 := Lib.hid hW4
        clear hW4 hbz hb4
        go_upto_region 11 with fail
        rw [← HW4.out]
        by_cases hE2 : E2 = 0
        · subst hE2
          obtain ⟨hc2, hl2⟩ := HOK.out rfl
          have HC2 := Lib.hid hc2; clear hc2
          obtain ⟨k0, k1, hk⟩ := HG4.out.facts
          obtain ⟨S2, hS2⟩ : ∃ S, sb (printB V2 L2) = S := ⟨_, rfl⟩
          have hp := print_any V2 A2 c2 L2 W4 HG4.out.at_ (HLd.out _ HG4.out.below) (by omega)
          rw [hS2, HC2.out] at hp
          have HP2 := Lib.hid hp; have HS2 := Lib.hid hS2; clear hp hS2
          go_wp2_with fail
          refine HP2.out.mono ?_
          rintro e w5 ⟨rfl, hb5⟩
          have HG5 := Lib.hid (HG4.out.step hb5)
          clear hb5 k0 k1 hk
          go_wp2_with fail
          refine (parse_text V2 L2 w5 (Lib.hid (HLd.out _ HG5.out.below)) HC2 (by omega) S2 (Lib.hid HS2.out.symm)).mono ?_
          rintro e w6 ⟨⟨A6, c6, rfl, HT6⟩, HB6⟩
          obtain ⟨W6, hW6⟩ : ∃ W6, W6 = w6.alloc (.cells #[.int .i64 V2, .slice A6 L2.length c6] 24) := ⟨_, rfl⟩
          obtain ⟨q1, q2⟩ := gb_new (HG5.out.step HB6.out) HT6.out hW6
          have HG6 := Lib.hid q1; have HH6 := Lib.hid q2; have HW6 := Lib.hid hW6
          clear q1 q2 hW6
          obtain ⟨k0, k1, hk⟩ := HG6.out.facts
          obtain ⟨b0, b1, hb⟩ := HH6.out.facts
          have hck := check_any V2 A2 c2 L2 W6 HG6.out.at_ (by omega)
          rw [HC2.out] at hck
          have HCK := Lib.hid hck; clear hck
          go_upto_region 15 with fail
          rw [← HW6.out]
          go_wp2_with fail
          refine HCK.out.mono ?_
          rintro e w7 ⟨rfl, hb7⟩
          have HG7 := Lib.hid (HG6.out.step hb7); have HH7 := Lib.hid (HH6.out.step hb7)
          clear hb7 k0 k1 hk b0 b1 hb
          obtain ⟨k0, k1, hk⟩ := HG7.out.facts
          obtain ⟨b0, b1, hb⟩ := HH7.out.facts
          go_wp2_with fail
          refine (same_any V2 V2 A2 A6 c2 c6 L2 L2 w7 HG7.out.at_ HH7.out.at_ (by omega) (by omega)).mono ?_
          rintro e w8 ⟨rfl, hb8⟩
          rw [show (decide (V2 = V2) && decide (L2 = L2)) = true by simp]
          have HZ8 := Lib.hid (HG7.out.step hb8).below
          clear hb8 k0 k1 hk b0 b1 hb
          go_wp2_with fail
          refine (works_any w8 (Lib.hid (HLd.out _ HZ8.out))).mono ?_
          rintro e w9 ⟨rfl, HB9⟩
          have HZ9 := Lib.hid (HZ8.out.trans (HB9.out.mono HZ8.out.size))
          go_wp2
          go_ret
          exact ⟨rfl, HZ9.out⟩
        · have hE3 : ¬ E2 = 0 := hE2
          go_wp2_with fail
          refine (works_any W4 (Lib.hid (HLd.out _ HG4.out.below))).mono ?_
          rintro e w5 ⟨rfl, HB5⟩
          have HZ5 := Lib.hid (HG4.out.step HB5.out).below
          go_wp2
          go_ret
          exact ⟨rfl, HZ5.out⟩

end Go.Proofs.YtmcmpjcijbeilaaGreatDoor.Gr
