/-
  What is proved here: the walk of WordsWords: it returns true for every text. Condition: the package variables lie as their texts lay them.
-/
import Derived.Test.YtjicbhnmdbnjpaaDoorV4
import Derived.Test.YtjicbhnmdbnjpaaDoorR5
namespace Go.Proofs.YtjicbhnmdbnjpaaDoor
open Go.RowKit Wd

theorem wd_count : ∀ (cs cur : List Ch), (wd cur cs).length ≤ cur.length + cs.length
  | [], cur => by
    rw [wd]; split
    · simp
    · rename_i h; cases cur with
      | nil => exact absurd rfl h
      | cons a t => simp
  | c :: cs, cur => by
    rw [wd]
    have h1 := wd_count cs []
    have h2 := wd_count cs (cur ++ [c])
    simp only [List.length_nil, List.length_append, List.length_cons] at h1 h2
    split
    · split
      · simp only [List.length_cons]; omega
      · rename_i h
        have : 1 ≤ cur.length := by cases cur with
          | nil => exact absurd rfl h
          | cons a t => simp
        simp only [List.length_cons]; omega
    · simp only [List.length_cons]; omega
def tot (M : List (List Ch)) : Nat := (M.map fun x => (flat x).length).sum
theorem wd_tot : ∀ (cs cur : List Ch), tot (wd cur cs) ≤ (flat cur).length + (flat cs).length
  | [], cur => by
    rw [wd]; split
    · simp [tot]
    · simp [tot]
  | c :: cs, cur => by
    rw [wd]
    have h1 := wd_tot cs []
    have h2 := wd_tot cs (cur ++ [c])
    rw [flat_append, List.length_append] at h2
    simp only [flat_nil, List.length_nil] at h1
    have h3 : (flat [c]).length = c.bs.length := by simp [flat]
    rw [flat_cons, List.length_append]
    split
    · split
      · omega
      · show (flat cur).length + tot (wd [] cs) ≤ _
        omega
    · omega
theorem jn_len : ∀ M : List (List Ch), (flat (jn M)).length ≤ tot M + M.length
  | [] => by simp [jn, flat]
  | [x] => by simp [jn, tot]
  | x :: y :: M => by
    have := jn_len (y :: M)
    rw [jn, flat_append, flat_cons, List.length_append, List.length_append]
    have e : tot (x :: y :: M) = (flat x).length + tot (y :: M) := by simp [tot]
    rw [e]
    have h32 : sp.bs.length = 1 := rfl
    simp only [List.length_cons] at this ⊢
    omega
theorem tot_take (M : List (List Ch)) (k : Nat) : tot (M.take k) ≤ tot M := by
  have : tot M = tot (M.take k) + tot (M.drop k) := by
    conv => lhs; rw [← List.take_append_drop k M]
    unfold tot; rw [List.map_append, List.sum_append]
  omega
theorem tot_mem (M : List (List Ch)) (k : Nat) (x : List Ch) (h : M[k]? = some x) : (flat x).length ≤ tot M := by
  have := tot_take M (k + 1)
  rw [take_more M k x h] at this
  simp only [tot, List.map_append, List.sum_append, List.map_cons, List.map_nil, List.sum_cons, List.sum_nil] at this
  simp only [tot]; omega

/- What Words makes of a line: its words, and that they are words again. -/
structure Wds (l : List UInt8) (M : List (List Ch)) : Prop where
  ne : ∀ x ∈ M, flat x ≠ []
  rg : Rg (flat (jn M)) (jn M)
  back : wordsOf (jn M) = (M.map flat, 0)
  tots : tot M + M.length ≤ 2 * l.length
theorem wds_of (l : List UInt8) (cs : List Ch) (h : Rg l cs) : ∃ (M : List (List Ch)) (E : Int), wordsOf cs = (M.map flat, E) ∧ Wds l M := by
  cases hok : (tw cs).all okC with
  | false =>
    refine ⟨[], 30, by unfold wordsOf; rw [hok]; rfl, by simp, rfl, by decide, by simp [tot]⟩
  | true =>
    obtain ⟨h1, h2⟩ := words_back cs l h hok
    refine ⟨wd [] (tw cs), 0, by unfold wordsOf; rw [hok]; rfl, ?_, h1, h2, ?_⟩
    · intro x hx
      obtain ⟨g1, g2⟩ := wd_mem (tw cs) [] (by simp) x hx
      refine flat_ne (fun c hc => ?_) g1
      rcases (g2 c hc).2 with g | g
      · simp at g
      · exact rg_ne cs l h c (tw_mem cs c g).1
    · have a := wd_tot (tw cs) []
      have b := wd_count (tw cs) []
      have c1 := flat_tw_len cs
      have d := rg_len _ _ (rg_tw cs l h).1
      rw [← rg_flat cs l h] at c1
      simp only [flat_nil, List.length_nil] at a b
      omega

theorem words_hid (s : ByteArray) (l : List UInt8) (cs : List Ch) (L : List (List UInt8)) (E : Int) (w : World) (hs : s = sb l) (h : Hid (Rg l cs)) (hl : l.length ≤ 100000) (hL : Hid (wordsOf cs = (L, E))) :
    Calls Tryd.prog 13 #[.string s] w fun e w' => ∃ v, e = .returned (.tuple #[v, .int .i64 E]) ∧ Hid (Own w' w.heap.size v L) ∧ Hid (Below w.heap.size w w') := by
  subst hs
  refine (words_any l cs w h.out hl).mono fun e w' ⟨v, h1, h2, h3⟩ => ?_
  rw [hL.out] at h1 h2
  exact ⟨v, h1, Lib.hid h2, Lib.hid h3⟩
theorem rwords_hid (s : ByteArray) (l : List UInt8) (cs : List Ch) (L : List (List UInt8)) (E : Int) (w : World) (hs : s = sb l) (h : Hid (Rg l cs)) (hl : l.length ≤ 100000) (hL : Hid (wordsOf cs = (L, E))) :
    Calls Tryd.prog 14 #[.string s] w fun e w' => ∃ v, e = .returned (.tuple #[v, .int .i64 E]) ∧ Hid (Own w' w.heap.size v L) ∧ Hid (Below w.heap.size w w') := by
  subst hs
  refine (rwords_any l cs w h.out hl).mono fun e w' ⟨v, h1, h2, h3⟩ => ?_
  rw [hL.out] at h1 h2
  exact ⟨v, h1, Lib.hid h2, Lib.hid h3⟩

def W1Rel (w1 : World) (n : Nat) (M : List (List Ch)) (g : Nat) (t i : Value) (wr : World) : Prop :=
  ∃ k : Nat, k + g = n ∧ i = .int .i64 (k : Int) ∧ t = .string (sb (flat (jn (M.take k)))) ∧ wr = w1

set_option maxRecDepth 100000 in
set_option maxHeartbeats 4000000 in
theorem words_law (s : ByteArray) (w : World) (hL : Laid w) (_hs : s.size ≤ 9223372036854775807) : Calls Tryd.prog 4 #[.string s] w fun e w' => e = .returned (.bool true) ∧ Below w.heap.size w w' := by
  have HL := Lib.hid hL; clear hL
  by_cases hbig : 2000 < s.size
  · go_enter Tryd.func4, Tryd.ntmps4
    go_wp2_with fail
    all_goals (try (exfalso; omega))
    refine (works_any _ HL.out).mono ?_
    rintro e w1 ⟨rfl, hb⟩
    have HB := Lib.hid hb; clear hb
    go_wp2
    go_ret
    exact ⟨rfl, HB.out⟩
  · obtain ⟨l, rfl⟩ : ∃ l, s = sb l := ⟨_, sb_list s⟩
    rw [sb_size] at hbig
    have hsz := sb_size l
    obtain ⟨cs, hr⟩ := rg_ex l
    obtain ⟨M, E, hw, hM⟩ := wds_of l cs hr
    have HG := Lib.hid hr; clear hr
    obtain ⟨T, hT, hT2⟩ : ∃ T, tot M + M.length ≤ T ∧ T ≤ 4000 := ⟨2 * l.length, hM.tots, by omega⟩
    have HMM := Lib.hid hM; clear hM
    obtain ⟨L, hLM⟩ : ∃ L, L = M.map flat := ⟨_, rfl⟩
    rw [← hLM] at hw
    have HW := Lib.hid hw; clear hw
    obtain ⟨n, hn⟩ : ∃ n, n = L.length := ⟨_, rfl⟩
    have hnM : n ≤ M.length := by rw [hn, hLM]; simp
    have HLM := Lib.hid hLM; clear hLM
    have hll : L.length ≤ 1000000 := by rw [← hn]; omega
    have HLL := Lib.hid hll; clear hll
    go_enter Tryd.func4, Tryd.ntmps4
    go_wp2_with fail
    all_goals (try (exfalso; omega))
    refine (words_hid _ l cs L E _ rfl HG (by omega) HW).mono ?_
    rintro e w1 ⟨v, rfl, HO, HB1⟩
    go_wp2_with fail
    refine (rwords_hid _ l cs L E _ rfl HG (by omega) HW).mono ?_
    rintro e w2 ⟨v2, rfl, HO2, HB⟩
    have HTX := Lib.hid (HO.out.txt.below HB.out)
    have HV2 := Lib.hid HO2.out.txt
    have HB2 := Lib.hid (below_trans HB1.out HB.out); clear HB HB1 HO HO2
    go_wp2_with fail
    refine (same_yes _ _ L L _ HTX HV2 (Lib.hid rfl) HLL.out).mono ?_
    rintro e w3 ⟨rfl, hb⟩
    have HTX := Lib.hid (HTX.out.below hb)
    have HB3 := Lib.hid (below_trans HB2.out hb); clear hb HV2 HB2
    obtain ⟨A, c, rfl, hat⟩ := HTX.out
    rw [← hn]
    have HAT := Lib.hid hat; clear hat HTX
    have HTX := Lib.hid (show Txt w3 (.slice A n c) L from ⟨A, c, by rw [hn], HAT.out⟩)
    have HN := Lib.hid hn; clear hn
    go_wp2
    go_loopg [7, 8] n (fun g t i wr => W1Rel w3 n M g t i wr)
    case atStart => exact ⟨0, by omega, rfl, rfl, rfl⟩
    case round =>
      obtain ⟨k, hk, rfl, rfl, rfl⟩ := hrel
      by_cases hkn : k < n
      · obtain ⟨x, hx⟩ : ∃ x, M[k]? = some x := ⟨_, List.getElem?_eq_getElem (by omega)⟩
        have hLx : L[k]? = some (flat x) := by rw [HLM.out, List.getElem?_map, hx]; rfl
        obtain ⟨ad, rfl, hc⟩ := HAT.out k (flat x) hLx
        have hz1 : (sb (flat (jn (M.take k)))).size ≤ 4000 := by
          rw [sb_size]; have h1 := jn_len (M.take k); have h2 := tot_take M k; have h3 := List.length_take_le k M
          have h4 : (M.take k).length ≤ M.length := by rw [List.length_take]; omega
          omega
        have hz2 : (sb (flat x)).size ≤ 4000 := by rw [sb_size]; have := tot_mem M k x hx; omega
        have t1 : (sb (flat x)).toList ≠ [] := by rw [sb_toList]; exact HMM.out.ne x (List.mem_of_getElem? hx)
        have t2 : (sb (flat x)).toList.isEmpty = false := by simpa using t1
        have HX := Lib.hid hx; clear hx hLx
        by_cases hk0 : k = 0
        · have hk1 : k ≤ 0 := by omega
          have HK0 := Lib.hid hk0; clear hk0
          go_wp2
          all_goals (try (exfalso; omega))
          go_roundg (gk - 1)
          case measure => omega
          case rel =>
            refine ⟨k + 1, by omega, by go_num, ?_, rfl⟩
            rw [take_more M k x HX.out, sb_append, HK0.out]; rfl
        · have hk1 : 1 ≤ k := by omega
          have HJ := Lib.hid (show flat (jn (M.take (k + 1))) = flat (jn (M.take k)) ++ [32] ++ flat x by
            rw [take_more M k x HX.out, jn_snoc, if_neg (fun e => by
              have := congrArg List.length e
              rw [List.length_take] at this
              simp only [List.length_nil] at this
              omega), flat_append, flat_cons, List.append_assoc]; rfl)
          clear hk0
          go_wp2
          all_goals (try (exfalso; omega))
          go_roundg (gk - 1)
          case measure => omega
          case rel =>
            refine ⟨k + 1, by omega, by go_num, ?_, rfl⟩
            rw [HJ.out, ← sb_append, ← sb_append]; rfl
      · obtain rfl : k = n := by omega
        have HT := Lib.hid (show M.take k = M by rw [List.take_of_length_le]; rw [HN.out, HLM.out]; simp)
        rw [HT.out]
        have hjl : (flat (jn M)).length ≤ 100000 := by have := jn_len M; omega
        have HJL := Lib.hid hjl; clear hjl
        have HRG := Lib.hid HMM.out.rg
        have HBK : Hid (wordsOf (jn M) = (L, 0)) := Lib.hid (by rw [HLM.out]; exact HMM.out.back)
        obtain ⟨q, hq⟩ : ∃ q, q = flat (jn M) := ⟨_, rfl⟩
        rw [← hq] at HRG HJL
        rw [← hq]
        obtain ⟨js, hjs⟩ : ∃ js, js = jn M := ⟨_, rfl⟩
        rw [← hjs] at HRG HBK
        clear hq hjs
        go_wp2_with fail
        all_goals (try (exfalso; omega))
        refine (words_hid _ q js L 0 _ rfl HRG HJL.out HBK).mono ?_
        rintro e w5 ⟨v5, rfl, HO5, HB⟩
        have HTX5 := Lib.hid (HTX.out.below HB.out)
        have HV5 := Lib.hid HO5.out.txt; clear HO5
        have HB5 := Lib.hid (below_trans HB3.out HB.out); clear HB
        go_wp2_with fail
        refine (same_yes _ _ L L _ HTX5 HV5 (Lib.hid rfl) HLL.out).mono ?_
        rintro e w6 ⟨rfl, hb⟩
        have HB6 := Lib.hid (below_trans HB5.out hb); clear hb
        go_wp2_with fail
        refine (works_any _ (HL.out.bel HB6.out)).mono ?_
        rintro e w7 ⟨rfl, hb⟩
        have HB7 := Lib.hid (below_trans HB6.out hb); clear hb
        go_wp2
        go_ret
        exact ⟨rfl, HB7.out⟩

end Go.Proofs.YtjicbhnmdbnjpaaDoor
