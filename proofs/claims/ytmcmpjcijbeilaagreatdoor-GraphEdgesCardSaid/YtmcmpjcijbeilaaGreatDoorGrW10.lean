/-
  What is proved here: the contract of graph.numbersOf: the numbers that words are, if each is one. Conditions: each word has at most 300000 bytes; the package variables lie as their texts lay them.
-/
import Derived.Test.YtmcmpjcijbeilaaGreatDoorGrW1
import Derived.Test.YtmcmpjcijbeilaaGreatDoorWdHid
namespace Go.Proofs.YtmcmpjcijbeilaaGreatDoor.Gr
open Go.RowKit Wd Ws

/- Numbers that a call has made, from block B on. -/
def nums (ns : List Nat) : List Value := ns.map fun n : Nat => Value.int .i64 (n : Int)
theorem nums_append (a b : List Nat) : nums (a ++ b) = nums a ++ nums b := by simp [nums]
theorem nums_one (ns : List Nat) : ∀ u ∈ nums ns, u.oneCell' = true := by
  intro u hu
  simp only [nums, List.mem_map] at hu
  obtain ⟨x, _, rfl⟩ := hu
  rfl
def NOwn (w : World) (B : Nat) (v : Value) (ns : List Nat) : Prop := w.ownsRow B 2 1 v ns.length (nums ns)
theorem NOwn.none_ (w : World) (B : Nat) : NOwn w B (.slice none 0 0) [] := World.ownsRow_nil _ _ _ _
theorem NOwn.below {w w' : World} {B : Nat} {v : Value} {L : List Nat} (h : NOwn w B v L) (hb : Below w.heap.size w w') : NOwn w' B v L := own_below h hb
theorem NOwn.form {w : World} {B : Nat} {v : Value} {ns : List Nat} (h : NOwn w B v ns) : ∃ (A : Option Addr) (c : Nat), v = .slice A ns.length c ∧ ∀ (k n : Nat), ns[k]? = some n → ∃ g, A = some ⟨g, 0, none⟩ ∧ B ≤ g ∧ g < w.heap.size ∧ w.cell? ⟨g, k, none⟩ = some (.int .i64 (n : Int)) := by
  obtain ⟨h0, h1 | ⟨g, cap, cur, h1, h2, h3, h4, h5, h6, h7⟩⟩ := h
  · have : ns = [] := List.eq_nil_of_length_eq_zero h1.2
    subst this
    exact ⟨none, 0, h1.1, fun k n h => by simp at h⟩
  · refine ⟨some ⟨g, 0, none⟩, cap, h1, fun k n hx => ⟨g, rfl, h2, lt_of_block h3, ?_⟩⟩
    have hk : k < ns.length := lt_at hx
    rw [cell_of_row w g k _ 2 (0, 0) h3]
    have e1 : cur[k]? = (cur.toList.take (ns.length * 1))[k]? := by
      rw [List.getElem?_take, if_pos (by omega), Array.getElem?_toList]
    rw [e1, h7, nums, List.getElem?_map, hx]; rfl
theorem infoN : (Tryz.prog.info? 2).map (fun i => (i.zero, i.size, i.bytes)) = some (some (.int .i64 0), 1, 8) := by kernel_rfl
theorem app_n {w : World} {ops : Array Oper} {rest : List Oper} {o : Oper} {a : Act} {Q : Exit → Act → World → Prop} (hgd : o.guard = none) (s x : Operand)
    (ho : o.op = .call { callee := .builtin .append, args := #[s, x], argTypes := #[69, 69] }) (B : Nat) (v : Value) (L : List Nat) (y : Nat) (hs : a.eval s = v) (hown : NOwn w B v L)
    (g : Nat) (hx : a.eval x = .slice (some ⟨g, 0, none⟩) 1 1) (hg : w.heap[g]? = some (.cells #[.int .i64 (y : Int)] 2 (0, 0))) (hn : L.length < 1000000000) (hB : B ≤ w.heap.size)
    (h : ∀ v' w', NOwn w' B v' (L ++ [y]) → w.grownBy w' v.ownBlock → wpList Tryz.prog ops Q rest (a.put o.dst v') w') : wpList Tryz.prog ops Q (o :: rest) a w := by
  obtain ⟨i0, hi, hz0, hz1, hz2⟩ := info_parts infoN
  refine wpList_append_own w hgd s x 69 ho B 2 i0 (.int .i64 0) 1 8 Tryz.underlying69 hi hz0 hz1 hz2 rfl (by decide) v L.length (nums L) hs hown ⟨g, 0, none⟩ 1 1 (nums [y]) hx rfl ?_ (nums_one _) ?_ ?_ hB ?_
  · intro j u hu
    rcases j with _ | j
    · simp [nums] at hu
      rw [← hu, add_plain, Lib.cell_of_heap hg]; rfl
    · simp [nums] at hu
  · unfold maxLen; omega
  · omega
  · intro v' w' h1 h2 _
    refine h v' w' ?_ h2
    unfold NOwn
    rw [nums_append, List.length_append]
    exact h1

def NuR (w : World) (ws : List (List UInt8)) (g : Nat) (v i : Value) (wr : World) : Prop :=
  ∃ (k : Nat) (done : List Nat), k + g = ws.length ∧ done.length = k ∧ i = .int .i64 (k : Int) ∧ NOwn wr w.heap.size v done ∧ Below w.heap.size w wr ∧ numsOf ws = (match numsOf (ws.drop k) with | none => none | some l => some (done ++ l))

def NumRes (B : Nat) (w' : World) (e : Ending) : Option (List Nat) → Prop
  | none => e = .returned (.tuple #[.slice none 0 0, .bool false])
  | some ns => ∃ v, e = .returned (.tuple #[v, .bool true]) ∧ Hid (NOwn w' B v ns)

set_option maxRecDepth 100000 in
set_option maxHeartbeats 600000 in
theorem numbersOf_any (A : Option Addr) (c n : Nat) (ws : List (List UInt8)) (w : World) (hn : ws.length = n) (hA : Hid (∀ k x, ws[k]? = some x → ∃ g o, A = some ⟨g, o, none⟩ ∧ w.cell? ⟨g, o + k, none⟩ = some (.string (sb x)))) (hLd : Hid (Laid w)) (hw : Hid (∀ x ∈ ws, x.length ≤ 300000)) (hl : n ≤ 1000000)
    (r : Option (List Nat)) (hr : Hid (numsOf ws = r)) :
    Calls Tryz.prog 55 #[.slice A n c] w fun e w' => NumRes w.heap.size w' e r ∧ Hid (Below w.heap.size w w') := by
  have HN := Lib.hid hn; clear hn
  go_enter Tryz.func55, Tryz.ntmps55
  go_wp2
  go_loopg [4, 11] n (fun g v i wr => NuR w ws g v i wr)
  case atStart => exact ⟨0, [], by rw [HN.out]; omega, rfl, rfl, NOwn.none_ _ _, Below.refl _ w, by rw [List.drop_zero]; cases numsOf ws <;> rfl⟩
  case round =>
    obtain ⟨k, done, hk, hd, rfl, ho, hb, hq⟩ := hrel
    rw [HN.out] at hk
    have hsz := hb.size
    by_cases hlt : k < n
    · obtain ⟨x, hx⟩ := at_lt ws k (by rw [HN.out]; exact hlt)
      obtain ⟨g, o, rfl, hc0⟩ := hA.out k x hx
      have hc := (hb.cell (block_lt_of_cell hc0)).trans hc0
      rw [drop_at hx] at hq
      have hxl := hw.out x (List.mem_of_getElem? hx)
      obtain ⟨m, E, hm⟩ : ∃ m E, numB x = (m, E) := ⟨_, _, rfl⟩
      have HNB : Hid (numOf (chOf x) = (m, E)) := Lib.hid hm
      have HLw := Lib.hid (hLd.out.bel hb)
      have HRG := Lib.hid (chOf_rg x)
      have HM := Lib.hid hm
      have HQ := Lib.hid hq; have HB := Lib.hid hb; have HO := Lib.hid ho
      clear hq hb ho hm hx hc0
      go_wp2_with fail
      refine (number_hid _ x (chOf x) m E _ rfl HLw HRG hxl HNB).mono ?_
      rintro e w1 ⟨rfl, HB1⟩
      have HO1 := Lib.hid (HO.out.below HB1.out)
      have HBB := Lib.hid (step_below HB.out hsz HB1.out)
      have hs1 := HB1.out.size
      by_cases hE : E = 0
      · subst hE
        have hnew := heap_alloc_new w1 (.cells #[.int .i64 (m : Int)] 2)
        have HNW := Lib.hid hnew; clear hnew
        have HO2 : Hid (NOwn (w1.alloc (.cells #[.int .i64 (m : Int)] 2)) w.heap.size _ done) := Lib.hid (World.ownsRow.alloc HO1.out _)
        have HB2 := Lib.hid (HBB.out.alloc (by omega) (.cells #[.int .i64 (m : Int)] 2))
        go_wp2_with (at_builtin; refine app_n rfl (.tmp 22) (.tmp 24) rfl w.heap.size _ done m rfl HO2.out _ rfl HNW.out ?c1 ?c2 ?_)
        case c1 => omega
        case c2 => simp; omega
        intro v' w2 ho2 hg2
        have HB3 := Lib.hid (Below.grown HB2.out hg2 HB2.out.size fun j e => (own_lt HO2.out j e).1)
        have HO3 := Lib.hid ho2; clear ho2 hg2
        go_wp2
        go_roundg (gk - 1)
        case measure => omega
        case rel =>
          refine ⟨k + 1, done ++ [m], by rw [HN.out]; omega, by simp [hd], by go_num, HO3.out, HB3.out, ?_⟩
          rw [HQ.out]
          have e : numsOf (x :: ws.drop (k + 1)) = (match numsOf (ws.drop (k + 1)) with | none => none | some l => some (m :: l)) := by
            rw [numsOf, HM.out, if_pos rfl]; cases numsOf (ws.drop (k + 1)) <;> rfl
          rw [e]
          cases numsOf (ws.drop (k + 1)) with
          | none => rfl
          | some l => simp
      · have hnone : r = none := by
          rw [← hr.out, HQ.out]
          have e : numsOf (x :: ws.drop (k + 1)) = none := by rw [numsOf, HM.out, if_neg hE]
          rw [e]
        subst hnone
        go_wp2
        all_goals (try (exfalso; omega))
        go_ret2
        exact ⟨rfl, Lib.hid HBB.out⟩
    · have hkn : k = n := by omega
      have hsome : r = some done := by
        rw [← hr.out, hq, hkn, ← HN.out, List.drop_length]
        simp [numsOf]
      subst hsome
      have HB := Lib.hid hb; have HO := Lib.hid ho
      clear hq hb ho
      go_wp2
      go_ret2
      exact ⟨⟨_, rfl, HO⟩, HB⟩

end Go.Proofs.YtmcmpjcijbeilaaGreatDoor.Gr
