/-
  What is proved here: a contract of inbox.Fold: to each vertex what all messages to it come to. Conditions: vertices fit an int, fewer than 1000000 messages.
-/
import Derived.Test.YtgkmmjlhphinhaaInKeys
import Derived.Maps.AppendAt
namespace Go.Proofs.Ytgkmmjlhphinhaa.In
open Go.RowKit Go.Maps Gr Wd Ws Fx Rk Lb Al

/- A place is not in a block. -/
def Off (A : Option Addr) (r : Option Nat) : Prop := ∀ a, A = some a → some a.block ≠ r
theorem IAt.grown {w w' : World} {A : Option Addr} {l : List Int} {r : Option Nat} (h : IAt w A l) (hg : w.grownBy w' r) (ho : Off A r) : IAt w' A l := by
  intro k x hx
  obtain ⟨bk, o, hA, c⟩ := h k x hx
  refine ⟨bk, o, hA, ?_⟩
  have := hg.block bk (block_lt_of_cell c) (ho _ hA)
  unfold World.cell? at c ⊢
  simp only at c ⊢
  rw [this]; exact c
theorem MAt.grown {w w' : World} {A : Option Addr} {l : List Ms} {r : Option Nat} (h : MAt w A l) (hg : w.grownBy w' r) (ho : Off A r) : MAt w' A l := by
  intro k x hx
  obtain ⟨bk, o, hA, c, d⟩ := h k x hx
  have := hg.block bk (block_lt_of_cell c) (ho _ hA)
  refine ⟨bk, o, hA, ?_, ?_⟩
  · unfold World.cell? at c ⊢; simp only at c ⊢; rw [this]; exact c
  · unfold World.cell? at d ⊢; simp only at d ⊢; rw [this]; exact d
/- One message more, and where the row lies then. -/
theorem app_m_at {w : World} {ops : Array Oper} {rest : List Oper} {o : Oper} {a : Act} {Q : Exit → Act → World → Prop} (hgd : o.guard = none) (s x : Operand)
    (ho : o.op = .call { callee := .builtin .append, args := #[s, x], argTypes := #[24, 24] }) (B : Nat) (v : Value) (L : List Ms) (e0 e1 : Int) (hs : a.eval s = v) (hown : MOwn w B v L)
    (g : Nat) (hx : a.eval x = .slice (some ⟨g, 0, none⟩) 1 1) (hg : w.heap[g]? = some (.cells #[.int .i64 e0, .int .i64 e1] 29 (0, 0))) (hn : L.length < 1000000000) (hB : B ≤ w.heap.size)
    (h : ∀ v' w', MOwn w' B v' (L ++ [(e0, e1)]) → w.grownBy w' v.ownBlock → (v'.ownBlock = v.ownBlock ∨ v'.ownBlock = some w.heap.size) → wpList Try.prog ops Q rest (a.put o.dst v') w') : wpList Try.prog ops Q (o :: rest) a w := by
  obtain ⟨i0, hi, hz0, hz1, hz2⟩ := info_parts infoM
  refine wpList_append_own_at w hgd s x 24 ho B 29 i0 _ 2 16 Try.underlying24 hi hz0 hz1 hz2 rfl (by decide) v L.length (mcs L) hs hown ⟨g, 0, none⟩ 1 1 (mc (e0, e1)) hx rfl ?_ ?_ ?_ ?_ hB ?_
  · intro j u hu
    rw [add_plain, Lib.cell_of_heap hg]
    rcases j with _ | _ | j
    · simpa [mc] using hu
    · simpa [mc] using hu
    · simp [mc] at hu
  · intro u hu
    simp only [mc, List.mem_cons, List.not_mem_nil, or_false] at hu
    rcases hu with rfl | rfl <;> rfl
  · unfold maxLen; omega
  · omega
  · intro v' w' h1 h2 _ h4
    refine h v' w' ?_ h2 h4
    unfold MOwn
    rw [mcs_append, List.length_append]
    have : mcs [(e0, e1)] = mc (e0, e1) := by simp [mcs]
    rw [this]; exact h1
theorem CM.len {w : World} {M : Nat} {k : Int} {L : List Ms} (h : CM w M k L) : ∃ n : Nat, n ≤ L.length ∧ ∀ ty, (Builtin.len_ #[44] ty #[.map (some M)]).run Try.prog w = .ok (.int .i64 (n : Int)) w := by
  obtain ⟨D, h1, h2⟩ := h
  exact ⟨Maps.size D, h1.size_le, fun ty => h1.len Try.underlying44 ty⟩
theorem CM.grown {w w' : World} {M : Nat} {k : Int} {L : List Ms} {r : Option Nat} (h : CM w M k L) (hg : w.grownBy w' r) (hr : some M ≠ r) : CM w' M k L := h.kept (hg.block M h.lt hr)
theorem some_in {k x : Int} {L : List Ms} (h : (mailM k x L).isSome = true) : ∃ e ∈ L, e.1 = x := Classical.byContradiction fun hn => by
  rw [mailM_off k x fun e he hx => hn ⟨e, he, hx⟩] at h; cases h
theorem one_row {w : World} {g : Nat} {A : Option Addr} {n c : Nat} {L : List Ms} (hg : w.heap[g]? = some (.cells #[.slice A n c] 24 (0, 0))) (hn : L.length = n) (hL : MAt w A L) : RMs w (some ⟨g, 0, none⟩) [L] := by
  intro k M hk
  rcases k with _ | k
  · simp at hk; subst hk
    exact ⟨g, 0, A, c, rfl, by rw [Lib.cell_of_heap hg, hn]; rfl, hL⟩
  · simp at hk
structure FdH (w wr : World) (M : Nat) (k : Int) (L : List Ms) (Ak : Option Addr) (S : List Int) (v : Value) (q : Nat) : Prop where
  below : Below w.heap.size w wr
  map : CM wr M k L
  keys : IAt wr Ak S
  row : MOwn wr w.heap.size v ((S.take q).map fun x => (x, vlM k x L))
  apM : some M ≠ v.ownBlock
  apK : Off Ak v.ownBlock
def FdRel (w : World) (M : Nat) (k : Int) (L : List Ms) (Ak : Option Addr) (S : List Int) (gk : Nat) (v i : Value) (wr : World) : Prop :=
  ∃ q : Nat, q + gk = S.length ∧ i = .int .i64 (q : Int) ∧ Hid (FdH w wr M k L Ak S v q)
theorem off_next {A : Option Addr} {v v' : Value} {n : Nat} (h : Off A v.ownBlock) (hv : v'.ownBlock = v.ownBlock ∨ v'.ownBlock = some n) (hA : ∀ a, A = some a → a.block < n) : Off A v'.ownBlock := by
  intro a ha e
  rcases hv with g | g
  · rw [g] at e; exact h a ha e
  · rw [g] at e
    have := hA a ha
    have := Option.some.inj e
    omega
theorem key_lt {w : World} {A : Option Addr} {l : List Int} (h : IAt w A l) (hl : 0 < l.length) : ∀ a, A = some a → a.block < w.heap.size := by
  intro a ha
  obtain ⟨x, hx⟩ := at_lt l 0 hl
  obtain ⟨bk, o, e, c⟩ := h 0 x hx
  rw [ha] at e
  have := Option.some.inj e
  rw [this]; exact block_lt_of_cell c

set_option maxRecDepth 100000 in
set_option maxHeartbeats 4000000 in
theorem fold_any (k st so dm ep : Int) (A : Option Addr) (n c : Nat) (L : List Ms) (w : World) (hL : MAt w A L) (hln : L.length = n) (hT : ToIn L) (hn : n < 1000000) :
    Calls Try.prog 9 #[.agg #[.int .u8 k, .int .i64 st, .int .i64 so, .int .i64 dm, .int .i64 ep], .slice A n c] w fun e w' => ∃ v, e = .returned v ∧ Hid (MOwn w' w.heap.size v (putM k [] L)) ∧ Hid (Below w.heap.size w w') := by
  have mixed := mixedI
  have HL := Lib.hid hL; have HT := Lib.hid hT; have HLN := Lib.hid hln; clear hL hT hln
  obtain ⟨W1, hW1⟩ : ∃ W1, W1 = (w.alloc (.cells #[.int .u8 k, .int .i64 st, .int .i64 so, .int .i64 dm, .int .i64 ep] 23)).alloc (.cells #[.slice A n c] 24) := ⟨_, rfl⟩
  have hal := al2 w (.cells #[.int .u8 k, .int .i64 st, .int .i64 so, .int .i64 dm, .int .i64 ep] 23) (.cells #[.slice A n c] 24)
  rw [← hW1] at hal
  obtain ⟨x0, x1, hb1⟩ := hal
  have HRW : Hid (RMs W1 (some ⟨w.heap.size + 1, 0, none⟩) [L]) := Lib.hid (one_row x1 HLN.out (HL.out.below hb1))
  have HC := Lib.hid (together_any k st so dm ep (some ⟨w.heap.size + 1, 0, none⟩) 1 [L] W1 HRW.out (by simpa using HT.out) (by simp) (by simpa using (by have := HLN.out; omega : L.length < 1000000000)))
  simp only [List.length_cons, List.length_nil, Nat.zero_add, List.flatten_cons, List.flatten_nil, List.append_nil] at HC
  have HB1 := Lib.hid hb1
  obtain ⟨j0, j1, j2, j3, j4, _⟩ := jb_cells x0
  have J0 : (w.alloc (.cells #[.int .u8 k, .int .i64 st, .int .i64 so, .int .i64 dm, .int .i64 ep] 23)).heap[w.heap.size]? = some (.cells #[.int .u8 k, .int .i64 st, .int .i64 so, .int .i64 dm, .int .i64 ep] 23 (0, 0)) := heap_alloc_new w _
  obtain ⟨i0, i1, i2, i3, i4, _⟩ := jb_cells J0
  have hsz1 : w.heap.size ≤ W1.heap.size := hb1.size
  clear x0 x1 hb1
  go_enter Try.func9, Try.ntmps9
  go_wp2_with fail
  rw [← hW1]
  refine (HC.out).mono ?_
  rintro e w2 ⟨⟨M, rfl, hMge, HM⟩, hb2⟩
  have HMGE : Hid (w.heap.size ≤ M) := Lib.hid (by have := hMge.out; omega)
  have HB2 := Lib.hid (step_below HB1.out HB1.out.size hb2.out)
  clear hW1 HC HRW j0 j1 j2 j3 j4 i0 i1 i2 i3 i4 J0 hMge hb2 HB1
  obtain ⟨m, hm, hlen⟩ := HM.out.len
  have hm2 : m < 1000000 := by have := HLN.out; omega
  obtain ⟨i0, hi, hz0, hz1, hz2⟩ := info_parts infoM
  obtain ⟨w3, hmk, hown3, hg3⟩ := run_make_own (P := Try.prog) (w := w2) w.heap.size 24 29 i0 _ 2 Try.underlying24 hi hz0 hz1 .i64 .i64 m (by rw [hz2]; omega) (by unfold maxLen; omega) HB2.out.size
  have hb3 : Below w2.heap.size w2 w3 := ⟨hg3.os, hg3.tape, hg3.output, hg3.size, fun i hi => hg3.block i hi nofun⟩
  have HO3 : Hid (MOwn w3 w.heap.size (.slice (some ⟨w2.heap.size, 0, none⟩) 0 m) []) := Lib.hid hown3
  have HB3 := Lib.hid (step_below HB2.out HB2.out.size hb3)
  have HM3 := Lib.hid (HM.out.below hb3)
  have HLT : Hid (M < w2.heap.size) := Lib.hid HM.out.lt
  have HS3 : Hid (w2.heap.size < w3.heap.size) := Lib.hid (by
    obtain ⟨_, h | ⟨g, _, _, e, _, h, _⟩⟩ := hown3
    · cases h.1
    · cases e; exact lt_of_block h)
  clear hown3 hg3 hb3 hi hz0 hz1 hz2 hm
  go_wp2_with fail
  refine (keys_any M w3).mono ?_
  rintro e w4 ⟨rfl, hw4⟩
  have hb4 : Below w3.heap.size w3 w4 := by rw [hw4]; exact (Below.refl _ w3).alloc (Nat.le_refl _) _
  have hx4 : w4.heap[w3.heap.size]? = some (.cells #[.map (some M)] 44 (0, 0)) := by rw [hw4]; exact heap_alloc_new w3 _
  have HM4 := Lib.hid (HM3.out.below hb4)
  have HO4 := Lib.hid (HO3.out.below hb4)
  have HB4 := Lib.hid (step_below HB3.out HB3.out.size hb4)
  have HS4 : Hid (w2.heap.size < w4.heap.size) := Lib.hid (by have := HS3.out; have := hb4.size; omega)
  have HSO := Lib.hid (sorted_any k L M w3.heap.size w4 (by rw [Lib.cell_of_heap hx4]; rfl) (lt_of_block hx4) HM4.out (by have := HLN.out; omega))
  clear hw4 hb4 hx4 hlen hmk HM HM3 HO3 HB3 HS3
  go_wp2_with fail
  refine (HSO.out).mono ?_
  rintro e w5 ⟨vk, S, rfl, HK, HRS, HMS, hb5⟩
  obtain ⟨Ak, ck, rfl, hK⟩ := HK.out.form
  have HM5 := Lib.hid (HM4.out.below hb5.out)
  have HO5 := Lib.hid (HO4.out.below hb5.out)
  have HB5 := Lib.hid (step_below HB4.out HB4.out.size hb5.out)
  have HFK : Hid ((S.map fun x => (x, vlM k x L)) = putM k [] L) := Lib.hid (fold_keys k L HRS.out HMS.out)
  have hSn : S.length < 1000000 := by
    have h1 := congrArg List.length HFK.out
    have h2 := putM_len k L []
    simp only [List.length_map, List.length_nil] at h1 h2
    have := HLN.out; omega
  have HAK : Hid (Off Ak (some w2.heap.size)) := Lib.hid (by
    intro a ha e
    have h1 := (own_lt HK.out a.block (by rw [ha]; rfl)).1
    have := Option.some.inj e
    have := HS4.out
    omega)
  have HH : Hid (FdH w w5 M k L Ak S (.slice (some ⟨w2.heap.size, 0, none⟩) 0 m) 0) := Lib.hid ⟨HB5.out, HM5.out, hK, HO5.out, by show some M ≠ some w2.heap.size; have := HLT.out; intro e; cases e; omega, HAK.out⟩
  obtain ⟨s, hs⟩ : ∃ s, s = S.length := ⟨_, rfl⟩
  rw [← hs] at hSn ⊢
  have HSL := Lib.hid hs
  clear hs hK hb5 HK HM4 HM5 HO4 HO5 HB4 HB5 HSO HAK HRS
  go_wp2_with fail
  go_loopg [6, 20] s (fun gk v i wr => FdRel w M k L Ak S gk v i wr)
  case atStart => exact ⟨0, by have := HSL.out; omega, rfl, HH⟩
  case round =>
    clear HH
    obtain ⟨q, hq, rfl, HH⟩ := hrel
    rw [← HSL.out] at hq
    by_cases hlt : q < s
    · obtain ⟨x, hx⟩ := at_lt S q (by rw [← HSL.out]; exact hlt)
      obtain ⟨bk, o, rfl, c0⟩ := HH.out.keys q x hx
      have hxs := (HMS.out x).1 (List.mem_of_getElem? hx)
      obtain ⟨u, hu⟩ := Option.isSome_iff_exists.1 hxs
      have hxi : -9223372036854775808 ≤ x ∧ x ≤ 9223372036854775807 := by
        obtain ⟨e, he, rfl⟩ := some_in hxs
        exact HT.out e he
      have hlk : (Instr.lookup 44 (.map (some M)) (.int .i64 x) false).run Try.prog wr = .ok (.agg #[.bool true, .int .i64 u]) wr := by
        have := HH.out.map.look hxi
        rw [hu] at this; exact this
      have hfd : ∀ W : World, (Instr.field 43 (.agg #[.bool true, .int .i64 u]) 1).run Try.prog W = .ok (.int .i64 u) W := fun _ => by kernel_rfl
      have HNX : Hid (((S.take q).map fun x => (x, vlM k x L)) ++ [(x, u)] = (S.take (q + 1)).map fun x => (x, vlM k x L)) := Lib.hid (by
        rw [take_at hx, List.map_append]; simp [vlM_of hu])
      have HO1 := Lib.hid (HH.out.row.alloc (.cells #[.int .i64 x, .int .i64 u] 29))
      have HN1 := Lib.hid (mb_alloc wr x u)
      have hb1 : Below wr.heap.size wr (wr.alloc (.cells #[.int .i64 x, .int .i64 u] 29)) := (Below.refl _ wr).alloc (Nat.le_refl _) _
      have HB1 := Lib.hid (step_below HH.out.below HH.out.below.size hb1)
      have HM1 := Lib.hid (HH.out.map.below hb1)
      have HK1 := Lib.hid (HH.out.keys.below hb1)
      have HKL : Hid (∀ a, some (⟨bk, o, none⟩ : Addr) = some a → a.block < wr.heap.size + 1) := Lib.hid (fun a ha => by have := key_lt HH.out.keys (show 0 < S.length by have := HSL.out; omega) a ha; omega)
      have hsl : ((S.take q).map fun x => (x, vlM k x L)).length < 1000000000 := by rw [List.length_map, List.length_take]; omega
      have HSX := Lib.hid hsl
      clear hx hxs hu hxi hb1 hsl
      go_wp2_with (at_builtin; refine app_m_at rfl (.tmp 24) (.tmp 31) rfl w.heap.size _ _ x u rfl HO1.out _ rfl HN1.out HSX.out HB1.out.size ?_)
      intro v2 w2' ho2 hg2 hat2
      have HH2 : Hid (FdH w w2' M k L (some ⟨bk, o, none⟩) S v2 (q + 1)) := Lib.hid
        ⟨Below.grown HB1.out hg2 HB1.out.size (fun j e => (own_lt HO1.out j e).1), HM1.out.grown hg2 HH.out.apM, IAt.grown HK1.out hg2 HH.out.apK, by rw [← HNX.out, List.map_take]; exact ho2,
          (by
            intro e
            rcases hat2 with g | g
            · rw [g] at e; exact HH.out.apM e
            · rw [g] at e
              have := HH.out.map.lt
              have := Option.some.inj e
              omega), off_next HH.out.apK hat2 HKL.out⟩
      clear hfd ho2 hg2 hat2 HO1 HN1 HB1 HM1 HK1 HKL HSX hlk c0 HNX HH
      go_wp2
      go_roundg (gk - 1)
      case measure => omega
      case rel => exact ⟨q + 1, by have := HSL.out; omega, by go_num, HH2⟩
    · have HO9 := HH.out.row
      rw [show q = S.length by have := HSL.out; omega, List.take_length, HFK.out] at HO9
      have HO8 := Lib.hid HO9
      clear HO9
      go_wp2
      go_ret
      exact ⟨_, rfl, HO8, Lib.hid HH.out.below⟩

end Go.Proofs.Ytgkmmjlhphinhaa.In
