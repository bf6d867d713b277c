/-
  What is proved here: a contract of inbox.Split: messages by workers. Conditions: fewer than 1000000 messages.
-/
import Derived.Test.YtgkmmjlhphinhaaInF
import Derived.Test.YtgkmmjlhphinhaaPtW1
import Derived.Deep.OwnRows
namespace Go.Proofs.Ytgkmmjlhphinhaa.In
open Go.RowKit Go.Maps Gr Wd Ws Fx Rk Lb Al Pt

theorem step_m_at {ops : Array Oper} {o : Oper} {a : Act} {w : World} {K : Act → World → Prop} {Q : Exit → Act → World → Prop} {E : Prop} (hgd : o.guard = none) (s x : Operand)
    (ho : o.op = .call { callee := .builtin .append, args := #[s, x], argTypes := #[24, 24] }) (B : Nat) (v : Value) (M L : List Ms) (z : Nat) (hz : L.length = z) (hs : a.eval s = v) (hown : MOwn w B v M)
    (A : Option Addr) (c : Nat) (hx : a.eval x = .slice A z c) (hL : MAt w A L) (hn : M.length < 1000000000) (hB : B ≤ w.heap.size)
    (h : ∀ A' n' c' w', MOwn w' B (.slice A' n' c') (M ++ L) → w.grownBy w' v.ownBlock → ((Value.slice A' n' c').ownBlock = v.ownBlock ∨ (Value.slice A' n' c').ownBlock = some w.heap.size) → K (a.put o.dst (.slice A' n' c')) w') (hzz : z ≤ 1000000000 := by decide) :
    if Region.wanted o (yielded ops a.tmps) = true then Oper.wp Try.prog o a w K Q else E := by
  subst hz
  have hw : Region.wanted o (yielded ops a.tmps) = true := by simp [Region.wanted, hgd]
  rw [if_pos hw]
  obtain ⟨i0, hi, hz0, hz1, hz2⟩ := info_parts infoM
  have ht : Try.prog.underlying 24 = some (.slice 29) := Try.underlying24
  obtain ⟨v', w', hr, h2, h3, h4⟩ : ∃ v' w', (Builtin.append_ #[24, 24] o.type #[v, .slice A L.length c]).run Try.prog w = .ok v' w' ∧ MOwn w' B v' (M ++ L) ∧ w.grownBy w' v.ownBlock ∧ (v'.ownBlock = v.ownBlock ∨ v'.ownBlock = some w.heap.size) := by
    cases A with
    | some ad =>
      obtain ⟨v', w', hr, h2, h3, _, h4⟩ := run_append_own_at (P := Try.prog) w B 24 o.type 29 i0 _ 2 16 ht hi hz0 hz1 hz2 rfl (by decide) v M.length (mcs M) hown ad L.length c (mcs L) (mcs_len L) (mat_cells hL ad rfl) (mcs_one L) (by unfold maxLen; omega) (by omega) hB
      refine ⟨v', w', hr, ?_, h3, h4⟩
      unfold MOwn
      rw [mcs_append, List.length_append]
      exact h2
    | none =>
      obtain rfl := mat_none hL
      refine ⟨v, w, ?_, by rw [List.append_nil]; exact hown, ⟨rfl, rfl, rfl, Nat.le_refl _, fun _ _ _ => rfl⟩, Or.inl rfl⟩
      rcases hown.2 with ⟨rfl, _⟩ | ⟨g, cap, cur, rfl, _, _, hnc, _⟩
      · simp [Builtin.append_, run_underlying ht, sizeOf, typeInfo, hi, Builtin.lenOf, Builtin.firstCells]
      · simp [Builtin.append_, run_underlying ht, sizeOf, typeInfo, hi, Builtin.lenOf, Builtin.firstCells, hnc, storeCells]
  obtain ⟨A', c', rfl, _⟩ := h2.room
  unfold Oper.wp execOp
  simp only [ho, resolve, invoke, builtin, Sem.run_bind, Sem.run_pure, Result.andThen_ok, List.map_toArray, List.map_cons, List.map_nil, hs, hx, hr]
  exact h _ _ _ _ h2 h3 h4

def splitM (L : List Ms) (k : Int) : List (List Ms) := if 1 ≤ k ∧ k ≤ 64 then rowsW k.toNat L k.toNat else []
theorem rowW_next {n i t y : Int} {L : List Ms} {q : Nat} (h : L[q]? = some (t, y)) : rowW n (L.take (q + 1)) i = if ofI t n = i then rowW n (L.take q) i ++ [(t, y)] else rowW n (L.take q) i := by
  rw [take_at h]
  unfold rowW
  rw [List.filter_append]
  by_cases e : ofI t n = i
  · rw [if_pos e]; simp [e]
  · rw [if_neg e]; simp [e]
structure SpH (w wr : World) (R n : Nat) (L : List Ms) (vs : List Value) : Prop where
  below : Below w.heap.size w wr
  blk : wr.heap[R]? = some (.cells vs.toArray 24 (0, 0))
  len : vs.length = n
  row : ∀ (i : Nat) (v : Value), vs[i]? = some v → MOwn wr (R + 1) v (rowW (n : Int) L (i : Int))
  apart : ∀ (i j : Nat) (u v : Value) (g : Nat), i ≠ j → vs[i]? = some u → vs[j]? = some v → u.ownBlock = some g → v.ownBlock ≠ some g
theorem SpH.step {w w1 w2 : World} {R n : Nat} {L : List Ms} {vs : List Value} (h : SpH w w1 R n L vs) (hb : Below w1.heap.size w1 w2) : SpH w w2 R n L vs :=
  ⟨step_below h.below h.below.size hb, keep h.blk hb, h.len, fun i v hv => (h.row i v hv).below hb, h.apart⟩
theorem SpH.cell {w wr : World} {R n : Nat} {L : List Ms} {vs : List Value} (h : SpH w wr R n L vs) {i : Nat} {v : Value} (hv : vs[i]? = some v) : wr.cell? ⟨R, i, none⟩ = some v ∧ wr.frozen? ⟨R, i, none⟩ = false :=
  ⟨by rw [Lib.cell_of_heap h.blk]; simpa using hv, Lib.frozen_of_heap h.blk i⟩
theorem own_mem {v : Value} {g : Nat} {A : Option Addr} {n c : Nat} (hv : v = .slice A n c) (h : v.ownBlock = some g) : ∃ o p, A = some ⟨g, o, p⟩ := by
  subst hv
  cases A with
  | none => cases h
  | some a => obtain ⟨b, o, p⟩ := a; exact ⟨o, p, by simp [Value.ownBlock] at h; rw [h]⟩
/- One message more for worker i. -/
theorem SpH.put {w w1 w2 : World} {R n i q : Nat} {t y : Int} {L : List Ms} {vs : List Value} {u v : Value} (h : SpH w w1 R n (L.take q) vs) (hw : w.heap.size ≤ R) (hq : L[q]? = some (t, y)) (ht : ofI t (n : Int) = (i : Int))
    (hu : vs[i]? = some u) (hg : w1.grownBy w2 u.ownBlock) (ho : MOwn w2 (R + 1) v (rowW (n : Int) (L.take q) (i : Int) ++ [(t, y)])) (hat : v.ownBlock = u.ownBlock ∨ ∃ s, v.ownBlock = some s ∧ w1.heap.size ≤ s) :
    SpH w (w2.setCell ⟨R, i, none⟩ v) R n (L.take (q + 1)) (vs.set i v) := by
  have hR : some R ≠ u.ownBlock := fun e => by have := (own_lt (h.row i u hu) R e.symm).1; omega
  have hblk := (hg.block R (lt_of_block h.blk) hR).trans h.blk
  have hbel : Below w.heap.size w w2 := Below.grown h.below hg h.below.size (fun j e => by have := (own_lt (h.row i u hu) j e).1; omega)
  have hin : i < vs.length := lt_at hu
  refine ⟨hbel.setCell (p := ⟨R, i, none⟩) hw _, ?_, by rw [List.length_set]; exact h.len, fun j x hx => ?_, fun j k x z g hjk hx hz hxg => ?_⟩
  · have := heap_setCell_same w2 R i _ 24 v hblk
    rw [this, List.setIfInBounds_toArray]
  · rw [rowW_next hq]
    by_cases e : i = j
    · subst e
      rw [List.getElem?_set_self hin] at hx
      cases hx
      rw [if_pos ht]
      exact own_kept ho fun g c fz hgb hc => heap_setCell_other w2 ⟨R, i, none⟩ g v (fun e => by have := (own_lt ho g hgb).1; simp only at e; omega)
    · rw [List.getElem?_set_ne e] at hx
      rw [if_neg (by rw [ht]; omega)]
      have h1 := h.row j x hx
      refine own_kept (own_kept h1 fun g c fz hgb hc => hg.block g (lt_of_block hc) (fun e2 => h.apart j i x u g (fun e3 => e e3.symm) hx hu hgb e2.symm)) fun g c fz hgb hc => heap_setCell_other w2 ⟨R, i, none⟩ g v (fun e => by have := (own_lt h1 g hgb).1; simp only at e; omega)
  · have hlt : ∀ (m : Nat) (z : Value) (g : Nat), vs[m]? = some z → z.ownBlock = some g → g < w1.heap.size := fun m z g hz hzg => by
      obtain ⟨_, c, hc⟩ := own_lt (h.row m z hz) g hzg
      exact lt_of_block hc
    by_cases ej : i = j
    · subst ej
      rw [List.getElem?_set_self hin] at hx
      cases hx
      rw [List.getElem?_set_ne hjk] at hz
      intro hzg
      rcases hat with e | ⟨s, e, hs⟩
      · exact h.apart i k u z g hjk hu hz (by rw [← e]; exact hxg) hzg
      · rw [hxg] at e
        have := Option.some.inj e
        have := hlt k z g hz hzg
        omega
    · rw [List.getElem?_set_ne ej] at hx
      by_cases ek : i = k
      · subst ek
        rw [List.getElem?_set_self hin] at hz
        cases hz
        intro hzg
        rcases hat with e | ⟨s, e, hs⟩
        · exact h.apart j i x u g hjk hx hu hxg (by rw [← e]; exact hzg)
        · rw [hzg] at e
          have := Option.some.inj e
          have := hlt j x g hx hxg
          omega
      · rw [List.getElem?_set_ne ek] at hz
        exact h.apart j k x z g hjk hx hz hxg
theorem SpH.skip {w w1 : World} {R n q : Nat} {t y : Int} {L : List Ms} {vs : List Value} (h : SpH w w1 R n (L.take q) vs) (hq : L[q]? = some (t, y)) (ht : ofI t (n : Int) < 0) : SpH w w1 R n (L.take (q + 1)) vs :=
  ⟨h.below, h.blk, h.len, fun i v hv => by rw [rowW_next hq, if_neg (by omega)]; exact h.row i v hv, h.apart⟩
theorem SpH.rows {w w1 : World} {R n : Nat} {L : List Ms} {vs : List Value} (h : SpH w w1 R n L vs) : RMs w1 (some ⟨R, 0, none⟩) (rowsW n L n) := by
  intro k M hk
  have hkn : k < n := by have := lt_at hk; rwa [rowsW_len] at this
  obtain ⟨v, hv⟩ := at_lt vs k (by rw [h.len]; exact hkn)
  have hM : rowW (n : Int) L (k : Int) = M := by
    unfold rowsW at hk
    rw [List.getElem?_map, List.getElem?_range hkn] at hk
    exact Option.some.inj hk
  obtain ⟨A', c', hv2, hat, _⟩ := (h.row k v hv).room
  rw [hM] at hv2 hat
  exact ⟨R, 0, A', c', rfl, by rw [Nat.zero_add, (h.cell hv).1, hv2], hat⟩
theorem infoR : (Try.prog.info? 24).map (fun i => (i.zero, i.size, i.bytes)) = some (some (.slice none 0 0), 1, 24) := by kernel_rfl
theorem make_r (n : Nat) (hn : n ≤ 1000000) (W : World) : (Instr.makeSlice 31 (.int .i64 (n : Int)) (.int .i64 (n : Int))).run Try.prog W = .ok (.slice (some ⟨W.heap.size, 0, none⟩) n n) (W.alloc (.cells (madeCells #[.slice none 0 0] n) 24)) :=
  run_make_row' (P := Try.prog) 31 24 (.slice none 0 0) 24 Try.underlying31 infoR rfl .i64 .i64 n (by omega) (by omega) W
theorem made_r (n : Nat) : madeCells #[Value.slice none 0 0] n = (List.replicate n (Value.slice none 0 0)).toArray := by
  unfold madeCells
  apply Array.ext
  · simp
  · intro i h1 h2; simp [Nat.mod_one]
/- A slice of rows. -/
def SlR (w : World) (v : Value) (Ls : List (List Ms)) : Prop := ∃ A m c, v = .slice A m c ∧ Ls.length = m ∧ RMs w A Ls
theorem SlR.below {w w' : World} {v : Value} {Ls : List (List Ms)} (h : SlR w v Ls) (hb : Below w.heap.size w w') : SlR w' v Ls := by
  obtain ⟨A, m, c, h1, h2, h3⟩ := h
  exact ⟨A, m, c, h1, h2, h3.below hb⟩
def SpRel (w : World) (R n : Nat) (L : List Ms) (gk : Nat) (i : Value) (wr : World) : Prop :=
  ∃ (q : Nat) (vs : List Value), q + gk = L.length ∧ i = .int .i64 (q : Int) ∧ Hid (SpH w wr R n (L.take q) vs)

set_option maxRecDepth 100000 in
set_option maxHeartbeats 8000000 in
theorem split_any (A : Option Addr) (n c : Nat) (L : List Ms) (k : Int) (w : World) (hL : MAt w A L) (hln : L.length = n) (hn : n < 1000000) :
    Calls Try.prog 12 #[.slice A n c, .int .i64 k] w fun e w' => ∃ v, e = .returned v ∧ Hid (SlR w' v (splitM L k)) ∧ Hid (Below w.heap.size w w') := by
  have mixed := mixedI
  have HL := Lib.hid hL; have HLN := Lib.hid hln; clear hL hln
  by_cases hk : 1 ≤ k ∧ k ≤ 64
  · obtain ⟨m, hm⟩ : ∃ m : Nat, k = (m : Int) := ⟨k.toNat, by omega⟩
    subst hm
    have hm1 : 1 ≤ m := by omega
    have hm2 : m ≤ 64 := by omega
    have hSP : splitM L (m : Int) = rowsW m L m := by unfold splitM; rw [if_pos hk]; simp
    rw [hSP]
    clear hSP hk
    have hmk := fun W => make_r m (by omega) W
    obtain ⟨W1, hW1⟩ : ∃ W1, W1 = w.alloc (.cells (madeCells #[.slice none 0 0] m) 24) := ⟨_, rfl⟩
    obtain ⟨R, hR⟩ : ∃ R, R = w.heap.size := ⟨_, rfl⟩
    have HH : Hid (SpH w W1 R m [] (List.replicate m (.slice none 0 0))) := Lib.hid ⟨by rw [hW1]; exact (Below.refl _ w).alloc (Nat.le_refl _) _, by rw [hW1, hR, heap_alloc_new, made_r], by simp, fun i v hv => by
      have : v = .slice none 0 0 := by
        rw [List.getElem?_replicate] at hv
        split at hv
        · exact (Option.some.inj hv).symm
        · cases hv
      rw [this]; exact MOwn.none_ _ _, fun i j u v g _ hu _ hg => by
      have : u = .slice none 0 0 := by
        rw [List.getElem?_replicate] at hu
        split at hu
        · exact (Option.some.inj hu).symm
        · cases hu
      rw [this] at hg; cases hg⟩
    have HRW : Hid (w.heap.size ≤ R) := Lib.hid (by omega)
    go_enter Try.func12, Try.ntmps12
    go_upto_region 4 with fail
    rw [← hW1, ← hR]
    clear hW1 hR hmk
    go_wp2_with fail
    go_loopg [19] n (fun gk i wr => SpRel w R m L gk i wr)
    case atStart => exact ⟨0, _, by have := HLN.out; omega, rfl, HH⟩
    case round =>
      clear HH
      obtain ⟨q, vs, hq, rfl, HH⟩ := hrel
      rw [HLN.out] at hq
      by_cases hlt : q < n
      · obtain ⟨⟨t, y⟩, he⟩ := at_lt L q (by rw [HLN.out]; exact hlt)
        obtain ⟨bk, o, rfl, c0, c1⟩ := (HL.out.below HH.out.below) q _ he
        simp only at c0 c1
        have HQ := Lib.hid he
        go_upto_region 7 with fail
        obtain ⟨W2, hW2⟩ : ∃ W2, W2 = wr.alloc (.cells #[.int .i64 t, .int .i64 y] 29) := ⟨_, rfl⟩
        have z0 : W2.heap[wr.heap.size]? = some (.cells #[.int .i64 t, .int .i64 y] 29 (0, 0)) := by rw [hW2]; exact mb_alloc wr t y
        have hb2 : Below wr.heap.size wr W2 := by rw [hW2]; exact (Below.refl _ wr).alloc (Nat.le_refl _) _
        rw [← hW2]
        obtain ⟨eb, heb⟩ : ∃ eb, eb = wr.heap.size := ⟨_, rfl⟩
        rw [← heb] at z0 ⊢
        have HH2 := Lib.hid (HH.out.step hb2)
        have HZ := Lib.hid z0
        clear hW2 heb hb2 z0 c0 c1 he HH
        obtain ⟨m0, m1, _⟩ := msg_cells HZ.out
        obtain ⟨x, hx⟩ : ∃ x, ofI t (m : Int) = x := ⟨_, rfl⟩
        have HC := Lib.hid (fun W => of_any t (m : Int) W)
        rw [hx] at HC
        have HX := Lib.hid hx
        go_wp2_with fail
        refine (HC.out _).mono ?_
        rintro e w3 ⟨rfl, rfl⟩
        by_cases hx0 : 0 ≤ x
        · obtain ⟨i, hi⟩ : ∃ i : Nat, x = (i : Int) := ⟨x.toNat, by omega⟩
          subst hi
          have him : i < m := by
            by_cases hv : 0 ≤ t ∧ t < 512
            · have := (ofI_range hv.1 hv.2 (show (1 : Int) ≤ (m : Int) by omega) (show (m : Int) ≤ 64 by omega)).2
              rw [hx] at this; omega
            · rw [ofI_not (by omega)] at hx; omega
          obtain ⟨u, hu⟩ := at_lt vs i (by rw [HH2.out.len]; exact him)
          have hro := HH2.out.row i u hu
          obtain ⟨Au, cu, hu2, _⟩ := hro.room
          obtain ⟨nu, hnu⟩ : ∃ nu, nu = (rowW (m : Int) (L.take q) (i : Int)).length := ⟨_, rfl⟩
          rw [← hnu] at hu2
          subst hu2
          have hnl : nu < 1000000000 := by
            rw [hnu]
            have : (rowW (m : Int) (L.take q) (i : Int)).length ≤ (L.take q).length := List.length_filter_le _ _
            rw [List.length_take] at this; omega
          rw [hnu] at hnl
          have HNL := Lib.hid hnl
          have HU := Lib.hid hu
          obtain ⟨r0, r1⟩ := HH2.out.cell hu
          have hbd : Below W2.heap.size W2 (W2.drew.alloc (.cells #[.int .i64 t, .int .i64 y] 29)) := ((Below.refl _ W2).drew).alloc (Nat.le_refl _) _
          have r2 := (hbd.cell (block_lt_of_cell r0)).trans r0
          have r3 : (W2.alloc (.cells #[.int .i64 t, .int .i64 y] 29)).cell? ⟨R, i, none⟩ = some (.slice Au nu cu) := ((((Below.refl _ W2).alloc (Nat.le_refl _) _)).cell (p := ⟨R, i, none⟩) (block_lt_of_cell r0)).trans r0
          have HO3 : Hid (MOwn (W2.drew.alloc (.cells #[.int .i64 t, .int .i64 y] 29)) (R + 1) (.slice Au nu cu) (rowW (m : Int) (L.take q) (i : Int))) := Lib.hid (hro.below hbd)
          have HN3 := Lib.hid (mat_new (W2.drew) t y)
          have HH3 := Lib.hid (HH2.out.step hbd)
          have HSZ : Hid (R + 1 ≤ (W2.drew.alloc (.cells #[.int .i64 t, .int .i64 y] 29)).heap.size) := Lib.hid (lt_of_block HH3.out.blk)
          clear hx hu hro hnu hnl hbd
          go_wp2_with fail
          go_region_law (refine step_m_at rfl (.tmp 34) (.tmp 36) rfl (R + 1) _ (rowW (m : Int) (L.take q) (i : Int)) [(t, y)] 1 rfl (by simp [Act.eval]) HO3.out _ 1 (by simp [Act.eval]) HN3.out HNL.out HSZ.out ?_; intro A6 n6 c6 w6 ho6 hg6 hat6; have HH6 := Lib.hid (HH3.out.put HRW.out HQ.out HX.out HU.out hg6 ho6 (hat6.imp id (fun e => ⟨_, e, Nat.le_refl _⟩))); have hb6 := (hg6.block R (lt_of_block HH3.out.blk) (fun e => by have := (own_lt HO3.out R e.symm).1; omega)).trans HH3.out.blk; have f0 := (Lib.cell_of_heap hb6 i).trans (show vs.toArray[i]? = some (Value.slice Au nu cu) by simpa using HU.out); have f1 := Lib.frozen_of_heap hb6 i; clear ho6 hg6 hat6 hb6)
          all_goals
            clear r0 r1 r2 r3 f0 f1 m0 m1
            go_wp2
            go_roundg (gk - 1)
            case measure => omega
            case rel => exact ⟨q + 1, _, by have := HLN.out; omega, by go_num, HH6⟩
        · have HH3 := Lib.hid (HH2.out.skip HQ.out (by rw [HX.out]; omega))
          go_wp2
          go_roundg (gk - 1)
          case measure => omega
          case rel => exact ⟨q + 1, vs, by have := HLN.out; omega, by go_num, HH3⟩
      · have HH3 : Hid (SpH w wr R m L vs) := Lib.hid (by
          have := HH.out
          rwa [show q = L.length by have := HLN.out; omega, List.take_length] at this)
        go_wp2
        go_ret
        exact ⟨_, rfl, Lib.hid ⟨_, _, _, rfl, rowsW_len _ _ _, HH3.out.rows⟩, Lib.hid HH3.out.below⟩
  · have hSP : splitM L k = [] := by unfold splitM; rw [if_neg hk]
    rw [hSP]
    by_cases h1 : k < 1
    · go_enter Try.func12, Try.ntmps12
      go_wp2
      go_ret
      exact ⟨_, rfl, Lib.hid ⟨none, 0, 0, rfl, rfl, fun k L h => by simp at h⟩, Lib.hid (Below.refl _ w)⟩
    · have h2 : 64 < k := by omega
      go_enter Try.func12, Try.ntmps12
      go_wp2
      go_ret
      exact ⟨_, rfl, Lib.hid ⟨none, 0, 0, rfl, rfl, fun k L h => by simp at h⟩, Lib.hid (Below.refl _ w)⟩

end Go.Proofs.Ytgkmmjlhphinhaa.In
