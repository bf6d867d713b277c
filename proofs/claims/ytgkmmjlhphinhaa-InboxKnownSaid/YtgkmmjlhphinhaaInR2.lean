/-
  What is proved here: a contract of the document's own mail: what comes to a vertex out of rows. Conditions: lengths fit an int.
-/
import Derived.Test.YtgkmmjlhphinhaaInR1
namespace Go.Proofs.Ytgkmmjlhphinhaa.In
open Go.RowKit Go.Maps Gr Wd Ws Fx Rk Lb Al

structure RmH (w wr : World) (b0 b1 b2 : Nat) (k st so dm ep : Int) (m : Ml) : Prop where
  below : Below w.heap.size w wr
  box : wr.heap[b0]? = some (.cells #[.int .u8 k, .int .i64 st, .int .i64 so, .int .i64 dm, .int .i64 ep] 23 (0, 0))
  res : wr.heap[b1]? = some (.cells #[.bool false, .int .i64 0] 43 (0, 0))
  ml : wr.heap[b2]? = some (.cells #[.bool m.1, .int .i64 m.2] 43 (0, 0))
theorem RmH.step {w w1 w2 : World} {b0 b1 b2 : Nat} {k st so dm ep : Int} {m : Ml} (h : RmH w w1 b0 b1 b2 k st so dm ep m) (hb : Below w1.heap.size w1 w2) : RmH w w2 b0 b1 b2 k st so dm ep m :=
  ⟨step_below h.below h.below.size hb, keep h.box hb, keep h.res hb, keep h.ml hb⟩
theorem set_off {W : World} {b c : Nat} {o : Obj} (h : W.heap[b]? = some o) (hn : b ≠ c) (i : Nat) (u : Value) : (W.setCell ⟨c, i, none⟩ u).heap[b]? = some o := by
  rw [heap_setCell_other W ⟨c, i, none⟩ b u hn]; exact h
theorem RmH.put {w w1 : World} {b0 b1 b2 : Nat} {k st so dm ep : Int} {m : Ml} (h : RmH w w1 b0 b1 b2 k st so dm ep m) (hw : w.heap.size ≤ b2) (h0 : b0 ≠ b2) (h1 : b1 ≠ b2) (p : Bool) (y : Int) :
    RmH w ((w1.setCell ⟨b2, 0, none⟩ (.bool p)).setCell ⟨b2, 1, none⟩ (.int .i64 y)) b0 b1 b2 k st so dm ep (p, y) :=
  ⟨(h.below.setCell (p := ⟨b2, 0, none⟩) hw _).setCell (p := ⟨b2, 1, none⟩) hw _, set_off (set_off h.box h0 _ _) h0 _ _, set_off (set_off h.res h1 _ _) h1 _ _, put_ml h.ml p y⟩
theorem RmH.put1 {w w1 : World} {b0 b1 b2 : Nat} {k st so dm ep : Int} {p : Bool} {x : Int} (h : RmH w w1 b0 b1 b2 k st so dm ep (p, x)) (hw : w.heap.size ≤ b2) (h0 : b0 ≠ b2) (h1 : b1 ≠ b2) (y : Int) :
    RmH w (w1.setCell ⟨b2, 1, none⟩ (.int .i64 y)) b0 b1 b2 k st so dm ep (p, y) :=
  ⟨h.below.setCell (p := ⟨b2, 1, none⟩) hw _, set_off h.box h0 _ _, set_off h.res h1 _ _, by
    have := heap_setCell_same w1 b2 1 _ 43 (.int .i64 y) h.ml
    exact this⟩
def R1Rel (w : World) (b0 b1 b2 : Nat) (k st so dm ep v : Int) (Ls : List (List Ms)) (gk : Nat) (i : Value) (wr : World) : Prop :=
  ∃ q : Nat, q + gk = Ls.length ∧ i = .int .i64 (q : Int) ∧ Hid (RmH w wr b0 b1 b2 k st so dm ep (mlOf (mailM k v (Ls.take q).flatten)))
def R2Rel (w : World) (b0 b1 b2 : Nat) (k st so dm ep v : Int) (P L : List Ms) (gk : Nat) (i : Value) (wr : World) : Prop :=
  ∃ q : Nat, q + gk = L.length ∧ i = .int .i64 (q : Int) ∧ Hid (RmH w wr b0 b1 b2 k st so dm ep (mlOf (mailM k v (P ++ L.take q))))

set_option maxRecDepth 100000 in
set_option maxHeartbeats 4000000 in
theorem rmail_any (k st so dm ep v : Int) (A : Option Addr) (n c : Nat) (Ls : List (List Ms)) (w : World) (hR : RMs w A Ls) (hn : Ls.length = n) (hn2 : n ≤ 1000000) (hF : Ls.flatten.length < 1000000000) :
    Calls Try.prog 25 #[.agg #[.int .u8 k, .int .i64 st, .int .i64 so, .int .i64 dm, .int .i64 ep], .int .i64 v, .slice A n c] w fun e w' => (∃ p y, e = .returned (.agg #[.bool p, .int .i64 y]) ∧ Hid (mlOf (mailM k v Ls.flatten) = (p, y))) ∧ Hid (Below w.heap.size w w') := by
  have mixed := mixedI
  have HR := Lib.hid hR; have HN := Lib.hid hn; have HF := Lib.hid hF
  clear hR hn hF
  obtain ⟨W1, hW1⟩ : ∃ W1, W1 = ((w.alloc (.cells #[.int .u8 k, .int .i64 st, .int .i64 so, .int .i64 dm, .int .i64 ep] 23)).alloc (.cells #[.bool false, .int .i64 0] 43)).alloc (.cells #[.bool false, .int .i64 0] 43) := ⟨_, rfl⟩
  have hal := al3 w (.cells #[.int .u8 k, .int .i64 st, .int .i64 so, .int .i64 dm, .int .i64 ep] 23) (.cells #[.bool false, .int .i64 0] 43) (.cells #[.bool false, .int .i64 0] 43)
  rw [← hW1] at hal
  obtain ⟨x0, x1, x2, hb⟩ := hal
  obtain ⟨b0, e0⟩ : ∃ b0, b0 = w.heap.size := ⟨_, rfl⟩
  obtain ⟨b1, e1⟩ : ∃ b1, b1 = w.heap.size + 1 := ⟨_, rfl⟩
  obtain ⟨b2, e2⟩ : ∃ b2, b2 = w.heap.size + 2 := ⟨_, rfl⟩
  rw [← e0] at x0; rw [← e1] at x1; rw [← e2] at x2
  have HH : Hid (RmH w W1 b0 b1 b2 k st so dm ep (false, 0)) := Lib.hid ⟨hb, x0, x1, x2⟩
  have HW2 : Hid (w.heap.size ≤ b2) := Lib.hid (by omega)
  have HW1 : Hid (w.heap.size ≤ b1) := Lib.hid (by omega)
  have H02 : Hid (b0 ≠ b2) := Lib.hid (by omega)
  have H12 : Hid (b1 ≠ b2) := Lib.hid (by omega)
  clear x0 x1 x2 hb
  go_enter Try.func25, Try.ntmps25
  go_upto_region 2 with fail
  rw [← hW1]
  rw [show w.heap.size + 1 + 1 = b2 from e2.symm, show w.heap.size + 1 = b1 from e1.symm, show w.heap.size = b0 from e0.symm]
  clear hW1 e0 e1 e2
  go_wp2_with fail
  go_loopg [8] n (fun gk i wr => R1Rel w b0 b1 b2 k st so dm ep v Ls gk i wr)
  case atStart => exact ⟨0, by have := HN.out; omega, rfl, HH⟩
  case round =>
    clear HH
    obtain ⟨q, hq, rfl, HH⟩ := hrel
    rw [HN.out] at hq
    by_cases hlt : q < n
    · obtain ⟨L, hL⟩ := at_lt Ls q (by rw [HN.out]; exact hlt)
      obtain ⟨bk, o, A', c', rfl, c00, hm⟩ := HR.out q L hL
      have HL := Lib.hid hL; have HM := Lib.hid hm
      obtain ⟨m, hm'⟩ : ∃ m, m = L.length := ⟨_, rfl⟩
      rw [← hm'] at c00
      have HC0 := Lib.hid c00
      have HMN := Lib.hid hm'
      have hmb : m ≤ 1000000000 := by
        have := congrArg List.length (flat_at hL)
        simp only [List.length_append] at this
        have := HF.out; omega
      clear hL hm hm' c00
      go_wp2_with fail
      obtain ⟨G0, rfl⟩ : ∃ G0 : Nat, G0 = gk := ⟨_, rfl⟩
      go_loopg [9] m (fun gk i wr => R2Rel w b0 b1 b2 k st so dm ep v (Ls.take q).flatten L gk i wr)
      case atStart => exact ⟨0, by have := HMN.out; omega, rfl, Lib.hid (by simpa using HH.out)⟩
      case round =>
        clear HH
        obtain ⟨j, hj, rfl, HH⟩ := hrel
        rw [← HMN.out] at hj
        have c0 := (HH.out.below.cell (block_lt_of_cell HC0.out)).trans HC0.out
        by_cases hlt2 : j < m
        · obtain ⟨⟨t, y⟩, he⟩ := at_lt L j (by rw [← HMN.out]; exact hlt2)
          obtain ⟨bk2, o2, rfl, d0, d1⟩ := (HM.out.below HH.out.below) j _ he
          simp only at d0 d1
          obtain ⟨K, hK⟩ : ∃ K, K = (Ls.take q).flatten ++ L.take j := ⟨_, rfl⟩
          have HNX : Hid ((Ls.take q).flatten ++ L.take (j + 1) = K ++ [(t, y)]) := Lib.hid (by rw [take_at he, hK, List.append_assoc])
          rw [← hK] at HH
          obtain ⟨⟨p, x⟩, hx⟩ : ∃ hx : Ml, mlOf (mailM k v K) = hx := ⟨_, rfl⟩
          rw [hx] at HH
          have HX := Lib.hid hx
          clear he hK hx
          go_upto_region 9 with fail
          obtain ⟨W1, hW1⟩ : ∃ W1, W1 = wr.alloc (.cells #[.int .i64 t, .int .i64 y] 29) := ⟨_, rfl⟩
          have z0 : W1.heap[wr.heap.size]? = some (.cells #[.int .i64 t, .int .i64 y] 29 (0, 0)) := by rw [hW1]; exact mb_alloc wr t y
          have hb1 : Below wr.heap.size wr W1 := by rw [hW1]; exact (Below.refl _ wr).alloc (Nat.le_refl _) _
          rw [← hW1]
          obtain ⟨eb, heb⟩ : ∃ eb, eb = wr.heap.size := ⟨_, rfl⟩
          rw [← heb] at z0 ⊢
          have HH1 := Lib.hid (HH.out.step hb1)
          have HZ := Lib.hid z0
          clear hW1 heb hb1 z0 c0 d0 d1 HH
          obtain ⟨m0, m1, _⟩ := msg_cells HZ.out
          by_cases htv : t = v
          · subst htv
            obtain ⟨n0, n1, nf, _⟩ := ml_cells HH1.out.ml
            simp only at n0 n1
            cases p with
            | true =>
              obtain ⟨r, hr⟩ : ∃ r, comb k x y = r := ⟨_, rfl⟩
              have HY : Hid (mlOf (mailM k t ((Ls.take q).flatten ++ L.take (j + 1))) = (true, r)) := Lib.hid (by
                rw [HNX.out, nxt_mail, HX.out]; show (true, comb k x y) = _; rw [hr])
              have HC := Lib.hid (fun W => rcomb_y k st so dm ep x y r (Lib.hid hr) W)
              obtain ⟨j0, j1, j2, j3, j4, _⟩ := jb_cells HH1.out.box
              clear hr
              go_wp2_with fail
              refine (HC.out _).mono ?_
              rintro e w3 ⟨rfl, hw3⟩
              have hb3 : Below W1.heap.size W1 w3 := by rw [hw3]; exact (Below.refl _ W1).alloc (Nat.le_refl _) _
              have HH3 := Lib.hid (HH1.out.step hb3)
              clear hw3 hb3 m0 m1 n0 n1 nf j0 j1 j2 j3 j4
              obtain ⟨n0, n1, nf, _⟩ := ml_cells HH3.out.ml
              have HH4 := Lib.hid (HH3.out.put1 HW2.out H02.out H12.out r)
              go_wp2
              go_roundg (gk - 1)
              case measure => omega
              case rel => exact ⟨j + 1, by have := HMN.out; omega, by go_num, by rw [HY.out]; exact HH4⟩
            | false =>
              have HY : Hid (mlOf (mailM k t ((Ls.take q).flatten ++ L.take (j + 1))) = (true, y)) := Lib.hid (by
                rw [HNX.out, nxt_mail, HX.out]; rfl)
              have HH4 := Lib.hid (HH1.out.put HW2.out H02.out H12.out true y)
              go_wp2
              go_roundg (gk - 1)
              case measure => omega
              case rel => exact ⟨j + 1, by have := HMN.out; omega, by go_num, by rw [HY.out]; exact HH4⟩
          · have hb : (t == v) = false := by simpa using htv
            have HY : Hid (mlOf (mailM k v ((Ls.take q).flatten ++ L.take (j + 1))) = (p, x)) := Lib.hid (by
              rw [HNX.out, mailM_snoc]; unfold mst; rw [if_neg htv, HX.out])
            go_wp2
            go_roundg (gk - 1)
            case measure => omega
            case rel => exact ⟨j + 1, by have := HMN.out; omega, by go_num, by rw [HY.out]; exact HH1⟩
        · have HH3 : Hid (RmH w wr b0 b1 b2 k st so dm ep (mlOf (mailM k v (Ls.take (q + 1)).flatten))) := Lib.hid (by
            have := HH.out
            rwa [show j = L.length by have := HMN.out; omega, List.take_length, ← flat_next HL.out] at this)
          go_wp2
          go_roundg (G0 - 1)
          case measure => omega
          case rel => exact ⟨q + 1, by have := HN.out; omega, by go_num, HH3⟩
    · obtain ⟨⟨p, y⟩, hpy⟩ : ∃ m : Ml, mlOf (mailM k v Ls.flatten) = m := ⟨_, rfl⟩
      have HH3 : Hid (RmH w wr b0 b1 b2 k st so dm ep (p, y)) := Lib.hid (by
        have := HH.out
        rwa [show q = Ls.length by have := HN.out; omega, List.take_length, hpy] at this)
      have HPY := Lib.hid hpy
      clear HH hpy
      obtain ⟨n0, n1, _⟩ := ml_cells HH3.out.ml
      obtain ⟨u0, u1, uf, _⟩ := ml_cells HH3.out.res
      simp only at n0 n1
      go_wp2_with fail
      have hp := put_ml HH3.out.res p y
      obtain ⟨k0, k1, _⟩ := ml_cells hp
      have hB5 : Below w.heap.size w ((wr.setCell ⟨b1, 0, none⟩ (.bool p)).setCell ⟨b1, 1, none⟩ (.int .i64 y)) := (HH3.out.below.setCell (p := ⟨b1, 0, none⟩) HW1.out _).setCell (p := ⟨b1, 1, none⟩) HW1.out _
      exact bodyPost_ret (v := .agg #[.bool p, .int .i64 y]) (by simp [results, Try.results25, go_sem, k0, k1]) rfl ⟨⟨p, y, rfl, HPY⟩, Lib.hid hB5⟩

end Go.Proofs.Ytgkmmjlhphinhaa.In
