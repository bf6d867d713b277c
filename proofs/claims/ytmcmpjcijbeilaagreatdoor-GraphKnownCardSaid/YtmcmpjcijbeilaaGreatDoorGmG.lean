/-
  What is proved here: the texts GrW7 GrW8 GrW9 GrW5 GrW6 GrWrk1 GrWrk2 GrWrk3 of this seat, laid together (each says itself what it proves; no condition beyond theirs).
-/
import Derived.Test.YtmcmpjcijbeilaaGreatDoorGmB
import Derived.Test.YtmcmpjcijbeilaaGreatDoorGmF
import Derived.Lib.AppendStr
/-
  What is proved here: contracts of the library's (*strings.Builder).WriteString as this program has it, and of graph.writeLine: a word and numbers, one blank between, and a byte 10. Conditions: the builder is one that the call has made; at most 100000000 bytes.
-/
namespace Go.Proofs.YtmcmpjcijbeilaaGreatDoor.Gr
open Go.RowKit Wd Ws

theorem infoB : (Tryz.prog.info? 5).map (fun i => (i.zero, i.size, i.bytes)) = some (some (.int .u8 0), 1, 1) := by kernel_rfl
abbrev Bld (B b : Nat) (l : List UInt8) (w : World) : Prop := Lib.IsBuilder 48 5 B b (Lib.byteCells l) w
abbrev Oth (b : Nat) (w w' : World) : Prop := Lib.OthersKept 5 (some b) w w'

set_option maxRecDepth 100000 in
set_option maxHeartbeats 1000000 in
theorem writeString_any (B b : Nat) (l : List UInt8) (s : ByteArray) (m : List UInt8) (w : World) (hs : s = sb m) (h : Hid (Bld B b l w)) (hlen : l.length + m.length ≤ 100000000) (hBw : B ≤ w.heap.size) :
    Calls Tryz.prog 47 #[.pointer (some ⟨b, 0, none⟩), .string s] w fun e w' => (∃ v, e = .returned v) ∧ Hid (Bld B b (l ++ m) w') ∧ Hid (Below B w w') ∧ Hid (Oth b w w') := by
  subst hs
  obtain ⟨i0, hi, hz0, hz1, hz2⟩ := info_parts infoB
  have hsz := sb_size m
  have hbl : (Lib.byteCells l).length = l.length := Lib.byteCells_length l
  have HI0 := Lib.hid hi; have HZ0 := Lib.hid hz0; have HZ1 := Lib.hid hz1; have HZ2 := Lib.hid hz2; clear hi hz0 hz1 hz2
  have HBL := Lib.hid hbl
  go_enter Tryz.func47, Tryz.ntmps47
  go_wp2_with fail
  refine (copyCheck_any B b (Lib.byteCells l) _ h.out).mono ?_
  rintro e w1 ⟨rfl, h1, hb1, hk1⟩
  obtain ⟨hB, v, hbk, hown, hne⟩ := h1
  have hlt : b < w1.heap.size := lt_of_block hbk
  have c0 : w1.cell? ⟨b, 0, none⟩ = some (.pointer (some ⟨b, 0, none⟩)) := by rw [Lib.cell_of_heap hbk]; rfl
  have c1 : w1.cell? ⟨b, 1, none⟩ = some v := by rw [Lib.cell_of_heap hbk]; rfl
  have HBK := Lib.hid hbk; clear hbk
  have HO := Lib.hid hown; clear hown
  have HNE := Lib.hid hne; clear hne
  have hs1 := hb1.size
  have HB1 := Lib.hid hb1; clear hb1
  have HK1 := Lib.hid hk1; clear hk1
  go_wp2_with (at_builtin; refine Lib.wpList_append_own_string _ rfl (.tmp 12) (.tmp 13) 44 9 rfl B 5 i0 Tryz.underlying44 Tryz.underlying9 HI0.out HZ0.out HZ1.out HZ2.out _ _ _ rfl HO.out (sb m) rfl ?c3 ?c4 ?c5 ?_)
  case c3 => unfold maxLen; omega
  case c4 => omega
  case c5 => omega
  intro v' w2 hown' hgrow _
  have hb2 : w2.heap[b]? = some (.cells #[.pointer (some ⟨b, 0, none⟩), v] 48 (0, 0)) := by
    rw [hgrow.block b hlt (fun e => HNE.out e.symm)]
    exact HBK.out
  have d0 : w2.cell? ⟨b, 0, none⟩ = some (.pointer (some ⟨b, 0, none⟩)) := by rw [Lib.cell_of_heap hb2]; rfl
  have d1 : w2.cell? ⟨b, 1, none⟩ = some v := by rw [Lib.cell_of_heap hb2]; rfl
  have f1 : w2.frozen? ⟨b, 1, none⟩ = false := Lib.frozen_of_heap hb2 1
  obtain ⟨ao, n', cap, rfl⟩ : ∃ ao n' cap, v' = .slice ao n' cap := by
    rcases hown'.2 with ⟨hv, _⟩ | ⟨g, cap, cur, hv, _⟩
    · exact ⟨_, _, _, hv⟩
    · exact ⟨_, _, _, hv⟩
  have HO2 := Lib.hid hown'; clear hown'
  have HG := Lib.hid hgrow; clear hgrow
  have HB2 := Lib.hid hb2; clear hb2
  go_wp2
  go_ret2
  refine ⟨⟨_, rfl⟩, Lib.hid ?_, Lib.hid ?_, Lib.hid ?_⟩
  · refine Or.inr ?_
    rw [Lib.byteCells_append]
    exact Lib.BuilderAt.put (T := 48) (e := 5) hB HB2.out (bs' := Lib.byteCells l ++ Lib.byteCells m) (by
      have := HO2.out
      rw [List.length_append, Lib.byteCells_length, Lib.byteCells_length]; exact this) (by decide)
  · exact (HB1.out.grown HG.out (by omega) (fun k hk => (own_lt HO.out k hk).1)).setCell (p := ⟨b, 1, none⟩) hB _
  · exact (HK1.out.grown HG.out (Lib.ownsRow_kind HO.out)).setCell ⟨b, 1, none⟩ rfl _

theorem oth_below {b : Nat} {w w' : World} (h : Below w.heap.size w w') : Oth b w w' := fun k _ hk _ _ => (h.block k (lt_of_block hk)).trans hk

/- A line of a word and numbers. -/
def blnk (ns : List Nat) : List UInt8 := ns.flatMap fun n => 32 :: pr 0 n
def lineN (word : List UInt8) (ns : List Nat) : List UInt8 := word ++ blnk ns
theorem blnk_snoc (ns : List Nat) (n : Nat) : blnk (ns ++ [n]) = blnk ns ++ [32] ++ pr 0 n := by simp [blnk]
theorem pr_len' (n : Nat) (hn : n ≤ 9223372036854775807) : (pr 0 n).length ≤ 57 := by
  have h1 := flat_chs_len 0 (by omega) (dg n) (dg_lt n)
  have h2 := dg_len n 18 (by omega)
  unfold pr; omega
theorem blnk_len : ∀ ns : List Nat, (∀ n ∈ ns, n ≤ 9223372036854775807) → (blnk ns).length ≤ 58 * ns.length
  | [], _ => by simp [blnk]
  | n :: ns, h => by
    have h1 := blnk_len ns fun x hx => h x (List.mem_cons_of_mem _ hx)
    have h2 := pr_len' n (h n List.mem_cons_self)
    show (32 :: pr 0 n ++ blnk ns).length ≤ _
    rw [List.length_append, List.length_cons, List.length_cons]; omega

def ints (ns : List Nat) : Array Value := (ns.map fun n : Nat => Value.int .i64 (n : Int)).toArray
theorem ints_at (ns : List Nat) (k n : Nat) (h : ns[k]? = some n) : (ints ns)[k]? = some (.int .i64 (n : Int)) := by
  unfold ints; rw [List.getElem?_toArray, List.getElem?_map, h]; rfl
structure WlR (w : World) (B b gB : Nat) (l : List UInt8) (ns : List Nat) (k : Nat) (wr : World) : Prop where
  bld : Bld B b (l ++ blnk (ns.take k)) wr
  below : Below B w wr
  oth : Oth b w wr
  row : wr.heap[gB]? = some (.cells (ints ns) 2 (0, 0))
def WlRel (w : World) (B b gB : Nat) (l : List UInt8) (ns : List Nat) (g : Nat) (i : Value) (wr : World) : Prop :=
  ∃ k : Nat, k + g = ns.length ∧ i = .int .i64 (k : Int) ∧ WlR w B b gB l ns k wr

set_option maxRecDepth 100000 in
set_option maxHeartbeats 400000 in
theorem writeLine_any (B b gB : Nat) (l word : List UInt8) (s : ByteArray) (ns : List Nat) (n : Nat) (w : World) (hs : s = sb word) (hn : ns.length = n) (hLd : Hid (∀ w', Below B w w' → Laid w')) (h : Hid (Bld B b l w)) (hg : w.heap[gB]? = some (.cells (ints ns) 2 (0, 0))) (hgb : gB ≠ b)
    (hns : ∀ x ∈ ns, x ≤ 9223372036854775807) (hn4 : n ≤ 4) (hlen : l.length + word.length ≤ 10000000) (hBw : B ≤ w.heap.size) :
    Calls Tryz.prog 28 #[.pointer (some ⟨b, 0, none⟩), .string s, .slice (some ⟨gB, 0, none⟩) n n] w fun e w' => e = .returned (.tuple #[]) ∧ Hid (Bld B b (l ++ (lineN word ns ++ [10])) w') ∧ Hid (Below B w w') ∧ Hid (Oth b w w') := by
  subst hs
  have HNS := Lib.hid hns; clear hns
  have HG := Lib.hid hg; clear hg
  have hbk := blnk_len ns HNS.out
  have HN := Lib.hid hn
  rw [hn] at hbk
  clear hn
  go_enter Tryz.func28, Tryz.ntmps28
  go_wp2_with fail
  refine (writeString_any B b l _ word _ rfl h (by omega) hBw).mono ?_
  rintro e w1 ⟨⟨v1, rfl⟩, HI1, HB1, HK1⟩
  have hsz1 := HB1.out.size
  have HG1 := Lib.hid (HK1.out gB _ HG.out (fun e => hgb (Option.some.inj e)) (fun c fz e => by simp at e))
  go_wp2
  go_loopg [13] n (fun g i wr => WlRel w B b gB (l ++ word) ns g i wr)
  case atStart => exact ⟨0, by rw [HN.out]; omega, rfl, by simpa [blnk] using HI1.out, HB1.out, HK1.out, HG1.out⟩
  case round =>
    obtain ⟨k, hk, rfl, hr⟩ := hrel
    rw [HN.out] at hk
    have hsz := hr.below.size
    by_cases hlt : k < n
    · obtain ⟨x, hx⟩ := at_lt ns k (by rw [HN.out]; exact hlt)
      have hc : wr.cell? ⟨gB, 0 + k, none⟩ = some (.int .i64 (x : Int)) := by rw [Nat.zero_add, Lib.cell_of_heap hr.row]; exact ints_at ns k x hx
      rw [Nat.zero_add] at hc
      have hxl := HNS.out x (List.mem_of_getElem? hx)
      have hp : (blnk (ns.take k)).length ≤ 58 * k := by
        have := blnk_len (ns.take k) fun y hy => HNS.out y (List.mem_of_mem_take hy)
        rw [List.length_take] at this; have := Nat.min_le_left k ns.length; omega
      have hpx := pr_len' x hxl
      have HX := Lib.hid hx; clear hx
      have HR := Lib.hid hr; clear hr
      have HBl : Hid (Bld B b (l ++ word ++ blnk (ns.take k)) wr) := Lib.hid HR.out.bld
      have hl1 : (l ++ word ++ blnk (ns.take k)).length ≤ 10000400 := by rw [List.length_append, List.length_append]; omega
      go_wp2_with fail
      refine (writeString_any B b _ _ [32] _ rfl HBl (by simp only [List.length_singleton]; omega) (by omega)).mono ?_
      rintro e w2 ⟨⟨v2, rfl⟩, HI2, HB2, HK2⟩
      have hsz2 := HB2.out.size
      go_wp2_with fail
      refine (print_ok x 0 _ (hLd.out _ (HR.out.below.trans HB2.out)) hxl (by omega)).mono ?_
      rintro e w3 ⟨rfl, hb3⟩
      have HB3 := Lib.hid hb3; clear hb3
      have hsz3 := HB3.out.size
      have HI3 : Hid (Bld B b (l ++ word ++ blnk (ns.take k) ++ [32]) w3) := Lib.hid (build_below HI2.out HB3.out)
      have hl2 : (l ++ word ++ blnk (ns.take k) ++ [32]).length ≤ 10000401 := by rw [List.length_append, List.length_singleton]; omega
      go_wp2_with fail
      refine (writeString_any B b _ _ (pr 0 x) _ rfl HI3 (by omega) (by omega)).mono ?_
      rintro e w4 ⟨⟨v4, rfl⟩, HI4, HB4, HK4⟩
      have HK34 := Lib.hid ((HR.out.oth.trans HK2.out).trans ((oth_below (b := b) HB3.out).trans HK4.out))
      have HBT := Lib.hid (HR.out.below.trans (HB2.out.trans ((HB3.out.mono (by omega : B ≤ w2.heap.size)).trans HB4.out)))
      go_wp2
      go_roundg (gk - 1)
      case measure => omega
      case rel =>
        refine ⟨k + 1, by rw [HN.out]; omega, by go_num, ?_, HBT.out, HK34.out, HK34.out gB _ HG.out (fun e => hgb (Option.some.inj e)) (fun c fz e => by simp at e)⟩
        have e : l ++ word ++ blnk (ns.take (k + 1)) = l ++ word ++ blnk (ns.take k) ++ [32] ++ pr 0 x := by rw [take_at HX.out, blnk_snoc]; simp
        rw [e]; exact HI4.out
    · have hkn : k = n := by omega
      have hI : Hid (Bld B b (l ++ word ++ blnk ns) wr) := Lib.hid (by have := hr.bld; rw [hkn, ← HN.out, List.take_length] at this; exact this)
      have HR := Lib.hid hr; clear hr
      have hl1 : (l ++ word ++ blnk ns).length ≤ 10000400 := by rw [List.length_append, List.length_append]; omega
      go_wp2_with fail
      refine (writeString_any B b _ _ [10] _ rfl hI (by simp only [List.length_singleton]; omega) (by omega)).mono ?_
      rintro e w2 ⟨⟨v2, rfl⟩, HI2, HB2, HK2⟩
      go_wp2
      go_end0
      refine ⟨rfl, Lib.hid ?_, Lib.hid (HR.out.below.trans HB2.out), Lib.hid (HR.out.oth.trans HK2.out)⟩
      have e : l ++ (lineN word ns ++ [10]) = l ++ word ++ blnk ns ++ [10] := by unfold lineN; simp
      rw [e]; exact HI2.out

end Go.Proofs.YtmcmpjcijbeilaaGreatDoor.Gr

/-
  What is proved here: the contract of graph.Print: a graph's text, or the error of Check. Conditions: the package variables lie as their texts lay them; numbers and counts fit an int.
-/
namespace Go.Proofs.YtmcmpjcijbeilaaGreatDoor.Gr
open Go.RowKit Wd Ws

def edgeT (e : Ed) : List UInt8 := lineN edgeB [e.1.toNat, e.2.1.toNat, e.2.2.toNat] ++ [10]
def textP (V : Int) (L : List Ed) : List UInt8 := lineN vertB [V.toNat] ++ [10] ++ L.flatMap edgeT
def printB (V : Int) (L : List Ed) : List UInt8 := if chk V L = 0 then textP V L else []
theorem textP_snoc (V : Int) (L : List Ed) (e : Ed) : textP V (L ++ [e]) = textP V L ++ edgeT e := by simp [textP]
theorem fit_nat {V : Int} {e : Ed} (h : fitE V e = true) : ∃ a b c : Nat, e = ((a : Int), (b : Int), (c : Int)) ∧ (a : Int) < V ∧ (b : Int) < V ∧ c < 2147483648 := by
  obtain ⟨x, y, z⟩ := e
  rw [fitE_iff] at h
  simp only at h
  exact ⟨x.toNat, y.toNat, z.toNat, by rw [Int.toNat_of_nonneg h.1, Int.toNat_of_nonneg h.2.2.1, Int.toNat_of_nonneg h.2.2.2.2.1], by omega, by omega, by omega⟩
theorem edgeT_len (a b c : Nat) (ha : a ≤ 9223372036854775807) (hb : b ≤ 9223372036854775807) (hc : c ≤ 9223372036854775807) : (edgeT ((a : Int), (b : Int), (c : Int))).length ≤ 180 := by
  have := blnk_len [a, b, c] (by simp; omega)
  show (edgeB ++ blnk [a, b, c] ++ [10]).length ≤ _
  simp only [List.length_append, List.length_cons, List.length_nil] at this ⊢
  have e : edgeB.length = 4 := rfl
  omega

def PnRel (w1 : World) (V : Int) (L : List Ed) (g : Nat) (i : Value) (wr : World) : Prop :=
  ∃ k : Nat, k + g = L.length ∧ i = .int .i64 (k : Int) ∧ Bld w1.heap.size w1.heap.size (textP V (L.take k)) wr ∧ Below w1.heap.size w1 wr ∧ (textP V (L.take k)).length ≤ 100 + 180 * k

set_option maxRecDepth 100000 in
set_option maxHeartbeats 600000 in
theorem print_any (V : Int) (A : Option Addr) (c : Nat) (L : List Ed) (w : World) (hL : EAt w A L) (hLd : Laid w) (hm : L.length ≤ 9223372036854775807) :
    Calls Tryz.prog 11 #[.agg #[.int .i64 V, .slice A L.length c]] w fun e w' => e = .returned (.tuple #[.string (sb (printB V L)), .int .i64 (chk V L)]) ∧ Below w.heap.size w w' := by
  have hz : Below w.heap.size w (w.alloc (.cells #[.int .i64 V, .slice A L.length c] 24)) := (Below.refl _ w).alloc (Nat.le_refl _) _
  obtain ⟨R, hR⟩ : ∃ R, chk V L = R := ⟨_, rfl⟩
  have hC := check_any V A c L _ (hL.below hz) hm
  rw [hR] at hC
  rw [hR]
  have HC := Lib.hid hC; have HL := Lib.hid hL; have HLD := Lib.hid hLd; have HZ := Lib.hid hz
  have hbx := Lib.hid (heap_alloc_new w (.cells #[.int .i64 V, .slice A L.length c] 24))
  clear hC hL hLd hz
  by_cases h0 : R = 0
  · subst h0
    obtain ⟨v1, v2, v3, v4, v5⟩ := (chk_zero V L).1 hR
    have hT : printB V L = textP V L := by unfold printB; rw [if_pos hR]
    rw [hT]
    clear hT hR
    obtain ⟨v, rfl⟩ : ∃ v : Nat, V = (v : Int) := ⟨V.toNat, by rw [Int.toNat_of_nonneg (by omega)]⟩
    have HF := Lib.hid v4; clear v4 v5
    go_enter Tryz.func11, Tryz.ntmps11
    go_wp2_with fail
    refine HC.out.mono ?_
    rintro e w1 ⟨rfl, hb1⟩
    have hsz : w.heap.size < w1.heap.size := by have := hb1.size; simp at this; omega
    have hB1 := HZ.out.trans (hb1.mono (by simp))
    have hbx1 := (hb1.block _ (by simp)).trans hbx.out
    obtain ⟨x0, x1, _⟩ := Bx.cells hbx1
    have HX1 := Lib.hid hbx1
    have HLd : Hid (∀ w', Below w1.heap.size w1 w' → Laid w') := Lib.hid fun w' h => (HLD.out.bel hB1).bel h
    have HI0 := Lib.hid (Lib.fresh_isBuilder 48 5 w1)
    have hb0 : Below w1.heap.size w1 (w1.alloc (.cells #[.pointer none, .slice none 0 0] 48)) := (Below.refl _ w1).alloc (Nat.le_refl _) _
    have hb2 : Below w1.heap.size w1 ((w1.alloc (.cells #[.pointer none, .slice none 0 0] 48)).alloc (.cells #[.int .i64 (v : Int)] 2)) := hb0.alloc hb0.size _
    have HI2 : Hid (Bld w1.heap.size w1.heap.size [] ((w1.alloc (.cells #[.pointer none, .slice none 0 0] 48)).alloc (.cells #[.int .i64 (v : Int)] 2))) := Lib.hid (build_below HI0.out ((Below.refl _ _).alloc (Nat.le_refl _) _))
    have HG2 := Lib.hid (heap_alloc_new (w1.alloc (.cells #[.pointer none, .slice none 0 0] 48)) (.cells #[.int .i64 (v : Int)] 2))
    have HLd2 : Hid (∀ w', Below w1.heap.size ((w1.alloc (.cells #[.pointer none, .slice none 0 0] 48)).alloc (.cells #[.int .i64 (v : Int)] 2)) w' → Laid w') := Lib.hid fun w' h => HLd.out w' (hb2.trans h)
    have HB1 := Lib.hid hB1; have HB2 := Lib.hid hb2
    have hs2 : ((w1.alloc (.cells #[.pointer none, .slice none 0 0] 48))).heap.size = w1.heap.size + 1 := by simp
    rw [hs2] at HG2
    clear hb1 hB1 hbx1 hb0 hb2 HI0 HC hs2
    go_wp2_with fail
    refine (writeLine_any w1.heap.size w1.heap.size (w1.heap.size + 1) [] vertB _ [v] 1 _ rfl rfl HLd2 HI2 HG2.out (by omega) (by simp; omega) (by omega) (by decide) (by simp; omega)).mono ?_
    rintro e w3 ⟨rfl, HI3, HB3, _⟩
    have HI3' : Hid (Bld w1.heap.size w1.heap.size (textP (v : Int) []) w3) := Lib.hid (by simpa [textP] using HI3.out)
    have HB3' := Lib.hid (HB2.out.trans HB3.out)
    have hlen0 : (textP (v : Int) []).length ≤ 100 := by
      have := blnk_len [v] (by simp; omega)
      show (vertB ++ blnk [v] ++ [10] ++ []).length ≤ _
      simp only [List.length_append, List.length_cons, List.length_nil] at this ⊢
      have e : vertB.length = 8 := rfl
      omega
    have hbx3 := (HB3'.out.block _ hsz).trans HX1.out
    clear x0 x1
    obtain ⟨x0, x1, _⟩ := Bx.cells hbx3
    clear hbx3
    go_wp2
    go_loopg [20] L.length (fun g i wr => PnRel w1 (v : Int) L g i wr)
    case atStart => exact ⟨0, by omega, rfl, HI3'.out, HB3'.out, by simpa using hlen0⟩
    case round =>
      obtain ⟨k, hk, rfl, hi, hb, hln⟩ := hrel
      have hsr := hb.size
      by_cases hlt : k < L.length
      · obtain ⟨e, he⟩ := at_lt L k hlt
        obtain ⟨bk, o, rfl, c0, c1, c2⟩ := (HL.out.below (HB1.out.trans (hb.mono (by omega)))) k e he
        have hfe := HF.out e (List.mem_of_getElem? he)
        obtain ⟨a0, a1, a2, rfl, h1, h2, h3⟩ := fit_nat hfe
        have hbA : Below w1.heap.size w1 (wr.alloc (.cells #[.int .i64 (a0 : Int), .int .i64 (a1 : Int), .int .i64 (a2 : Int)] 42)) := hb.alloc hsr _
        have hbB : Below w1.heap.size w1 ((wr.alloc (.cells #[.int .i64 (a0 : Int), .int .i64 (a1 : Int), .int .i64 (a2 : Int)] 42)).alloc (.cells #[.int .i64 (a0 : Int), .int .i64 (a1 : Int), .int .i64 (a2 : Int)] 2)) := hbA.alloc hbA.size _
        have HI4 : Hid (Bld w1.heap.size w1.heap.size (textP (v : Int) (L.take k)) ((wr.alloc (.cells #[.int .i64 (a0 : Int), .int .i64 (a1 : Int), .int .i64 (a2 : Int)] 42)).alloc (.cells #[.int .i64 (a0 : Int), .int .i64 (a1 : Int), .int .i64 (a2 : Int)] 2))) :=
          Lib.hid (build_below (build_below hi ((Below.refl _ _).alloc (Nat.le_refl _) _)) ((Below.refl _ _).alloc (Nat.le_refl _) _))
        have HG4 := Lib.hid (heap_alloc_new (wr.alloc (.cells #[.int .i64 (a0 : Int), .int .i64 (a1 : Int), .int .i64 (a2 : Int)] 42)) (.cells #[.int .i64 (a0 : Int), .int .i64 (a1 : Int), .int .i64 (a2 : Int)] 2))
        have hs4 : (wr.alloc (.cells #[.int .i64 (a0 : Int), .int .i64 (a1 : Int), .int .i64 (a2 : Int)] 42)).heap.size = wr.heap.size + 1 := by simp
        rw [hs4] at HG4
        have HLd4 : Hid (∀ w', Below w1.heap.size ((wr.alloc (.cells #[.int .i64 (a0 : Int), .int .i64 (a1 : Int), .int .i64 (a2 : Int)] 42)).alloc (.cells #[.int .i64 (a0 : Int), .int .i64 (a1 : Int), .int .i64 (a2 : Int)] 2)) w' → Laid w') := Lib.hid fun w' h => HLd.out w' (hbB.trans h)
        have hel := edgeT_len a0 a1 a2 (by omega) (by omega) (by omega)
        have HE := Lib.hid he; have HB4 := Lib.hid hbB; have HLN := Lib.hid hln
        have hll : (textP (v : Int) (L.take k)).length + edgeB.length ≤ 10000000 := by have e : edgeB.length = 4 := rfl; omega
        clear he hi hb hbA hbB hs4 hln hfe
        go_wp2_with fail
        refine (writeLine_any w1.heap.size w1.heap.size (wr.heap.size + 1) _ edgeB _ [a0, a1, a2] 3 _ rfl rfl HLd4 HI4 HG4.out (by omega) (by simp; omega) (by omega) hll (by simp; omega)).mono ?_
        rintro e w5 ⟨rfl, HI5, HB5, _⟩
        go_wp2
        go_roundg (gk - 1)
        case measure => omega
        case rel =>
          have ee : textP (v : Int) (L.take (k + 1)) = textP (v : Int) (L.take k) ++ edgeT ((a0 : Int), (a1 : Int), (a2 : Int)) := by rw [take_at HE.out, textP_snoc]
          refine ⟨k + 1, by omega, by go_num, ?_, HB4.out.trans HB5.out, ?_⟩
          · rw [ee]; exact HI5.out
          · rw [ee, List.length_append]; have := HLN.out; omega
      · have hkn : k = L.length := by omega
        have HI6 : Hid (Bld w1.heap.size w1.heap.size (textP (v : Int) L) wr) := Lib.hid (by have := hi; rw [hkn, List.take_length] at this; exact this)
        have HB6 := Lib.hid (HB1.out.trans (hb.mono (by omega)))
        clear hi hb hln
        go_wp2_with fail
        refine (Tryz.Builder_String_any _ _ _ _ HI6.out hsr).mono ?_
        rintro e w7 ⟨rfl, hb7⟩
        have HB7 := Lib.hid hb7; clear hb7
        go_wp2
        go_ret2
        exact ⟨rfl, HB6.out.trans (HB7.out.mono (by omega))⟩
  · have hT : printB V L = [] := by unfold printB; rw [if_neg (by rw [hR]; exact h0)]
    rw [hT]
    clear hT hR
    go_enter Tryz.func11, Tryz.ntmps11
    go_wp2_with fail
    refine HC.out.mono ?_
    rintro e w1 ⟨rfl, hb1⟩
    have hB1 := Lib.hid (HZ.out.trans (hb1.mono (by simp)))
    clear hb1
    go_wp2
    go_ret2
    exact ⟨rfl, hB1.out⟩

end Go.Proofs.YtmcmpjcijbeilaaGreatDoor.Gr

/-
  What is proved here: the contract of the document's own Print of a graph: its text, or the error of Check. (And of the document's own Print of a number once more, with what it does to memory.) Conditions: numbers and counts fit an int.
-/
namespace Go.Proofs.YtmcmpjcijbeilaaGreatDoor.Gr
open Go.RowKit Wd Ws

set_option maxRecDepth 100000 in
theorem rfirst_g (K : Int) (k : Nat) (w : World) (hK : K = (k : Int)) (hk : k < 3) : Calls Tryz.prog 49 #[.int .i64 K] w fun e w' => e = .returned (.int .i32 (first k : Int)) ∧ Grw w w' := by
  subst hK
  have hb : Grw w (w.alloc (.cells #[.int .i32 48, .int .i32 1632, .int .i32 65296] 21)) := (Grw.refl w).alloc _
  have HB := Lib.hid hb; clear hb
  rcases (show k = 0 ∨ k = 1 ∨ k = 2 by omega) with rfl | rfl | rfl
  all_goals
    go_enter Tryz.func49, Tryz.ntmps49
    go_wp2
    go_ret
    exact ⟨rfl, HB.out⟩

def RgRel (w : World) (k n g : Nat) (v s : Value) (wr : World) : Prop :=
  ∃ (m : Nat) (t : List Nat), m = g ∧ m ≤ n ∧ v = .int .i64 (m : Int) ∧ s = .string (sb (flat (chs k t))) ∧ dg n = dg m ++ t ∧ t.length ≤ 100 ∧ Grw w wr

set_option maxRecDepth 100000 in
set_option maxHeartbeats 1000000 in
theorem rprint_g (n k : Nat) (w : World) (hn : n ≤ 9223372036854775807) (hk : k < 3) :
    Calls Tryz.prog 30 #[.int .i64 (n : Int), .int .i64 (k : Int)] w fun e w' => e = .returned (.string (sb (pr k n))) ∧ Grw w w' := by
  have hdl : (dg n).length ≤ 19 := dg_len n 18 (by omega)
  obtain ⟨F, hF, hF2⟩ : ∃ F : Nat, first k = F ∧ F ≤ 65296 := ⟨_, rfl, by unfold first; split <;> (try split) <;> omega⟩
  have HF := Lib.hid hF; clear hF
  go_enter Tryz.func30, Tryz.ntmps30
  go_wp2
  all_goals (try (exfalso; omega))
  go_loopg [0, 5] n (fun g v s wr => RgRel w k n g v s wr)
  case atStart => exact ⟨n, [], rfl, Nat.le_refl _, rfl, rfl, by simp, by simp, Grw.refl w⟩
  case round =>
    obtain ⟨m, t, hmg, hmn, rfl, rfl, hd, ht, hb⟩ := hrel
    subst hmg
    have HB := Lib.hid hb; clear hb
    have htl : t.length ≤ 19 := by have := congrArg List.length hd; rw [List.length_append] at this; omega
    have HD := Lib.hid hd; clear hd
    have hz2 : (sb (flat (chs k t))).size ≤ 400 := by rw [sb_size]; exact Nat.le_trans (flat_chs_len k hk t (tail_lt HD.out)) (by omega)
    by_cases hm : 9 < m
    · obtain ⟨q, d, hq, hd10, hqm⟩ : ∃ q d : Nat, m = 10 * q + d ∧ d < 10 ∧ q < m := ⟨m / 10, m % 10, by omega, by omega, by omega⟩
      have g1 : (m : Int) % 10 = (d : Int) := by omega
      have g2 : (m : Int) / 10 = (q : Int) := by omega
      have HQ := Lib.hid (show m / 10 = q ∧ m % 10 = d by omega); clear hq
      have g3 : IntKind.i32.wrap (d : Int) = (d : Int) := by rw [IntKind.wrap_i32]; omega
      have g4 : IntKind.i32.wrap ((F : Int) + (d : Int)) = (F : Int) + (d : Int) := by rw [IntKind.wrap_i32]; omega
      have hcv := conv_dch k d F HF.out hk hd10
      have hz1 : (sb (dch k d).bs).size ≤ 3 := by rw [sb_size]; exact dch_len_fin ⟨k, hk⟩ ⟨d, hd10⟩
      go_wp2_with fail
      refine (rfirst_g (k : Int) k _ rfl hk).mono ?_
      rw [HF.out]
      rintro e w1 ⟨rfl, hb1⟩
      have HB1 := Lib.hid (Grw.trans HB.out hb1); clear hb1
      go_wp2
      all_goals (try (exfalso; omega))
      go_roundg q
      case measure => omega
      case rel =>
        refine ⟨q, d :: t, rfl, by omega, rfl, ?_, ?_, by simp; omega, HB1.out⟩
        · rw [sb_append]; rfl
        · rw [HD.out, dg_big m (by omega), HQ.out.1, HQ.out.2]; simp
    · have g3 : IntKind.i32.wrap (m : Int) = (m : Int) := by rw [IntKind.wrap_i32]; omega
      have g4 : IntKind.i32.wrap ((F : Int) + (m : Int)) = (F : Int) + (m : Int) := by rw [IntKind.wrap_i32]; omega
      have hcv := conv_dch k m F HF.out hk (by omega)
      have hz1 : (sb (dch k m).bs).size ≤ 3 := by rw [sb_size]; exact dch_len_fin ⟨k, hk⟩ ⟨m, by omega⟩
      go_wp2_with fail
      refine (rfirst_g (k : Int) k _ rfl hk).mono ?_
      rw [HF.out]
      rintro e w1 ⟨rfl, hb1⟩
      have HB1 := Lib.hid (Grw.trans HB.out hb1); clear hb1
      go_wp2
      all_goals (try (exfalso; omega))
      go_ret
      refine ⟨ret_str (sb_append _ _) ?_, HB1.out⟩
      rw [pr, HD.out, dg_small m (by omega)]; rfl


theorem rprint_q (n : Nat) (w : World) (hn : n ≤ 9223372036854775807) :
    Calls Tryz.prog 30 #[.int .i64 (n : Int), .int .i64 0] w fun e w' => e = .returned (.string (sb (pr 0 n))) ∧ Grw w w' := rprint_g n 0 w hn (by omega)

def RtRel (w : World) (V : Int) (A : Option Addr) (c : Nat) (L : List Ed) (g : Nat) (s i : Value) (wr : World) : Prop :=
  ∃ k : Nat, k + g = L.length ∧ i = .int .i64 (k : Int) ∧ s = .string (sb (textP V (L.take k))) ∧ Below w.heap.size w wr ∧ wr.heap[w.heap.size]? = some (.cells #[.int .i64 V, .slice A L.length c] 24 (0, 0)) ∧ (textP V (L.take k)).length ≤ 100 + 180 * k

set_option maxRecDepth 100000 in
set_option maxHeartbeats 600000 in
theorem rprint_any (V : Int) (A : Option Addr) (c : Nat) (L : List Ed) (w : World) (hL : EAt w A L) (hm : L.length ≤ 9223372036854775807) :
    Calls Tryz.prog 12 #[.agg #[.int .i64 V, .slice A L.length c]] w fun e w' => e = .returned (.tuple #[.string (sb (printB V L)), .int .i64 (chk V L)]) ∧ Below w.heap.size w w' := by
  have mixed := mixedO
  have hz : Below w.heap.size w (w.alloc (.cells #[.int .i64 V, .slice A L.length c] 24)) := (Below.refl _ w).alloc (Nat.le_refl _) _
  obtain ⟨R, hR⟩ : ∃ R, chk V L = R := ⟨_, rfl⟩
  have hC := rcheck_any V A c L _ (hL.below hz) hm
  rw [hR] at hC
  rw [hR]
  have HC := Lib.hid hC; have HL := Lib.hid hL; have HZ := Lib.hid hz
  have hbx := Lib.hid (heap_alloc_new w (.cells #[.int .i64 V, .slice A L.length c] 24))
  clear hC hL hz
  by_cases h0 : R = 0
  · subst h0
    obtain ⟨v1, v2, v3, v4, v5⟩ := (chk_zero V L).1 hR
    have hT : printB V L = textP V L := by unfold printB; rw [if_pos hR]
    rw [hT]
    clear hT hR
    obtain ⟨v, rfl⟩ : ∃ v : Nat, V = (v : Int) := ⟨V.toNat, by rw [Int.toNat_of_nonneg (by omega)]⟩
    have HF := Lib.hid v4; clear v4 v5
    go_enter Tryz.func12, Tryz.ntmps12
    go_wp2_with fail
    refine HC.out.mono ?_
    rintro e w1 ⟨rfl, hb1⟩
    have hsz : w.heap.size < w1.heap.size := by have := hb1.size; simp at this; omega
    have hB1 := HZ.out.trans (hb1.mono (by simp))
    have hbx1 := (hb1.block _ (by simp)).trans hbx.out
    obtain ⟨x0, x1, _⟩ := Bx.cells hbx1
    have HB1 := Lib.hid hB1; have HX1 := Lib.hid hbx1
    have hpl := pr_len' v (by omega)
    have hps : (sb (pr 0 v)).size ≤ 57 := by rw [sb_size]; exact hpl
    clear hb1 hB1 hbx1 HC
    go_wp2_with fail
    refine (rprint_q v _ (by omega)).mono ?_
    rintro e w2 ⟨rfl, hg2⟩
    have HB2 := Lib.hid (step_below HB1.out (by omega) hg2.below)
    have hbx2 := (hg2.below.block _ hsz).trans HX1.out
    clear hg2 x0 x1
    obtain ⟨x0, x1, hsz2⟩ := Bx.cells hbx2
    have HX2 := Lib.hid hbx2; clear hbx2
    have hlen0 : (textP (v : Int) []).length ≤ 100 := by
      have := blnk_len [v] (by simp; omega)
      show (vertB ++ blnk [v] ++ [10] ++ []).length ≤ _
      simp only [List.length_append, List.length_cons, List.length_nil] at this ⊢
      have e : vertB.length = 8 := rfl
      omega
    have HT0 : Hid ((⟨#[118, 101, 114, 116, 105, 99, 101, 115, 32]⟩ : ByteArray) ++ sb (pr 0 v) ++ (⟨#[10]⟩ : ByteArray) = sb (textP (v : Int) [])) := Lib.hid (by
      rw [show (⟨#[118, 101, 114, 116, 105, 99, 101, 115, 32]⟩ : ByteArray) = sb [118, 101, 114, 116, 105, 99, 101, 115, 32] from rfl, show (⟨#[10]⟩ : ByteArray) = sb [10] from rfl, sb_append, sb_append]
      congr 1
      simp [textP, lineN, blnk, vertB])
    go_wp2
    go_loopg [5, 6] L.length (fun g s i wr => RtRel w (v : Int) A c L g s i wr)
    case atStart => exact ⟨0, by omega, rfl, by rw [List.take_zero, ← HT0.out], HB2.out, HX2.out, by simpa using hlen0⟩
    case round =>
      clear x0 x1
      obtain ⟨k, hk, rfl, rfl, hb, hbx3, hln⟩ := hrel
      obtain ⟨x0, x1, hsz3⟩ := Bx.cells hbx3
      by_cases hlt : k < L.length
      · obtain ⟨e, he⟩ := at_lt L k hlt
        obtain ⟨bk, o, rfl, c0, c1, c2⟩ := (HL.out.below hb) k e he
        have hfe := HF.out e (List.mem_of_getElem? he)
        obtain ⟨a0, a1, a2, rfl, h1, h2, h3⟩ := fit_nat hfe
        have hbA := hb.alloc (by omega) (.cells #[.int .i64 (a0 : Int), .int .i64 (a1 : Int), .int .i64 (a2 : Int)] 42)
        have hy := heap_alloc_new wr (.cells #[.int .i64 (a0 : Int), .int .i64 (a1 : Int), .int .i64 (a2 : Int)] 42)
        have hbx4 := (Lib.alloc_old wr (.cells #[.int .i64 (a0 : Int), .int .i64 (a1 : Int), .int .i64 (a2 : Int)] 42) _ hsz3).trans hbx3
        have HE := Lib.hid he; have HB := Lib.hid hbA; have HY := Lib.hid hy; have HX := Lib.hid hbx4; have HLN := Lib.hid hln
        obtain ⟨T, hT⟩ : ∃ T, T = textP (v : Int) (L.take k) := ⟨_, rfl⟩
        have hTl : (sb T).size ≤ 2000000 := by rw [hT, sb_size]; omega
        rw [← hT]
        have HT := Lib.hid hT; clear hT
        have p0 := pr_len' a0 (by omega); have p1 := pr_len' a1 (by omega); have p2 := pr_len' a2 (by omega)
        rw [← sb_size] at p0 p1 p2
        clear he hb hbA hy hbx3 hbx4 hln hfe
        go_wp2
        generalize hW : wr.alloc (.cells #[.int .i64 (a0 : Int), .int .i64 (a1 : Int), .int .i64 (a2 : Int)] 42) = W at HB HX HY ⊢
        clear x0 x1 c0 c1 c2 hW
        obtain ⟨y0, y1, y2, hs1⟩ := eb_cells HY.out
        have fy0 := cell_grown hs1 y0; have fy1 := cell_grown hs1 y1; have fy2 := cell_grown hs1 y2
        clear y0 y1 y2
        have hszW := (Bx.cells HX.out).2.2
        have HQ : Hid (∀ (a : Nat) n os, a ≤ 9223372036854775807 → _) := Lib.hid (fun a n os ha => Grw.quiet (rprint_q a (Sort.grow (W.drewN n) os) ha))
        refine wp_region_quiet_grown mixed (by kernel_rfl) ?_
        repeat (go_big_quiet_step ((go_at_call 30; exact HQ.out _ _ _ (by omega))))
        refine wpQuiet_nil ?_
        intro _ hw'
        obtain ⟨⟨nq, osq⟩, hw''⟩ := hw'
        subst hw''
        go_wp2
        go_roundg (gk - 1)
        case measure => omega
        case rel =>
          have hg := grw_at W nq osq
          have ee : textP (v : Int) (L.take (k + 1)) = textP (v : Int) (L.take k) ++ edgeT ((a0 : Int), (a1 : Int), (a2 : Int)) := by rw [take_at HE.out, textP_snoc]
          have hel := edgeT_len a0 a1 a2 (by omega) (by omega) (by omega)
          refine ⟨k + 1, by omega, by go_num, ?_, step_below HB.out (by omega) hg.below, (hg.below.block _ hszW).trans HX.out, by rw [ee, List.length_append]; have := HLN.out; omega⟩
          rw [ee, ← HT.out]
          rw [show (⟨#[101, 100, 103, 101, 32]⟩ : ByteArray) = sb [101, 100, 103, 101, 32] from rfl, show (⟨#[10]⟩ : ByteArray) = sb [10] from rfl, show (⟨#[32]⟩ : ByteArray) = sb [32] from rfl]
          simp only [sb_append]
          congr 2
          simp [edgeT, lineN, blnk, edgeB]
      · have hkn : k = L.length := by omega
        have HB := Lib.hid hb
        have HK := Lib.hid hkn
        clear hb hbx3 hln hkn
        go_wp2
        go_ret2
        refine ⟨?_, HB.out⟩
        have : L.take k = L := by rw [HK.out, List.take_length]
        rw [this]; rfl
  · have hT : printB V L = [] := by unfold printB; rw [if_neg (by rw [hR]; exact h0)]
    rw [hT]
    clear hT hR
    go_enter Tryz.func12, Tryz.ntmps12
    go_wp2_with fail
    refine HC.out.mono ?_
    rintro e w1 ⟨rfl, hb1⟩
    have hB1 := Lib.hid (HZ.out.trans (hb1.mono (by simp)))
    clear hb1
    go_wp2
    go_ret2
    exact ⟨rfl, hB1.out⟩

end Go.Proofs.YtmcmpjcijbeilaaGreatDoor.Gr

/-
  What is proved here: contracts of graph.Out and graph.Back (and of the closures that choose), and of the document's own Out and Back: the edges from, and to, a vertex. Conditions: at most 100000 edges.
-/
namespace Go.Proofs.YtmcmpjcijbeilaaGreatDoor.Gr
open Go.RowKit Wd Ws

/- What a closure chooses, in every world behind w. -/
def Chooses (g : Nat) (lb : Array Value) (p : Ed → Bool) (w : World) : Prop :=
  ∀ (W : World) (a b c : Int), Below w.heap.size w W → Calls Tryz.prog g (#[.agg #[.int .i64 a, .int .i64 b, .int .i64 c]] ++ lb) W fun e w' => e = .returned (.bool (p (a, b, c))) ∧ Below W.heap.size W w'
theorem Chooses.below {g : Nat} {lb : Array Value} {p : Ed → Bool} {w w' : World} (h : Chooses g lb p w) (hb : Below w.heap.size w w') : Chooses g lb p w' :=
  fun W a b c k => h W a b c (step_below hb hb.size k)

theorem out_closure (B : Nat) (v : Int) (w : World) (hB : w.cell? ⟨B, 0, none⟩ = some (.int .i64 v)) : Chooses 45 #[.pointer (some ⟨B, 0, none⟩)] (fun e => decide (e.1 = v)) w := by
  intro W a b c hb
  have hc := (hb.cell (block_lt_of_cell hB)).trans hB
  have hl := block_lt_of_cell hc
  show Calls Tryz.prog 45 #[.agg #[.int .i64 a, .int .i64 b, .int .i64 c], .pointer (some ⟨B, 0, none⟩)] W _
  clear hb hB
  have hc2 : (W.alloc (.cells #[.int .i64 a, .int .i64 b, .int .i64 c] 42)).cell? ⟨B, 0, none⟩ = some (.int .i64 v) := by
    rw [Sort.alloc_eq_grow, Sort.cell?_grow _ _ _ hl]; exact hc
  go_enter Tryz.func45, Tryz.ntmps45
  go_wp2
  go_ret
  exact ⟨rfl, ((Grw.refl W).alloc _).below⟩
theorem back_closure (B : Nat) (v : Int) (w : World) (hB : w.cell? ⟨B, 0, none⟩ = some (.int .i64 v)) : Chooses 46 #[.pointer (some ⟨B, 0, none⟩)] (fun e => decide (e.2.1 = v)) w := by
  intro W a b c hb
  have hc := (hb.cell (block_lt_of_cell hB)).trans hB
  have hl := block_lt_of_cell hc
  show Calls Tryz.prog 46 #[.agg #[.int .i64 a, .int .i64 b, .int .i64 c], .pointer (some ⟨B, 0, none⟩)] W _
  clear hb hB
  have hc2 : (W.alloc (.cells #[.int .i64 a, .int .i64 b, .int .i64 c] 42)).cell? ⟨B, 0, none⟩ = some (.int .i64 v) := by
    rw [Sort.alloc_eq_grow, Sort.cell?_grow _ _ _ hl]; exact hc
  go_enter Tryz.func46, Tryz.ntmps46
  go_wp2
  go_ret
  exact ⟨rfl, ((Grw.refl W).alloc _).below⟩

def CsRel (w : World) (L : List Ed) (p : Ed → Bool) (g : Nat) (v i : Value) (wr : World) : Prop :=
  ∃ k : Nat, k + g = L.length ∧ i = .int .i64 (k : Int) ∧ EOwn wr w.heap.size v ((L.take k).filter p) ∧ Below w.heap.size w wr
theorem filter_len (L : List Ed) (p : Ed → Bool) (k : Nat) : ((L.take k).filter p).length ≤ L.length := by
  have h1 := List.length_filter_le p (L.take k)
  have h2 : (L.take k).length ≤ L.length := by rw [List.length_take]; omega
  omega
theorem filter_yes {L : List Ed} {p : Ed → Bool} {k : Nat} {e : Ed} (h : L[k]? = some e) (hp : p e = true) : (L.take (k + 1)).filter p = (L.take k).filter p ++ [e] := by
  rw [take_at h, List.filter_append]; simp [hp]
theorem filter_no {L : List Ed} {p : Ed → Bool} {k : Nat} {e : Ed} (h : L[k]? = some e) (hp : p e = false) : (L.take (k + 1)).filter p = (L.take k).filter p := by
  rw [take_at h, List.filter_append]; simp [hp]

set_option maxRecDepth 100000 in
set_option maxHeartbeats 600000 in
theorem chosen_any (A : Option Addr) (c : Nat) (L : List Ed) (g : Nat) (lb : Array Value) (p : Ed → Bool) (w : World) (eg : ∀ args w, (callFunc g args).run Tryz.prog w = .ok (.enter g args) w) (hL : EAt w A L) (hm : L.length ≤ 100000) (hp : Chooses g lb p w) :
    Calls Tryz.prog 44 #[.slice A L.length c, .func (.func g) #[] lb] w fun e w' => ∃ v, e = .returned v ∧ EOwn w' w.heap.size v (L.filter p) ∧ Below w.heap.size w w' := by
  have HL := Lib.hid hL; have HP := Lib.hid hp; clear hL hp
  go_enter Tryz.func44, Tryz.ntmps44
  go_wp2
  go_loopg [5, 10] L.length (fun g v i wr => CsRel w L p g v i wr)
  case atStart => exact ⟨0, by omega, rfl, EOwn.none_ _ _, Below.refl _ w⟩
  case round =>
    obtain ⟨k, hk, rfl, ho, hb⟩ := hrel
    by_cases hlt : k < L.length
    · obtain ⟨e, he⟩ := at_lt L k hlt
      obtain ⟨bk, o, rfl, c0, c1, c2⟩ := (HL.out.below hb) k e he
      obtain ⟨e0, e1, e2⟩ := e
      have hb1 : Below w.heap.size w (wr.alloc (.cells #[.int .i64 e0, .int .i64 e1, .int .i64 e2] 42)) := hb.alloc hb.size _
      have ho1 := ho.alloc (.cells #[.int .i64 e0, .int .i64 e1, .int .i64 e2] 42)
      have HC := Lib.hid (HP.out _ e0 e1 e2 hb1)
      have HY := Lib.hid (heap_alloc_new wr (.cells #[.int .i64 e0, .int .i64 e1, .int .i64 e2] 42))
      have hlen := filter_len L p k
      have HB := Lib.hid hb1; have HO := Lib.hid ho1; have HE := Lib.hid he
      clear hb hb1 ho ho1 he
      go_wp2_with fail
      refine HC.out.mono ?_
      rintro er w1 ⟨rfl, hb2⟩
      clear HC c0 c1 c2
      have HY1 := Lib.hid ((hb2.block _ (lt_of_block HY.out)).trans HY.out)
      have HO1 := Lib.hid (HO.out.below hb2)
      have HB1 := Lib.hid (step_below HB.out (by have := HB.out.size; omega) hb2)
      clear hb2 HY HO HB
      obtain ⟨y0, y1, y2, hs1⟩ := eb_cells HY1.out
      cases hq : p (e0, e1, e2) with
      | true =>
        have HQ := Lib.hid hq; clear hq
        have hnew := heap_alloc_new w1 (.cells #[.int .i64 e0, .int .i64 e1, .int .i64 e2] 42)
        have HN := Lib.hid hnew; clear hnew
        have HO2 := Lib.hid (HO1.out.alloc (.cells #[.int .i64 e0, .int .i64 e1, .int .i64 e2] 42))
        have HB2 := Lib.hid (HB1.out.alloc HB1.out.size (.cells #[.int .i64 e0, .int .i64 e1, .int .i64 e2] 42))
        go_wp2_with (at_builtin; refine app_e rfl (.tmp 17) (.tmp 19) rfl w.heap.size _ _ e0 e1 e2 rfl HO2.out _ rfl HN.out ?c1 ?c2 ?_)
        case c1 => omega
        case c2 => exact HB2.out.size
        intro v' w2 ho2 hg2
        have HB3 := Lib.hid (Below.grown HB2.out hg2 HB2.out.size fun j e => (own_lt HO2.out j e).1)
        have HO3 := Lib.hid ho2; clear ho2 hg2
        go_wp2
        go_roundg (gk - 1)
        case measure => omega
        case rel => exact ⟨k + 1, by omega, by go_num, by rw [filter_yes HE.out HQ.out]; exact HO3.out, HB3.out⟩
      | false =>
        have HQ := Lib.hid hq; clear hq
        go_wp2
        go_roundg (gk - 1)
        case measure => omega
        case rel => exact ⟨k + 1, by omega, by go_num, by rw [filter_no HE.out HQ.out]; exact HO1.out, HB1.out⟩
    · have HK : Hid (k = L.length) := Lib.hid (by omega)
      have HO := Lib.hid ho; have HB := Lib.hid hb; clear ho hb
      go_wp2
      go_ret
      refine ⟨_, rfl, ?_, HB.out⟩
      have := HO.out
      rw [HK.out, List.take_length] at this
      exact this

end Go.Proofs.YtmcmpjcijbeilaaGreatDoor.Gr

/-
  What is proved here: contracts of graph.Out and graph.Back, and of the document's own Out and Back: the edges from, and to, a vertex. Conditions: at most 100000 edges.
-/
namespace Go.Proofs.YtmcmpjcijbeilaaGreatDoor.Gr
open Go.RowKit Wd Ws

set_option maxRecDepth 100000 in
theorem out_any (V v : Int) (A : Option Addr) (c : Nat) (L : List Ed) (w : World) (hL : EAt w A L) (hm : L.length ≤ 100000) :
    Calls Tryz.prog 21 #[.agg #[.int .i64 V, .slice A L.length c], .int .i64 v] w fun e w' => ∃ x, e = .returned x ∧ EOwn w' w.heap.size x (L.filter fun e => decide (e.1 = v)) ∧ Below w.heap.size w w' := by
  have hz := two_boxes w (.cells #[.int .i64 V, .slice A L.length c] 24) (.cells #[.int .i64 v] 3)
  have HC := Lib.hid (chosen_any A c L 45 #[.pointer (some ⟨w.heap.size + 1, 0, none⟩)] (fun e => decide (e.1 = v)) _ (enters_of Tryz.func45 (by kernel_rfl) rfl) (hL.below hz) hm
    (out_closure (w.heap.size + 1) v ((w.alloc (.cells #[.int .i64 V, .slice A L.length c] 24)).alloc (.cells #[.int .i64 v] 3)) (by simp)))
  have HZ := Lib.hid hz; clear hz hL
  go_enter Tryz.func21, Tryz.ntmps21
  go_wp2_with fail
  refine HC.out.mono ?_
  rintro e w' ⟨x, rfl, ho, hb⟩
  have HO := Lib.hid ho; have HB := Lib.hid hb; clear ho hb HC
  go_wp2_with fail
  go_ret
  exact ⟨x, rfl, own_mono HO.out (by simp; omega), HZ.out.trans (HB.out.mono (by simp; omega))⟩
set_option maxRecDepth 100000 in
theorem back_any (V v : Int) (A : Option Addr) (c : Nat) (L : List Ed) (w : World) (hL : EAt w A L) (hm : L.length ≤ 100000) :
    Calls Tryz.prog 22 #[.agg #[.int .i64 V, .slice A L.length c], .int .i64 v] w fun e w' => ∃ x, e = .returned x ∧ EOwn w' w.heap.size x (L.filter fun e => decide (e.2.1 = v)) ∧ Below w.heap.size w w' := by
  have hz := two_boxes w (.cells #[.int .i64 V, .slice A L.length c] 24) (.cells #[.int .i64 v] 3)
  have HC := Lib.hid (chosen_any A c L 46 #[.pointer (some ⟨w.heap.size + 1, 0, none⟩)] (fun e => decide (e.2.1 = v)) _ (enters_of Tryz.func46 (by kernel_rfl) rfl) (hL.below hz) hm
    (back_closure (w.heap.size + 1) v ((w.alloc (.cells #[.int .i64 V, .slice A L.length c] 24)).alloc (.cells #[.int .i64 v] 3)) (by simp)))
  have HZ := Lib.hid hz; clear hz hL
  go_enter Tryz.func22, Tryz.ntmps22
  go_wp2_with fail
  refine HC.out.mono ?_
  rintro e w' ⟨x, rfl, ho, hb⟩
  have HO := Lib.hid ho; have HB := Lib.hid hb; clear ho hb HC
  go_wp2_with fail
  go_ret
  exact ⟨x, rfl, own_mono HO.out (by simp; omega), HZ.out.trans (HB.out.mono (by simp; omega))⟩

def RoRel (w : World) (V : Int) (A : Option Addr) (c : Nat) (L : List Ed) (p : Ed → Bool) (g : Nat) (v i : Value) (wr : World) : Prop :=
  ∃ k : Nat, k + g = L.length ∧ i = .int .i64 (k : Int) ∧ EOwn wr w.heap.size v ((L.take k).filter p) ∧ Below w.heap.size w wr ∧ wr.heap[w.heap.size]? = some (.cells #[.int .i64 V, .slice A L.length c] 24 (0, 0)) ∧ v.ownBlock ≠ some w.heap.size

set_option maxRecDepth 100000 in
set_option maxHeartbeats 600000 in
theorem rout_any (V v : Int) (A : Option Addr) (c : Nat) (L : List Ed) (w : World) (hL : EAt w A L) (hm : L.length ≤ 100000) :
    Calls Tryz.prog 24 #[.agg #[.int .i64 V, .slice A L.length c], .int .i64 v] w fun e w' => ∃ x, e = .returned x ∧ EOwn w' w.heap.size x (L.filter fun e => decide (e.1 = v)) ∧ Below w.heap.size w w' := by
  have HL := Lib.hid hL; clear hL
  go_enter Tryz.func24, Tryz.ntmps24
  go_wp2
  go_loopg [5, 6] L.length (fun g x i wr => RoRel w V A c L (fun e => decide (e.1 = v)) g x i wr)
  case atStart => exact ⟨0, by omega, rfl, EOwn.none_ _ _, (Below.refl _ w).alloc (Nat.le_refl _) _, heap_alloc_new w _, by simp [Value.ownBlock]⟩
  case round =>
    obtain ⟨k, hk, rfl, ho, hb, hbx, hne⟩ := hrel
    obtain ⟨x0, x1, hsz⟩ := Bx.cells hbx
    by_cases hlt : k < L.length
    · obtain ⟨e, he⟩ := at_lt L k hlt
      obtain ⟨bk, o, rfl, c0, c1, c2⟩ := (HL.out.below hb) k e he
      obtain ⟨e0, e1, e2⟩ := e
      have hlen := filter_len L (fun e => decide (e.1 = v)) k
      by_cases hq : e0 = v
      · subst hq
        have hnew := heap_alloc_new wr (.cells #[.int .i64 e0, .int .i64 e1, .int .i64 e2] 42)
        have HN := Lib.hid hnew; clear hnew
        have HO2 := Lib.hid (ho.alloc (.cells #[.int .i64 e0, .int .i64 e1, .int .i64 e2] 42))
        have HB2 := Lib.hid (hb.alloc hb.size (.cells #[.int .i64 e0, .int .i64 e1, .int .i64 e2] 42))
        have HX2 := Lib.hid ((Lib.alloc_old wr (.cells #[.int .i64 e0, .int .i64 e1, .int .i64 e2] 42) _ hsz).trans hbx)
        have HE := Lib.hid he; have HNE := Lib.hid hne
        clear ho hb hbx he hne
        go_wp2_with (at_builtin; refine app_e rfl (.tmp 22) (.tmp 28) rfl w.heap.size _ _ e0 e1 e2 rfl HO2.out _ rfl HN.out ?c1 ?c2 ?_)
        case c1 => omega
        case c2 => have := HB2.out.size; simpa using this
        intro v' w2 ho2 hg2
        have HB3 := Lib.hid (Below.grown HB2.out hg2 HB2.out.size fun j e => (own_lt HO2.out j e).1)
        have HX3 := Lib.hid ((hg2.block _ (lt_of_block HX2.out) (fun h => HNE.out h.symm)).trans HX2.out)
        have HNE3 : Hid (v'.ownBlock ≠ some w.heap.size) := Lib.hid (fun h => by
          obtain ⟨_, cc, hcc⟩ := own_lt ho2 _ h
          have := HX3.out
          rw [hcc] at this; simp at this)
        have HO3 := Lib.hid ho2; clear ho2 hg2
        go_wp2
        go_roundg (gk - 1)
        case measure => omega
        case rel => exact ⟨k + 1, by omega, by go_num, by rw [filter_yes HE.out (by simp)]; exact HO3.out, HB3.out, HX3.out, HNE3.out⟩
      · have HE := Lib.hid he; have HNE := Lib.hid hne; have HO := Lib.hid ho; have HB := Lib.hid hb; have HX := Lib.hid hbx
        clear ho hb hbx he hne
        go_wp2
        go_roundg (gk - 1)
        case measure => omega
        case rel => exact ⟨k + 1, by omega, by go_num, by rw [filter_no HE.out (by simp [hq])]; exact HO.out, HB.out, HX.out, HNE.out⟩
    · have HK : Hid (k = L.length) := Lib.hid (by omega)
      have HO := Lib.hid ho; have HB := Lib.hid hb; clear ho hb hbx hne
      go_wp2
      go_ret
      refine ⟨_, rfl, ?_, HB.out⟩
      have := HO.out
      rw [HK.out, List.take_length] at this
      exact this
set_option maxRecDepth 100000 in
set_option maxHeartbeats 600000 in
theorem rback_any (V v : Int) (A : Option Addr) (c : Nat) (L : List Ed) (w : World) (hL : EAt w A L) (hm : L.length ≤ 100000) :
    Calls Tryz.prog 25 #[.agg #[.int .i64 V, .slice A L.length c], .int .i64 v] w fun e w' => ∃ x, e = .returned x ∧ EOwn w' w.heap.size x (L.filter fun e => decide (e.2.1 = v)) ∧ Below w.heap.size w w' := by
  have HL := Lib.hid hL; clear hL
  go_enter Tryz.func25, Tryz.ntmps25
  go_wp2
  go_loopg [5, 6] L.length (fun g x i wr => RoRel w V A c L (fun e => decide (e.2.1 = v)) g x i wr)
  case atStart => exact ⟨0, by omega, rfl, EOwn.none_ _ _, (Below.refl _ w).alloc (Nat.le_refl _) _, heap_alloc_new w _, by simp [Value.ownBlock]⟩
  case round =>
    obtain ⟨k, hk, rfl, ho, hb, hbx, hne⟩ := hrel
    obtain ⟨x0, x1, hsz⟩ := Bx.cells hbx
    by_cases hlt : k < L.length
    · obtain ⟨e, he⟩ := at_lt L k hlt
      obtain ⟨bk, o, rfl, c0, c1, c2⟩ := (HL.out.below hb) k e he
      obtain ⟨e0, e1, e2⟩ := e
      have hlen := filter_len L (fun e => decide (e.2.1 = v)) k
      by_cases hq : e1 = v
      · subst hq
        have hnew := heap_alloc_new wr (.cells #[.int .i64 e0, .int .i64 e1, .int .i64 e2] 42)
        have HN := Lib.hid hnew; clear hnew
        have HO2 := Lib.hid (ho.alloc (.cells #[.int .i64 e0, .int .i64 e1, .int .i64 e2] 42))
        have HB2 := Lib.hid (hb.alloc hb.size (.cells #[.int .i64 e0, .int .i64 e1, .int .i64 e2] 42))
        have HX2 := Lib.hid ((Lib.alloc_old wr (.cells #[.int .i64 e0, .int .i64 e1, .int .i64 e2] 42) _ hsz).trans hbx)
        have HE := Lib.hid he; have HNE := Lib.hid hne
        clear ho hb hbx he hne
        go_wp2_with (at_builtin; refine app_e rfl (.tmp 22) (.tmp 28) rfl w.heap.size _ _ e0 e1 e2 rfl HO2.out _ rfl HN.out ?c1 ?c2 ?_)
        case c1 => omega
        case c2 => have := HB2.out.size; simpa using this
        intro v' w2 ho2 hg2
        have HB3 := Lib.hid (Below.grown HB2.out hg2 HB2.out.size fun j e => (own_lt HO2.out j e).1)
        have HX3 := Lib.hid ((hg2.block _ (lt_of_block HX2.out) (fun h => HNE.out h.symm)).trans HX2.out)
        have HNE3 : Hid (v'.ownBlock ≠ some w.heap.size) := Lib.hid (fun h => by
          obtain ⟨_, cc, hcc⟩ := own_lt ho2 _ h
          have := HX3.out
          rw [hcc] at this; simp at this)
        have HO3 := Lib.hid ho2; clear ho2 hg2
        go_wp2
        go_roundg (gk - 1)
        case measure => omega
        case rel => exact ⟨k + 1, by omega, by go_num, by rw [filter_yes HE.out (by simp)]; exact HO3.out, HB3.out, HX3.out, HNE3.out⟩
      · have HE := Lib.hid he; have HNE := Lib.hid hne; have HO := Lib.hid ho; have HB := Lib.hid hb; have HX := Lib.hid hbx
        clear ho hb hbx he hne
        go_wp2
        go_roundg (gk - 1)
        case measure => omega
        case rel => exact ⟨k + 1, by omega, by go_num, by rw [filter_no HE.out (by simp [hq])]; exact HO.out, HB.out, HX.out, HNE.out⟩
    · have HK : Hid (k = L.length) := Lib.hid (by omega)
      have HO := Lib.hid ho; have HB := Lib.hid hb; clear ho hb hbx hne
      go_wp2
      go_ret
      refine ⟨_, rfl, ?_, HB.out⟩
      have := HO.out
      rw [HK.out, List.take_length] at this
      exact this

end Go.Proofs.YtmcmpjcijbeilaaGreatDoor.Gr

/-
  What is proved here: what the law's four texts say (by computation, over plain characters), and the print of what the first says. No condition.
-/
namespace Go.Proofs.YtmcmpjcijbeilaaGreatDoor.Gr
open Go.RowKit Wd Ws

def chA (l : List UInt8) : List Ch := l.map fun b => ⟨b.toNat, [b]⟩
theorem chOf_A (l : List UInt8) (h : rgB l (chA l) = true) : chOf l = chA l := chOf_eq (rg_of_B _ _ h)
def numsA : List (List UInt8) → Option (Option (List Nat))
  | [] => some (some [])
  | w :: ws => if rgB w (chA w) then (if (numOf (chA w)).2 = 0 then (match numsA ws with | none => none | some none => some none | some (some l) => some (some ((numOf (chA w)).1 :: l))) else some none) else none
theorem numsOf_A : ∀ (ws : List (List UInt8)) (r : Option (List Nat)), numsA ws = some r → numsOf ws = r
  | [], r, h => by obtain rfl := Option.some.inj h; rfl
  | w :: ws, r, h => by
    rw [numsA] at h
    rw [numsOf]
    split at h
    · rename_i hb
      have e : numB w = numOf (chA w) := by rw [numB, chOf_A w hb]
      rw [e]
      split at h
      · rename_i h0
        rw [if_pos h0]
        split at h
        · cases h
        · rename_i h1
          obtain rfl := Option.some.inj h
          rw [numsOf_A ws _ h1]
        · rename_i l h1
          obtain rfl := Option.some.inj h
          rw [numsOf_A ws _ h1]
      · rename_i h0
        rw [if_neg h0]; exact Option.some.inj h
    · cases h
def stepWA (V : Int) (L : List Ed) : List (List UInt8) → Option (Option (Int × List Ed))
  | [] => some (some (V, L))
  | w :: t => match numsA t with
    | none => none
    | some none => some none
    | some (some ns) => some (stepN V L w ns)
def stepA (V : Int) (L : List Ed) (l : List UInt8) : Option (Option (Int × List Ed)) :=
  if rgB l (chA l) then (if (wordsOf (chA l)).2 = 0 then stepWA V L (wordsOf (chA l)).1 else some none) else none
theorem step_A {V : Int} {L : List Ed} {l : List UInt8} {r : Option (Int × List Ed)} (h : stepA V L l = some r) : step V L l = r := by
  unfold stepA at h
  split at h
  · rename_i hb
    have e : wordsB l = wordsOf (chA l) := by rw [wordsB, chOf_A l hb]
    unfold step
    rw [e]
    split at h
    · rename_i h0
      rw [if_pos h0]
      cases hws : (wordsOf (chA l)).1 with
      | nil => rw [hws] at h; obtain rfl := Option.some.inj h; rfl
      | cons w t =>
        rw [hws] at h
        show (match numsOf t with | none => none | some ns => stepN V L w ns) = r
        replace h : (match numsA t with | none => none | some none => some none | some (some ns) => some (stepN V L w ns)) = some r := h
        cases hn : numsA t with
        | none => rw [hn] at h; cases h
        | some q =>
          rw [hn] at h
          rw [numsOf_A t _ hn]
          cases q with
          | none => exact Option.some.inj h
          | some ns => exact Option.some.inj h
    · rename_i h0
      rw [if_neg h0]; exact Option.some.inj h
  · cases h
def throughA (V : Int) (L : List Ed) (k : Nat) : List (List UInt8) → Option (Nat × Option (Int × List Ed))
  | [] => some (if V = 0 then (k + 1, none) else (0, some (V, L)))
  | x :: xs => match stepA V L x with
    | none => none
    | some none => some (k + 1, none)
    | some (some s) => throughA s.1 s.2 (k + 1) xs
theorem through_A : ∀ (xs : List (List UInt8)) (V : Int) (L : List Ed) (k : Nat) (T : Nat × Option (Int × List Ed)), throughA V L k xs = some T → through V L k xs = T
  | [], V, L, k, T, h => by obtain rfl := Option.some.inj h; rfl
  | x :: xs, V, L, k, T, h => by
    rw [throughA] at h
    rw [through]
    split at h
    · cases h
    · rename_i h1; rw [step_A h1]; exact Option.some.inj h
    · rename_i s h1; rw [step_A h1]; exact through_A xs _ _ _ _ h

def tA : List UInt8 := [118, 101, 114, 116, 105, 99, 101, 115, 32, 51, 10, 98, 111, 116, 104, 32, 48, 32, 50, 32, 53, 10, 101, 100, 103, 101, 32, 49, 32, 48, 10]
def tB : List UInt8 := [118, 101, 114, 116, 105, 99, 101, 115, 32, 50, 10, 101, 100, 103, 101, 32, 48, 32, 49, 10, 101, 100, 103, 101, 32, 48, 32, 49, 32, 57]
def tC : List UInt8 := [118, 101, 114, 116, 105, 99, 101, 115, 32, 50, 10, 101, 100, 103, 101, 32, 48, 32, 50]
def lA : List Ed := [(0, 2, 5), (2, 0, 5), (1, 0, 1)]
def mA : List Ed := [(0, 2, 5), (1, 0, 1), (2, 0, 5)]
def tP : List UInt8 := [118, 101, 114, 116, 105, 99, 101, 115, 32, 51, 10, 101, 100, 103, 101, 32, 48, 32, 50, 32, 53, 10, 101, 100, 103, 101, 32, 49, 32, 48, 32, 49, 10, 101, 100, 103, 101, 32, 50, 32, 48, 32, 53, 10]
theorem say_A : through 0 [] 0 (ln [] tA) = (0, some (3, lA)) := through_A _ _ _ _ _ (by kernel_rfl)
theorem say_B : through 0 [] 0 (ln [] tB) = (3, none) := through_A _ _ _ _ _ (by kernel_rfl)
theorem say_C : through 0 [] 0 (ln [] tC) = (2, none) := through_A _ _ _ _ _ (by kernel_rfl)
theorem say_D : through 0 [] 0 (ln [] []) = (1, none) := through_A _ _ _ _ _ (by kernel_rfl)
theorem rise_mA : Rise mA := by unfold Rise mA; decide
theorem rows_A {L : List Ed} (h : L.Perm lA) (k : Rise L) : L = mA := rise_one _ _ k rise_mA (h.trans (by unfold lA mA; decide))
theorem chk_A : chk 3 mA = 0 := by kernel_rfl
theorem print_A : printB 3 mA = tP := by
  unfold printB
  rw [if_pos chk_A]
  simp [textP, mA, edgeT, lineN, blnk, pr, dg_small, tP, vertB, edgeB, chs, flat, dch, first]
  try decide

end Go.Proofs.YtmcmpjcijbeilaaGreatDoor.Gr

/-
  What is proved here: contracts of graph.Parse at the law's four texts. Conditions: what the program's start has laid down.
-/
namespace Go.Proofs.YtmcmpjcijbeilaaGreatDoor.Gr
open Go.RowKit Wd Ws

theorem parse_A (w : World) (hLd : Hid (Laid w)) :
    Calls Tryz.prog 18 #[.string { data := #[118, 101, 114, 116, 105, 99, 101, 115, 32, 51, 10, 98, 111, 116, 104, 32, 48, 32, 50, 32, 53, 10, 101, 100, 103, 101, 32, 49, 32, 48, 10] }] w fun e w' => ∃ g c, e = .returned (.tuple #[.agg #[.int .i64 3, .slice (some ⟨g, 0, none⟩) 3 c], .int .i64 0, .int .i64 0]) ∧ Hid (EOwn w' w.heap.size (.slice (some ⟨g, 0, none⟩) 3 c) mA) ∧ Hid (Below w.heap.size w w') := by
  refine (parse_any 12 (Lib.hid order_twelve) tA w (by decide) (Lib.hid (by decide)) hLd _ (Lib.hid say_A) (Lib.hid (by rintro s hs; obtain rfl := Option.some.inj hs; decide))).mono ?_
  rintro e w' ⟨⟨v, L', rfl, hE, hp, hr⟩, hB⟩
  obtain rfl := rows_A hp hr
  obtain ⟨A, c, rfl, hA, h1, _⟩ := hE.out.form
  rcases h1 with rfl | ⟨g, rfl, _⟩
  · obtain ⟨bk, o, h, _⟩ := hA 0 (0, 2, 5) rfl; cases h
  · exact ⟨g, c, rfl, hE, hB⟩
theorem parse_B (w : World) (hLd : Hid (Laid w)) :
    Calls Tryz.prog 18 #[.string { data := #[118, 101, 114, 116, 105, 99, 101, 115, 32, 50, 10, 101, 100, 103, 101, 32, 48, 32, 49, 10, 101, 100, 103, 101, 32, 48, 32, 49, 32, 57] }] w fun e w' => e = .returned (.tuple #[.agg #[.int .i64 0, .slice none 0 0], .int .i64 3, .int .i64 41]) ∧ Hid (Below w.heap.size w w') :=
  parse_any 12 (Lib.hid order_twelve) tB w (by decide) (Lib.hid (by decide)) hLd _ (Lib.hid say_B) (Lib.hid (by rintro s hs; cases hs))
theorem parse_C (w : World) (hLd : Hid (Laid w)) :
    Calls Tryz.prog 18 #[.string { data := #[118, 101, 114, 116, 105, 99, 101, 115, 32, 50, 10, 101, 100, 103, 101, 32, 48, 32, 50] }] w fun e w' => e = .returned (.tuple #[.agg #[.int .i64 0, .slice none 0 0], .int .i64 2, .int .i64 41]) ∧ Hid (Below w.heap.size w w') :=
  parse_any 12 (Lib.hid order_twelve) tC w (by decide) (Lib.hid (by decide)) hLd _ (Lib.hid say_C) (Lib.hid (by rintro s hs; cases hs))
theorem parse_D (w : World) (hLd : Hid (Laid w)) :
    Calls Tryz.prog 18 #[.string { data := #[] }] w fun e w' => e = .returned (.tuple #[.agg #[.int .i64 0, .slice none 0 0], .int .i64 1, .int .i64 41]) ∧ Hid (Below w.heap.size w w') :=
  parse_any 12 (Lib.hid order_twelve) [] w (by decide) (Lib.hid (by intro x hx; simp [ln] at hx)) hLd _ (Lib.hid say_D) (Lib.hid (by rintro s hs; cases hs))
theorem print_at (w : World) (g c : Nat) (hE : Hid (EAt w (some ⟨g, 0, none⟩) mA)) (hLd : Hid (Laid w)) :
    Calls Tryz.prog 11 #[.agg #[.int .i64 3, .slice (some ⟨g, 0, none⟩) 3 c]] w fun e w' => e = .returned (.tuple #[.string { data := #[118, 101, 114, 116, 105, 99, 101, 115, 32, 51, 10, 101, 100, 103, 101, 32, 48, 32, 50, 32, 53, 10, 101, 100, 103, 101, 32, 49, 32, 48, 32, 49, 10, 101, 100, 103, 101, 32, 50, 32, 48, 32, 53, 10] }, .int .i64 0]) ∧ Hid (Below w.heap.size w w') := by
  refine (print_any 3 (some ⟨g, 0, none⟩) c mA w hE.out hLd.out (by decide)).mono ?_
  rintro e w' ⟨rfl, hB⟩
  rw [print_A, chk_A]
  exact ⟨rfl, Lib.hid hB⟩
theorem out_at (w : World) (g c : Nat) (hE : Hid (EAt w (some ⟨g, 0, none⟩) mA)) :
    Calls Tryz.prog 21 #[.agg #[.int .i64 3, .slice (some ⟨g, 0, none⟩) 3 c], .int .i64 0] w fun e w' => ∃ A k, e = .returned (.slice A 1 k) ∧ Hid (Below w.heap.size w w') := by
  refine (out_any 3 0 (some ⟨g, 0, none⟩) c mA w hE.out (by decide)).mono ?_
  rintro e w' ⟨x, rfl, hO, hB⟩
  obtain ⟨A, k, rfl, _⟩ := hO.form
  exact ⟨A, k, rfl, Lib.hid hB⟩
theorem back_at (w : World) (g c : Nat) (hE : Hid (EAt w (some ⟨g, 0, none⟩) mA)) :
    Calls Tryz.prog 22 #[.agg #[.int .i64 3, .slice (some ⟨g, 0, none⟩) 3 c], .int .i64 0] w fun e w' => ∃ A k, e = .returned (.slice A 2 k) ∧ Hid (Below w.heap.size w w') := by
  refine (back_any 3 0 (some ⟨g, 0, none⟩) c mA w hE.out (by decide)).mono ?_
  rintro e w' ⟨x, rfl, hO, hB⟩
  obtain ⟨A, k, rfl, _⟩ := hO.form
  exact ⟨A, k, rfl, Lib.hid hB⟩

end Go.Proofs.YtmcmpjcijbeilaaGreatDoor.Gr

/-
  What is proved here: the law's own look at whether the program works at all. Conditions: what the program's start has laid down.
-/
namespace Go.Proofs.YtmcmpjcijbeilaaGreatDoor.Gr
open Go.RowKit Wd Ws

/- The graph in its box, and its edges. -/
structure Kn (w W : World) (b g c : Nat) : Prop where
  below : Below w.heap.size w W
  box : W.heap[b]? = some (.cells #[.int .i64 3, .slice (some ⟨g, 0, none⟩) 3 c] 24 (0, 0))
  at_ : EAt W (some ⟨g, 0, none⟩) mA
theorem Kn.step {w W W' : World} {b g c : Nat} (h : Kn w W b g c) (k : Below W.heap.size W W') : Kn w W' b g c :=
  ⟨h.below.trans (k.mono h.below.size), (k.block b (lt_of_block h.box)).trans h.box, h.at_.below k⟩
theorem Kn.facts {w W : World} {b g c : Nat} (h : Kn w W b g c) : W.cell? ⟨b, 0, none⟩ = some (.int .i64 3) ∧ W.cell? ⟨b, 1, none⟩ = some (.slice (some ⟨g, 0, none⟩) 3 c) ∧ b < W.heap.size ∧
    W.cell? ⟨g, 3, none⟩ = some (.int .i64 1) ∧ W.cell? ⟨g, 4, none⟩ = some (.int .i64 0) ∧ W.cell? ⟨g, 5, none⟩ = some (.int .i64 1) := by
  obtain ⟨bk, o, e, c0, c1, c2⟩ := h.at_ 1 (1, 0, 1) rfl
  cases e
  exact ⟨by rw [Lib.cell_of_heap h.box]; rfl, by rw [Lib.cell_of_heap h.box]; rfl, lt_of_block h.box, c0, c1, c2⟩

set_option maxRecDepth 100000 in
set_option maxHeartbeats 1000000 in
theorem works_any (w : World) (hLd : Hid (Laid w)) :
    Calls Tryz.prog 10 #[] w fun e w' => e = .returned (.bool true) ∧ Hid (Below w.heap.size w w') := by
  have mixed := mixedO
  have HL : Hid (∀ w', Below w.heap.size w w' → Laid w') := Lib.hid fun w' h => hLd.out.bel h
  go_enter Tryz.func10, Tryz.ntmps10
  go_wp2_with fail
  refine (parse_A w hLd).mono ?_
  rintro e w1 ⟨g, c, rfl, HE, HB1⟩
  obtain ⟨W1, hW1⟩ : ∃ W1, W1 = w1.alloc (.cells #[.int .i64 3, .slice (some ⟨g, 0, none⟩) 3 c] 24) := ⟨_, rfl⟩
  have hb1 : Below w1.heap.size w1 W1 := by rw [hW1]; exact (Below.refl _ w1).alloc (Nat.le_refl _) _
  have hk1 : Kn w W1 w1.heap.size g c := ⟨HB1.out.trans (hb1.mono HB1.out.size), by rw [hW1]; exact heap_alloc_new w1 _, (by
    obtain ⟨A, c', e, hA, _⟩ := HE.out.form
    cases e
    exact hA.below hb1)⟩
  have HW1 := Lib.hid hW1
  have HK1 := Lib.hid hk1
  clear hW1 hk1 hb1 HE HB1
  go_wp2_with fail
  rw [← HW1.out]
  refine (parse_B W1 (Lib.hid (HL.out _ HK1.out.below))).mono ?_
  rintro e w2 ⟨rfl, HB2⟩
  obtain ⟨W2, hW2⟩ : ∃ W2, W2 = w2.alloc (.cells #[.int .i64 0, .slice none 0 0] 24) := ⟨_, rfl⟩
  have HK2 : Hid (Kn w W2 w1.heap.size g c) := Lib.hid (by
    have k := HK1.out.step HB2.out
    rw [hW2]; exact k.step ((Below.refl _ w2).alloc (Nat.le_refl _) _))
  have HW2 := Lib.hid hW2
  clear hW2 HB2 HK1
  go_wp2_with fail
  rw [← HW2.out]
  refine (parse_C W2 (Lib.hid (HL.out _ HK2.out.below))).mono ?_
  rintro e w3 ⟨rfl, HB3⟩
  obtain ⟨W3, hW3⟩ : ∃ W3, W3 = w3.alloc (.cells #[.int .i64 0, .slice none 0 0] 24) := ⟨_, rfl⟩
  have HK3 : Hid (Kn w W3 w1.heap.size g c) := Lib.hid (by
    have k := HK2.out.step HB3.out
    rw [hW3]; exact k.step ((Below.refl _ w3).alloc (Nat.le_refl _) _))
  have HW3 := Lib.hid hW3
  clear hW3 HB3 HK2
  go_wp2_with fail
  rw [← HW3.out]
  refine (parse_D W3 (Lib.hid (HL.out _ HK3.out.below))).mono ?_
  rintro e w4 ⟨rfl, HB4⟩
  obtain ⟨W4, hW4⟩ : ∃ W4, W4 = w4.alloc (.cells #[.int .i64 0, .slice none 0 0] 24) := ⟨_, rfl⟩
  have HK4 : Hid (Kn w W4 w1.heap.size g c) := Lib.hid (by
    have k := HK3.out.step HB4.out
    rw [hW4]; exact k.step ((Below.refl _ w4).alloc (Nat.le_refl _) _))
  have HW4 := Lib.hid hW4
  clear hW4 HB4 HK3
  obtain ⟨k0, k1, k2, k3, k4, k5⟩ := HK4.out.facts
  have HC5 := Lib.hid (print_at W4 g c (Lib.hid HK4.out.at_) (Lib.hid (HL.out _ HK4.out.below)))
  rw [HW4.out] at k0 k1
  go_wp2_with fail
  rw [← HW4.out]
  refine HC5.out.mono ?_
  rintro e w5 ⟨rfl, HB5⟩
  have HK5 : Hid (Kn w w5 w1.heap.size g c) := Lib.hid (HK4.out.step HB5.out)
  clear k0 k1 k2 k3 k4 k5 HB5 HC5 HK4
  obtain ⟨k0, k1, k2, k3, k4, k5⟩ := HK5.out.facts
  have HC6 := Lib.hid (out_at w5 g c (Lib.hid HK5.out.at_))
  go_wp2_with fail
  refine HC6.out.mono ?_
  rintro e w6 ⟨A6, q6, rfl, HB6⟩
  have HK6 : Hid (Kn w w6 w1.heap.size g c) := Lib.hid (HK5.out.step HB6.out)
  clear k0 k1 k2 k3 k4 k5 HB6 HC6 HK5
  obtain ⟨k0, k1, k2, k3, k4, k5⟩ := HK6.out.facts
  have HC7 := Lib.hid (back_at w6 g c (Lib.hid HK6.out.at_))
  go_wp2_with fail
  refine HC7.out.mono ?_
  rintro e w7 ⟨A7, q7, rfl, HB7⟩
  have HK7 : Hid (Below w.heap.size w w7) := Lib.hid (HK6.out.step HB7.out).below
  clear k0 k1 k2 k3 k4 k5 HB7 HC7 HK6
  go_wp2
  go_ret
  exact ⟨rfl, HK7⟩

end Go.Proofs.YtmcmpjcijbeilaaGreatDoor.Gr
