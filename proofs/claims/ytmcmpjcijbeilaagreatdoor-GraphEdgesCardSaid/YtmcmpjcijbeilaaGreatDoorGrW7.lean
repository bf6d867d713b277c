/-
  What is proved here: contracts of the library's (*strings.Builder).WriteString as this program has it, and of graph.writeLine: a word and numbers, one blank between, and a byte 10. Conditions: the builder is one that the call has made; at most 100000000 bytes.
-/
import Derived.Test.YtmcmpjcijbeilaaGreatDoorGrW1
import Derived.Test.YtmcmpjcijbeilaaGreatDoorWdR2
import Derived.Lib.AppendStr
namespace Go.Proofs.YtmcmpjcijbeilaaGreatDoor.Gr
open Go.RowKit Wd Ws

theorem infoB : (Tryz.prog.info? 5).map (fun i => (i.zero, i.size, i.bytes)) = some (some (.int .u8 0), 1, 1) := by kernel_rfl
abbrev Bld (B b : Nat) (l : List UInt8) (w : World) : Prop := Lib.IsBuilder 48 5 B b (Lib.byteCells l) w
abbrev Oth (b : Nat) (w w' : World) : Prop := Lib.OthersKept 5 (some b) w w'

set_option maxRecDepth 100000 in
set_option maxHeartbeats 1000000 in
theorem writeString_any (B b : Nat) (l : List UInt8) (s : ByteArray) (m : List UInt8) (w : World) (hs : s = sb m) (h : Hid (Bld B b l w)) (hlen : l.length + m.length ≤ 100000000) (hBw : B ≤ w.heap.size) :
    Calls Tryz.prog 47 #[.pointer (some ⟨b, 0, none⟩), .string s] w fun e w' => (∃ v, e = .returned v) ∧ Hid (Bld B b (l ++ m) w') ∧ Hid (Below B w w') ∧ Hid (Oth b w w') := by
  subst hs
  obtain ⟨i0, hi, hz0, hz1, hz2⟩ := info_parts infoB
  have hsz := sb_size m
  have hbl : (Lib.byteCells l).length = l.length := Lib.byteCells_length l
  have HI0 := Lib.hid hi; have HZ0 := Lib.hid hz0; have HZ1 := Lib.hid hz1; have HZ2 := Lib.hid hz2; clear hi hz0 hz1 hz2
  have HBL := Lib.hid hbl
  go_enter Tryz.func47, Tryz.ntmps47
  go_wp2_with fail
  refine (copyCheck_any B b (Lib.byteCells l) _ h.out).mono ?_
  rintro e w1 ⟨rfl, h1, hb1, hk1⟩
  obtain ⟨hB, v, hbk, hown, hne⟩ := h1
  have hlt : b < w1.heap.size := lt_of_block hbk
  have c0 : w1.cell? ⟨b, 0, none⟩ = some (.pointer (some ⟨b, 0, none⟩)) := by rw [Lib.cell_of_heap hbk]; rfl
  have c1 : w1.cell? ⟨b, 1, none⟩ = some v := by rw [Lib.cell_of_heap hbk]; rfl
  have HBK := Lib.hid hbk; clear hbk
  have HO := Lib.hid hown; clear hown
  have HNE := Lib.hid hne; clear hne
  have hs1 := hb1.size
  have HB1 := Lib.hid hb1; clear hb1
  have HK1 := Lib.hid hk1; clear hk1
  go_wp2_with (at_builtin; refine Lib.wpList_append_own_string _ rfl (.tmp 12) (.tmp 13) 44 9 rfl B 5 i0 Tryz.underlying44 Tryz.underlying9 HI0.out HZ0.out HZ1.out HZ2.out _ _ _ rfl HO.out (sb m) rfl ?c3 ?c4 ?c5 ?_)
  case c3 => unfold maxLen; omega
  case c4 => omega
  case c5 => omega
  intro v' w2 hown' hgrow _
  have hb2 : w2.heap[b]? = some (.cells #[.pointer (some ⟨b, 0, none⟩), v] 48 (0, 0)) := by
    rw [hgrow.block b hlt (fun e => HNE.out e.symm)]
    exact HBK.out
  have d0 : w2.cell? ⟨b, 0, none⟩ = some (.pointer (some ⟨b, 0, none⟩)) := by rw [Lib.cell_of_heap hb2]; rfl
  have d1 : w2.cell? ⟨b, 1, none⟩ = some v := by rw [Lib.cell_of_heap hb2]; rfl
  have f1 : w2.frozen? ⟨b, 1, none⟩ = false := Lib.frozen_of_heap hb2 1
  obtain ⟨ao, n', cap, rfl⟩ : ∃ ao n' cap, v' = .slice ao n' cap := by
    rcases hown'.2 with ⟨hv, _⟩ | ⟨g, cap, cur, hv, _⟩
    · exact ⟨_, _, _, hv⟩
    · exact ⟨_, _, _, hv⟩
  have HO2 := Lib.hid hown'; clear hown'
  have HG := Lib.hid hgrow; clear hgrow
  have HB2 := Lib.hid hb2; clear hb2
  go_wp2
  go_ret2
  refine ⟨⟨_, rfl⟩, Lib.hid ?_, Lib.hid ?_, Lib.hid ?_⟩
  · refine Or.inr ?_
    rw [Lib.byteCells_append]
    exact Lib.BuilderAt.put (T := 48) (e := 5) hB HB2.out (bs' := Lib.byteCells l ++ Lib.byteCells m) (by
      have := HO2.out
      rw [List.length_append, Lib.byteCells_length, Lib.byteCells_length]; exact this) (by decide)
  · exact (HB1.out.grown HG.out (by omega) (fun k hk => (own_lt HO.out k hk).1)).setCell (p := ⟨b, 1, none⟩) hB _
  · exact (HK1.out.grown HG.out (Lib.ownsRow_kind HO.out)).setCell ⟨b, 1, none⟩ rfl _

theorem oth_below {b : Nat} {w w' : World} (h : Below w.heap.size w w') : Oth b w w' := fun k _ hk _ _ => (h.block k (lt_of_block hk)).trans hk

/- A line of a word and numbers. -/
def blnk (ns : List Nat) : List UInt8 := ns.flatMap fun n => 32 :: pr 0 n
def lineN (word : List UInt8) (ns : List Nat) : List UInt8 := word ++ blnk ns
theorem blnk_snoc (ns : List Nat) (n : Nat) : blnk (ns ++ [n]) = blnk ns ++ [32] ++ pr 0 n := by simp [blnk]
theorem pr_len' (n : Nat) (hn : n ≤ 9223372036854775807) : (pr 0 n).length ≤ 57 := by
  have h1 := flat_chs_len 0 (by omega) (dg n) (dg_lt n)
  have h2 := dg_len n 18 (by omega)
  unfold pr; omega
theorem blnk_len : ∀ ns : List Nat, (∀ n ∈ ns, n ≤ 9223372036854775807) → (blnk ns).length ≤ 58 * ns.length
  | [], _ => by simp [blnk]
  | n :: ns, h => by
    have h1 := blnk_len ns fun x hx => h x (List.mem_cons_of_mem _ hx)
    have h2 := pr_len' n (h n List.mem_cons_self)
    show (32 :: pr 0 n ++ blnk ns).length ≤ _
    rw [List.length_append, List.length_cons, List.length_cons]; omega

def ints (ns : List Nat) : Array Value := (ns.map fun n : Nat => Value.int .i64 (n : Int)).toArray
theorem ints_at (ns : List Nat) (k n : Nat) (h : ns[k]? = some n) : (ints ns)[k]? = some (.int .i64 (n : Int)) := by
  unfold ints; rw [List.getElem?_toArray, List.getElem?_map, h]; rfl
structure WlR (w : World) (B b gB : Nat) (l : List UInt8) (ns : List Nat) (k : Nat) (wr : World) : Prop where
  bld : Bld B b (l ++ blnk (ns.take k)) wr
  below : Below B w wr
  oth : Oth b w wr
  row : wr.heap[gB]? = some (.cells (ints ns) 2 (0, 0))
def WlRel (w : World) (B b gB : Nat) (l : List UInt8) (ns : List Nat) (g : Nat) (i : Value) (wr : World) : Prop :=
  ∃ k : Nat, k + g = ns.length ∧ i = .int .i64 (k : Int) ∧ WlR w B b gB l ns k wr

set_option maxRecDepth 100000 in
set_option maxHeartbeats 400000 in
theorem writeLine_any (B b gB : Nat) (l word : List UInt8) (s : ByteArray) (ns : List Nat) (n : Nat) (w : World) (hs : s = sb word) (hn : ns.length = n) (hLd : Hid (∀ w', Below B w w' → Laid w')) (h : Hid (Bld B b l w)) (hg : w.heap[gB]? = some (.cells (ints ns) 2 (0, 0))) (hgb : gB ≠ b)
    (hns : ∀ x ∈ ns, x ≤ 9223372036854775807) (hn4 : n ≤ 4) (hlen : l.length + word.length ≤ 10000000) (hBw : B ≤ w.heap.size) :
    Calls Tryz.prog 28 #[.pointer (some ⟨b, 0, none⟩), .string s, .slice (some ⟨gB, 0, none⟩) n n] w fun e w' => e = .returned (.tuple #[]) ∧ Hid (Bld B b (l ++ (lineN word ns ++ [10])) w') ∧ Hid (Below B w w') ∧ Hid (Oth b w w') := by
  subst hs
  have HNS := Lib.hid hns; clear hns
  have HG := Lib.hid hg; clear hg
  have hbk := blnk_len ns HNS.out
  have HN := Lib.hid hn
  rw [hn] at hbk
  clear hn
  go_enter Tryz.func28, Tryz.ntmps28
  go_wp2_with fail
  refine (writeString_any B b l _ word _ rfl h (by omega) hBw).mono ?_
  rintro e w1 ⟨⟨v1, rfl⟩, HI1, HB1, HK1⟩
  have hsz1 := HB1.out.size
  have HG1 := Lib.hid (HK1.out gB _ HG.out (fun e => hgb (Option.some.inj e)) (fun c fz e => by simp at e))
  go_wp2
  go_loopg [13] n (fun g i wr => WlRel w B b gB (l ++ word) ns g i wr)
  case atStart => exact ⟨0, by rw [HN.out]; omega, rfl, by simpa [blnk] using HI1.out, HB1.out, HK1.out, HG1.out⟩
  case round =>
    obtain ⟨k, hk, rfl, hr⟩ := hrel
    rw [HN.out] at hk
    have hsz := hr.below.size
    by_cases hlt : k < n
    · obtain ⟨x, hx⟩ := at_lt ns k (by rw [HN.out]; exact hlt)
      have hc : wr.cell? ⟨gB, 0 + k, none⟩ = some (.int .i64 (x : Int)) := by rw [Nat.zero_add, Lib.cell_of_heap hr.row]; exact ints_at ns k x hx
      rw [Nat.zero_add] at hc
      have hxl := HNS.out x (List.mem_of_getElem? hx)
      have hp : (blnk (ns.take k)).length ≤ 58 * k := by
        have := blnk_len (ns.take k) fun y hy => HNS.out y (List.mem_of_mem_take hy)
        rw [List.length_take] at this; have := Nat.min_le_left k ns.length; omega
      have hpx := pr_len' x hxl
      have HX := Lib.hid hx; clear hx
      have HR := Lib.hid hr; clear hr
      have HBl : Hid (Bld B b (l ++ word ++ blnk (ns.take k)) wr) := Lib.hid HR.out.bld
      have hl1 : (l ++ word ++ blnk (ns.take k)).length ≤ 10000400 := by rw [List.length_append, List.length_append]; omega
      go_wp2_with fail
      refine (writeString_any B b _ _ [32] _ rfl HBl (by simp only [List.length_singleton]; omega) (by omega)).mono ?_
      rintro e w2 ⟨⟨v2, rfl⟩, HI2, HB2, HK2⟩
      have hsz2 := HB2.out.size
      go_wp2_with fail
      refine (print_ok x 0 _ (hLd.out _ (HR.out.below.trans HB2.out)) hxl (by omega)).mono ?_
      rintro e w3 ⟨rfl, hb3⟩
      have HB3 := Lib.hid hb3; clear hb3
      have hsz3 := HB3.out.size
      have HI3 : Hid (Bld B b (l ++ word ++ blnk (ns.take k) ++ [32]) w3) := Lib.hid (build_below HI2.out HB3.out)
      have hl2 : (l ++ word ++ blnk (ns.take k) ++ [32]).length ≤ 10000401 := by rw [List.length_append, List.length_singleton]; omega
      go_wp2_with fail
      refine (writeString_any B b _ _ (pr 0 x) _ rfl HI3 (by omega) (by omega)).mono ?_
      rintro e w4 ⟨⟨v4, rfl⟩, HI4, HB4, HK4⟩
      have HK34 := Lib.hid ((HR.out.oth.trans HK2.out).trans ((oth_below (b := b) HB3.out).trans HK4.out))
      have HBT := Lib.hid (HR.out.below.trans (HB2.out.trans ((HB3.out.mono (by omega : B ≤ w2.heap.size)).trans HB4.out)))
      go_wp2
      go_roundg (gk - 1)
      case measure => omega
      case rel =>
        refine ⟨k + 1, by rw [HN.out]; omega, by go_num, ?_, HBT.out, HK34.out, HK34.out gB _ HG.out (fun e => hgb (Option.some.inj e)) (fun c fz e => by simp at e)⟩
        have e : l ++ word ++ blnk (ns.take (k + 1)) = l ++ word ++ blnk (ns.take k) ++ [32] ++ pr 0 x := by rw [take_at HX.out, blnk_snoc]; simp
        rw [e]; exact HI4.out
    · have hkn : k = n := by omega
      have hI : Hid (Bld B b (l ++ word ++ blnk ns) wr) := Lib.hid (by have := hr.bld; rw [hkn, ← HN.out, List.take_length] at this; exact this)
      have HR := Lib.hid hr; clear hr
      have hl1 : (l ++ word ++ blnk ns).length ≤ 10000400 := by rw [List.length_append, List.length_append]; omega
      go_wp2_with fail
      refine (writeString_any B b _ _ [10] _ rfl hI (by simp only [List.length_singleton]; omega) (by omega)).mono ?_
      rintro e w2 ⟨⟨v2, rfl⟩, HI2, HB2, HK2⟩
      go_wp2
      go_end0
      refine ⟨rfl, Lib.hid ?_, Lib.hid (HR.out.below.trans HB2.out), Lib.hid (HR.out.oth.trans HK2.out)⟩
      have e : l ++ (lineN word ns ++ [10]) = l ++ word ++ blnk ns ++ [10] := by unfold lineN; simp
      rw [e]; exact HI2.out

end Go.Proofs.YtmcmpjcijbeilaaGreatDoor.Gr
