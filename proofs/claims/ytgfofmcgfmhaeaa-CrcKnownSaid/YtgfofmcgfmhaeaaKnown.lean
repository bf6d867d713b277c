/-
  What is proved here: the walk of the law CrcKnown (a closed statement): in every world the law's function returns true, and no block that was there has changed.
-/
import Derived.Test.YtgfofmcgfmhaeaaRing
import Derived.Test.YtgfofmcgfmhaeaaPow
import Derived.Test.YtgfofmcgfmhaeaaEven
import Derived.Test.YtgfofmcgfmhaeaaJoins
import Derived.Test.YtgfofmcgfmhaeaaProd
import Derived.Test.YtgfofmcgfmhaeaaDiv
import Derived.Deep.DeepCutAuto
import Derived.Deep.RegionHeld3
namespace Go.Proofs.Ytgfofmcgfmhaeaa
open Go.RowKit

def zer : Array Value := Array.replicate 32 (.int .u8 0)
theorem make_32 (w : World) : (Instr.makeSlice 22 (.int .i64 32) (.int .i64 32)).run Try.prog w = .ok (.slice (some ⟨w.heap.size, 0, none⟩) 32 32) (w.alloc (.cells zer 5)) := by kernel_rfl

/- A block of 32 bytes of which the first i are laid. -/
def arr (f : Nat → Int) (i : Nat) : Array Value := ((List.range 32).map fun k => Value.int .u8 (if k < i then f k else 0)).toArray
theorem arr_zero (f : Nat → Int) : arr f 0 = zer := rfl
theorem arr_size (f : Nat → Int) (i : Nat) : (arr f i).size = 32 := by simp [arr]
theorem arr_at (f : Nat → Int) (i k : Nat) (hk : k < 32) : (arr f i)[k]? = some (.int .u8 (if k < i then f k else 0)) := by
  unfold arr; rw [List.getElem?_toArray, List.getElem?_map, List.getElem?_range hk]; rfl
theorem arr_set (f : Nat → Int) (i : Nat) (hi : i < 32) : (arr f i).setIfInBounds i (.int .u8 (f i)) = arr f (i + 1) := by
  apply Array.ext_getElem?
  intro k
  rw [Array.getElem?_setIfInBounds]
  by_cases hk : k < 32
  · rw [arr_at f (i + 1) k hk]
    by_cases e : i = k
    · subst e; rw [if_pos rfl, if_pos (by rw [arr_size]; exact hi), if_pos (by omega)]
    · rw [if_neg e, arr_at f i k hk]
      by_cases l : k < i
      · rw [if_pos l, if_pos (by omega)]
      · rw [if_neg l, if_neg (by omega)]
  · have h1 : (arr f (i + 1))[k]? = none := Array.getElem?_eq_none (by rw [arr_size]; omega)
    have h2 : (arr f i)[k]? = none := Array.getElem?_eq_none (by rw [arr_size]; omega)
    rw [h1, if_neg (by omega), h2]
def fUp (k : Nat) : Int := k
def fDown (k : Nat) : Int := 31 - (k : Int)
def fFull (_ : Nat) : Int := 255
def Blk (w : World) (g : Nat) (cs : Array Value) : Prop := w.heap[g]? = some (.cells cs 5 (0, 0))
theorem Blk.set_ {w : World} {g : Nat} {cs : Array Value} (h : Blk w g cs) (i : Nat) (u : Value) : Blk (w.setCell ⟨g, i, none⟩ u) g (cs.setIfInBounds i u) := heap_setCell_same w g i cs 5 u h
theorem Blk.far {w : World} {g h : Nat} {cs : Array Value} (hb : Blk w g cs) (hne : g ≠ h) (i : Nat) (u : Value) : Blk (w.setCell ⟨h, i, none⟩ u) g cs := (heap_setCell_other w ⟨h, i, none⟩ g u hne).trans hb
theorem Blk.cell {w : World} {g : Nat} {cs : Array Value} (h : Blk w g cs) (i : Nat) : w.cell? ⟨g, i, none⟩ = cs[i]? := cell_of_row w g i cs 5 (0, 0) h
theorem Blk.free {w : World} {g : Nat} {cs : Array Value} (h : Blk w g cs) (i : Nat) : w.frozen? ⟨g, i, none⟩ = false := frozen_of_row w g i cs 5 h

def Three (w : World) (i : Nat) (g1 g2 g3 : Nat) (wx : World) : Prop :=
  w.heap.size ≤ g1 ∧ w.heap.size ≤ g2 ∧ w.heap.size ≤ g3 ∧ g1 ≠ g2 ∧ g1 ≠ g3 ∧ g2 ≠ g3 ∧ Blk wx g1 (arr fUp i) ∧ Blk wx g2 (arr fDown i) ∧ Blk wx g3 (arr fFull i) ∧ Below w.heap.size w wx
def sl (g : Nat) : Value := .slice (some ⟨g, 0, none⟩) 32 32
def CutRel (w : World) (s1 s2 s3 : Value) (wx : World) : Prop :=
  ∃ g1 g2 g3 : Nat, s1 = .slice (some ⟨g1, 0, none⟩) 32 32 ∧ s2 = .slice (some ⟨g2, 0, none⟩) 32 32 ∧ s3 = .slice (some ⟨g3, 0, none⟩) 32 32 ∧ Three w 0 g1 g2 g3 wx
theorem three_made (w : World) (g1 g2 g3 : Nat) (h1 : g1 < 3) (h2 : g2 < 3) (h3 : g3 < 3) (h12 : g1 ≠ g2) (h13 : g1 ≠ g3) (h23 : g2 ≠ g3) :
    Three w 0 (w.heap.size + g1) (w.heap.size + g2) (w.heap.size + g3) (((w.alloc (.cells zer 5)).alloc (.cells zer 5)).alloc (.cells zer 5)).drew := by
  have hb : ∀ g, g < 3 → Blk (((w.alloc (.cells zer 5)).alloc (.cells zer 5)).alloc (.cells zer 5)).drew (w.heap.size + g) zer := by
    intro g hg
    have s1 : (w.alloc (.cells zer 5)).heap.size = w.heap.size + 1 := by simp
    have s2 : ((w.alloc (.cells zer 5)).alloc (.cells zer 5)).heap.size = w.heap.size + 2 := by simp
    show (((w.alloc (.cells zer 5)).alloc (.cells zer 5)).alloc (.cells zer 5)).heap[w.heap.size + g]? = _
    rcases (by omega : g = 0 ∨ g = 1 ∨ g = 2) with rfl | rfl | rfl
    · rw [Below.heap_alloc _ _ _ (by rw [s2]; omega), Below.heap_alloc _ _ _ (by rw [s1]; omega)]; exact heap_alloc_new w _
    · have h := heap_alloc_new (w.alloc (.cells zer 5)) (.cells zer 5)
      rw [s1] at h
      rw [Below.heap_alloc _ _ _ (by rw [s2]; omega)]; exact h
    · have h := heap_alloc_new ((w.alloc (.cells zer 5)).alloc (.cells zer 5)) (.cells zer 5)
      rw [s2] at h
      exact h
  refine ⟨by omega, by omega, by omega, by omega, by omega, by omega, hb g1 h1, hb g2 h2, hb g3 h3, ?_⟩
  exact ((((Below.refl _ _).alloc (Nat.le_refl _) _).alloc (by simp) _).alloc (by simp; omega) _).drew

theorem three_step {w : World} {t g1 g2 g3 : Nat} {wr : World} (ht : t < 32) (h : Three w t g1 g2 g3 wr) :
    (wr.cell? ⟨g1, t, none⟩ = some (.int .u8 0) ∧ wr.frozen? ⟨g1, t, none⟩ = false) ∧
    ((wr.setCell ⟨g1, t, none⟩ (.int .u8 (t : Int))).cell? ⟨g2, t, none⟩ = some (.int .u8 0) ∧ (wr.setCell ⟨g1, t, none⟩ (.int .u8 (t : Int))).frozen? ⟨g2, t, none⟩ = false) ∧
    (((wr.setCell ⟨g1, t, none⟩ (.int .u8 (t : Int))).setCell ⟨g2, t, none⟩ (.int .u8 (31 - (t : Int)))).cell? ⟨g3, t, none⟩ = some (.int .u8 0) ∧ ((wr.setCell ⟨g1, t, none⟩ (.int .u8 (t : Int))).setCell ⟨g2, t, none⟩ (.int .u8 (31 - (t : Int)))).frozen? ⟨g3, t, none⟩ = false) ∧
    Three w (t + 1) g1 g2 g3 (((wr.setCell ⟨g1, t, none⟩ (.int .u8 (t : Int))).setCell ⟨g2, t, none⟩ (.int .u8 (31 - (t : Int)))).setCell ⟨g3, t, none⟩ (.int .u8 255)) := by
  obtain ⟨l1, l2, l3, n12, n13, n23, b1, b2, b3, hb⟩ := h
  have b2' := b2.far n12.symm t (.int .u8 (t : Int))
  have b3' := (b3.far n13.symm t (.int .u8 (t : Int))).far n23.symm t (.int .u8 (31 - (t : Int)))
  have hz : ∀ f, (arr f t)[t]? = some (.int .u8 0) := fun f => by rw [arr_at f t t ht, if_neg (by omega)]
  refine ⟨⟨by rw [b1.cell]; exact hz _, b1.free t⟩, ⟨by rw [b2'.cell]; exact hz _, b2'.free t⟩, ⟨by rw [b3'.cell]; exact hz _, b3'.free t⟩, l1, l2, l3, n12, n13, n23, ?_, ?_, ?_, ?_⟩
  · have h := ((b1.set_ t (.int .u8 (fUp t))).far n12 t (.int .u8 (31 - (t : Int)))).far n13 t (.int .u8 255)
    rw [arr_set fUp t ht] at h; exact h
  · have h := (b2'.set_ t (.int .u8 (fDown t))).far n23 t (.int .u8 255)
    rw [arr_set fDown t ht] at h; exact h
  · have h := b3'.set_ t (.int .u8 (fFull t))
    rw [arr_set fFull t ht] at h; exact h
  · exact ((hb.setCell (p := ⟨g1, t, none⟩) l1 _).setCell (p := ⟨g2, t, none⟩) l2 _).setCell (p := ⟨g3, t, none⟩) l3 _

def upL : List Nat := List.range 32
def downL : List Nat := (List.range 32).map fun k => 31 - k
def fullL : List Nat := List.replicate 32 255
def zeroL : List Nat := List.replicate 32 0
theorem k_zero : iv (Crc.sumB zeroL) = 2324772522 := by decide +kernel
theorem k_full : iv (Crc.sumB fullL) = 1655221059 := by decide +kernel
theorem k_up : iv (Crc.sumB upL) = 1188919630 := by decide +kernel
theorem k_down : iv (Crc.sumB downL) = 289397596 := by decide +kernel
theorem blk_bytes {w : World} {g : Nat} {f : Nat → Int} {L : List Nat} (h : Blk w g (arr f 32)) (hL : L.length = 32) (hf : ∀ k, k < 32 → ∃ x : Nat, L[k]? = some x ∧ x < 256 ∧ f k = (x : Int)) :
    Bytes w (.slice (some ⟨g, 0, none⟩) 32 32) L := by
  refine ⟨_, _, by rw [hL], fun k x hx => ?_⟩
  have hk : k < 32 := by
    rcases Nat.lt_or_ge k L.length with h | h
    · omega
    · rw [List.getElem?_eq_none h] at hx; cases hx
  obtain ⟨y, hy, hlt, hfy⟩ := hf k hk
  obtain rfl : x = y := by rw [hx] at hy; simpa using hy
  have e : (⟨g, 0, none⟩ : Addr).add k = ⟨g, k, none⟩ := by unfold Addr.add; split <;> simp_all
  exact ⟨hlt, _, rfl, by rw [e, h.cell, arr_at f 32 k hk, if_pos hk, hfy]⟩
theorem up_all : ∀ k, k < 32 → ∃ x : Nat, upL[k]? = some x ∧ x < 256 ∧ fUp k = (x : Int) := fun k hk => ⟨k, by unfold upL; rw [List.getElem?_range hk], by omega, rfl⟩
theorem down_all : ∀ k, k < 32 → ∃ x : Nat, downL[k]? = some x ∧ x < 256 ∧ fDown k = (x : Int) := fun k hk => ⟨31 - k, by unfold downL; rw [List.getElem?_map, List.getElem?_range hk]; rfl, by omega, by unfold fDown; omega⟩
theorem full_all : ∀ k, k < 32 → ∃ x : Nat, fullL[k]? = some x ∧ x < 256 ∧ fFull k = (x : Int) := fun k hk => ⟨255, by unfold fullL; rw [List.getElem?_replicate, if_pos hk], by omega, rfl⟩
theorem zero_all : ∀ k, k < 32 → ∃ x : Nat, zeroL[k]? = some x ∧ x < 256 ∧ (fun _ => 0 : Nat → Int) k = (x : Int) := fun k hk => ⟨0, by unfold zeroL; rw [List.getElem?_replicate, if_pos hk], by omega, rfl⟩
theorem zer_bytes (w : World) : Bytes (w.alloc (.cells zer 5)) (.slice (some ⟨w.heap.size, 0, none⟩) 32 32) zeroL :=
  blk_bytes (f := fun _ => 0) (heap_alloc_new w _) (by decide) zero_all
def F3 (w : World) (g1 g2 g3 : Nat) (wr : World) : Prop :=
  Bytes wr (.slice (some ⟨g1, 0, none⟩) 32 32) upL ∧ Bytes wr (.slice (some ⟨g2, 0, none⟩) 32 32) downL ∧ Bytes wr (.slice (some ⟨g3, 0, none⟩) 32 32) fullL ∧ Below w.heap.size w wr
theorem f3_of {w : World} {g1 g2 g3 : Nat} {wr : World} (h : Three w 32 g1 g2 g3 wr) : F3 w g1 g2 g3 wr := by
  obtain ⟨_, _, _, _, _, _, b1, b2, b3, hb⟩ := h
  exact ⟨blk_bytes b1 (by decide) up_all, blk_bytes b2 (by decide) down_all, blk_bytes b3 (by decide) full_all, hb⟩
theorem F3.below {w : World} {g1 g2 g3 : Nat} {w1 w2 : World} (h : F3 w g1 g2 g3 w1) (hb : Below w1.heap.size w1 w2) : F3 w g1 g2 g3 w2 :=
  ⟨h.1.below hb, h.2.1.below hb, h.2.2.1.below hb, h.2.2.2.trans (hb.mono h.2.2.2.size)⟩
theorem sum_lit {v : Value} {l : List Nat} {w : World} {n : Int} (h : Bytes w v l) (hn : l.length ≤ 9223372036854775807) (e : iv (Crc.sumB l) = n) :
    Calls Try.prog 11 #[v] w fun e w' => e = .returned (.int .u32 n) ∧ Below w.heap.size w w' := by
  subst e; exact sum_any v l w hn h

theorem one_byte (w : World) (t : Nat) (ht : t < 256) : Bytes (w.alloc (.cells #[.int .u8 (t : Int)] 5)) (.slice (some ⟨w.heap.size, 0, none⟩) 1 1) [t] := by
  refine ⟨_, _, rfl, fun k x hx => ?_⟩
  cases k with
  | zero =>
    have e : (⟨w.heap.size, 0, none⟩ : Addr).add 0 = ⟨w.heap.size, 0, none⟩ := by unfold Addr.add; simp
    obtain rfl : t = x := by simpa using hx
    exact ⟨ht, _, rfl, by rw [e, cell_of_row _ _ _ _ _ _ (heap_alloc_new w _)]; rfl⟩
  | succ k => simp at hx
theorem three_bytes (w : World) (t : Nat) (ht : t < 256) : Bytes (w.alloc (.cells #[.int .u8 0, .int .u8 (t : Int), .int .u8 1] 5)) (.slice (some ⟨w.heap.size, 0, none⟩) 3 3) [0, t, 1] := by
  refine ⟨_, _, rfl, fun k x hx => ?_⟩
  have e : (⟨w.heap.size, 0, none⟩ : Addr).add k = ⟨w.heap.size, k, none⟩ := by unfold Addr.add; split <;> simp_all
  rcases k with _|_|_|k
  · obtain rfl : 0 = x := by simpa using hx
    exact ⟨by omega, _, rfl, by rw [e, cell_of_row _ _ _ _ _ _ (heap_alloc_new w _)]; rfl⟩
  · obtain rfl : t = x := by simpa using hx
    exact ⟨ht, _, rfl, by rw [e, cell_of_row _ _ _ _ _ _ (heap_alloc_new w _)]; rfl⟩
  · obtain rfl : 1 = x := by simpa using hx
    exact ⟨by omega, _, rfl, by rw [e, cell_of_row _ _ _ _ _ _ (heap_alloc_new w _)]; rfl⟩
  · simp at hx
theorem word_iv (a : Int) (h0 : 0 ≤ a) (h1 : a < 4294967296) : ∃ x : BitVec 32, a = iv x :=
  ⟨BitVec.ofNat 32 a.toNat, by rw [← iv_of _ (by omega)]; omega⟩
theorem prod_int (a b n : Int) (w : World) (h0 : 0 ≤ a) (h1 : a < 4294967296) (h2 : 0 ≤ b) (h3 : b < 4294967296) (h4 : n ≤ 9223372036854775807) :
    Calls Try.prog 4 #[.int .u32 a, .int .u32 b, .int .i64 n] w fun e w' => e = .returned (.bool true) ∧ Below w.heap.size w w' := by
  obtain ⟨x, rfl⟩ := word_iv a h0 h1
  obtain ⟨y, rfl⟩ := word_iv b h2 h3
  exact prod_walk x y n w h4
theorem ring_int (a b c : Int) (w : World) (h0 : 0 ≤ a) (h1 : a < 4294967296) (h2 : 0 ≤ b) (h3 : b < 4294967296) (h4 : 0 ≤ c) (h5 : c < 4294967296) :
    Calls Try.prog 5 #[.int .u32 a, .int .u32 b, .int .u32 c] w fun e w' => e = .returned (.bool true) ∧ Below w.heap.size w w' := by
  obtain ⟨x, rfl⟩ := word_iv a h0 h1
  obtain ⟨y, rfl⟩ := word_iv b h2 h3
  obtain ⟨z, rfl⟩ := word_iv c h4 h5
  exact ring_walk x y z w

theorem low_alloc {w w2 : World} (h : Below w.heap.size w w2) (o : Obj) : Below w.heap.size w (w2.alloc o) := h.alloc h.size o
theorem Bytes.at_ {w : World} {B : Option Addr} {n c : Nat} {l : List Nat} (h : Bytes w (.slice B n c) l) : At w B l ∧ l.length = n := by
  obtain ⟨A, c', e, hc⟩ := h
  simp only [Value.slice.injEq] at e
  obtain ⟨rfl, rfl, rfl⟩ := e
  exact ⟨hc, rfl⟩
theorem rows_made {w w2 : World} {g1 g2 g3 t : Nat} (h : F3 w g1 g2 g3 (w2.alloc (.cells #[.slice (some ⟨g1, 0, none⟩) 32 32, .slice none 0 0, .slice (some ⟨g2, 0, none⟩) t 32, .slice (some ⟨g3, 0, none⟩) 32 32] 22))) (ht : t ≤ 32) :
    RowsB (w2.alloc (.cells #[.slice (some ⟨g1, 0, none⟩) 32 32, .slice none 0 0, .slice (some ⟨g2, 0, none⟩) t 32, .slice (some ⟨g3, 0, none⟩) 32 32] 22)) (.slice (some ⟨w2.heap.size, 0, none⟩) 4 4) [upL, [], downL.take t, fullL] := by
  obtain ⟨h1, h2, h3, _⟩ := h
  refine ⟨_, _, rfl, fun i l hi => ?_⟩
  have e : (⟨w2.heap.size, 0, none⟩ : Addr).add i = ⟨w2.heap.size, i, none⟩ := by unfold Addr.add; split <;> simp_all
  rcases i with _|_|_|_|i
  · obtain rfl : upL = l := by simpa using hi
    exact ⟨by decide, _, some ⟨g1, 0, none⟩, 32, rfl, by rw [e, cell_of_row _ _ _ _ _ _ (heap_alloc_new w2 _)]; rfl, (fun e => by cases e), h1.at_.1⟩
  · obtain rfl : [] = l := by simpa using hi
    exact ⟨by decide, _, none, 0, rfl, by rw [e, cell_of_row _ _ _ _ _ _ (heap_alloc_new w2 _)]; rfl, fun _ => rfl, fun k x hx => by simp at hx⟩
  · obtain rfl : downL.take t = l := by simpa using hi
    have hl : (downL.take t).length = t := by rw [List.length_take]; have : downL.length = 32 := by decide
                                              omega
    refine ⟨by rw [hl]; omega, _, some ⟨g2, 0, none⟩, 32, rfl, by rw [e, cell_of_row _ _ _ _ _ _ (heap_alloc_new w2 _), hl]; rfl, fun e => (by cases e), ?_⟩
    intro k x hx
    rw [List.getElem?_take] at hx
    split at hx
    · exact h2.at_.1 k x hx
    · cases hx
  · obtain rfl : fullL = l := by simpa using hi
    exact ⟨by decide, _, some ⟨g3, 0, none⟩, 32, rfl, by rw [e, cell_of_row _ _ _ _ _ _ (heap_alloc_new w2 _)]; rfl, (fun e => by cases e), h3.at_.1⟩
  · simp at hi
theorem joins_made {w w2 : World} {g1 g2 g3 t : Nat} (h : F3 w g1 g2 g3 (w2.alloc (.cells #[.slice (some ⟨g1, 0, none⟩) 32 32, .slice none 0 0, .slice (some ⟨g2, 0, none⟩) t 32, .slice (some ⟨g3, 0, none⟩) 32 32] 22))) (ht : t ≤ 32) (n : Int) :
    Calls Try.prog 7 #[.slice (some ⟨w2.heap.size, 0, none⟩) 4 4, .int .i64 n] (w2.alloc (.cells #[.slice (some ⟨g1, 0, none⟩) 32 32, .slice none 0 0, .slice (some ⟨g2, 0, none⟩) t 32, .slice (some ⟨g3, 0, none⟩) 32 32] 22)) fun e w' => e = .returned (.bool true) ∧ Below (w2.alloc (.cells #[.slice (some ⟨g1, 0, none⟩) 32 32, .slice none 0 0, .slice (some ⟨g2, 0, none⟩) t 32, .slice (some ⟨g3, 0, none⟩) 32 32] 22)).heap.size (w2.alloc (.cells #[.slice (some ⟨g1, 0, none⟩) 32 32, .slice none 0 0, .slice (some ⟨g2, 0, none⟩) t 32, .slice (some ⟨g3, 0, none⟩) 32 32] 22)) w' :=
  joins_walk _ _ n _ (by show 4 ≤ maxLen; decide) (rows_made h ht)
theorem even_made {w w2 : World} {g1 g2 g3 : Nat} (h : F3 w g1 g2 g3 w2) :
    Calls Try.prog 8 #[.slice (some ⟨g1, 0, none⟩) 32 32, .slice (some ⟨g2, 0, none⟩) 32 32] w2 fun e w' => e = .returned (.bool true) ∧ Below w2.heap.size w2 w' :=
  even_walk _ _ _ _ w2 h.1 h.2.1
theorem joins_nil (n : Int) (w : World) : Calls Try.prog 7 #[.slice none 0 0, .int .i64 n] w fun e w' => e = .returned (.bool true) ∧ Below w.heap.size w w' :=
  joins_walk _ [] n w (by decide) ⟨none, 0, rfl, fun i l h => by simp at h⟩

theorem joins_one (w : World) (n : Int) :
    Calls Try.prog 7 #[.slice (some ⟨w.heap.size + 1, 0, none⟩) 1 1, .int .i64 n] ((w.alloc (.cells #[] 5)).alloc (.cells #[.slice (some ⟨w.heap.size, 0, none⟩) 0 0] 22)) fun e w' => e = .returned (.bool true) ∧ Below w.heap.size w w' := by
  have hb : Below w.heap.size w ((w.alloc (.cells #[] 5)).alloc (.cells #[.slice (some ⟨w.heap.size, 0, none⟩) 0 0] 22)) := ((Below.refl _ _).alloc (Nat.le_refl _) _).alloc (by simp) _
  refine (joins_walk _ [[]] n _ (by decide) ⟨_, 1, rfl, fun i l hi => ?_⟩).mono fun e w' ⟨h1, h2⟩ => ⟨h1, hb.trans (h2.mono hb.size)⟩
  cases i with
  | zero =>
    obtain rfl : [] = l := by simpa using hi
    have e : (⟨w.heap.size + 1, 0, none⟩ : Addr).add 0 = ⟨w.heap.size + 1, 0, none⟩ := by unfold Addr.add; simp
    refine ⟨by decide, _, some ⟨w.heap.size, 0, none⟩, 0, rfl, ?_, (fun e => by cases e), fun k x hx => by simp at hx⟩
    rw [e, cell_of_row _ _ _ _ _ _ (heap_alloc2_new w _ _)]; rfl
  | succ i => simp at hi

theorem ring_bit (t : Nat) (w : World) :
    Calls Try.prog 5 #[.int .u32 (IntKind.u32.wrap (2 ^ t)), .int .u32 2197175160, .int .u32 (IntKind.u32.wrap (2 ^ (31 - t)))] w fun e w' => e = .returned (.bool true) ∧ Below w.heap.size w w' := by
  have h : ∀ x : Int, 0 ≤ IntKind.u32.wrap x ∧ IntKind.u32.wrap x < 4294967296 := fun x => by rw [IntKind.wrap_u32']; omega
  exact ring_int _ _ _ w (h _).1 (h _).2 (by decide) (by decide) (h _).1 (h _).2

set_option maxRecDepth 100000 in
set_option maxHeartbeats 1000000 in
theorem known_walk (w : World) : Calls Try.prog 9 #[] w fun e w' => e = .returned (.bool true) ∧ Below w.heap.size w w' := by
  have hmk := make_32
  go_enter Try.func9, Try.ntmps9
  go_upto_region 1 with fail
  go_cut [1, 2, 3] (fun s1 s2 s3 wx => CutRel w s1 s2 s3 wx)
  case first =>
    go_region
    all_goals
      go_wp2_with fail
      go_meet
      first
        | exact ⟨_, _, _, rfl, rfl, rfl, three_made w 0 1 2 (by omega) (by omega) (by omega) (by omega) (by omega) (by omega)⟩
        | exact ⟨_, _, _, rfl, rfl, rfl, three_made w 0 2 1 (by omega) (by omega) (by omega) (by omega) (by omega) (by omega)⟩
        | exact ⟨_, _, _, rfl, rfl, rfl, three_made w 1 0 2 (by omega) (by omega) (by omega) (by omega) (by omega) (by omega)⟩
        | exact ⟨_, _, _, rfl, rfl, rfl, three_made w 1 2 0 (by omega) (by omega) (by omega) (by omega) (by omega) (by omega)⟩
        | exact ⟨_, _, _, rfl, rfl, rfl, three_made w 2 0 1 (by omega) (by omega) (by omega) (by omega) (by omega) (by omega)⟩
        | exact ⟨_, _, _, rfl, rfl, rfl, three_made w 2 1 0 (by omega) (by omega) (by omega) (by omega) (by omega) (by omega)⟩
  case rest =>
    clear hmk
    obtain ⟨g1, g2, g3, rfl, rfl, rfl, h3⟩ := hcut
    have H3 := Lib.hid h3; clear h3
    go_wp2
    go_loopg [4] 32 (fun k i wr => ∃ t : Nat, t + k = 32 ∧ i = .int .i64 (t : Int) ∧ Three w t g1 g2 g3 wr)
    case atStart => exact ⟨0, by omega, rfl, H3.out⟩
    case round =>
      clear H3
      obtain ⟨t, hk, rfl, h3⟩ := hrel
      by_cases hlt : t < 32
      · obtain ⟨c1, c2, c3, hs⟩ := three_step hlt h3
        have f1 := h3.2.2.2.2.2.2.1.free t
        have HS := Lib.hid hs
        clear h3 hs
        go_wp2
        go_roundg (gk - 1)
        case measure => omega
        case rel => exact ⟨t + 1, by omega, by go_num, HS.out⟩
      · obtain rfl : t = 32 := by omega
        have hF := f3_of h3
        clear h3 hlt hk
        have HF := Lib.hid hF; clear hF
        have hmk := make_32
        go_wp2_with fail
        clear hmk
        have hz := zer_bytes wr
        have hb0 : Below wr.heap.size wr (wr.alloc (.cells zer 5)) := (Below.refl _ _).alloc (Nat.le_refl _) _
        have HF1 := Lib.hid (HF.out.below hb0)
        clear hb0 HF
        refine (sum_lit hz (by decide) k_zero).mono ?_
        rintro e w1 ⟨rfl, hb1⟩
        have HF2 := Lib.hid (HF1.out.below hb1)
        clear hb1 HF1 hz
        go_wp2_with fail
        refine (sum_lit HF2.out.2.2.1 (by decide) k_full).mono ?_
        rintro e w2 ⟨rfl, hb2⟩
        have HF3 := Lib.hid (HF2.out.below hb2)
        clear hb2 HF2
        go_wp2_with fail
        refine (sum_lit HF3.out.1 (by decide) k_up).mono ?_
        rintro e w3 ⟨rfl, hb3⟩
        have HF4 := Lib.hid (HF3.out.below hb3)
        clear hb3 HF3
        go_wp2_with fail
        refine (sum_lit HF4.out.2.1 (by decide) k_down).mono ?_
        rintro e w4 ⟨rfl, hb4⟩
        have HF5 := Lib.hid (HF4.out.below hb4)
        clear hb4 HF4
        go_wp2
        go_loopg [5] 256 (fun k i wr => ∃ t : Nat, t + k = 256 ∧ i = .int .i64 (t : Int) ∧ F3 w g1 g2 g3 wr)
        case atStart => exact ⟨0, by omega, rfl, HF5.out⟩
        case round =>
          clear HF5
          obtain ⟨t, hk, rfl, hF⟩ := hrel
          have HF := Lib.hid hF; clear hF
          by_cases hlt : t < 256
          · have hb0 : Below wr.heap.size wr (wr.alloc (.cells #[.int .u8 (t : Int)] 5)) := (Below.refl _ _).alloc (Nat.le_refl _) _
            have HF1 := Lib.hid (HF.out.below hb0)
            have hby := one_byte wr t hlt
            have HY := Lib.hid hby
            clear hb0 hby HF
            go_wp2_with fail
            refine (div_walk _ _ _ HY.out).mono ?_
            rintro e w1 ⟨rfl, hb1⟩
            have HF2 := Lib.hid (HF1.out.below hb1)
            have hb0 : Below w1.heap.size w1 (w1.alloc (.cells #[.int .u8 0, .int .u8 (t : Int), .int .u8 1] 5)) := (Below.refl _ _).alloc (Nat.le_refl _) _
            have HF3 := Lib.hid (HF2.out.below hb0)
            have hby := three_bytes w1 t hlt
            have HY2 := Lib.hid hby
            clear hb0 hby hb1 HF1 HF2 HY
            go_wp2_with fail
            refine (div_walk _ _ _ HY2.out).mono ?_
            rintro e w2 ⟨rfl, hb2⟩
            have HF4 := Lib.hid (HF3.out.below hb2)
            clear hb2 HF3 HY2
            go_wp2_with fail
            refine (prod_int _ _ _ _ (by omega) (by omega) (by omega) (by omega) (by omega)).mono ?_
            rintro e w3 ⟨rfl, hb3⟩
            have HF5 := Lib.hid (HF4.out.below hb3)
            clear hb3 HF4
            go_wp2
            go_roundg (gk - 1)
            case measure => omega
            case rel => exact ⟨t + 1, by omega, by go_num, HF5.out⟩
          · obtain rfl : t = 256 := by omega
            go_wp2
            go_loopg [6] 32 (fun k i wr => ∃ t : Nat, t + k = 32 ∧ i = .int .i64 (t : Int) ∧ F3 w g1 g2 g3 wr)
            case atStart => exact ⟨0, by omega, rfl, HF.out⟩
            case round =>
              clear HF hlt hk
              obtain ⟨t, hk, rfl, hF⟩ := hrel
              have HF := Lib.hid hF; clear hF
              by_cases hlt : t < 32
              · go_wp2
                have i1 : (0 : Int) ≤ (t : Int) := by omega
                have i2 : (0 : Int) ≤ 31 - (t : Int) := by omega
                have i3 : (t : Int) ≤ 32 := by omega
                have i4 : IntKind.i64.wrap (31 - (t : Int)) = 31 - (t : Int) := IntWalk.i64_in _ (by omega)
                have i5 : IntKind.i64.wrap ((t : Int) * 7) = (t : Int) * 7 := IntWalk.i64_in _ (by omega)
                have i6 : IntKind.i64.wrap ((t : Int) * 7 - 50) = (t : Int) * 7 - 50 := IntWalk.i64_in _ (by omega)
                go_region_held3 (fun w' => Below wr.heap.size wr w')
                  (first | exact (Below.refl _ _).drew | assumption | exact keep_b (by assumption) hb2 | exact low_alloc (by assumption) _)
                  (first
                    | (go_at_call 5; (with_reducible refine (ring_bit t _).mono ?_); rintro e w2 ⟨rfl, hb2⟩)
                    | (go_at_call 6; (with_reducible refine (powers_walk _ _ _).mono ?_); rintro e w2 ⟨rfl, hb2⟩)
                    | (go_at_call 7; (with_reducible refine (joins_made (g1 := g1) (g2 := g2) (g3 := g3) (w := w) (t := t) ?_ ?_ _).mono ?_); (exact HF.out.below (by assumption)); (exact Nat.le_of_lt hlt); rintro e w2 ⟨rfl, hb2⟩)
                    | (go_at_call 8; (with_reducible refine (even_made (g1 := g1) (g2 := g2) (g3 := g3) (w := w) ?_).mono ?_); (exact HF.out.below (by assumption)); rintro e w2 ⟨rfl, hb2⟩))
                clear i4 i5 i6
                rename Below wr.heap.size wr w2 => hS
                have HF1 := Lib.hid (HF.out.below hS)
                clear hS hb2 HF
                go_wp2
                go_roundg (gk - 1)
                case measure => omega
                case rel => exact ⟨t + 1, by omega, by go_num, HF1.out⟩
              · obtain rfl : t = 32 := by omega
                go_wp2_with fail
                refine (power_below _ _ (by decide)).mono ?_
                rintro e w1 ⟨rfl, rfl⟩
                go_wp2_with fail
                refine (joins_nil _ _).mono ?_
                rintro e w1 ⟨rfl, hb1⟩
                have HF1 := Lib.hid (HF.out.below hb1)
                clear hb1 HF
                go_wp2_with fail
                refine (joins_one w1 3).mono ?_
                rintro e w2 ⟨rfl, hb2⟩
                have HF2 := Lib.hid (HF1.out.below hb2)
                clear hb2 HF1
                go_wp2_with fail
                refine (works_any _).mono ?_
                rintro e w3 ⟨rfl, hb3⟩
                have HF3 := Lib.hid (HF2.out.below hb3)
                clear hb3 HF2
                go_wp2
                go_ret
                exact ⟨rfl, HF3.out.2.2.2⟩

end Go.Proofs.Ytgfofmcgfmhaeaa
