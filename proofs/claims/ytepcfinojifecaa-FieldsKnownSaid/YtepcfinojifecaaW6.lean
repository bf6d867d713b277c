/-
  What is proved here: contracts of the document's Digits and Number, and what a slice of bytes is as a string. Conditions: at most 8 digits.
-/
import Derived.Test.YtepcfinojifecaaW3
import Derived.Test.YtepcfinojifecaaW5
namespace Go.Proofs.Ytepcfinojifecaa
open Go.RowKit

def DigRel (w : World) (all : List Nat) (wd g : Nat) (rest i : Value) (wr : World) : Prop := PutRel w all wd g rest i wr

set_option maxHeartbeats 1000000 in
theorem digits_any (n k : Nat) (w : World) (hn : n < 18446744073709551616) (hk : k ≤ 8) :
    Calls Try.prog 30 #[.int .u64 (n : Int), .int .i64 (k : Int)] w fun e w' => e = .returned (.slice (some ⟨w.heap.size, 0, none⟩) k k) ∧ Row w' w.heap.size (Fld.dg k n) ∧ Below w.heap.size w w' := by
  have hmk := fun W => run_make_row' (P := Try.prog) 31 5 (.int .u8 0) 1 Try.underlying31 info5 rfl .i64 .i64 k (by omega) (by omega) W
  have hz := Row.made w k
  have HZ := Lib.hid hz; clear hz
  go_enter Try.func30, Try.ntmps30
  go_wp2
  clear hmk
  go_loopg [0, 6] k (fun g r i wr => DigRel w (Fld.dg k n) k g r i wr)
  case atStart => exact ⟨n, [], _, rfl, rfl, by omega, by omega, by simp, by have := HZ.out; simpa [Fld.fill] using this, by simp, (Below.refl _ _).alloc (Nat.le_refl _) _⟩
  case round =>
    obtain ⟨m, low, I, rfl, rfl, hI, hm2, hl, hr, hd, hb⟩ := hrel
    rcases Nat.eq_zero_or_pos gk with hz | hz
    · subst hz
      obtain rfl : I = -1 := by omega
      obtain ⟨r1, r2⟩ := put_end hl hr hd
      clear hI hl hr hd r2
      have R1 := Lib.hid r1; clear r1
      have HB := Lib.hid hb; clear hb
      go_wp2
      go_ret
      exact ⟨rfl, R1.out, HB.out⟩
    · obtain ⟨j, rfl⟩ : ∃ j, gk = j + 1 := ⟨gk - 1, by omega⟩
      obtain rfl : I = (j : Int) := by omega
      obtain ⟨u, hc, hf⟩ := put_cell hr
      have hj : j < k := by omega
      have HR := Lib.hid hr; clear hr
      have HD := Lib.hid hd; clear hd
      have HL := Lib.hid hl; clear hl
      have HB := Lib.hid hb; clear hb
      go_wp2
      go_roundg j
      case measure => omega
      case rel => exact put_step hm2 HL.out HR.out HD.out HB.out _ (by omega)
theorem digits_lit (n k : Nat) (q : Int) (w : World) (hq : q = (k : Int)) (hn : n < 18446744073709551616) (hk : k ≤ 8) :
    Calls Try.prog 30 #[.int .u64 (n : Int), .int .i64 q] w fun e w' => e = .returned (.slice (some ⟨w.heap.size, 0, none⟩) k k) ∧ Row w' w.heap.size (Fld.dg k n) ∧ Below w.heap.size w w' := by
  subst hq; exact digits_any n k w hn hk

set_option maxHeartbeats 1000000 in
theorem number_any (A : Option Addr) (c : Nat) (x : List Nat) (w : World) (hx8 : x.length ≤ 8) (ha : At w A x) :
    Calls Try.prog 21 #[.slice A x.length c] w fun e w' => e = .returned (.int .u64 ((Fld.num x : Nat) : Int)) ∧ w = w' := by
  have HA := Lib.hid ha; clear ha
  go_enter Try.func21, Try.ntmps21
  go_wp2
  go_loopg [3, 4] x.length (fun g n i wr => ReadRel x w g n i wr)
  case atStart => exact ⟨0, by omega, rfl, rfl, rfl⟩
  case round =>
    obtain ⟨j, hj, rfl, rfl, rfl⟩ := hrel
    by_cases hlt : j < x.length
    · obtain ⟨hy, ad, rfl, hc⟩ := HA.out j x[j] (List.getElem?_eq_getElem hlt)
      have HS := Lib.hid (Fld.num_take x j hlt)
      have hroom := num_room x j HA.out.small hx8 hlt
      generalize Fld.num (x.take j) = m at HS hroom ⊢
      generalize x[j] = y at HS hy hc ⊢
      go_wp2
      go_roundg (gk - 1)
      case measure => omega
      case rel => exact ⟨j + 1, by omega, by go_num, by rw [HS.out]; go_num, rfl⟩
    · obtain rfl : j = x.length := by omega
      rw [List.take_length]
      go_wp2
      go_ret
      exact ⟨rfl, rfl⟩

/- A slice of bytes as a string. -/
def str (l : List Nat) : ByteArray := ⟨(l.map fun x => UInt8.ofNat x).toArray⟩
theorem str_size (l : List Nat) : (str l).size = l.length := by simp [str, ByteArray.size]
theorem str_inj {a b : List Nat} (ha : ∀ x ∈ a, x < 256) (hb : ∀ x ∈ b, x < 256) (h : str a = str b) : a = b := by
  have h1 : (a.map fun x => UInt8.ofNat x) = (b.map fun x => UInt8.ofNat x) := by
    have := congrArg (fun s : ByteArray => s.data.toList) h
    simpa [str] using this
  have h2 := congrArg (List.map UInt8.toNat) h1
  rw [List.map_map, List.map_map] at h2
  have e : ∀ l : List Nat, (∀ x ∈ l, x < 256) → l.map (UInt8.toNat ∘ fun x => UInt8.ofNat x) = l := by
    intro l
    induction l with
    | nil => intro _; rfl
    | cons x l ih =>
      intro hl
      rw [List.map_cons, ih (fun y hy => hl y (List.mem_cons_of_mem _ hy))]
      have hx := hl x (List.mem_cons_self ..)
      have : (UInt8.toNat ∘ fun x => UInt8.ofNat x) x = x := by
        show (UInt8.ofNat x).toNat = x
        rw [UInt8.toNat_ofNat']; omega
      rw [this]
  rw [e a ha, e b hb] at h2
  exact h2
theorem conv_at (w : World) (A : Option Addr) (l : List Nat) (c : Nat) (h : At w A l) : (convert 31 9 (.slice A l.length c)).run Try.prog w = .ok (.string (str l)) w := by
  rcases A with _ | a
  · have := h.none_
    subst this
    exact run_convert_bytes_nil w 31 5 Try.underlying31 Try.underlying5 _ c 9 Try.underlying9
  · have hl := run_loadCells_list (P := Try.prog) w a (vals l) h.vals
    rw [run_convert_bytes_string w 31 9 5 _ _ c Try.underlying31 Try.underlying5 Try.underlying9]
    have e : vals l = (l.map fun (x : Nat) => (x : Int)).map (Value.int .u8) := by simp [vals]
    rw [vals_length, e] at hl
    rw [run_bytesToString w a l.length c (l.map fun (x : Nat) => (x : Int)) hl, foldl_push_bytes]
    have e2 : ((l.map fun (x : Nat) => (x : Int)).map fun n => UInt8.ofNat n.toNat) = l.map fun x => UInt8.ofNat x := by
      rw [List.map_map]; rfl
    rw [e2]
    unfold str
    simp [ByteArray.empty, ByteArray.emptyWithCapacity]
    rfl

end Go.Proofs.Ytepcfinojifecaa
