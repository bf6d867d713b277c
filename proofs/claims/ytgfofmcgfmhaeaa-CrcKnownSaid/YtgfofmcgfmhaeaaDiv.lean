/-
  What is proved here: Rows.CrcDividesSaid: of any slice of bytes the law's function CrcDivides returns true (of at most 3000 bytes the check is what the document's division leaves, and the bytes stay), the slice reads as it did, and no block that was there has changed. No condition.
-/
import Derived.Test.YtgfofmcgfmhaeaaLaw2
import Derived.Test.YtgfofmcgfmhaeaaRSum
import Derived.Lib.ConvBytes
import Derived.Laws.IdiomStrings
namespace Go.Proofs.Ytgfofmcgfmhaeaa
open Go.ChangeShapes Go.WideShapes Go.ChangeAt Go.RowKit

def strOf (b : List Nat) : ByteArray := ⟨(b.map UInt8.ofNat).toArray⟩
theorem strOf_size (b : List Nat) : (strOf b).size = b.length := by simp [strOf, ByteArray.size]
theorem str_of {w : World} {v : Value} {b : List Nat} (h : Bytes w v b) : (convert 22 9 v).run Try.prog w = .ok (.string (strOf b)) w := by
  obtain ⟨A, c, rfl, hc⟩ := h
  cases A with
  | none =>
    have hb : b = [] := by
      cases b with
      | nil => rfl
      | cons x b => obtain ⟨_, ad, e, _⟩ := hc 0 x rfl; cases e
    subst hb
    rw [run_convert_bytes_string w 22 9 5 none _ _ Try.underlying22 Try.underlying5 Try.underlying9]
    rfl
  | some ad =>
    have h := run_convert_bytes_back (P := Try.prog) w 22 9 5 ad c (b.map UInt8.ofNat) Try.underlying22 Try.underlying5 Try.underlying9 (fun j hj => by
      have hj2 : j < b.length := by simpa using hj
      obtain ⟨h1, ad', e, h2⟩ := hc j b[j] (List.getElem?_eq_getElem hj2)
      cases e
      rw [h2, List.getElem_map]
      congr 2
      have : (UInt8.ofNat b[j]).toNat = b[j] := by rw [UInt8.toNat_ofNat']; omega
      rw [this])
    rw [List.length_map] at h
    exact h
theorem bytes_made (w : World) (b : List Nat) (hb : ∀ (k x : Nat), b[k]? = some x → x < 256) :
    Bytes (Lib.bytesWorld w 5 (strOf b)) (.slice (some ⟨w.heap.size, 0, none⟩) (strOf b).size (grownCap w (strOf b).size 0 5)) b := by
  refine ⟨_, _, by rw [strOf_size], fun k x hx => ⟨hb k x hx, _, rfl, ?_⟩⟩
  have hk : k < b.length := by
    rcases Nat.lt_or_ge k b.length with h | h
    · exact h
    · rw [List.getElem?_eq_none h] at hx; cases hx
  have e : (⟨w.heap.size, 0, none⟩ : Addr).add k = ⟨w.heap.size, k, none⟩ := by unfold Addr.add; split <;> simp_all
  rw [e, Lib.bytesWorld_cell w 5 _ k (by rw [strOf_size]; exact hk)]
  have hx2 := hb k x hx
  have e2 : (strOf b).data.toList.getD k 0 = UInt8.ofNat x := by
    simp only [strOf, List.getD_eq_getElem?_getD, List.getElem?_map, hx]; rfl
  rw [e2]
  congr 2
  have : (UInt8.ofNat x).toNat = x := by rw [UInt8.toNat_ofNat']; omega
  rw [this]
theorem made_below (w : World) (s : ByteArray) : Below w.heap.size w (Lib.bytesWorld w 5 s) :=
  ⟨rfl, rfl, rfl, by rw [Lib.bytesWorld_size]; omega, fun k hk => Lib.bytesWorld_at_old w 5 s k hk⟩

set_option maxHeartbeats 1000000 in
theorem div_in (A : Option Addr) (c : Nat) (b : List Nat) (w : World) (h1 : b.length ≤ 3000) (hB : Bytes w (.slice A b.length c) b) :
    Calls Try.prog 3 #[.slice A b.length c] w fun e w' => e = .returned (.bool true) ∧ Below w.heap.size w w' := by
  have hs := str_of hB
  have hc := Lib.run_convert_string_bytes (P := Try.prog) w 9 22 5 (strOf b) Try.underlying9 Try.underlying22 Try.underlying5
  have hm := bytes_made w b (fun k x hx => by obtain ⟨_, _, e, h⟩ := hB; exact (h k x hx).1)
  have hw := made_below w (strOf b)
  obtain ⟨w1, ew⟩ : ∃ w1, w1 = Lib.bytesWorld w 5 (strOf b) := ⟨_, rfl⟩
  obtain ⟨vin, ev⟩ : ∃ vin, vin = Value.slice (some ⟨w.heap.size, 0, none⟩) (strOf b).size (grownCap w (strOf b).size 0 5) := ⟨_, rfl⟩
  rw [← ew, ← ev] at hc hm
  rw [← ew] at hw
  have hB1 := hB.below hw
  have HM := Lib.hid hm
  have HB1 := Lib.hid hB1
  have HW := Lib.hid hw
  obtain ⟨S, eS⟩ : ∃ S, S = strOf b := ⟨_, rfl⟩
  rw [← eS] at hs hc
  have ES := Lib.hid eS
  clear ew ev hm hB1 hw hB eS
  go_enter Try.func3, Try.ntmps3
  go_wp2_with fail
  refine (sum_any _ _ _ (by omega) HM.out).mono ?_
  rintro e w2 ⟨rfl, hb2⟩
  have HB2 := Lib.hid hb2; clear hb2
  go_wp2_with fail
  refine (rsum_any _ _ _ h1 (HB1.out.below HB2.out)).mono ?_
  rintro e w3 ⟨rfl, hb3⟩
  have hB13 := (HB1.out.below HB2.out).below hb3
  have hM3 := (HM.out.below HB2.out).below hb3
  have s1 := str_of hB13
  have s2 := str_of hM3
  rw [← ES.out] at s1 s2
  have HB3 := Lib.hid hb3; clear hb3 hB13 hM3 hs hc
  go_wp2_with fail
  refine (works_any _).mono ?_
  rintro e w4 ⟨rfl, hb4⟩
  have HB4 := Lib.hid hb4; clear hb4
  go_wp2
  go_ret
  have g1 := HW.out.trans (HB2.out.mono HW.out.size)
  have g2 := g1.trans (HB3.out.mono g1.size)
  exact ⟨rfl, g2.trans (HB4.out.mono g2.size)⟩

set_option maxHeartbeats 1000000 in
theorem div_out (A : Option Addr) (n c : Nat) (w : World) (h1 : 3000 < n) :
    Calls Try.prog 3 #[.slice A n c] w fun e w' => e = .returned (.bool true) ∧ Below w.heap.size w w' := by
  go_enter Try.func3, Try.ntmps3
  go_wp2_with (go_at_call 10; refine (works_any _).mono ?_; rintro e w' ⟨rfl, hb⟩)
  go_ret
  exact ⟨rfl, hb⟩

theorem div_walk (v : Value) (b : List Nat) (w : World) (h : Bytes w v b) : Calls Try.prog 3 #[v] w fun e w' => e = .returned (.bool true) ∧ Below w.heap.size w w' := by
  have h' := h
  obtain ⟨A, c, rfl, _⟩ := h
  by_cases hl : b.length ≤ 3000
  · exact div_in A c b w hl h'
  · exact div_out A _ c w (by omega)

set_option maxRecDepth 100000 in
theorem div_lifted (os : Os) (started : os.Started) (H : Type) (enc : TypeId × Value → H) :
    ReturnsInHanded {} Try.checked os 3 .any (Rows.crcDividesSpec.pre6 enc Try.prog Try.f3 Rows.crcDividesRow.domain false) (Rows.crcDividesSpec.post enc Try.prog Try.f3 false true false false) := by
  refine returnsInHanded_of_change (C := Try.checked) own started (by kernel_rfl) Try.func3
    (ChangeSpec.witness6 (enc := enc) (C := Try.checked) false ⟨#[], #[.slice none 0 0], []⟩ 8 (by kernel_rfl) (by kernel_rfl) (by kernel_rfl) (by kernel_rfl)) ?_
  intro W base args ds gs before hval0 hW hcnd _
  have hval : ∀ (j : Nat) t v, Try.f3.params[j]? = some t → args[j]? = some v → Value.okWide Try.prog W .any base t v := hval0
  have hW' := hW
  obtain ⟨p, q, hA0, hV, rfl, hfz, hnd⟩ := hW
  have hA : DataW.TrodAll enc Try.prog W 0 (fun _ => true) true Try.f3.params.toList args.toList ds p := hA0
  rw [Try.params3] at hA hval
  obtain ⟨v0, vs0, d0, ds0, p0, q0, hargs, rfl, rfl, h0, r0⟩ := trodAll_cons hA
  obtain ⟨rfl, rfl, rfl⟩ := trodAll_nil r0
  obtain rfl : args = #[v0] := by cases args; simp_all
  obtain ⟨rfl, rfl⟩ := trodVars_none hV
  obtain ⟨b, _, hb⟩ := bytes_in (hval 0 22 v0 rfl rfl) h0
  clear hA0 hval0
  simp only [List.append_nil] at hW'
  refine (div_walk v0 b W hb).mono fun e W' ⟨he, hg⟩ => ?_
  subst he
  have hlt : ∀ x ∈ p0, x.block < W.heap.size := fun x hx => by simpa using hW'.lt x hx
  refine ⟨_, rfl, law_post2 hW' hg rfl rfl rfl rfl ?_⟩
  have g := trodAll_cons_mk (Below.trod laidOut (by kernel_rfl) (of_decide_eq_true (by kernel_rfl)) h0 hg hlt) trodAll_mk0
  simp only [List.append_nil] at g
  exact g

theorem div_holds : Rows.CrcDividesSaid :=
  OpenClaim.holds_of_wide 3 Try.f3 rfl rfl rfl rfl rfl rfl rfl ⟨rfl, rfl, rfl, rfl, rfl⟩ rfl rfl rfl rfl rfl (by kernel_rfl) Try.func3 (by kernel_rfl)
    (of_decide_eq_true (by kernel_rfl)) (by unfold Func.isWrapper; first | (rw [if_pos (by decide +kernel)]; kernel_rfl) | (rw [if_neg (by decide +kernel)]; exact ⟨rfl, rfl⟩))
    (fun os started H enc _ => div_lifted os started H enc)
#print axioms div_holds

end Go.Proofs.Ytgfofmcgfmhaeaa
