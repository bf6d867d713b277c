/-
  What is proved here: Rows.FieldsWalkSaid: of any bytes and any slice of items the law's function FieldsWalk returns true (a reader of the bytes that is asked for the items stands, falls, and tells what the document says), the arguments read as they did, and no block that was there has changed. No condition.
-/
import Derived.Test.YtepcfinojifecaaWalkWalk
import Derived.Test.YtepcfinojifecaaItemsIn
namespace Go.Proofs.Ytepcfinojifecaa
open Go.ChangeShapes Go.WideShapes Go.ChangeAt Go.RowKit

theorem bytes_in {H : Type} {enc : TypeId × Value → H} {W : World} {base : Nat} {v : Value} {d : DataW H} {ps : List MemPlace}
    (hval : Value.okWide Try.prog W .any base 31 v) (h : DataW.Trod enc Try.prog W 0 (fun _ => true) true 31 v d ps) (hs : ∀ n ∈ d.weights Try.prog 31, n ≤ reachBytes) :
    ∃ (l : List Nat) (A : Option Addr) (c : Nat), v = .slice A l.length c ∧ l.length ≤ 140737488355328 ∧ l.length ≤ c ∧ (A = none → c = 0) ∧ At W A l := by
  obtain ⟨a1, len, cap, rfl⟩ := okWide_slice Try.underlying31 hval
  obtain ⟨fuel, hf⟩ := h
  exact bytes_cell (x := (d, ps)) hf hs

theorem walk_any (Ab : Option Addr) (cb N : Nat) (bs : List Nat) (A : Option Addr) (c : Nat) (ls : List It) (w : World) (HN : Hid (bs.length = N)) (hN : N ≤ 140737488355328) (hb : At w Ab bs) (hcb : N ≤ cb) (hnb : Ab = none → cb = 0) (hl : ItemsAt w A ls) (hm : ls.length ≤ maxLen) :
    Calls Try.prog 4 #[.slice Ab N cb, .slice A ls.length c] w fun e w' => e = .returned (.bool true) ∧ Below w.heap.size w w' := by
  unfold maxLen at hm
  by_cases h : ls.length ≤ 60 ∧ N ≤ 3000
  · exact walk_few Ab cb N bs A c ls w HN hb hcb hnb hl h.1 h.2
  · clear HN hb hnb hl
    by_cases h3 : 3000 < N
    · go_enter Try.func4, Try.ntmps4
      go_wp2_with fail
      refine (works_any _).mono ?_
      rintro e w9 ⟨rfl, hb9⟩
      have HB9 := Lib.hid hb9; clear hb9
      go_wp2
      go_ret
      exact ⟨rfl, HB9.out⟩
    · have h6 : 60 < ls.length := by omega
      clear h
      go_enter Try.func4, Try.ntmps4
      go_wp2_with fail
      refine (works_any _).mono ?_
      rintro e w9 ⟨rfl, hb9⟩
      have HB9 := Lib.hid hb9; clear hb9
      go_wp2
      go_ret
      exact ⟨rfl, HB9.out⟩

set_option maxRecDepth 100000 in
theorem walk_lifted (os : Os) (started : os.Started) (H : Type) (enc : TypeId × Value → H) :
    ReturnsInHanded {} Try.checked os 4 .any (Rows.fieldsWalkSpec.pre6 enc Try.prog Try.f4 Rows.fieldsWalkRow.domain false) (Rows.fieldsWalkSpec.post enc Try.prog Try.f4 false true false false) := by
  refine returnsInHanded_of_change_sized (C := Try.checked) own started (by kernel_rfl) Try.func4
    (ChangeSpec.witness6 (enc := enc) (C := Try.checked) false ⟨#[], #[.slice none 0 0, .slice none 0 0], []⟩ 8 (by kernel_rfl) (by kernel_rfl) (by kernel_rfl) (by kernel_rfl)) ?_
  intro W base args ds gs before hval0 hW hcnd hsz0 _
  have hval : ∀ (j : Nat) t v, Try.f4.params[j]? = some t → args[j]? = some v → Value.okWide Try.prog W .any base t v := hval0
  have hsz : (DataW.weightsEach Try.prog (Try.f4.params.toList ++ []) (ds ++ gs)).all (· ≤ reachBytes) = true := hsz0
  have hW' := hW
  obtain ⟨p, q, hA0, hV, rfl, hfz, hnd⟩ := hW
  have hA : DataW.TrodAll enc Try.prog W 0 (fun _ => true) true Try.f4.params.toList args.toList ds p := hA0
  rw [Try.params4] at hA hval hsz
  obtain ⟨v0, vs0, d0, ds0, p0, q0, hargs, rfl, rfl, h0, r0⟩ := trodAll_cons hA
  obtain ⟨v1, vs1, d1, ds1, p1, q1, rfl, rfl, rfl, h1, r1⟩ := trodAll_cons r0
  obtain ⟨rfl, rfl, rfl⟩ := trodAll_nil r1
  obtain rfl : args = #[v0, v1] := by cases args; simp_all
  obtain ⟨rfl, rfl⟩ := trodVars_none hV
  have hw : ∀ (j : Nat) (t : TypeId) (d : DataW H), [31, 22][j]? = some t → [d0, d1][j]? = some d → ∀ n ∈ d.weights Try.prog t, n ≤ reachBytes := fun j t d ht hd n hn => by
    have := List.all_eq_true.1 hsz n (DataW.weights_mem_each (j := j) (t := t) (d := d) ht hd n hn)
    simpa using this
  obtain ⟨bs, Ab, cb, rfl, hN, hcb, hnb, hbs⟩ := bytes_in (hval 0 31 v0 rfl rfl) h0 (hw 0 31 d0 rfl rfl)
  obtain ⟨ls, A, c, rfl, hm, hls⟩ := items_in (hval 1 22 v1 rfl rfl) h1 (hw 1 22 d1 rfl rfl)
  clear hA0 hval0
  simp only [List.append_nil] at hW'
  refine (walk_any Ab cb bs.length bs A c ls W rfl hN hbs hcb hnb hls hm).mono fun e W' ⟨he, hg⟩ => ?_
  subst he
  have hlt0 : ∀ x ∈ p0, x.block < W.heap.size := fun x hx => by simpa using hW'.lt x (by simp [hx])
  have hlt1 : ∀ x ∈ p1, x.block < W.heap.size := fun x hx => by simpa using hW'.lt x (by simp [hx])
  refine ⟨_, rfl, law_post hW' hg rfl rfl rfl rfl ?_⟩
  have g := (trodAll_cons_mk (Below.trod laidOut (by kernel_rfl) (of_decide_eq_true (by kernel_rfl)) h0 hg hlt0) (trodAll_cons_mk (Below.trod laidOut (by kernel_rfl) (of_decide_eq_true (by kernel_rfl)) h1 hg hlt1) trodAll_mk0))
  simp only [List.append_nil] at g
  exact g

theorem walk_holds : Rows.FieldsWalkSaid :=
  OpenClaim.holds_of_wide 4 Try.f4 rfl rfl rfl rfl rfl rfl rfl ⟨rfl, rfl, rfl, rfl, rfl⟩ rfl rfl rfl rfl rfl (by kernel_rfl) Try.func4 (by kernel_rfl)
    (of_decide_eq_true (by kernel_rfl)) (by unfold Func.isWrapper; first | (rw [if_pos (by decide +kernel)]; kernel_rfl) | (rw [if_neg (by decide +kernel)]; exact ⟨rfl, rfl⟩))
    (fun os started H enc _ => walk_lifted os started H enc)
#print axioms walk_holds

end Go.Proofs.Ytepcfinojifecaa
