/-
  What is proved here: the law on parts put together, walked. Conditions: the parts can be read; counts fit an int.
-/
import Derived.Test.YtjcgejbggmpikaaPtL
import Derived.Test.YtjcgejbggmpikaaPtG3
import Derived.Test.YtjcgejbggmpikaaPtApp
import Derived.Test.YtjcgejbggmpikaaPtRJ
import Derived.Test.YtjcgejbggmpikaaPtFew
namespace Go.Proofs.Ytjcgejbggmpikaa.Pt
open Go.RowKit Gr Wd Ws

theorem joinA_len (l : List Pt) : (joinA l).2.1.length ≤ 8192 := by
  unfold joinA
  split
  · simp
  · rename_i es hes
    split
    · exact gath_len hes
    · simp
def LjRel (w : World) (l : List Pt) (n g : Nat) (v3 i : Value) (wr : World) : Prop :=
  ∃ (j : Nat) (AL : Option Addr) (nl cl : Nat) (css : List (List Value)), j + g = n ∧ i = .int .i64 (j : Int) ∧ v3 = .slice AL nl cl ∧ Hid (LRow wr w.heap.size 38 (.slice AL nl cl) css) ∧ Hid (Con w css (l.take j)) ∧
    Hid (∀ Q ∈ l.take j, ∀ r ∈ Q.out, r.length ≤ 60) ∧ Hid (Below w.heap.size w wr)
/- A change of a row of parts leaves what a list reads. -/
theorem ck_grown {w w' : World} {r : Option Nat} (hg : w.grownBy w' r) (B : Nat) (hr : ∀ j, r = some j → B ≤ j) : ∀ (p : Addr) (v : Value), p.block < B → w.cell? p = some v → w'.cell? p = some v := fun p v hp h =>
  (World.cell?_of_block (hg.block p.block (block_lt_of_cell h) (fun e => by have := hr _ e.symm; omega))).trans h

set_option maxRecDepth 100000 in
set_option maxHeartbeats 4000000 in
theorem law_join (A : Option Addr) (c : Nat) (l : List Pt) (w : World) (hL : Hid (LAt w A l)) (hs : Hid (∀ Q ∈ l, Sm Q)) (hm : l.length ≤ 9223372036854775807) :
    Calls Try.prog 5 #[.slice A l.length c] w fun e w' => e = .returned (.bool true) ∧ Below w.heap.size w w' := by
  have mixed := mixedP
  obtain ⟨k, hk⟩ : ∃ k, k = l.length := ⟨_, rfl⟩
  rw [← hk] at hm ⊢
  have HK := Lib.hid hk; clear hk
  have works_end : ∀ W, Below w.heap.size w W → Calls Try.prog 13 #[] W fun e w' => e = .returned (.bool true) ∧ Hid (Below w.heap.size w w') := fun W h => (works_any W).mono fun e w' ⟨h1, h2⟩ => ⟨h1, Lib.hid (h.trans (h2.out.mono h.size))⟩
  have HWE := Lib.hid works_end; clear works_end
  go_enter Try.func5, Try.ntmps5
  by_cases hk8 : 8 < k
  · go_wp2_with fail
    refine (HWE.out w (Below.refl _ w)).mono ?_
    rintro e w3 ⟨rfl, HB⟩
    go_wp2
    go_ret
    exact ⟨rfl, HB.out⟩
  · go_wp2_with fail
    go_loopg [3, 4] k (fun g v3 i wr => LjRel w l k g v3 i wr)
    case atStart => exact ⟨0, none, 0, 0, [], by omega, rfl, rfl, Lib.hid (LRow.none_ _ _ _), Lib.hid (Con.nil _), Lib.hid (by simp), Lib.hid (Below.refl _ _)⟩
    case round =>
      obtain ⟨j, AL, nl, cl, css, hj, rfl, rfl, HLR, HCN, HSM, HB⟩ := hrel
      by_cases hlt : j < k
      · obtain ⟨P, hP⟩ := at_lt l j (by rw [← HK.out]; exact hlt)
        obtain ⟨bk, o, A1, A2, A3, c1, c2, c3, rfl, hC0⟩ := hL.out j P hP
        have hC := hC0.kept HB.out
        have HF := Lib.hid (few_any _ P wr hC.ptv)
        obtain ⟨n1, hn1⟩ : ∃ n, P.own.length = n := ⟨_, rfl⟩
        obtain ⟨n2, hn2⟩ : ∃ n, P.out.length = n := ⟨_, rfl⟩
        obtain ⟨n3, hn3⟩ : ∃ n, P.back.length = n := ⟨_, rfl⟩
        have hpv := hC0.ptv
        obtain ⟨p0, p1, p2, p3, p4, p5, _, _, _⟩ := hC
        rw [hn1] at p3 HF; rw [hn2] at p4 HF; rw [hn3] at p5 HF
        rw [hn1, hn2, hn3] at hpv
        have HPV : Hid (PtV w (.agg [Value.int .i64 P.w, .int .i64 P.k, .int .i64 P.n, .slice A1 n1 c1, .slice A2 n2 c2, .slice A3 n3 c3].toArray) P) := Lib.hid hpv; have HP := Lib.hid hP
        clear hpv hP hC0 hn1 hn2 hn3
        go_wp2_with fail
        refine HF.out.mono ?_
        rintro e w2 ⟨⟨r, rfl, HR⟩, hb2⟩
        have HB2 := Lib.hid (HB.out.trans (hb2.mono HB.out.size))
        cases r with
        | false =>
          go_wp2_with fail
          refine (HWE.out w2 HB2.out).mono ?_
          rintro e w3 ⟨rfl, HB⟩
          go_wp2
          go_ret
          exact ⟨rfl, HB.out⟩
        | true =>
          have q0 := (ck_below hb2) _ _ p0; have q1 := (ck_below hb2) _ _ p1; have q2 := (ck_below hb2) _ _ p2
          have q3 := (ck_below hb2) _ _ p3; have q4 := (ck_below hb2) _ _ p4; have q5 := (ck_below hb2) _ _ p5
          clear p0 p1 p2 p3 p4 p5 HF
          have HR60 := Lib.hid (HR.out rfl)
          have HLR2 := Lib.hid (HLR.out.below hb2)
          have HPL := Lib.hid (plain_any P.w P.k P.n A1 A2 A3 n1 n2 n3 c1 c2 c3 w2)
          clear hb2
          go_wp2_with fail
          refine HPL.out.mono ?_
          rintro e w3 ⟨rfl, hb3⟩
          clear HPL
          obtain ⟨w4, hw4⟩ : ∃ w4, w4 = w3.alloc (.cells #[.int .i64 P.w, .int .i64 P.k, .int .i64 P.n, .slice A1 n1 c1, .slice A2 n2 c2, .slice A3 n3 c3] 38) := ⟨_, rfl⟩
          have hb4 : Below w3.heap.size w3 w4 := by rw [hw4]; exact (Below.refl _ w3).alloc (Nat.le_refl _) _
          have hb24 := hb3.trans (hb4.mono hb3.size)
          have HB4 := Lib.hid (HB2.out.trans (hb24.mono HB2.out.size))
          have HLRx := Lib.hid (HLR2.out.below hb24)
          have HYx := Lib.hid (heap_alloc_new w3 (.cells #[.int .i64 P.w, .int .i64 P.k, .int .i64 P.n, .slice A1 n1 c1, .slice A2 n2 c2, .slice A3 n3 c3] 38))
          have hcl : css.length = j := by rw [HCN.out.1, List.length_take, ← HK.out]; omega
          rw [hw4] at HLRx
          have HW4 := Lib.hid hw4
          clear hw4 hb4 hb24 hb3 q0 q1 q2 q3 q4 q5
          go_wp2_with (at_builtin; refine app_q rfl (.tmp 26) (.tmp 32) rfl w.heap.size _ css rfl HLRx.out _ _ _ _ _ _ _ ?c0 rfl HYx.out ?c1 ?c2 ?_)
          case c0 => first | exact ⟨rfl, rfl, rfl, rfl, rfl, rfl⟩ | (intro u hu; simp only [List.mem_cons, List.not_mem_nil, or_false] at hu; rcases hu with rfl | rfl | rfl | rfl | rfl | rfl <;> rfl)
          case c1 => omega
          case c2 => rw [← HW4.out]; exact HB4.out.size
          intro v' w7 hl7 hg7 hv7
          rw [← HW4.out] at hg7 HLRx
          clear HYx
          obtain ⟨A7, n7, c7, rfl⟩ := hv7.out
          have HLR7 := Lib.hid hl7
          have HB7 : Hid (Below w.heap.size w w7) := Lib.hid (Below.grown HB4.out hg7 HB4.out.size fun q e => (own_lt HLRx.out.1 q e).1)
          have HCN7 : Hid (Con w (css ++ [[.int .i64 P.w, .int .i64 P.k, .int .i64 P.n, .slice A1 n1 c1, .slice A2 n2 c2, .slice A3 n3 c3]]) (l.take (j + 1))) := Lib.hid (by rw [take_at HP.out]; exact HCN.out.snoc HPV.out)
          have HS7 : Hid (∀ Q ∈ l.take (j + 1), ∀ r ∈ Q.out, r.length ≤ 60) := Lib.hid (fun Q hQ => by
            rw [take_at HP.out] at hQ
            rcases List.mem_append.1 hQ with hQ | hQ
            · exact HSM.out Q hQ
            · simp at hQ; subst hQ; exact HR60.out)
          clear hl7 hg7 hv7
          go_wp2_with fail
          go_roundg (gk - 1)
          case measure => omega
          case rel => exact ⟨j + 1, A7, n7, c7, _, by omega, by go_num, rfl, HLR7, HCN7, HS7, HB7⟩
      · have hjk : j = k := by omega
        rw [List.take_of_length_le (by rw [← HK.out]; omega)] at HCN HSM
        have hla := hL.out.below HB.out
        obtain ⟨A2, c2, e2, hlb⟩ := HLR.out.form (HCN.out.below HB.out)
        rw [← HK.out] at e2
        have HMM := Lib.hid hlb
        obtain ⟨V, es, E, hJ⟩ : ∃ V es E, joinA l = (V, es, E) := ⟨_, _, _, rfl⟩
        have hes := joinA_len l
        have hja := join_any A c l wr hla (by rw [← HK.out]; exact hm) hs.out
        rw [hJ] at hes hja
        rw [← HK.out] at hja
        have hjb : joinB l = (V, es, E) := (join_one l).symm.trans hJ
        have HJA := Lib.hid hja; have HJB := Lib.hid hjb
        obtain ⟨z, hz⟩ : ∃ z, es.length = z := ⟨_, rfl⟩
        have HZ := Lib.hid hz
        have hes2 : z ≤ 8192 := by rw [← hz]; exact hes
        clear hja hjb hla hlb hJ hz hes
        cases e2
        go_wp2_with fail
        refine HJA.out.mono ?_
        rintro e w2 ⟨⟨v, rfl, hv⟩, hb2⟩
        obtain ⟨X, x, rfl, hx, _⟩ := hv.form
        change EAt w2 X es at hx
        simp only [HZ.out]
        obtain ⟨w3, hw3⟩ : ∃ w3, w3 = w2.alloc (.cells #[.int .i64 V, .slice X z x] 30) := ⟨_, rfl⟩
        have hb3 : Below w2.heap.size w2 w3 := by rw [hw3]; exact (Below.refl _ w2).alloc (Nat.le_refl _) _
        have hn3 : w3.heap[w2.heap.size]? = some (.cells #[.int .i64 V, .slice X z x] 30 (0, 0)) := by rw [hw3]; exact heap_alloc_new w2 _
        have hb23 := hb2.trans (hb3.mono hb2.size)
        have HB3 := Lib.hid (HB.out.trans (hb23.mono HB.out.size))
        have HX3 := Lib.hid (hx.below hb3)
        have HN3 := Lib.hid hn3
        have hrj := rJoin_any AL cl l w3 (HMM.out.below hb23) (by rw [← HK.out]; exact hm) hs.out (fun Q hQ r hr => by have := HSM.out Q hQ r hr; omega)
        rw [HJB.out, ← HK.out] at hrj
        have HRJ := Lib.hid hrj
        have HW3 := Lib.hid hw3
        clear hrj hw3 hb3 hn3 hb23 hb2 hv hx HJA
        go_wp2_with fail
        rw [← HW3.out]
        refine HRJ.out.mono ?_
        rintro e w4 ⟨⟨v, rfl, hv⟩, hb4⟩
        obtain ⟨Y, y, rfl, hy, _⟩ := hv.form
        change EAt w4 Y es at hy
        simp only [HZ.out]
        obtain ⟨w5, hw5⟩ : ∃ w5, w5 = w4.alloc (.cells #[.int .i64 V, .slice Y z y] 30) := ⟨_, rfl⟩
        have hb5 : Below w4.heap.size w4 w5 := by rw [hw5]; exact (Below.refl _ w4).alloc (Nat.le_refl _) _
        have hn5 : w5.heap[w4.heap.size]? = some (.cells #[.int .i64 V, .slice Y z y] 30 (0, 0)) := by rw [hw5]; exact heap_alloc_new w4 _
        have hb35 := hb4.trans (hb5.mono hb4.size)
        have HB5 := Lib.hid (HB3.out.trans (hb35.mono HB3.out.size))
        have hsa := rsame_any V V X Y x y es es w5 (HX3.out.below hb35) (hy.below hb5) (by rw [HZ.out]; omega) (by rw [HZ.out]; omega)
        rw [HZ.out] at hsa
        have HSA := Lib.hid hsa
        obtain ⟨k0, k1, _⟩ := Bx.cells hn5
        obtain ⟨m0, m1, _⟩ := Bx.cells ((hb35.block _ (lt_of_block HN3.out)).trans HN3.out)
        have HW5 := Lib.hid hw5
        rw [hw5] at k0 k1 m0 m1
        clear hsa hw5 hb5 hn5 hb35 hb4 hv hy HRJ
        go_wp2_with fail
        rw [← HW5.out]
        refine HSA.out.mono ?_
        rintro e w6 ⟨rfl, hb6⟩
        have HB6 := Lib.hid (HB5.out.trans (hb6.mono HB5.out.size))
        clear hb6 k0 k1 m0 m1
        simp only [decide_true, Bool.and_self]
        go_wp2_with fail
        refine (HWE.out w6 HB6.out).mono ?_
        rintro e w7 ⟨rfl, HB7⟩
        go_wp2
        go_ret
        exact ⟨rfl, HB7.out⟩

end Go.Proofs.Ytjcgejbggmpikaa.Pt
