/-
  What is proved here: contracts of words.isNumber and words.Number: which number a word is. Conditions: at most 300000 bytes; the package's first digits lie as its text lays them.
-/
import Derived.Test.YtmcmpjcijbeilaaGreatDoorWdW2
namespace Go.Proofs.YtmcmpjcijbeilaaGreatDoor.Ws
open Go.RowKit Wd

theorem kav_at (r : Nat) (K V : Int) (w : World) (hL : Laid w) (h1 : r ≤ 1114111) (hK : kdOf r = K) (hV : dvOf r = V) :
    Calls Tryz.prog 83 #[.int .i32 (r : Int)] w fun e w' => e = .returned (.tuple #[.int .i64 K, .int .i64 V]) ∧ w = w' := by
  subst hK hV; exact kindAndValue_any r w hL (by omega) (by omega)
theorem kv_range (r : Int) : -1 ≤ kdOf r ∧ kdOf r ≤ 2 ∧ -1 ≤ dvOf r ∧ dvOf r ≤ 9 ∧ (0 ≤ kdOf r → 0 ≤ dvOf r) := by
  rcases kv_cases r with ⟨h1, h2⟩ | ⟨k, d, hk, hd, _, h1, h2⟩
  · rw [h1, h2]; omega
  · rw [h1, h2]; omega

/- How far isNumber has come: c0 was the first character, t1 the others that are through. -/
structure Nm (cs : List Ch) (c0 : Ch) (t1 ds : List Ch) : Prop where
  all : cs = c0 :: (t1 ++ ds)
  kind : ∀ x ∈ t1, kdOf x.r = kdOf c0.r
  lead : t1 ≠ [] → dvOf c0.r ≠ 0
  pos : 0 ≤ kdOf c0.r
theorem Nm.true_ {cs : List Ch} {c0 : Ch} {t1 : List Ch} (h : Nm cs c0 t1 []) : isNum cs = true := by
  rw [h.all, List.append_nil]
  simp only [isNum, Bool.and_eq_true, decide_eq_true_eq, List.all_eq_true, Bool.or_eq_true, beq_iff_eq]
  refine ⟨⟨h.pos, fun x hx => h.kind x hx⟩, ?_⟩
  by_cases ht : t1 = []
  · left; simp [ht]
  · right; simpa using h.lead ht
theorem Nm.false1 {cs : List Ch} {c0 c : Ch} {t1 ds : List Ch} (h : Nm cs c0 t1 (c :: ds)) (hk : kdOf c.r ≠ kdOf c0.r) : isNum cs = false := by
  rw [h.all]
  rw [Bool.eq_false_iff]
  intro hh
  simp only [isNum, Bool.and_eq_true, decide_eq_true_eq, List.all_eq_true, Bool.or_eq_true, beq_iff_eq] at hh
  exact hk (hh.1.2 c (by simp))
theorem Nm.false2 {cs : List Ch} {c0 c : Ch} {t1 ds : List Ch} (h : Nm cs c0 t1 (c :: ds)) (hk : dvOf c0.r = 0) : isNum cs = false := by
  rw [h.all]
  rw [Bool.eq_false_iff]
  intro hh
  simp only [isNum, Bool.and_eq_true, decide_eq_true_eq, List.all_eq_true, Bool.or_eq_true, beq_iff_eq] at hh
  rcases hh.2 with g | g
  · simp at g
  · simp [hk] at g
theorem Nm.snoc {cs : List Ch} {c0 c : Ch} {t1 ds : List Ch} (h : Nm cs c0 t1 (c :: ds)) (hk : kdOf c.r = kdOf c0.r) (hv : dvOf c0.r ≠ 0) : Nm cs c0 (t1 ++ [c]) ds :=
  ⟨by rw [h.all]; simp, fun x hx => by rcases List.mem_append.1 hx with g | g; exact h.kind x g; simp at g; rw [g]; exact hk, fun _ => hv, h.pos⟩
theorem isNum_neg (c : Ch) (t : List Ch) (h : kdOf c.r < 0) : isNum (c :: t) = false := by
  have : ¬ (0 ≤ kdOf c.r) := by omega
  simp [isNum, this]

def InRel (w : World) (l : List UInt8) (cs : List Ch) (g : Nat) (k v : Value) (wr : World) : Prop :=
  ∃ (p : List UInt8) (ds : List Ch), ds.length = g ∧ Rng l p ds ∧ Itr w wr w.heap.size w.heap.size l p ∧
    ((p = [] ∧ ds = cs ∧ k = .int .i64 (-1) ∧ v = .int .i64 (-1)) ∨ ∃ (c0 : Ch) (t1 : List Ch) (K V : Int), 1 ≤ p.length ∧ Nm cs c0 t1 ds ∧ kdOf c0.r = K ∧ dvOf c0.r = V ∧ k = .int .i64 K ∧ v = .int .i64 V)

set_option maxRecDepth 100000 in
set_option maxHeartbeats 4000000 in
theorem isNumber_any (l : List UInt8) (cs : List Ch) (w : World) (hL : Laid w) (h : Rg l cs) (_hl : l.length ≤ 300000) :
    Calls Tryz.prog 107 #[.string (sb l)] w fun e w' => e = .returned (.bool (isNum cs)) ∧ Below w.heap.size w w' := by
  have HR := Lib.hid (Rng.start l cs h); clear h
  have HL := Lib.hid hL
  have hL4 := hL.2.2; clear hL
  have hsz := sb_size l
  go_enter Tryz.func107, Tryz.ntmps107
  go_wp2
  go_loopg [3, 4] cs.length (fun g k v wr => InRel w l cs g k v wr)
  case atStart => exact ⟨[], cs, rfl, HR.out, Itr.start (Below.refl _ w) (Nat.le_refl _) l, Or.inl ⟨rfl, rfl, rfl, rfl⟩⟩
  case round =>
    clear HR
    obtain ⟨p, ds, hg, hr, hi, hcase⟩ := hrel
    rcases ds with _ | ⟨c, ds⟩
    · have hnx := fun ty => hr.fin (P := Tryz.prog) wr w.heap.size hi.1 ty
      have HR := Lib.hid hr; clear hr
      have HI := Lib.hid hi; clear hi
      rcases hcase with ⟨hp, hd, rfl, rfl⟩ | ⟨c0, t1, K, V, hp, hn, hK, hV, rfl, rfl⟩
      · have HD := Lib.hid hd; clear hd
        have HP := Lib.hid hp; clear hp
        go_wp2
        go_ret
        rw [← HD.out]
        exact ⟨rfl, HI.out.2.2⟩
      · have HN := Lib.hid hn
        have hKp : 0 ≤ K := by rw [← hK]; exact hn.pos
        have HK := Lib.hid hK; clear hK
        have HV := Lib.hid hV; clear hV hn
        go_wp2
        go_ret
        rw [HN.out.true_]
        refine ⟨ret_bool ?_, HI.out.2.2⟩
        simp
    · have hnx := fun ty => hr.run (P := Tryz.prog) wr w.heap.size hi.1 ty
      have h1 := hr.lt
      have h2 := hr.rune
      have hpos := hr.pos
      have hg' : ds.length + 1 = gk := by simpa using hg
      have HR := Lib.hid hr; clear hr hg
      have hBs := hi.size
      have HI := Lib.hid (hi.next c.bs); clear hi
      have HLw := Lib.hid (HL.out.bel HI.out.2.2)
      obtain ⟨K, hK⟩ : ∃ K, kdOf c.r = K := ⟨_, rfl⟩
      obtain ⟨V, hV⟩ : ∃ V, dvOf c.r = V := ⟨_, rfl⟩
      have hrg := kv_range c.r
      rw [hK, hV] at hrg
      have HK := Lib.hid hK; clear hK
      have HV := Lib.hid hV; clear hV
      rcases hcase with ⟨hp, hd, rfl, rfl⟩ | ⟨c0, t1, K0, V0, hp, hn, hK0, hV0, rfl, rfl⟩
      · have HD := Lib.hid hd; clear hd
        have HP := Lib.hid hp
        have hp0 : p.length ≤ 0 := by rw [hp]; simp
        clear hp
        go_wp2_with fail
        refine (kav_at c.r K V _ HLw.out h2 HK.out HV.out).mono ?_
        rintro e w1 ⟨rfl, rfl⟩
        by_cases hKn : K < 0
        · go_wp2
          all_goals (try (exfalso; omega))
          go_ret
          refine ⟨?_, HI.out.2.2⟩
          rw [← HD.out, isNum_neg c ds (by rw [HK.out]; exact hKn)]
          rfl
        · go_wp2
          all_goals (try (exfalso; omega))
          all_goals go_roundg (gk - 1)
          all_goals first
            | omega
            | (refine ⟨p ++ c.bs, ds, by omega, HR.out.next, HI.out, Or.inr ⟨c, [], K, V, by rw [List.length_append]; omega, ⟨by rw [← HD.out]; rfl, by simp, by simp, by rw [HK.out]; omega⟩, HK.out, HV.out, rfl, rfl⟩⟩)
      · have hKp : 0 ≤ K0 := by rw [← hK0]; exact hn.pos
        have HN := Lib.hid hn; clear hn
        have HK0 := Lib.hid hK0; clear hK0
        have HV0 := Lib.hid hV0; clear hV0
        go_wp2_with fail
        refine (kav_at c.r K V _ HLw.out h2 HK.out HV.out).mono ?_
        rintro e w1 ⟨rfl, rfl⟩
        by_cases hne : K = K0
        · by_cases hv0 : V0 = 0
          · go_wp2
            all_goals (try (exfalso; omega))
            go_ret
            refine ⟨?_, HI.out.2.2⟩
            rw [HN.out.false2 (by rw [HV0.out]; exact hv0)]
            rfl
          · have d1 : decide (K0 < 0) = false := by simp; omega
            have d2 : (V0 == 0) = false := by simpa using hv0
            go_wp2
            all_goals (try (exfalso; omega))
            all_goals go_roundg (gk - 1)
            all_goals first
              | omega
              | (refine ⟨p ++ c.bs, ds, by omega, HR.out.next, HI.out, Or.inr ⟨c0, t1 ++ [c], K0, V0, by rw [List.length_append]; omega, HN.out.snoc (by rw [HK.out, HK0.out]; exact hne) (by rw [HV0.out]; exact hv0), HK0.out, HV0.out, rfl, rfl⟩⟩)
        · go_wp2
          all_goals (try (exfalso; omega))
          all_goals
            go_ret
            refine ⟨?_, HI.out.2.2⟩
            rw [HN.out.false1 (by rw [HK.out, HK0.out]; exact hne)]
            rfl

theorem isNum_vals (cs : List Ch) (h : isNum cs = true) : ∀ c ∈ cs, 0 ≤ dvOf c.r := by
  rcases cs with _ | ⟨c, t⟩
  · simp
  · simp only [isNum, Bool.and_eq_true, decide_eq_true_eq, List.all_eq_true, Bool.or_eq_true, beq_iff_eq] at h
    intro x hx
    apply (kv_range x.r).2.2.2.2
    rcases List.mem_cons.1 hx with rfl | hx
    · exact h.1.1
    · rw [h.1.2 x hx]; exact h.1.1

theorem numOf_end (cs : List Ch) (n : Nat) (h : isNum cs = true) (he : num 0 cs = n) (hn : n ≤ 4611686018427387904) : numOf cs = (n, 0) := by
  rw [numOf, if_pos h, he, if_neg (by omega)]
theorem numOf_over (cs : List Ch) (h : isNum cs = true) (he : 4611686018427387904 < num 0 cs) : numOf cs = (0, 50) := by
  rw [numOf, if_pos h, if_pos he]
def NuRel (w : World) (l : List UInt8) (cs : List Ch) (g : Nat) (v : Value) (wr : World) : Prop :=
  ∃ (p : List UInt8) (ds : List Ch) (n : Nat), ds.length = g ∧ Rng l p ds ∧ Itr w wr w.heap.size w.heap.size l p ∧ v = .int .i64 (n : Int) ∧ n ≤ 4611686018427387904 ∧ num 0 cs = num n ds ∧ ∀ c ∈ ds, 0 ≤ dvOf c.r

theorem digit_at (r : Nat) (V : Int) (w : World) (hL : Laid w) (h1 : r ≤ 1114111) (hV : dvOf r = V) :
    Calls Tryz.prog 66 #[.int .i32 (r : Int)] w fun e w' => e = .returned (.int .i64 V) ∧ w = w' := by
  subst hV; exact digit_any r w hL (by omega) (by omega)

set_option maxRecDepth 100000 in
set_option maxHeartbeats 4000000 in
theorem number_any (l : List UInt8) (cs : List Ch) (w : World) (hL : Laid w) (h : Rg l cs) (hl : l.length ≤ 300000) :
    Calls Tryz.prog 77 #[.string (sb l)] w fun e w' => e = .returned (.tuple #[.int .i64 ((numOf cs).1 : Int), .int .i64 (numOf cs).2]) ∧ Below w.heap.size w w' := by
  have HG := Lib.hid h; clear h
  have HL := Lib.hid hL; clear hL
  have hsz := sb_size l
  go_enter Tryz.func77, Tryz.ntmps77
  go_wp2_with fail
  refine (isNumber_any l cs _ HL.out HG.out hl).mono ?_
  cases hN : isNum cs with
  | false =>
    rintro e w1 ⟨rfl, hb1⟩
    have HB := Lib.hid hb1; clear hb1
    have HN := Lib.hid hN; clear hN
    go_wp2
    go_ret2
    rw [numOf, HN.out]
    exact ⟨rfl, HB.out⟩
  | true =>
    rintro e w1 ⟨rfl, hb1⟩
    have HB := Lib.hid hb1; clear hb1
    have HN := Lib.hid hN; clear hN
    go_wp2
    go_loopg [4] cs.length (fun g v wr => NuRel w1 l cs g v wr)
    case atStart => exact ⟨[], cs, 0, rfl, Rng.start l cs HG.out, Itr.start (Below.refl _ w1) (Nat.le_refl _) l, rfl, by omega, rfl, isNum_vals cs HN.out⟩
    case round =>
      obtain ⟨p, ds, n, hg, hr, hi, rfl, hn, he, hv⟩ := hrel
      rcases ds with _ | ⟨c, ds⟩
      · have hnx := fun ty => hr.fin (P := Tryz.prog) wr w1.heap.size hi.1 ty
        have HR := Lib.hid hr; clear hr
        have HI := Lib.hid hi; clear hi
        have HE := Lib.hid he; clear he
        have HV := Lib.hid hv; clear hv
        go_wp2
        go_ret2
        refine ⟨?_, below_trans HB.out HI.out.2.2⟩
        rw [numOf_end cs n HN.out HE.out hn]
        rfl
      · have hnx := fun ty => hr.run (P := Tryz.prog) wr w1.heap.size hi.1 ty
        have h1 := hr.lt
        have h2 := hr.rune
        have hg' : ds.length + 1 = gk := by simpa using hg
        have HR := Lib.hid hr; clear hr hg
        have HI := Lib.hid (hi.next c.bs); clear hi
        have HLw := Lib.hid ((HL.out.bel HB.out).bel HI.out.2.2)
        obtain ⟨V, hV⟩ : ∃ V : Nat, dvOf c.r = (V : Int) := ⟨(dvOf c.r).toNat, by have := hv c List.mem_cons_self; omega⟩
        have hV9 : V ≤ 9 := by have := (kv_range c.r).2.2.2.1; omega
        have HV := Lib.hid hV; clear hV
        have HE := Lib.hid (show num 0 cs = num (10 * n + V) ds by rw [he, num, HV.out]; rfl); clear he
        have HVs := Lib.hid hv; clear hv
        go_wp2_with fail
        refine (digit_at c.r V _ HLw.out h2 HV.out).mono ?_
        rintro e w2 ⟨rfl, rfl⟩
        by_cases hov : 4611686018427387904 < 10 * n + V
        · go_wp2
          all_goals (try (exfalso; omega))
          go_ret2
          refine ⟨?_, below_trans HB.out HI.out.2.2⟩
          have := num_ge ds (10 * n + V)
          rw [numOf_over cs HN.out (by rw [HE.out]; omega)]
          rfl
        · go_wp2
          all_goals (try (exfalso; omega))
          go_roundg (gk - 1)
          case measure => omega
          case rel => exact ⟨p ++ c.bs, ds, 10 * n + V, by omega, HR.out.next, HI.out, by go_num, by omega, HE.out, fun x hx => HVs.out x (List.mem_cons_of_mem _ hx)⟩

end Go.Proofs.YtmcmpjcijbeilaaGreatDoor.Ws
