/-
  What is proved here: the walk of the law FieldsWalk: of any bytes and any slice of items the law's function returns true, and no block that was there has changed.
-/
import Derived.Test.YtepcfinojifecaaGoes
import Derived.Test.YtepcfinojifecaaStandWalk
import Derived.Deep.RegionWith
namespace Go.Proofs.Ytepcfinojifecaa
open Go.RowKit

theorem Mr.kept {w w' : World} {b : Nat} {A : Option Addr} {N c a : Nat} {f : Bool} (h : Mr w b A N c a f) (e : w'.heap[b]? = w.heap[b]?) : Mr w' b A N c a f := e.trans h
theorem Mr.other {w w' : World} {b g : Nat} {A : Option Addr} {N c a : Nat} {f : Bool} (h : Mr w b A N c a f) (hg : w.grownBy w' (some g)) (hne : b ≠ g) : Mr w' b A N c a f :=
  h.kept (hg.block b (lt_of_block h) (fun e => by injection e with e; exact hne e))
theorem Goes.few {bs : List Nat} {N a : Nat} {f : Bool} {Q : Int} {X : List Nat} {a2 : Nat} {f2 : Bool} (h : Goes bs N a f Q X a2 f2) : X.length ≤ N := by
  rcases h with ⟨_, k, _, h2, rfl, _⟩ | ⟨_, rfl, _⟩
  · rw [List.length_take]; omega
  · simp
def Inv (w wr : World) (lo r mb : Nat) (bs : List Nat) (Ab : Option Addr) (N cb a : Nat) (f : Bool) : Prop := Rd wr lo r (bs.drop a) f ∧ Mr wr mb Ab N cb a f ∧ Below w.heap.size w wr
def InRel (w : World) (I lo r mb : Nat) (bs : List Nat) (Ab : Option Addr) (N cb g : Nat) (i : Value) (wr : World) : Prop :=
  ∃ k : Nat, k + g = N ∧ i = .int .i64 (k : Int) ∧ Marked wr I N ∧ Inv w wr lo r mb bs Ab N cb 0 false
def WalkRel (w : World) (lo r mb : Nat) (bs : List Nat) (Ab : Option Addr) (N cb n g : Nat) (i : Value) (wr : World) : Prop :=
  ∃ (j a : Nat) (f : Bool), j + g = n ∧ i = .int .i64 (j : Int) ∧ a ≤ N ∧ (f = true → a = N) ∧ Inv w wr lo r mb bs Ab N cb a f

set_option maxRecDepth 100000 in
set_option maxHeartbeats 2000000 in
theorem walk_few (Ab : Option Addr) (cb N : Nat) (bs : List Nat) (A : Option Addr) (c : Nat) (ls : List It) (w : World) (HN : Hid (bs.length = N)) (hb : At w Ab bs) (hcb : N ≤ cb) (hnb : Ab = none → cb = 0) (hl : ItemsAt w A ls) (h1 : ls.length ≤ 60) (h2 : N ≤ 3000) :
    Calls Try.prog 4 #[.slice Ab N cb, .slice A ls.length c] w fun e w' => e = .returned (.bool true) ∧ Below w.heap.size w w' := by
  have HL := Lib.hid hl; clear hl
  have HBS := Lib.hid hb
  have hcv := conv_at w Ab bs cb hb
  rw [HN.out] at hcv
  obtain ⟨cap, C, hin, hC1, hC2, hC3⟩ := in_of w bs hb.small
  rw [HN.out] at hin hC1 hC2
  have hat0 : At (w.drew.alloc (.cells C 5 (C.size, C.size + 1))) (some ⟨w.heap.size, 0, none⟩) bs := by
    intro k x hx
    refine ⟨hb.small x (List.mem_of_getElem? hx), _, rfl, ?_⟩
    rw [add_plain, Nat.zero_add]
    exact (cell_of_row (w.drew.alloc (.cells C 5 (C.size, C.size + 1))) w.heap.size k C 5 _ (heap_alloc_new w.drew _)).trans (hC3 k x hx)
  have hmk0 : Marked (w.drew.alloc (.cells C 5 (C.size, C.size + 1))) w.heap.size N := ⟨C, heap_alloc_new w.drew _, hC1⟩
  have hb0 : Below w.heap.size w (w.drew.alloc (.cells C 5 (C.size, C.size + 1))) := (Below.refl _ _).drew.alloc (Nat.le_refl _) _
  have HAT0 := Lib.hid hat0; clear hat0 hC3
  have HMK0 := Lib.hid hmk0; clear hmk0 hC1
  have HB0 := Lib.hid hb0; clear hb0
  have HSM := Lib.hid hb.small; clear hb
  have HNB := Lib.hid hnb; clear hnb
  go_enter Try.func4, Try.ntmps4
  go_wp2_with fail
  clear hcv hin
  have hz0 : w.heap.size < (w.drew.alloc (.cells C 5 (C.size, C.size + 1))).heap.size := HMK0.out.choose_spec.1 |> lt_of_block
  have hsh : (w.alloc (.cells C 5 (C.size, C.size + 1))).drew = w.drew.alloc (.cells C 5 (C.size, C.size + 1)) := rfl
  rw [hsh]
  clear hsh
  generalize w.drew.alloc (.cells C 5 (C.size, C.size + 1)) = w0 at HAT0 HMK0 HB0 hz0 ⊢
  refine (open_n (some ⟨w.heap.size, 0, none⟩) cap N bs w0 HN.out (by omega) HAT0.out).mono ?_
  rintro e w1 ⟨r, rfl, hr1, hb1⟩
  have hlo1 : w.heap.size < r := by have := hr1.1; omega
  have hrl : r < w1.heap.size := hr1.lt
  have HMK1 : Hid (Marked w1 w.heap.size N) := by
    obtain ⟨C', q1, q2⟩ := HMK0.out
    exact ⟨C', (hb1.block _ hz0).trans q1, q2⟩
  have HB1 := Lib.hid (below_trans HB0.out hb1); clear hb1
  have HR1 := Lib.hid hr1; clear hr1 HAT0 HMK0 HB0
  generalize w0.heap.size = lo at HR1 hz0
  go_wp2
  have hm2 : Mr (w1.alloc (.cells #[.slice Ab N cb, .int .i64 0, .bool false] 40)) w1.heap.size Ab N cb 0 false := heap_alloc_new w1 _
  have hb2 : Below w1.heap.size w1 (w1.alloc (.cells #[.slice Ab N cb, .int .i64 0, .bool false] 40)) := (Below.refl _ _).alloc (Nat.le_refl _) _
  obtain ⟨mb, hmb⟩ : ∃ mb, mb = w1.heap.size := ⟨_, rfl⟩
  have hrm : r < mb := by omega
  have HMK2 : Hid (Marked (w1.alloc (.cells #[.slice Ab N cb, .int .i64 0, .bool false] 40)) w.heap.size N) := by
    obtain ⟨C', q1, q2⟩ := HMK1.out
    exact ⟨C', (hb2.block _ (by omega)).trans q1, q2⟩
  have HINV : Hid (Inv w (w1.alloc (.cells #[.slice Ab N cb, .int .i64 0, .bool false] 40)) lo r mb bs Ab N cb 0 false) := by
    rw [hmb]; exact ⟨HR1.out.below hb2, hm2, below_trans HB1.out hb2⟩
  rw [← hmb]
  clear HMK1 HB1 HR1 hm2 hb2 hmb hrl
  go_loopg [8] N (fun g i wr => InRel w w.heap.size lo r mb bs Ab N cb g i wr)
  case atStart => exact ⟨0, by omega, rfl, HMK2.out, HINV.out⟩
  case round =>
    clear HMK2 HINV
    obtain ⟨k, hk, rfl, hmk, hinv⟩ := hrel
    have HMK := Lib.hid hmk; clear hmk
    have HINV := Lib.hid hinv; clear hinv
    by_cases hkn : k < N
    · obtain ⟨u, hcu, hfu⟩ := HMK.out.cell hkn
      go_wp2
      go_roundg (gk - 1)
      case measure => omega
      case rel =>
        obtain ⟨q1, q2, q3⟩ := HINV.out
        have hgr := only_set (only_refl wr (some w.heap.size)) k (.int .u8 7)
        exact ⟨k + 1, by omega, by go_num, HMK.out.set _, q1.other hgr (Or.inl hz0), q2.other hgr (by omega), below_only q3 hgr q3.size (Nat.le_refl _)⟩
    · clear HMK
      go_wp2
      go_loopg [9] ls.length (fun g i wr => WalkRel w lo r mb bs Ab N cb ls.length g i wr)
      case atStart => exact ⟨0, 0, false, by omega, rfl, by omega, (fun h => by cases h), HINV.out⟩
      case round =>
        clear HINV
        obtain ⟨j, a, f, hj, rfl, ha, hf, hinv⟩ := hrel
        obtain ⟨G, rfl⟩ : ∃ G : Nat, G = gk := ⟨_, rfl⟩
        obtain ⟨wo, rfl⟩ : ∃ wo : World, wo = wr := ⟨_, rfl⟩
        have HF := Lib.hid hf; clear hf
        obtain ⟨q1, q2, q3⟩ := hinv
        have Q1 := Lib.hid q1; clear q1
        have Q2 := Lib.hid q2; clear q2
        have Q3 := Lib.hid q3; clear q3
        by_cases hlt : j < ls.length
        · obtain ⟨k1, k2, k3, bk, o, B, d, hA, d0, d1, d2, _⟩ := HL.out j ls[j] (List.getElem?_eq_getElem hlt)
          subst hA
          have hbk : bk < w.heap.size := block_lt_of_cell d0
          have c0 := (Q3.out.cell (block_lt_of_cell d0)).trans d0
          have c1 := (Q3.out.cell (block_lt_of_cell d1)).trans d1
          have D0 := Lib.hid d0
          clear d0 d1 d2
          rcases kind5 ls[j] with hk5 | hk5 | hk5 | hk5 | hk5
          · have hr5 : (ls[j].kind : Int) % 5 = 0 := by omega
            clear hk5
            obtain ⟨X, a2, f2, hG⟩ := goes_some bs N a f 1
            have HG := Lib.hid hG; clear hG
            have hXl := HG.out.len 1 rfl
            have hyb := Fld.num_lt X (HG.out.small HSM.out)
            have hyb2 : 256 ^ X.length ≤ 256 ^ 1 := Nat.pow_le_pow_right (by decide) hXl
            have hyb3 : Fld.num X < 256 := Nat.lt_of_lt_of_le hyb hyb2
            clear hyb hyb2
            have HGL := Lib.hid HG.out.le
            go_wp2_with fail
            refine (num8_goes lo r N a f bs X a2 f2 wo Q1.out HN.out ha HF.out HG.out).mono ?_
            rintro e w3 ⟨rfl, hr3, hg3⟩
            have P1 := Lib.hid hr3; clear hr3
            have P2 := Lib.hid (Q2.out.other hg3 (by omega))
            have P3 := Lib.hid (below_only Q3.out hg3 Q3.out.size (by omega))
            have c0' := (P3.out.cell hbk).trans D0.out
            clear hg3 Q1 Q2 Q3 c0 c1
            obtain ⟨y, hy⟩ : ∃ y, y = Fld.num X := ⟨_, rfl⟩
            rw [← hy] at hyb3
            rw [← hy]
            have HY := Lib.hid hy; clear hy
            go_wp2_with fail
            refine (next_goes mb Ab N cb a f _ bs X a2 f2 w3 P2.out (HBS.out.below P3.out) HN.out ha h2 hcb HNB.out HG.out).mono ?_
            rintro e w4 ⟨A4, d4, rfl, h4, hm4, hg4⟩
            have R1 := Lib.hid (P1.out.other hg4 (Or.inr hrm)); clear P1
            have R3 := Lib.hid (below_only P3.out hg4 P3.out.size (by omega)); clear P3 P2 c0' hg4
            have R2 := Lib.hid hm4; clear hm4
            have H4 := Lib.hid h4; clear h4
            go_wp2_with fail
            refine (number_any A4 d4 X w4 (by omega) H4.out).mono ?_
            rintro e w' ⟨rfl, rfl⟩
            rw [← HY.out]
            obtain ⟨wT, rfl⟩ : ∃ wT : World, wT = w4 := ⟨_, rfl⟩
            have P1 := R1; clear R1
            have P2 := R2; clear R2
            have P3 := R3; clear R3
            have hat3 : At wT Ab bs := HBS.out.below P3.out
            obtain ⟨m0, m1, m2, _, _⟩ := P2.out.cells
            obtain ⟨K, hK⟩ : ∃ K, a2 + K = N := ⟨N - a2, by have := HGL.out.1; omega⟩
            have hLen : (bs.drop a2).length = K := by rw [List.length_drop, HN.out]; omega
            have HLen := Lib.hid hLen; clear hLen hat3
            have g5 : IntKind.i64.wrap ((N : Int) - (a2 : Int)) = (N : Int) - (a2 : Int) := IntWalk.i64_in _ (by omega)
            have hne : ((K : Int) == (N : Int) - (a2 : Int)) = true := by simp; omega
            have hne2 : (f2 == f2) = true := by cases f2 <;> rfl
            go_wp2
            go_quiet ((first | (go_at_call 22; exact Calls.quiet_of_same (bad_same lo r _ f2 _ (P1.out.same rfl))) | (go_at_call 23; exact Calls.quiet_of_same (left_same lo r K _ f2 _ (P1.out.same rfl) HLen.out))))
            clear g5 hne hne2
            go_wp2
            go_roundg (G - 1)
            case measure => omega
            case rel => exact ⟨j + 1, a2, f2, by omega, by go_num, HGL.out.1, HGL.out.2, P1.out.same rfl, P2.out, below_dn P3.out _⟩
          · have hr5 : (ls[j].kind : Int) % 5 = 1 := by omega
            clear hk5
            obtain ⟨X, a2, f2, hG⟩ := goes_some bs N a f 2
            have HG := Lib.hid hG; clear hG
            have hXl := HG.out.len 2 rfl
            have hyb := Fld.num_lt X (HG.out.small HSM.out)
            have hyb2 : 256 ^ X.length ≤ 256 ^ 2 := Nat.pow_le_pow_right (by decide) hXl
            have hyb3 : Fld.num X < 65536 := Nat.lt_of_lt_of_le hyb hyb2
            clear hyb hyb2
            have HGL := Lib.hid HG.out.le
            go_wp2_with fail
            refine (num16_goes lo r N a f bs X a2 f2 wo Q1.out HN.out ha HF.out HG.out).mono ?_
            rintro e w3 ⟨rfl, hr3, hg3⟩
            have P1 := Lib.hid hr3; clear hr3
            have P2 := Lib.hid (Q2.out.other hg3 (by omega))
            have P3 := Lib.hid (below_only Q3.out hg3 Q3.out.size (by omega))
            have c0' := (P3.out.cell hbk).trans D0.out
            clear hg3 Q1 Q2 Q3 c0 c1
            obtain ⟨y, hy⟩ : ∃ y, y = Fld.num X := ⟨_, rfl⟩
            rw [← hy] at hyb3
            rw [← hy]
            have HY := Lib.hid hy; clear hy
            go_wp2_with fail
            refine (next_goes mb Ab N cb a f _ bs X a2 f2 w3 P2.out (HBS.out.below P3.out) HN.out ha h2 hcb HNB.out HG.out).mono ?_
            rintro e w4 ⟨A4, d4, rfl, h4, hm4, hg4⟩
            have R1 := Lib.hid (P1.out.other hg4 (Or.inr hrm)); clear P1
            have R3 := Lib.hid (below_only P3.out hg4 P3.out.size (by omega)); clear P3 P2 c0' hg4
            have R2 := Lib.hid hm4; clear hm4
            have H4 := Lib.hid h4; clear h4
            go_wp2_with fail
            refine (number_any A4 d4 X w4 (by omega) H4.out).mono ?_
            rintro e w' ⟨rfl, rfl⟩
            rw [← HY.out]
            obtain ⟨wT, rfl⟩ : ∃ wT : World, wT = w4 := ⟨_, rfl⟩
            have P1 := R1; clear R1
            have P2 := R2; clear R2
            have P3 := R3; clear R3
            have hat3 : At wT Ab bs := HBS.out.below P3.out
            obtain ⟨m0, m1, m2, _, _⟩ := P2.out.cells
            obtain ⟨K, hK⟩ : ∃ K, a2 + K = N := ⟨N - a2, by have := HGL.out.1; omega⟩
            have hLen : (bs.drop a2).length = K := by rw [List.length_drop, HN.out]; omega
            have HLen := Lib.hid hLen; clear hLen hat3
            have g5 : IntKind.i64.wrap ((N : Int) - (a2 : Int)) = (N : Int) - (a2 : Int) := IntWalk.i64_in _ (by omega)
            have hne : ((K : Int) == (N : Int) - (a2 : Int)) = true := by simp; omega
            have hne2 : (f2 == f2) = true := by cases f2 <;> rfl
            go_wp2
            go_quiet ((first | (go_at_call 22; exact Calls.quiet_of_same (bad_same lo r _ f2 _ (P1.out.same rfl))) | (go_at_call 23; exact Calls.quiet_of_same (left_same lo r K _ f2 _ (P1.out.same rfl) HLen.out))))
            clear g5 hne hne2
            go_wp2
            go_roundg (G - 1)
            case measure => omega
            case rel => exact ⟨j + 1, a2, f2, by omega, by go_num, HGL.out.1, HGL.out.2, P1.out.same rfl, P2.out, below_dn P3.out _⟩
          · have hr5 : (ls[j].kind : Int) % 5 = 2 := by omega
            clear hk5
            obtain ⟨X, a2, f2, hG⟩ := goes_some bs N a f 4
            have HG := Lib.hid hG; clear hG
            have hXl := HG.out.len 4 rfl
            have hyb := Fld.num_lt X (HG.out.small HSM.out)
            have hyb2 : 256 ^ X.length ≤ 256 ^ 4 := Nat.pow_le_pow_right (by decide) hXl
            have hyb3 : Fld.num X < 4294967296 := Nat.lt_of_lt_of_le hyb hyb2
            clear hyb hyb2
            have HGL := Lib.hid HG.out.le
            go_wp2_with fail
            refine (num32_goes lo r N a f bs X a2 f2 wo Q1.out HN.out ha HF.out HG.out).mono ?_
            rintro e w3 ⟨rfl, hr3, hg3⟩
            have P1 := Lib.hid hr3; clear hr3
            have P2 := Lib.hid (Q2.out.other hg3 (by omega))
            have P3 := Lib.hid (below_only Q3.out hg3 Q3.out.size (by omega))
            have c0' := (P3.out.cell hbk).trans D0.out
            clear hg3 Q1 Q2 Q3 c0 c1
            obtain ⟨y, hy⟩ : ∃ y, y = Fld.num X := ⟨_, rfl⟩
            rw [← hy] at hyb3
            rw [← hy]
            have HY := Lib.hid hy; clear hy
            go_wp2_with fail
            refine (next_goes mb Ab N cb a f _ bs X a2 f2 w3 P2.out (HBS.out.below P3.out) HN.out ha h2 hcb HNB.out HG.out).mono ?_
            rintro e w4 ⟨A4, d4, rfl, h4, hm4, hg4⟩
            have R1 := Lib.hid (P1.out.other hg4 (Or.inr hrm)); clear P1
            have R3 := Lib.hid (below_only P3.out hg4 P3.out.size (by omega)); clear P3 P2 c0' hg4
            have R2 := Lib.hid hm4; clear hm4
            have H4 := Lib.hid h4; clear h4
            go_wp2_with fail
            refine (number_any A4 d4 X w4 (by omega) H4.out).mono ?_
            rintro e w' ⟨rfl, rfl⟩
            rw [← HY.out]
            obtain ⟨wT, rfl⟩ : ∃ wT : World, wT = w4 := ⟨_, rfl⟩
            have P1 := R1; clear R1
            have P2 := R2; clear R2
            have P3 := R3; clear R3
            have hat3 : At wT Ab bs := HBS.out.below P3.out
            obtain ⟨m0, m1, m2, _, _⟩ := P2.out.cells
            obtain ⟨K, hK⟩ : ∃ K, a2 + K = N := ⟨N - a2, by have := HGL.out.1; omega⟩
            have hLen : (bs.drop a2).length = K := by rw [List.length_drop, HN.out]; omega
            have HLen := Lib.hid hLen; clear hLen hat3
            have g5 : IntKind.i64.wrap ((N : Int) - (a2 : Int)) = (N : Int) - (a2 : Int) := IntWalk.i64_in _ (by omega)
            have hne : ((K : Int) == (N : Int) - (a2 : Int)) = true := by simp; omega
            have hne2 : (f2 == f2) = true := by cases f2 <;> rfl
            go_wp2
            go_quiet ((first | (go_at_call 22; exact Calls.quiet_of_same (bad_same lo r _ f2 _ (P1.out.same rfl))) | (go_at_call 23; exact Calls.quiet_of_same (left_same lo r K _ f2 _ (P1.out.same rfl) HLen.out))))
            clear g5 hne hne2
            go_wp2
            go_roundg (G - 1)
            case measure => omega
            case rel => exact ⟨j + 1, a2, f2, by omega, by go_num, HGL.out.1, HGL.out.2, P1.out.same rfl, P2.out, below_dn P3.out _⟩
          · have hr5 : (ls[j].kind : Int) % 5 = 3 := by omega
            clear hk5
            obtain ⟨X, a2, f2, hG⟩ := goes_some bs N a f 8
            have HG := Lib.hid hG; clear hG
            have hXl := HG.out.len 8 rfl
            have hyb := Fld.num_lt X (HG.out.small HSM.out)
            have hyb2 : 256 ^ X.length ≤ 256 ^ 8 := Nat.pow_le_pow_right (by decide) hXl
            have hyb3 : Fld.num X < 18446744073709551616 := Nat.lt_of_lt_of_le hyb hyb2
            clear hyb hyb2
            have HGL := Lib.hid HG.out.le
            go_wp2_with fail
            refine (num64_goes lo r N a f bs X a2 f2 wo Q1.out HN.out ha HF.out HG.out).mono ?_
            rintro e w3 ⟨rfl, hr3, hg3⟩
            have P1 := Lib.hid hr3; clear hr3
            have P2 := Lib.hid (Q2.out.other hg3 (by omega))
            have P3 := Lib.hid (below_only Q3.out hg3 Q3.out.size (by omega))
            have c0' := (P3.out.cell hbk).trans D0.out
            clear hg3 Q1 Q2 Q3 c0 c1
            obtain ⟨y, hy⟩ : ∃ y, y = Fld.num X := ⟨_, rfl⟩
            rw [← hy] at hyb3
            rw [← hy]
            have HY := Lib.hid hy; clear hy
            go_wp2_with fail
            refine (next_goes mb Ab N cb a f _ bs X a2 f2 w3 P2.out (HBS.out.below P3.out) HN.out ha h2 hcb HNB.out HG.out).mono ?_
            rintro e w4 ⟨A4, d4, rfl, h4, hm4, hg4⟩
            have R1 := Lib.hid (P1.out.other hg4 (Or.inr hrm)); clear P1
            have R3 := Lib.hid (below_only P3.out hg4 P3.out.size (by omega)); clear P3 P2 c0' hg4
            have R2 := Lib.hid hm4; clear hm4
            have H4 := Lib.hid h4; clear h4
            go_wp2_with fail
            refine (number_any A4 d4 X w4 (by omega) H4.out).mono ?_
            rintro e w' ⟨rfl, rfl⟩
            rw [← HY.out]
            obtain ⟨wT, rfl⟩ : ∃ wT : World, wT = w4 := ⟨_, rfl⟩
            have P1 := R1; clear R1
            have P2 := R2; clear R2
            have P3 := R3; clear R3
            have hat3 : At wT Ab bs := HBS.out.below P3.out
            obtain ⟨m0, m1, m2, _, _⟩ := P2.out.cells
            obtain ⟨K, hK⟩ : ∃ K, a2 + K = N := ⟨N - a2, by have := HGL.out.1; omega⟩
            have hLen : (bs.drop a2).length = K := by rw [List.length_drop, HN.out]; omega
            have HLen := Lib.hid hLen; clear hLen hat3
            have g5 : IntKind.i64.wrap ((N : Int) - (a2 : Int)) = (N : Int) - (a2 : Int) := IntWalk.i64_in _ (by omega)
            have hne : ((K : Int) == (N : Int) - (a2 : Int)) = true := by simp; omega
            have hne2 : (f2 == f2) = true := by cases f2 <;> rfl
            go_wp2
            go_quiet ((first | (go_at_call 22; exact Calls.quiet_of_same (bad_same lo r _ f2 _ (P1.out.same rfl))) | (go_at_call 23; exact Calls.quiet_of_same (left_same lo r K _ f2 _ (P1.out.same rfl) HLen.out))))
            clear g5 hne hne2
            go_wp2
            go_roundg (G - 1)
            case measure => omega
            case rel => exact ⟨j + 1, a2, f2, by omega, by go_num, HGL.out.1, HGL.out.2, P1.out.same rfl, P2.out, below_dn P3.out _⟩
          · have hr5 : (ls[j].kind : Int) % 5 = 4 := by omega
            clear hk5
            obtain ⟨X, a2, f2, hG⟩ := goes_some bs N a f ((ls[j].n : Int) % 44 - 3)
            have HG := Lib.hid hG; clear hG
            have HGL := Lib.hid HG.out.le
            have hmbl : mb < wo.heap.size := lt_of_block Q2.out
            go_wp2_with fail
            refine (raw_goes lo r N a f _ bs X a2 f2 wo Q1.out HN.out ha HF.out h2 HG.out).mono ?_
            rintro e w3 ⟨g, rfl, hgz, hrow, hr3, hg3⟩
            have hgm : mb < g := by omega
            have P1 := Lib.hid hr3; clear hr3
            have P2 := Lib.hid (Q2.out.other hg3 (by omega))
            have P3 := Lib.hid (below_only Q3.out hg3 Q3.out.size (by omega))
            clear hg3 Q1 Q2 Q3 c0 c1 hgz hmbl
            have HSX := Lib.hid (HG.out.small HSM.out)
            obtain ⟨s4, hs4⟩ : ∃ s4, s4 = str X := ⟨_, rfl⟩
            have v0 : (convert 31 9 (.slice (some ⟨g, 0, none⟩) X.length X.length)).run Try.prog w3.drew = .ok (.string s4) w3.drew := by
              rw [hs4]; exact conv_at w3.drew _ X _ (hrow.at_ HSX.out)
            have HS4 := Lib.hid hs4; clear hs4
            have HRW := Lib.hid hrow; clear hrow
            obtain ⟨m, hm⟩ : ∃ m, m = X.length := ⟨_, rfl⟩
            rw [← hm] at v0
            rw [← hm]
            have hm3 : m ≤ 3000 := by have := HG.out.few; omega
            have HM := Lib.hid hm; clear hm
            go_wp2
            go_region_with (go_at_call 20; refine (next_goes mb Ab N cb a f _ bs X a2 f2 _ ?_ ?_ HN.out ha h2 hcb HNB.out HG.out).mono ?_; exact P2.out; exact HBS.out.below P3.out.drew; rintro e w4 ⟨A4, d4, rfl, h4, hm4, hg4⟩; have R1 := Lib.hid (Rd.other (w := w3.drew) (P1.out.same rfl) hg4 (Or.inr hrm)); have R2 := Lib.hid hm4; have R3 := Lib.hid (below_only P3.out.drew hg4 P3.out.size (by omega)); have RW4 := Lib.hid (Row.kept (w := w3.drew) HRW.out (hg4.block g HRW.out.lt (fun e => by injection e with e; omega))); have v1 := conv_at w4 _ X m (RW4.out.at_ HSX.out); have v2 := conv_at w4 A4 X d4 h4; rw [← HS4.out, ← HM.out] at v1; rw [← HS4.out] at v2; clear hm4 hg4 h4)
            all_goals
              clear v0 v1 v2
              go_wp2
              go_loopg [13] m (fun g2 i wr => SpoilRel w4 g m g2 i wr)
              case atStart => exact ⟨0, X, by omega, rfl, HM.out.symm, RW4.out, Below.refl _ _⟩
              case round =>
                obtain ⟨k9, cur, hk9, rfl, hcl, hcr, hcb9⟩ := hrel
                have HCR := Lib.hid hcr; clear hcr
                have HCL := Lib.hid hcl; clear hcl
                have HCB := Lib.hid hcb9; clear hcb9
                by_cases hkn9 : k9 < m
                · obtain ⟨u, hcu, hfu⟩ := spoil_cell HCR.out HCL.out hkn9
                  go_wp2
                  go_roundg (gk - 1)
                  case measure => omega
                  case rel =>
                    refine ⟨k9 + 1, cur.set k9 0, by omega, by go_num, by rw [List.length_set]; exact HCL.out, ?_, HCB.out.setCell (p := ⟨g, k9, none⟩) (Nat.le_refl _) _⟩
                    exact HCR.out.set k9 0
                · obtain ⟨wT, rfl⟩ : ∃ wT : World, wT = wr := ⟨_, rfl⟩
                  have P1 := Lib.hid (R1.out.kept (w' := wT) (fun k _ hk => HCB.out.block k (by omega)))
                  have P2 := Lib.hid (R2.out.kept (w' := wT) (HCB.out.block mb hgm))
                  have P3 := Lib.hid (R3.out.trans (HCB.out.mono (by omega)))
                  have c0' := (P3.out.cell hbk).trans D0.out
                  clear R1 R2 R3 RW4 HCR HCL HCB
                  have hat3 : At wT Ab bs := HBS.out.below P3.out
                  obtain ⟨m0, m1, m2, _, _⟩ := P2.out.cells
                  obtain ⟨K, hK⟩ : ∃ K, a2 + K = N := ⟨N - a2, by have := HGL.out.1; omega⟩
                  have hLen : (bs.drop a2).length = K := by rw [List.length_drop, HN.out]; omega
                  have HLen := Lib.hid hLen; clear hLen hat3
                  have g5 : IntKind.i64.wrap ((N : Int) - (a2 : Int)) = (N : Int) - (a2 : Int) := IntWalk.i64_in _ (by omega)
                  have hne : ((K : Int) == (N : Int) - (a2 : Int)) = true := by simp; omega
                  have hne2 : (f2 == f2) = true := by cases f2 <;> rfl
                  go_wp2
                  go_quiet ((first | (go_at_call 22; exact Calls.quiet_of_same (bad_same lo r _ f2 _ (P1.out.same rfl))) | (go_at_call 23; exact Calls.quiet_of_same (left_same lo r K _ f2 _ (P1.out.same rfl) HLen.out))))
                  clear g5 hne hne2
                  go_wp2
                  go_roundg (G - 1)
                  case measure => omega
                  case rel => exact ⟨j + 1, a2, f2, by omega, by go_num, HGL.out.1, HGL.out.2, P1.out.same rfl, P2.out, below_dn P3.out _⟩
        · go_wp2_with fail
          refine (works_any _).mono ?_
          rintro e w9 ⟨rfl, hb9⟩
          have HB9 := Lib.hid (below_trans Q3.out hb9); clear hb9
          go_wp2
          go_ret
          exact ⟨rfl, HB9.out⟩

end Go.Proofs.Ytepcfinojifecaa
