/-
  What is proved here: the law InboxKnown returns true: the examples hold; messages to vertices about each bound, for all kinds. No condition.
-/
import Derived.Test.YtgkmmjlhphinhaaInKn1
namespace Go.Proofs.Ytgkmmjlhphinhaa.In
open Go.RowKit Go.Maps Gr Wd Ws Fx Rk Lb Al

theorem cut_lox (A : Option Addr) (n c k : Nat) (x : Int) (hx : x = (k : Int)) (hk : k ≤ n) (hc : n ≤ c) : ∃ A1 c1, k ≤ c1 ∧ (∀ W, (Instr.slice 24 (.slice A n c) none (some (.int .i64 x)) none).run Try.prog W = .ok (.slice A1 k c1) W) ∧ ∀ (w : World) (L : List Ms), MAt w A L → MAt w A1 (L.take k) := by
  subst hx; exact cut_lo A n c k hk hc
theorem cut_hix (A : Option Addr) (n c k m : Nat) (x : Int) (hx : x = (k : Int)) (hk : k ≤ n) (hc : n ≤ c) (hm : n - k = m) : ∃ A1 c1, m ≤ c1 ∧ (∀ W, (Instr.slice 24 (.slice A n c) (some (.int .i64 x)) none none).run Try.prog W = .ok (.slice A1 m c1) W) ∧ ∀ (w : World) (L : List Ms), L.length = n → MAt w A L → MAt w A1 (L.drop k) := by
  subst hx; subst hm; exact cut_hi A n c k hk hc
def K1Rel (w : World) (gk : Nat) (i : Value) (wr : World) : Prop := ∃ kd : Nat, kd + gk = 5 ∧ i = .int .u8 (kd : Int) ∧ Hid (Below w.heap.size w wr)
def K2Rel (w : World) (gk : Nat) (i : Value) (wr : World) : Prop := ∃ q : Nat, q + gk = 9 ∧ i = .int .i64 (q : Int) ∧ Hid (Below w.heap.size w wr)
theorem jb_new (w : World) (k : Int) : (w.alloc (.cells #[.int .u8 k, .int .i64 0, .int .i64 0, .int .i64 0, .int .i64 0] 23)).heap[w.heap.size]? = some (.cells #[.int .u8 k, .int .i64 0, .int .i64 0, .int .i64 0, .int .i64 0] 23 (0, 0)) := heap_alloc_new w _

theorem rms_nil (w : World) (A : Option Addr) : RMs w A [] := fun k L h => by simp at h
theorem iat_nil0 (w : World) (A : Option Addr) : IAt w A [] := fun k e h => by simp at h
theorem yes_m0 (w0 : World) : Hid (Yes w0 5 #[.agg #[.int .u8 2, .int .i64 0, .int .i64 0, .int .i64 0, .int .i64 0], .slice none 0 0, .slice none 0 0, .slice none 0 0]) := Lib.hid fun W hW => by
  refine (law_merge 2 0 0 0 0 none none none 0 0 0 0 0 0 [] [] [] W (Lib.hid (iat_nil0 _ _)) (Lib.hid rfl) (Lib.hid (rms_nil _ _)) (Lib.hid rfl) (Lib.hid (KAt.nil _ _)) (Lib.hid rfl) (Lib.hid (fun x hx => by simp at hx)) (Lib.hid (fun x hx => by simp at hx)) (Lib.hid (fun x hx => by simp at hx)) (by omega) (by omega) (by omega)).mono ?_
  rintro e w' ⟨he, hb⟩
  exact ⟨he, Lib.hid (step_below hW.out hW.out.size hb.out)⟩
theorem yes_m1 (w0 W : World) (hW : Hid (Below w0.heap.size w0 W)) : Hid (Calls Try.prog 5 #[.agg #[.int .u8 2, .int .i64 0, .int .i64 0, .int .i64 0, .int .i64 0], .slice (some ⟨W.heap.size, 0, none⟩) 1 1, .slice none 0 0, .slice (some ⟨W.heap.size + 1, 0, none⟩) 1 1]
    ((W.alloc (.cells #[.int .i64 1] 3)).alloc (.cells #[.bool false, .int .i64 4] 43)) fun e w' => e = .returned (.bool true) ∧ Hid (Below w0.heap.size w0 w')) := Lib.hid <| by
  obtain ⟨a1, a2, hb⟩ := al2 W (.cells #[.int .i64 1] 3) (.cells #[.bool false, .int .i64 4] 43)
  have hb' := step_below hW.out hW.out.size hb
  refine (law_merge 2 0 0 0 0 (some ⟨W.heap.size, 0, none⟩) none (some ⟨W.heap.size + 1, 0, none⟩) 1 1 0 0 1 1 [1] [] [(false, 4)] _ (Lib.hid (iat_block a1)) (Lib.hid rfl) (Lib.hid (rms_nil _ _)) (Lib.hid rfl) (Lib.hid (kat_block a2)) (Lib.hid rfl) (Lib.hid (fun x hx => by simp at hx)) (Lib.hid (by unfold OwnIn; decide)) (Lib.hid (fun x hx => by simp at hx)) (by omega) (by omega) (by omega)).mono ?_
  rintro e w' ⟨he, hbe⟩
  exact ⟨he, Lib.hid (step_below hb' hb'.size hbe.out)⟩

attribute [local irreducible] Calls in
set_option maxRecDepth 100000 in
set_option maxHeartbeats 16000000 in
theorem known_law (w : World) : Calls Try.prog 7 #[] w fun e w' => e = .returned (.bool true) ∧ Hid (Below w.heap.size w w') := by
  have mixed := mixedI
  obtain ⟨W1, hW1⟩ : ∃ W1, W1 = w.alloc (.cells (mcs knL).toArray 29) := ⟨_, rfl⟩
  have hb1 : Below w.heap.size w W1 := by rw [hW1]; exact (Below.refl _ w).alloc (Nat.le_refl _) _
  have hm1 : MAt W1 (some ⟨w.heap.size, 0, none⟩) knL := mat_block (by rw [hW1]; exact heap_alloc_new w _)
  have HB1 := Lib.hid hb1; have HM1 := Lib.hid hm1
  have e1 : (mcs knL).toArray = #[.int .i64 3, .int .i64 7, .int .i64 1, .int .i64 4, .int .i64 3, .int .i64 5, .int .i64 0, .int .i64 9, .int .i64 511, .int .i64 1, .int .i64 3, .int .i64 7, .int .i64 2, .int .i64 0, .int .i64 1, .int .i64 4611686018427387904] := rfl
  rw [e1] at hW1
  clear hb1 hm1 e1
  obtain ⟨bl, hbl⟩ : ∃ bl, bl = w.heap.size := ⟨_, rfl⟩
  rw [← hbl] at HM1
  go_enter Try.func7, Try.ntmps7
  go_upto_region 2 with fail
  rw [← hW1, ← hbl]
  clear hW1 hbl
  obtain ⟨W2, hW2⟩ : ∃ W2, W2 = W1.alloc (.cells (mcs knO).toArray 29) := ⟨_, rfl⟩
  have hb2 : Below W1.heap.size W1 W2 := by rw [hW2]; exact (Below.refl _ W1).alloc (Nat.le_refl _) _
  have HO2 : Hid (MOwn W2 W1.heap.size (.slice (some ⟨W1.heap.size, 0, none⟩) 4 4) knO) := Lib.hid (mown_block (by rw [hW2]; exact heap_alloc_new W1 _) (Nat.le_refl _) rfl (by omega))
  have HM2 := Lib.hid (HM1.out.below hb2)
  have HS2 := Lib.hid hb2.size
  have HB2 := Lib.hid (step_below HB1.out HB1.out.size hb2)
  have e2 : (mcs knO).toArray = #[.int .i64 (-1), .int .i64 3, .int .i64 512, .int .i64 3, .int .i64 3, .int .i64 (-5), .int .i64 1099511627776, .int .i64 1] := rfl
  rw [e2] at hW2
  have HL4 : Hid (knO.length + 8 < 1000000000) := Lib.hid (by decide)
  have HL8 : Hid (knL.length = 8) := Lib.hid rfl
  rw [hW2] at HO2 HM2 HS2
  clear hb2 e2
  go_wp2_with (at_builtin; refine app_mrest rfl (.tmp 20) (.tmp 21) rfl W1.heap.size _ knO knL rfl HO2.out _ _ _ rfl HM2.out HL8.out HL4.out HS2.out ?_)
  intro v3 w3 ho3 hg3
  have hb3 : Below W1.heap.size W1 w3 := grown_own ((Below.refl _ W1).alloc (Nat.le_refl _) _) HS2.out HO2.out hg3
  have hlen3 : (knO ++ knL).length = 12 := rfl
  obtain ⟨Ao, co, hv3, hmo, hco, _⟩ := ho3.room
  rw [hlen3] at hv3 hco
  subst hv3
  have HMO3 := Lib.hid hmo; have HCO := Lib.hid hco
  have HML3 := Lib.hid (HM1.out.below hb3)
  have HB3 := Lib.hid (step_below HB1.out HB1.out.size hb3)
  clear ho3 hg3 hb3 hlen3 hmo hco hW2 HO2 HM2 HS2 HB2 HL4 HL8
  obtain ⟨W4, hW4⟩ : ∃ W4, W4 = w3.alloc (.cells (Lb.ints knW).toArray 3) := ⟨_, rfl⟩
  have hb4 : Below w3.heap.size w3 W4 := by rw [hW4]; exact (Below.refl _ w3).alloc (Nat.le_refl _) _
  have hi4 : IAt W4 (some ⟨w3.heap.size, 0, none⟩) knW := iat_block (by rw [hW4]; exact heap_alloc_new w3 _)
  have HI4 := Lib.hid hi4
  have HMO4 := Lib.hid (HMO3.out.below hb4)
  have HML4 := Lib.hid (HML3.out.below hb4)
  have HB4 := Lib.hid (step_below HB3.out HB3.out.size hb4)
  have e3 : (Lb.ints knW).toArray = #[.int .i64 0, .int .i64 1, .int .i64 2, .int .i64 3, .int .i64 511, .int .i64 3, .int .i64 5, .int .i64 (-1), .int .i64 512] := rfl
  rw [e3] at hW4
  obtain ⟨bo, hbo⟩ : ∃ bo, bo = w3.heap.size := ⟨_, rfl⟩
  rw [← hbo] at HI4
  clear hb4 hi4 e3 HMO3 HML3 HB3 HM1
  go_upto_region 4 with fail
  rw [← hW4, ← hbo]
  clear hW4 hbo
  go_wp2_with fail
  go_loopg [4] 5 (fun gk i wr => K1Rel W4 gk i wr)
  case atStart => exact ⟨0, rfl, rfl, Lib.hid (Below.refl _ _)⟩
  case round =>
    obtain ⟨kd, hkd, rfl, HB⟩ := hrel
    by_cases hlt : kd < 5
    · go_upto_region 8 with fail
      obtain ⟨W5, hW5⟩ : ∃ W5, W5 = wr.alloc (.cells #[.int .u8 (kd : Int), .int .i64 0, .int .i64 0, .int .i64 0, .int .i64 0] 23) := ⟨_, rfl⟩
      have hb5 : Below wr.heap.size wr W5 := by rw [hW5]; exact (Below.refl _ wr).alloc (Nat.le_refl _) _
      have x5 := jb_new wr (kd : Int)
      rw [← hW5] at x5 ⊢
      obtain ⟨bj, hbj⟩ : ∃ bj, bj = wr.heap.size := ⟨_, rfl⟩
      rw [← hbj] at x5 ⊢
      have HX5 := Lib.hid x5
      have HB5 := Lib.hid (step_below HB.out HB.out.size hb5)
      have HI5 := Lib.hid (HI4.out.below HB5.out)
      have HMO5 := Lib.hid (HMO4.out.below HB5.out)
      have HML5 := Lib.hid (HML4.out.below HB5.out)
      clear hW5 hb5 x5 hbj HB
      go_wp2_with fail
      have hd5 : decide ((kd : Int) < 5) = true := decide_eq_true (by omega)
      rw [hd5]
      clear hd5
      obtain ⟨G0, rfl⟩ : ∃ G0 : Nat, G0 = gk := ⟨_, rfl⟩
      go_loopg [6] 9 (fun gk i wr => K2Rel W5 gk i wr)
      case atStart => exact ⟨0, rfl, rfl, Lib.hid (Below.refl _ _)⟩
      case round =>
        obtain ⟨q, hq, rfl, HC⟩ := hrel
        by_cases hlt2 : q < 9
        · obtain ⟨a, ha⟩ : ∃ a, 12 - q = a := ⟨_, rfl⟩
          obtain ⟨e, he⟩ : ∃ e, 8 - q = e := ⟨_, rfl⟩
          obtain ⟨A1, c1, _, hs1, hm1⟩ := cut_lox Ao 12 co (q + 4) ((q : Int) + 4) (by omega) (by omega) HCO.out
          obtain ⟨A2, c2, _, hs2, hm2⟩ := cut_hix (some ⟨bl, 0, none⟩) 8 8 q e (q : Int) rfl (by omega) (by omega) he
          obtain ⟨A3, c3, _, hs3, hm3⟩ := cut_hix Ao 12 co q a (q : Int) rfl (by omega) HCO.out ha
          obtain ⟨A4, c4, _, hs4, hm4⟩ := cut_lox (some ⟨bl, 0, none⟩) 8 8 q (q : Int) rfl (by omega) (by omega)
          have hml := HML5.out.below HC.out
          have hmo := HMO5.out.below HC.out
          have hio := HI5.out.below HC.out
          have t1 : ((knO ++ knL).take (q + 4)).length = q + 4 := by rw [List.length_take]; show min (q + 4) 12 = q + 4; omega
          have t2 : (knL.drop q).length = e := by rw [List.length_drop]; exact he
          have t3 : ((knO ++ knL).drop q).length = a := by rw [List.length_drop]; exact ha
          have t4 : (knL.take q).length = q := by rw [List.length_take]; show min q 8 = q; omega
          have o1 : ToIn ((knO ++ knL).take (q + 4)) := fun x hx => knO_to x (List.mem_of_mem_take hx)
          have o2 : ToIn (knL.drop q) := fun x hx => knL_to x (List.mem_of_mem_drop hx)
          have o3 : ToIn ((knO ++ knL).drop q) := fun x hx => knO_to x (List.mem_of_mem_drop hx)
          have o4 : ToIn (knL.take q) := fun x hx => knL_to x (List.mem_of_mem_take hx)
          have HFa := yes_fold (kd : Int) 0 0 0 0 A1 (q + 4) c1 _ wr (hm1 wr _ hmo) t1 o1 (by omega)
          have HFb := yes_fold (kd : Int) 0 0 0 0 A2 e c2 _ wr (hm2 wr _ rfl hml) t2 o2 (by omega)
          have HSa := yes_split ((q : Int) * 9) Ao 12 co _ wr hmo rfl (by omega)
          have HSb := yes_split ((q : Int) - 1) Ao 12 co _ wr hmo rfl (by omega)
          have hV : RV wr [.slice A3 a c3, .slice A4 q c4, .slice none 0 0, .slice Ao 12 co] [(knO ++ knL).drop q, knL.take q, [], knO ++ knL] :=
            RV.cons t3 (hm3 wr _ rfl hmo) (RV.cons t4 (hm4 wr _ hml) (RV.cons (L := []) rfl (MAt.nil _ _) (RV.cons (L := knO ++ knL) rfl hmo (RV.nil _))))
          have hTf : ToIn ([(knO ++ knL).drop q, knL.take q, [], knO ++ knL] : List (List Ms)).flatten := fun x hx => by
            simp only [List.flatten_cons, List.flatten_nil, List.append_nil, List.nil_append] at hx
            rcases List.mem_append.1 hx with hx | hx
            · exact o3 x hx
            · rcases List.mem_append.1 hx with hx | hx
              · exact o4 x hx
              · exact knO_to x hx
          have hLn : ∀ L ∈ ([(knO ++ knL).drop q, knL.take q, [], knO ++ knL] : List (List Ms)), L.length ≤ 1000000 := fun L hL => by
            simp only [List.mem_cons, List.not_mem_nil, or_false] at hL
            rcases hL with rfl | rfl | rfl | rfl
            · omega
            · omega
            · simp
            · show 12 ≤ _; omega
          have HMa := yes_merge1 (kd : Int) 0 0 0 0 (some ⟨bo, 0, none⟩) 9 9 4 knW _ _ true 9 wr hio rfl hV rfl hTf knW_in hLn (by omega) (by omega)
          have HMb := yes_merge2 (kd : Int) 0 0 0 0 (some ⟨bo, 0, none⟩) 9 9 4 knW _ _ true 9 wr hio rfl hV rfl hTf knW_in hLn (by omega) (by omega)
          have HOr := yes_order (kd : Int) 0 0 0 0 (some ⟨bo, 0, none⟩) (some ⟨bl, 0, none⟩) 9 9 8 8 knW knL (q : Int) ((q : Int) * 3) ((q : Int) * 7) wr hio rfl hml rfl knL_to knW_in (by omega) (by omega) (by omega) (by omega) (by omega) (by omega) (by omega) (by omega) (by omega)
          have u7 : IntKind.u8.wrap ((q : Int) * 7) = (q : Int) * 7 := IntWalk.u8_in _ (by omega)
          have u1 : IntKind.i64.wrap ((q : Int) + 4) = (q : Int) + 4 := IntWalk.i64_in _ (by omega)
          have u2 : IntKind.i64.wrap ((q : Int) * 9) = (q : Int) * 9 := IntWalk.i64_in _ (by omega)
          have u3 : IntKind.i64.wrap ((q : Int) - 1) = (q : Int) - 1 := IntWalk.i64_in _ (by omega)
          have u4 : IntKind.i64.wrap ((q : Int) * 3) = (q : Int) * 3 := IntWalk.i64_in _ (by omega)
          have u5 : IntKind.i64.wrap ((q : Int) * 7) = (q : Int) * 7 := IntWalk.i64_in _ (by omega)
          have HG0 : Hid (Below wr.heap.size wr wr.drew) := Lib.hid ((Below.refl _ wr).drew)
          have HXr := Lib.hid (keep HX5.out HC.out)
          obtain ⟨j0, j1, j2, j3, j4, j5⟩ := jb_cells HXr.out
          clear hml hmo hio t1 t2 t3 t4 o1 o2 o3 o4 hV hTf hLn hm1 hm2 hm3 hm4 ha he
          go_wp2_with fail
          dsimp only [List.append]
          have hd8 : decide ((q : Int) ≤ 8) = true := decide_eq_true (by omega)
          rw [hd8]
          clear hd8
          go_cut [101] from 36 to 101 (fun x W => x = .bool false ∧ Hid (Below wr.heap.size wr W))
          case first =>
            by_cases hk0 : kd = 0
            · have hd1 : decide (0 < kd) = false := decide_eq_false (by omega)
              clear hk0
              refine wp_region_held_drew (S := (fun w' => w'.cell? ⟨bj, 0, none⟩ = some (.int .u8 (kd : Int)) ∧ w'.cell? ⟨bj, 1, none⟩ = some (.int .i64 0) ∧ w'.cell? ⟨bj, 2, none⟩ = some (.int .i64 0) ∧ w'.cell? ⟨bj, 3, none⟩ = some (.int .i64 0) ∧ w'.cell? ⟨bj, 4, none⟩ = some (.int .i64 0))) (by kernel_rfl) ?_ (fun hHeld => ?_)
              · ((try dsimp only); go_keep)
              refine wpAnyH_take (i := 0) (oi := { dst := some 36, op := Op.load 23 (Operand.tmp 5), type := 23, pos := "law.go:117", after := #[], guard := none }) (v := ?_) rfl (by kernel_rfl) (by kernel_rfl) (by kernel_rfl) (fun _ _ _ h => h) (Or.inl ⟨by rfl, ?_⟩) (by assumption) ?_; rotate_left
              · intro w hSw; (try dsimp only at hSw); go_split_ands; go_simp; (try with_reducible rfl)
              try simp only [Act.put, List.setIfInBounds_toArray, List.set_cons_zero, List.set_cons_succ]
              refine wpAnyH_take (i := 1) (oi := { dst := some 37, op := Op.move (Operand.tmp 2), type := 24, pos := "law.go:117", after := #[], guard := none }) (v := ?_) rfl (by kernel_rfl) (by kernel_rfl) (by kernel_rfl) (fun _ _ _ h => h) (Or.inl ⟨by rfl, ?_⟩) (by assumption) ?_; rotate_left
              · intro w hSw; (try dsimp only at hSw); go_split_ands; go_simp; (try with_reducible rfl)
              try simp only [Act.put, List.setIfInBounds_toArray, List.set_cons_zero, List.set_cons_succ]
              refine wpAnyH_take (i := 2) (oi := { dst := some 38, op := Op.move (Operand.tmp 6), type := 3, pos := "law.go:117", after := #[], guard := none }) (v := ?_) rfl (by kernel_rfl) (by kernel_rfl) (by kernel_rfl) (fun _ _ _ h => h) (Or.inl ⟨by rfl, ?_⟩) (by assumption) ?_; rotate_left
              · intro w hSw; (try dsimp only at hSw); go_split_ands; go_simp; (try with_reducible rfl)
              try simp only [Act.put, List.setIfInBounds_toArray, List.set_cons_zero, List.set_cons_succ]
              refine wpAnyH_take (i := 3) (oi := { dst := some 39, op := Op.binOp BinOp.add 3 (Operand.tmp 38) (Operand.const (Value.int IntKind.i64 4)) 3, type := 3, pos := "law.go:117", after := #[{ on := 2, ground := Ground.data }], guard := none }) (v := ?_) rfl (by kernel_rfl) (by kernel_rfl) (by kernel_rfl) (fun _ _ _ h => h) (Or.inl ⟨by rfl, ?_⟩) (by assumption) ?_; rotate_left
              · intro w hSw; (try dsimp only at hSw); go_split_ands; go_simp; (try with_reducible rfl)
              try simp only [Act.put, List.setIfInBounds_toArray, List.set_cons_zero, List.set_cons_succ]
              refine wpAnyH_take (i := 4) (oi := { dst := some 40, op := Op.slice 24 (Operand.tmp 37) none (some (Operand.tmp 39)) none, type := 24, pos := "law.go:117", after := #[{ on := 1, ground := Ground.data }, { on := 3, ground := Ground.data }], guard := none }) (v := ?_) rfl (by kernel_rfl) (by kernel_rfl) (by kernel_rfl) (fun _ _ _ h => h) (Or.inl ⟨by rfl, ?_⟩) (by assumption) ?_; rotate_left
              · intro w hSw; (try dsimp only at hSw); go_split_ands; go_simp; (try with_reducible rfl)
              try simp only [Act.put, List.setIfInBounds_toArray, List.set_cons_zero, List.set_cons_succ]
              refine wpAnyH_ready (rs := [5]) (by kernel_rfl) (by simp) ?_
              refine AllReadyH.cons (o := { dst := some 41, op := Op.call { callee := Callee.value (Operand.func 3), args := #[Operand.tmp 36, Operand.tmp 40], argTypes := #[23, 24] }, type := 4, pos := "law.go:117", after := #[{ on := 0, ground := Ground.data }, { on := 4, ground := Ground.data }], guard := none }) rfl (fun K hK => ?_) AllReadyH.nil
              go_simp
              go_at_call 3
              refine (HFa.out _ ?_).mono ?_
              · assumption
              rintro e w9 ⟨rfl, HG9⟩
              obtain ⟨g0, g1, g2, g3, g4, g5⟩ := jb_cells (keep HXr.out HG9.out)
              go_wp2_with fail
              refine hK.out _ _ ?_ (fun hHeld => ?_)
              · ((try dsimp only); go_keep)
              clear hK K
              try simp only [Act.put, List.setIfInBounds_toArray, List.set_cons_zero, List.set_cons_succ]
              refine wpAnyH_take (i := 6) (oi := { dst := some 42, op := Op.unOp UnOp.not 4 (Operand.tmp 41), type := 4, pos := "law.go:117", after := #[{ on := 5, ground := Ground.data }], guard := none }) (v := ?_) rfl (by kernel_rfl) (by kernel_rfl) (by kernel_rfl) (fun _ _ _ h => h) (Or.inl ⟨by rfl, ?_⟩) (by assumption) ?_; rotate_left
              · intro w hSw; (try dsimp only at hSw); go_split_ands; go_simp; (try with_reducible rfl)
              try simp only [Act.put, List.setIfInBounds_toArray, List.set_cons_zero, List.set_cons_succ]
              refine wpAnyH_take (i := 7) (oi := { dst := some 43, op := Op.move (Operand.tmp 42), type := 4, pos := "law.go:117", after := #[{ on := 6, ground := Ground.data }, { on := 5, ground := Ground.chain }], guard := none }) (v := ?_) rfl (by kernel_rfl) (by kernel_rfl) (by kernel_rfl) (fun _ _ _ h => h) (Or.inl ⟨by rfl, ?_⟩) (by assumption) ?_; rotate_left
              · intro w hSw; (try dsimp only at hSw); go_split_ands; go_simp; (try with_reducible rfl)
              try simp only [Act.put, List.setIfInBounds_toArray, List.set_cons_zero, List.set_cons_succ]
              refine wpAnyH_take (i := 8) (oi := { dst := some 44, op := Op.load 23 (Operand.tmp 5), type := 23, pos := "law.go:117", after := #[{ on := 7, ground := Ground.guard }], guard := some (7, false) }) (v := ?_) rfl (by kernel_rfl) (by kernel_rfl) (by kernel_rfl) (fun _ _ _ h => h) (Or.inl ⟨by rfl, ?_⟩) (by assumption) ?_; rotate_left
              · intro w hSw; (try dsimp only at hSw); go_split_ands; go_simp; (try with_reducible rfl)
              try simp only [Act.put, List.setIfInBounds_toArray, List.set_cons_zero, List.set_cons_succ]
              refine wpAnyH_take (i := 9) (oi := { dst := some 45, op := Op.move (Operand.tmp 1), type := 24, pos := "law.go:117", after := #[{ on := 7, ground := Ground.guard }], guard := some (7, false) }) (v := ?_) rfl (by kernel_rfl) (by kernel_rfl) (by kernel_rfl) (fun _ _ _ h => h) (Or.inl ⟨by rfl, ?_⟩) (by assumption) ?_; rotate_left
              · intro w hSw; (try dsimp only at hSw); go_split_ands; go_simp; (try with_reducible rfl)
              try simp only [Act.put, List.setIfInBounds_toArray, List.set_cons_zero, List.set_cons_succ]
              refine wpAnyH_take (i := 10) (oi := { dst := some 46, op := Op.move (Operand.tmp 6), type := 3, pos := "law.go:117", after := #[{ on := 7, ground := Ground.guard }], guard := some (7, false) }) (v := ?_) rfl (by kernel_rfl) (by kernel_rfl) (by kernel_rfl) (fun _ _ _ h => h) (Or.inl ⟨by rfl, ?_⟩) (by assumption) ?_; rotate_left
              · intro w hSw; (try dsimp only at hSw); go_split_ands; go_simp; (try with_reducible rfl)
              try simp only [Act.put, List.setIfInBounds_toArray, List.set_cons_zero, List.set_cons_succ]
              refine wpAnyH_take (i := 11) (oi := { dst := some 47, op := Op.slice 24 (Operand.tmp 45) (some (Operand.tmp 46)) none none, type := 24, pos := "law.go:117", after := #[{ on := 9, ground := Ground.data }, { on := 10, ground := Ground.data }, { on := 7, ground := Ground.guard }], guard := some (7, false) }) (v := ?_) rfl (by kernel_rfl) (by kernel_rfl) (by kernel_rfl) (fun _ _ _ h => h) (Or.inl ⟨by rfl, ?_⟩) (by assumption) ?_; rotate_left
              · intro w hSw; (try dsimp only at hSw); go_split_ands; go_simp; (try with_reducible rfl)
              try simp only [Act.put, List.setIfInBounds_toArray, List.set_cons_zero, List.set_cons_succ]
              refine wpAnyH_ready (rs := [12]) (by kernel_rfl) (by simp) ?_
              refine AllReadyH.cons (o := { dst := some 48, op := Op.call { callee := Callee.value (Operand.func 3), args := #[Operand.tmp 44, Operand.tmp 47], argTypes := #[23, 24] }, type := 4, pos := "law.go:117", after := #[{ on := 8, ground := Ground.data }, { on := 11, ground := Ground.data }, { on := 7, ground := Ground.chain }, { on := 7, ground := Ground.guard }], guard := some (7, false) }) rfl (fun K hK => ?_) AllReadyH.nil
              go_simp
              go_at_call 3
              refine (HFb.out _ ?_).mono ?_
              · assumption
              rintro e w9 ⟨rfl, HG9⟩
              obtain ⟨g0, g1, g2, g3, g4, g5⟩ := jb_cells (keep HXr.out HG9.out)
              go_wp2_with fail
              refine hK.out _ _ ?_ (fun hHeld => ?_)
              · ((try dsimp only); go_keep)
              clear hK K
              try simp only [Act.put, List.setIfInBounds_toArray, List.set_cons_zero, List.set_cons_succ]
              refine wpAnyH_take (i := 13) (oi := { dst := some 49, op := Op.unOp UnOp.not 4 (Operand.tmp 48), type := 4, pos := "law.go:117", after := #[{ on := 12, ground := Ground.data }, { on := 7, ground := Ground.guard }], guard := some (7, false) }) (v := ?_) rfl (by kernel_rfl) (by kernel_rfl) (by kernel_rfl) (fun _ _ _ h => h) (Or.inl ⟨by rfl, ?_⟩) (by assumption) ?_; rotate_left
              · intro w hSw; (try dsimp only at hSw); go_split_ands; go_simp; (try with_reducible rfl)
              try simp only [Act.put, List.setIfInBounds_toArray, List.set_cons_zero, List.set_cons_succ]
              refine wpAnyH_take (i := 14) (oi := { dst := some 50, op := Op.pick (Operand.tmp 43) (Operand.const (Value.bool true)) (Operand.tmp 49), type := 4, pos := "law.go:117", after := #[{ on := 7, ground := Ground.data }, { on := 13, ground := Ground.data }], guard := none }) (v := ?_) rfl (by kernel_rfl) (by kernel_rfl) (by kernel_rfl) (fun _ _ _ h => h) (Or.inl ⟨by rfl, ?_⟩) (by assumption) ?_; rotate_left
              · intro w hSw; (try dsimp only at hSw); go_split_ands; go_simp; (try with_reducible rfl)
              try simp only [Act.put, List.setIfInBounds_toArray, List.set_cons_zero, List.set_cons_succ]
              refine wpAnyH_take (i := 15) (oi := { dst := some 51, op := Op.move (Operand.tmp 50), type := 4, pos := "law.go:117", after := #[{ on := 14, ground := Ground.data }, { on := 12, ground := Ground.chain }], guard := none }) (v := ?_) rfl (by kernel_rfl) (by kernel_rfl) (by kernel_rfl) (fun _ _ _ h => h) (Or.inl ⟨by rfl, ?_⟩) (by assumption) ?_; rotate_left
              · intro w hSw; (try dsimp only at hSw); go_split_ands; go_simp; (try with_reducible rfl)
              try simp only [Act.put, List.setIfInBounds_toArray, List.set_cons_zero, List.set_cons_succ]
              refine wpAnyH_take (i := 16) (oi := { dst := some 52, op := Op.move (Operand.tmp 2), type := 24, pos := "law.go:117", after := #[{ on := 15, ground := Ground.guard }], guard := some (15, false) }) (v := ?_) rfl (by kernel_rfl) (by kernel_rfl) (by kernel_rfl) (fun _ _ _ h => h) (Or.inl ⟨by rfl, ?_⟩) (by assumption) ?_; rotate_left
              · intro w hSw; (try dsimp only at hSw); go_split_ands; go_simp; (try with_reducible rfl)
              try simp only [Act.put, List.setIfInBounds_toArray, List.set_cons_zero, List.set_cons_succ]
              refine wpAnyH_take (i := 17) (oi := { dst := some 53, op := Op.move (Operand.tmp 6), type := 3, pos := "law.go:117", after := #[{ on := 15, ground := Ground.guard }], guard := some (15, false) }) (v := ?_) rfl (by kernel_rfl) (by kernel_rfl) (by kernel_rfl) (fun _ _ _ h => h) (Or.inl ⟨by rfl, ?_⟩) (by assumption) ?_; rotate_left
              · intro w hSw; (try dsimp only at hSw); go_split_ands; go_simp; (try with_reducible rfl)
              try simp only [Act.put, List.setIfInBounds_toArray, List.set_cons_zero, List.set_cons_succ]
              refine wpAnyH_take (i := 18) (oi := { dst := some 54, op := Op.binOp BinOp.mul 3 (Operand.tmp 53) (Operand.const (Value.int IntKind.i64 9)) 3, type := 3, pos := "law.go:117", after := #[{ on := 17, ground := Ground.data }, { on := 15, ground := Ground.guard }], guard := some (15, false) }) (v := ?_) rfl (by kernel_rfl) (by kernel_rfl) (by kernel_rfl) (fun _ _ _ h => h) (Or.inl ⟨by rfl, ?_⟩) (by assumption) ?_; rotate_left
              · intro w hSw; (try dsimp only at hSw); go_split_ands; go_simp; (try with_reducible rfl)
              try simp only [Act.put, List.setIfInBounds_toArray, List.set_cons_zero, List.set_cons_succ]
              refine wpAnyH_ready (rs := [19]) (by kernel_rfl) (by simp) ?_
              refine AllReadyH.cons (o := { dst := some 55, op := Op.call { callee := Callee.value (Operand.func 4), args := #[Operand.tmp 52, Operand.tmp 54], argTypes := #[24, 3] }, type := 4, pos := "law.go:117", after := #[{ on := 16, ground := Ground.data }, { on := 18, ground := Ground.data }, { on := 15, ground := Ground.chain }, { on := 15, ground := Ground.guard }], guard := some (15, false) }) rfl (fun K hK => ?_) AllReadyH.nil
              go_simp
              go_at_call 4
              refine (HSa.out _ ?_).mono ?_
              · assumption
              rintro e w9 ⟨rfl, HG9⟩
              obtain ⟨g0, g1, g2, g3, g4, g5⟩ := jb_cells (keep HXr.out HG9.out)
              go_wp2_with fail
              refine hK.out _ _ ?_ (fun hHeld => ?_)
              · ((try dsimp only); go_keep)
              clear hK K
              try simp only [Act.put, List.setIfInBounds_toArray, List.set_cons_zero, List.set_cons_succ]
              refine wpAnyH_take (i := 20) (oi := { dst := some 56, op := Op.unOp UnOp.not 4 (Operand.tmp 55), type := 4, pos := "law.go:117", after := #[{ on := 19, ground := Ground.data }, { on := 15, ground := Ground.guard }], guard := some (15, false) }) (v := ?_) rfl (by kernel_rfl) (by kernel_rfl) (by kernel_rfl) (fun _ _ _ h => h) (Or.inl ⟨by rfl, ?_⟩) (by assumption) ?_; rotate_left
              · intro w hSw; (try dsimp only at hSw); go_split_ands; go_simp; (try with_reducible rfl)
              try simp only [Act.put, List.setIfInBounds_toArray, List.set_cons_zero, List.set_cons_succ]
              refine wpAnyH_take (i := 21) (oi := { dst := some 57, op := Op.pick (Operand.tmp 51) (Operand.const (Value.bool true)) (Operand.tmp 56), type := 4, pos := "law.go:117", after := #[{ on := 15, ground := Ground.data }, { on := 20, ground := Ground.data }], guard := none }) (v := ?_) rfl (by kernel_rfl) (by kernel_rfl) (by kernel_rfl) (fun _ _ _ h => h) (Or.inl ⟨by rfl, ?_⟩) (by assumption) ?_; rotate_left
              · intro w hSw; (try dsimp only at hSw); go_split_ands; go_simp; (try with_reducible rfl)
              try simp only [Act.put, List.setIfInBounds_toArray, List.set_cons_zero, List.set_cons_succ]
              refine wpAnyH_take (i := 22) (oi := { dst := some 58, op := Op.move (Operand.tmp 57), type := 4, pos := "law.go:117", after := #[{ on := 21, ground := Ground.data }, { on := 19, ground := Ground.chain }], guard := none }) (v := ?_) rfl (by kernel_rfl) (by kernel_rfl) (by kernel_rfl) (fun _ _ _ h => h) (Or.inl ⟨by rfl, ?_⟩) (by assumption) ?_; rotate_left
              · intro w hSw; (try dsimp only at hSw); go_split_ands; go_simp; (try with_reducible rfl)
              try simp only [Act.put, List.setIfInBounds_toArray, List.set_cons_zero, List.set_cons_succ]
              refine wpAnyH_take (i := 23) (oi := { dst := some 59, op := Op.move (Operand.tmp 2), type := 24, pos := "law.go:117", after := #[{ on := 22, ground := Ground.guard }], guard := some (22, false) }) (v := ?_) rfl (by kernel_rfl) (by kernel_rfl) (by kernel_rfl) (fun _ _ _ h => h) (Or.inl ⟨by rfl, ?_⟩) (by assumption) ?_; rotate_left
              · intro w hSw; (try dsimp only at hSw); go_split_ands; go_simp; (try with_reducible rfl)
              try simp only [Act.put, List.setIfInBounds_toArray, List.set_cons_zero, List.set_cons_succ]
              refine wpAnyH_take (i := 24) (oi := { dst := some 60, op := Op.move (Operand.tmp 6), type := 3, pos := "law.go:117", after := #[{ on := 22, ground := Ground.guard }], guard := some (22, false) }) (v := ?_) rfl (by kernel_rfl) (by kernel_rfl) (by kernel_rfl) (fun _ _ _ h => h) (Or.inl ⟨by rfl, ?_⟩) (by assumption) ?_; rotate_left
              · intro w hSw; (try dsimp only at hSw); go_split_ands; go_simp; (try with_reducible rfl)
              try simp only [Act.put, List.setIfInBounds_toArray, List.set_cons_zero, List.set_cons_succ]
              refine wpAnyH_take (i := 25) (oi := { dst := some 61, op := Op.binOp BinOp.sub 3 (Operand.tmp 60) (Operand.const (Value.int IntKind.i64 1)) 3, type := 3, pos := "law.go:117", after := #[{ on := 24, ground := Ground.data }, { on := 22, ground := Ground.guard }], guard := some (22, false) }) (v := ?_) rfl (by kernel_rfl) (by kernel_rfl) (by kernel_rfl) (fun _ _ _ h => h) (Or.inl ⟨by rfl, ?_⟩) (by assumption) ?_; rotate_left
              · intro w hSw; (try dsimp only at hSw); go_split_ands; go_simp; (try with_reducible rfl)
              try simp only [Act.put, List.setIfInBounds_toArray, List.set_cons_zero, List.set_cons_succ]
              refine wpAnyH_ready (rs := [26]) (by kernel_rfl) (by simp) ?_
              refine AllReadyH.cons (o := { dst := some 62, op := Op.call { callee := Callee.value (Operand.func 4), args := #[Operand.tmp 59, Operand.tmp 61], argTypes := #[24, 3] }, type := 4, pos := "law.go:117", after := #[{ on := 23, ground := Ground.data }, { on := 25, ground := Ground.data }, { on := 22, ground := Ground.chain }, { on := 22, ground := Ground.guard }], guard := some (22, false) }) rfl (fun K hK => ?_) AllReadyH.nil
              go_simp
              go_at_call 4
              refine (HSb.out _ ?_).mono ?_
              · assumption
              rintro e w9 ⟨rfl, HG9⟩
              obtain ⟨g0, g1, g2, g3, g4, g5⟩ := jb_cells (keep HXr.out HG9.out)
              go_wp2_with fail
              refine hK.out _ _ ?_ (fun hHeld => ?_)
              · ((try dsimp only); go_keep)
              clear hK K
              try simp only [Act.put, List.setIfInBounds_toArray, List.set_cons_zero, List.set_cons_succ]
              refine wpAnyH_take (i := 27) (oi := { dst := some 63, op := Op.unOp UnOp.not 4 (Operand.tmp 62), type := 4, pos := "law.go:117", after := #[{ on := 26, ground := Ground.data }, { on := 22, ground := Ground.guard }], guard := some (22, false) }) (v := ?_) rfl (by kernel_rfl) (by kernel_rfl) (by kernel_rfl) (fun _ _ _ h => h) (Or.inl ⟨by rfl, ?_⟩) (by assumption) ?_; rotate_left
              · intro w hSw; (try dsimp only at hSw); go_split_ands; go_simp; (try with_reducible rfl)
              try simp only [Act.put, List.setIfInBounds_toArray, List.set_cons_zero, List.set_cons_succ]
              refine wpAnyH_take (i := 28) (oi := { dst := some 64, op := Op.pick (Operand.tmp 58) (Operand.const (Value.bool true)) (Operand.tmp 63), type := 4, pos := "law.go:117", after := #[{ on := 22, ground := Ground.data }, { on := 27, ground := Ground.data }], guard := none }) (v := ?_) rfl (by kernel_rfl) (by kernel_rfl) (by kernel_rfl) (fun _ _ _ h => h) (Or.inl ⟨by rfl, ?_⟩) (by assumption) ?_; rotate_left
              · intro w hSw; (try dsimp only at hSw); go_split_ands; go_simp; (try with_reducible rfl)
              try simp only [Act.put, List.setIfInBounds_toArray, List.set_cons_zero, List.set_cons_succ]
              refine wpAnyH_take (i := 29) (oi := { dst := some 65, op := Op.move (Operand.tmp 64), type := 4, pos := "law.go:117", after := #[{ on := 28, ground := Ground.data }, { on := 26, ground := Ground.chain }], guard := none }) (v := ?_) rfl (by kernel_rfl) (by kernel_rfl) (by kernel_rfl) (fun _ _ _ h => h) (Or.inl ⟨by rfl, ?_⟩) (by assumption) ?_; rotate_left
              · intro w hSw; (try dsimp only at hSw); go_split_ands; go_simp; (try with_reducible rfl)
              try simp only [Act.put, List.setIfInBounds_toArray, List.set_cons_zero, List.set_cons_succ]
              refine wpAnyH_take (i := 30) (oi := { dst := some 66, op := Op.load 23 (Operand.tmp 5), type := 23, pos := "law.go:117", after := #[{ on := 29, ground := Ground.guard }], guard := some (29, false) }) (v := ?_) rfl (by kernel_rfl) (by kernel_rfl) (by kernel_rfl) (fun _ _ _ h => h) (Or.inl ⟨by rfl, ?_⟩) (by assumption) ?_; rotate_left
              · intro w hSw; (try dsimp only at hSw); go_split_ands; go_simp; (try with_reducible rfl)
              try simp only [Act.put, List.setIfInBounds_toArray, List.set_cons_zero, List.set_cons_succ]
              refine wpAnyH_take (i := 31) (oi := { dst := some 67, op := Op.move (Operand.tmp 3), type := 34, pos := "law.go:117", after := #[{ on := 29, ground := Ground.guard }], guard := some (29, false) }) (v := ?_) rfl (by kernel_rfl) (by kernel_rfl) (by kernel_rfl) (fun _ _ _ h => h) (Or.inl ⟨by rfl, ?_⟩) (by assumption) ?_; rotate_left
              · intro w hSw; (try dsimp only at hSw); go_split_ands; go_simp; (try with_reducible rfl)
              try simp only [Act.put, List.setIfInBounds_toArray, List.set_cons_zero, List.set_cons_succ]
              refine wpAnyH_take (i := 32) (oi := { dst := some 68, op := Op.move (Operand.tmp 2), type := 24, pos := "law.go:117", after := #[{ on := 29, ground := Ground.guard }], guard := some (29, false) }) (v := ?_) rfl (by kernel_rfl) (by kernel_rfl) (by kernel_rfl) (fun _ _ _ h => h) (Or.inl ⟨by rfl, ?_⟩) (by assumption) ?_; rotate_left
              · intro w hSw; (try dsimp only at hSw); go_split_ands; go_simp; (try with_reducible rfl)
              try simp only [Act.put, List.setIfInBounds_toArray, List.set_cons_zero, List.set_cons_succ]
              refine wpAnyH_take (i := 33) (oi := { dst := some 69, op := Op.move (Operand.tmp 6), type := 3, pos := "law.go:117", after := #[{ on := 29, ground := Ground.guard }], guard := some (29, false) }) (v := ?_) rfl (by kernel_rfl) (by kernel_rfl) (by kernel_rfl) (fun _ _ _ h => h) (Or.inl ⟨by rfl, ?_⟩) (by assumption) ?_; rotate_left
              · intro w hSw; (try dsimp only at hSw); go_split_ands; go_simp; (try with_reducible rfl)
              try simp only [Act.put, List.setIfInBounds_toArray, List.set_cons_zero, List.set_cons_succ]
              refine wpAnyH_take (i := 34) (oi := { dst := some 70, op := Op.slice 24 (Operand.tmp 68) (some (Operand.tmp 69)) none none, type := 24, pos := "law.go:117", after := #[{ on := 32, ground := Ground.data }, { on := 33, ground := Ground.data }, { on := 29, ground := Ground.guard }], guard := some (29, false) }) (v := ?_) rfl (by kernel_rfl) (by kernel_rfl) (by kernel_rfl) (fun _ _ _ h => h) (Or.inl ⟨by rfl, ?_⟩) (by assumption) ?_; rotate_left
              · intro w hSw; (try dsimp only at hSw); go_split_ands; go_simp; (try with_reducible rfl)
              try simp only [Act.put, List.setIfInBounds_toArray, List.set_cons_zero, List.set_cons_succ]
              refine wpAnyH_take (i := 35) (oi := { dst := some 71, op := Op.move (Operand.tmp 1), type := 24, pos := "law.go:117", after := #[{ on := 29, ground := Ground.guard }], guard := some (29, false) }) (v := ?_) rfl (by kernel_rfl) (by kernel_rfl) (by kernel_rfl) (fun _ _ _ h => h) (Or.inl ⟨by rfl, ?_⟩) (by assumption) ?_; rotate_left
              · intro w hSw; (try dsimp only at hSw); go_split_ands; go_simp; (try with_reducible rfl)
              try simp only [Act.put, List.setIfInBounds_toArray, List.set_cons_zero, List.set_cons_succ]
              refine wpAnyH_take (i := 36) (oi := { dst := some 72, op := Op.move (Operand.tmp 6), type := 3, pos := "law.go:117", after := #[{ on := 29, ground := Ground.guard }], guard := some (29, false) }) (v := ?_) rfl (by kernel_rfl) (by kernel_rfl) (by kernel_rfl) (fun _ _ _ h => h) (Or.inl ⟨by rfl, ?_⟩) (by assumption) ?_; rotate_left
              · intro w hSw; (try dsimp only at hSw); go_split_ands; go_simp; (try with_reducible rfl)
              try simp only [Act.put, List.setIfInBounds_toArray, List.set_cons_zero, List.set_cons_succ]
              refine wpAnyH_take (i := 37) (oi := { dst := some 73, op := Op.slice 24 (Operand.tmp 71) none (some (Operand.tmp 72)) none, type := 24, pos := "law.go:117", after := #[{ on := 35, ground := Ground.data }, { on := 36, ground := Ground.data }, { on := 29, ground := Ground.guard }], guard := some (29, false) }) (v := ?_) rfl (by kernel_rfl) (by kernel_rfl) (by kernel_rfl) (fun _ _ _ h => h) (Or.inl ⟨by rfl, ?_⟩) (by assumption) ?_; rotate_left
              · intro w hSw; (try dsimp only at hSw); go_split_ands; go_simp; (try with_reducible rfl)
              try simp only [Act.put, List.setIfInBounds_toArray, List.set_cons_zero, List.set_cons_succ]
              refine wpAnyH_take (i := 38) (oi := { dst := some 74, op := Op.move (Operand.tmp 2), type := 24, pos := "law.go:117", after := #[{ on := 29, ground := Ground.guard }], guard := some (29, false) }) (v := ?_) rfl (by kernel_rfl) (by kernel_rfl) (by kernel_rfl) (fun _ _ _ h => h) (Or.inl ⟨by rfl, ?_⟩) (by assumption) ?_; rotate_left
              · intro w hSw; (try dsimp only at hSw); go_split_ands; go_simp; (try with_reducible rfl)
              try simp only [Act.put, List.setIfInBounds_toArray, List.set_cons_zero, List.set_cons_succ]
              refine wpAnyH_take (i := 40) (oi := { dst := some 76, op := Op.build 43 #[(0, Operand.const (Value.bool true)), (1, Operand.const (Value.int IntKind.i64 9))], type := 43, pos := "law.go:117", after := #[{ on := 29, ground := Ground.guard }], guard := some (29, false) }) (v := ?_) rfl (by kernel_rfl) (by kernel_rfl) (by kernel_rfl) (fun _ _ _ h => h) (Or.inl ⟨by rfl, ?_⟩) (by assumption) ?_; rotate_left
              · intro w hSw; (try dsimp only at hSw); go_split_ands; go_simp; (try with_reducible rfl)
              try simp only [Act.put, List.setIfInBounds_toArray, List.set_cons_zero, List.set_cons_succ]
              refine wpAnyH_ready (rs := [39, 41]) (by kernel_rfl) (by simp) ?_
              refine AllReadyH.cons (o := { dst := some 75, op := Op.buildSlice 31 4 #[(0, Operand.tmp 70), (1, Operand.tmp 73), (2, Operand.const (Value.slice none 0 0)), (3, Operand.tmp 74)], type := 31, pos := "law.go:117", after := #[{ on := 34, ground := Ground.data }, { on := 37, ground := Ground.data }, { on := 38, ground := Ground.data }, { on := 29, ground := Ground.guard }], guard := some (29, false) }) rfl (fun K hK => ?_) (AllReadyH.cons (o := { dst := some 77, op := Op.buildSlice 35 1 #[(0, Operand.tmp 76)], type := 35, pos := "law.go:117", after := #[{ on := 40, ground := Ground.data }, { on := 29, ground := Ground.guard }], guard := some (29, false) }) rfl (fun K hK => ?_) AllReadyH.nil)
              · go_simp
                refine hK.out _ _ ?_ (fun hHeld => ?_)
                · ((try dsimp only); go_keep)
                clear hK K
                try simp only [Act.put, List.setIfInBounds_toArray, List.set_cons_zero, List.set_cons_succ]
                refine wpAnyH_ready (rs := [41]) (by kernel_rfl) (by simp) ?_
                refine AllReadyH.cons (o := { dst := some 77, op := Op.buildSlice 35 1 #[(0, Operand.tmp 76)], type := 35, pos := "law.go:117", after := #[{ on := 40, ground := Ground.data }, { on := 29, ground := Ground.guard }], guard := some (29, false) }) rfl (fun K hK => ?_) AllReadyH.nil
                go_simp
                refine hK.out _ _ ?_ (fun hHeld => ?_)
                · ((try dsimp only); go_keep)
                clear hK K
                try simp only [Act.put, List.setIfInBounds_toArray, List.set_cons_zero, List.set_cons_succ]
                refine wpAnyH_ready (rs := [42]) (by kernel_rfl) (by simp) ?_
                refine AllReadyH.cons (o := { dst := some 78, op := Op.call { callee := Callee.value (Operand.func 5), args := #[Operand.tmp 66, Operand.tmp 67, Operand.tmp 75, Operand.tmp 77], argTypes := #[23, 34, 31, 35] }, type := 4, pos := "law.go:117", after := #[{ on := 30, ground := Ground.data }, { on := 31, ground := Ground.data }, { on := 39, ground := Ground.data }, { on := 41, ground := Ground.data }, { on := 29, ground := Ground.chain }, { on := 29, ground := Ground.guard }], guard := some (29, false) }) rfl (fun K hK => ?_) AllReadyH.nil
                go_simp
                go_at_call 5
                refine (HMa.out _ ?_).mono ?_
                · assumption
                rintro e w9 ⟨rfl, HG9⟩
                obtain ⟨g0, g1, g2, g3, g4, g5⟩ := jb_cells (keep HXr.out HG9.out)
                go_wp2_with fail
                refine hK.out _ _ ?_ (fun hHeld => ?_)
                · ((try dsimp only); go_keep)
                clear hK K
                try simp only [Act.put, List.setIfInBounds_toArray, List.set_cons_zero, List.set_cons_succ]
                refine wpAnyH_take (i := 43) (oi := { dst := some 79, op := Op.unOp UnOp.not 4 (Operand.tmp 78), type := 4, pos := "law.go:117", after := #[{ on := 42, ground := Ground.data }, { on := 29, ground := Ground.guard }], guard := some (29, false) }) (v := ?_) rfl (by kernel_rfl) (by kernel_rfl) (by kernel_rfl) (fun _ _ _ h => h) (Or.inl ⟨by rfl, ?_⟩) (by assumption) ?_; rotate_left
                · intro w hSw; (try dsimp only at hSw); go_split_ands; go_simp; (try with_reducible rfl)
                try simp only [Act.put, List.setIfInBounds_toArray, List.set_cons_zero, List.set_cons_succ]
                refine wpAnyH_take (i := 44) (oi := { dst := some 80, op := Op.pick (Operand.tmp 65) (Operand.const (Value.bool true)) (Operand.tmp 79), type := 4, pos := "law.go:117", after := #[{ on := 29, ground := Ground.data }, { on := 43, ground := Ground.data }], guard := none }) (v := ?_) rfl (by kernel_rfl) (by kernel_rfl) (by kernel_rfl) (fun _ _ _ h => h) (Or.inl ⟨by rfl, ?_⟩) (by assumption) ?_; rotate_left
                · intro w hSw; (try dsimp only at hSw); go_split_ands; go_simp; (try with_reducible rfl)
                try simp only [Act.put, List.setIfInBounds_toArray, List.set_cons_zero, List.set_cons_succ]
                refine wpAnyH_take (i := 45) (oi := { dst := some 81, op := Op.move (Operand.tmp 80), type := 4, pos := "law.go:117", after := #[{ on := 44, ground := Ground.data }, { on := 42, ground := Ground.chain }], guard := none }) (v := ?_) rfl (by kernel_rfl) (by kernel_rfl) (by kernel_rfl) (fun _ _ _ h => h) (Or.inl ⟨by rfl, ?_⟩) (by assumption) ?_; rotate_left
                · intro w hSw; (try dsimp only at hSw); go_split_ands; go_simp; (try with_reducible rfl)
                try simp only [Act.put, List.setIfInBounds_toArray, List.set_cons_zero, List.set_cons_succ]
                refine wpAnyH_take (i := 46) (oi := { dst := some 82, op := Op.move (Operand.tmp 4), type := 5, pos := "law.go:117", after := #[{ on := 45, ground := Ground.guard }], guard := some (45, false) }) (v := ?_) rfl (by kernel_rfl) (by kernel_rfl) (by kernel_rfl) (fun _ _ _ h => h) (Or.inl ⟨by rfl, ?_⟩) (by assumption) ?_; rotate_left
                · intro w hSw; (try dsimp only at hSw); go_split_ands; go_simp; (try with_reducible rfl)
                try simp only [Act.put, List.setIfInBounds_toArray, List.set_cons_zero, List.set_cons_succ]
                refine wpAnyH_take (i := 47) (oi := { dst := some 83, op := Op.binOp BinOp.gtr 5 (Operand.tmp 82) (Operand.const (Value.int IntKind.u8 0)) 5, type := 4, pos := "law.go:117", after := #[{ on := 46, ground := Ground.data }, { on := 45, ground := Ground.guard }], guard := some (45, false) }) (v := ?_) rfl (by kernel_rfl) (by kernel_rfl) (by kernel_rfl) (fun _ _ _ h => h) (Or.inl ⟨by rfl, ?_⟩) (by assumption) ?_; rotate_left
                · intro w hSw; (try dsimp only at hSw); go_split_ands; go_simp; (try with_reducible rfl)
                try simp only [Act.put, List.setIfInBounds_toArray, List.set_cons_zero, List.set_cons_succ]
                refine wpAnyH_take (i := 48) (oi := { dst := some 84, op := Op.move (Operand.tmp 83), type := 4, pos := "law.go:117", after := #[{ on := 47, ground := Ground.data }, { on := 45, ground := Ground.chain }, { on := 45, ground := Ground.guard }], guard := some (45, false) }) (v := ?_) rfl (by kernel_rfl) (by kernel_rfl) (by kernel_rfl) (fun _ _ _ h => h) (Or.inl ⟨by rfl, ?_⟩) (by assumption) ?_; rotate_left
                · intro w hSw; (try dsimp only at hSw); go_split_ands; go_simp; (try with_reducible rfl)
                try simp only [Act.put, List.setIfInBounds_toArray, List.set_cons_zero, List.set_cons_succ]
                refine wpAnyH_take (i := 49) (oi := { dst := some 85, op := Op.move (Operand.tmp 4), type := 5, pos := "law.go:117", after := #[{ on := 48, ground := Ground.guard }], guard := some (48, true) }) (v := undef) rfl (by kernel_rfl) (by kernel_rfl) (by kernel_rfl) (fun _ _ _ h => h) (Or.inr ⟨by rfl, rfl⟩) (by assumption) ?_
                try simp only [Act.put, List.setIfInBounds_toArray, List.set_cons_zero, List.set_cons_succ]
                refine wpAnyH_take (i := 50) (oi := { dst := some 86, op := Op.binOp BinOp.lss 5 (Operand.tmp 85) (Operand.const (Value.int IntKind.u8 4)) 5, type := 4, pos := "law.go:117", after := #[{ on := 49, ground := Ground.data }, { on := 48, ground := Ground.guard }], guard := some (48, true) }) (v := undef) rfl (by kernel_rfl) (by kernel_rfl) (by kernel_rfl) (fun _ _ _ h => h) (Or.inr ⟨by rfl, rfl⟩) (by assumption) ?_
                try simp only [Act.put, List.setIfInBounds_toArray, List.set_cons_zero, List.set_cons_succ]
                refine wpAnyH_take (i := 51) (oi := { dst := some 87, op := Op.pick (Operand.tmp 84) (Operand.tmp 86) (Operand.const (Value.bool false)), type := 4, pos := "law.go:117", after := #[{ on := 48, ground := Ground.data }, { on := 50, ground := Ground.data }, { on := 45, ground := Ground.guard }], guard := some (45, false) }) (v := ?_) rfl (by kernel_rfl) (by kernel_rfl) (by kernel_rfl) (fun _ _ _ h => h) (Or.inl ⟨by rfl, ?_⟩) (by assumption) ?_; rotate_left
                · intro w hSw; (try dsimp only at hSw); go_split_ands; go_simp; (try with_reducible rfl)
                try simp only [Act.put, List.setIfInBounds_toArray, List.set_cons_zero, List.set_cons_succ]
                refine wpAnyH_take (i := 52) (oi := { dst := some 88, op := Op.move (Operand.tmp 87), type := 4, pos := "law.go:117", after := #[{ on := 51, ground := Ground.data }, { on := 48, ground := Ground.chain }, { on := 45, ground := Ground.guard }], guard := some (45, false) }) (v := ?_) rfl (by kernel_rfl) (by kernel_rfl) (by kernel_rfl) (fun _ _ _ h => h) (Or.inl ⟨by rfl, ?_⟩) (by assumption) ?_; rotate_left
                · intro w hSw; (try dsimp only at hSw); go_split_ands; go_simp; (try with_reducible rfl)
                try simp only [Act.put, List.setIfInBounds_toArray, List.set_cons_zero, List.set_cons_succ]
                refine wpAnyH_take (i := 53) (oi := { dst := some 89, op := Op.load 23 (Operand.tmp 5), type := 23, pos := "law.go:117", after := #[{ on := 52, ground := Ground.guard }], guard := some (52, true) }) (v := undef) rfl (by kernel_rfl) (by kernel_rfl) (by kernel_rfl) (fun _ _ _ h => h) (Or.inr ⟨by rfl, rfl⟩) (by assumption) ?_
                try simp only [Act.put, List.setIfInBounds_toArray, List.set_cons_zero, List.set_cons_succ]
                refine wpAnyH_take (i := 54) (oi := { dst := some 90, op := Op.move (Operand.tmp 3), type := 34, pos := "law.go:117", after := #[{ on := 52, ground := Ground.guard }], guard := some (52, true) }) (v := undef) rfl (by kernel_rfl) (by kernel_rfl) (by kernel_rfl) (fun _ _ _ h => h) (Or.inr ⟨by rfl, rfl⟩) (by assumption) ?_
                try simp only [Act.put, List.setIfInBounds_toArray, List.set_cons_zero, List.set_cons_succ]
                refine wpAnyH_take (i := 55) (oi := { dst := some 91, op := Op.move (Operand.tmp 1), type := 24, pos := "law.go:117", after := #[{ on := 52, ground := Ground.guard }], guard := some (52, true) }) (v := undef) rfl (by kernel_rfl) (by kernel_rfl) (by kernel_rfl) (fun _ _ _ h => h) (Or.inr ⟨by rfl, rfl⟩) (by assumption) ?_
                try simp only [Act.put, List.setIfInBounds_toArray, List.set_cons_zero, List.set_cons_succ]
                refine wpAnyH_take (i := 56) (oi := { dst := some 92, op := Op.move (Operand.tmp 6), type := 3, pos := "law.go:117", after := #[{ on := 52, ground := Ground.guard }], guard := some (52, true) }) (v := undef) rfl (by kernel_rfl) (by kernel_rfl) (by kernel_rfl) (fun _ _ _ h => h) (Or.inr ⟨by rfl, rfl⟩) (by assumption) ?_
                try simp only [Act.put, List.setIfInBounds_toArray, List.set_cons_zero, List.set_cons_succ]
                refine wpAnyH_take (i := 57) (oi := { dst := some 93, op := Op.move (Operand.tmp 6), type := 3, pos := "law.go:117", after := #[{ on := 52, ground := Ground.guard }], guard := some (52, true) }) (v := undef) rfl (by kernel_rfl) (by kernel_rfl) (by kernel_rfl) (fun _ _ _ h => h) (Or.inr ⟨by rfl, rfl⟩) (by assumption) ?_
                try simp only [Act.put, List.setIfInBounds_toArray, List.set_cons_zero, List.set_cons_succ]
                refine wpAnyH_take (i := 58) (oi := { dst := some 94, op := Op.binOp BinOp.mul 3 (Operand.tmp 93) (Operand.const (Value.int IntKind.i64 3)) 3, type := 3, pos := "law.go:117", after := #[{ on := 57, ground := Ground.data }, { on := 52, ground := Ground.guard }], guard := some (52, true) }) (v := undef) rfl (by kernel_rfl) (by kernel_rfl) (by kernel_rfl) (fun _ _ _ h => h) (Or.inr ⟨by rfl, rfl⟩) (by assumption) ?_
                try simp only [Act.put, List.setIfInBounds_toArray, List.set_cons_zero, List.set_cons_succ]
                refine wpAnyH_take (i := 59) (oi := { dst := some 95, op := Op.move (Operand.tmp 6), type := 3, pos := "law.go:117", after := #[{ on := 52, ground := Ground.guard }], guard := some (52, true) }) (v := undef) rfl (by kernel_rfl) (by kernel_rfl) (by kernel_rfl) (fun _ _ _ h => h) (Or.inr ⟨by rfl, rfl⟩) (by assumption) ?_
                try simp only [Act.put, List.setIfInBounds_toArray, List.set_cons_zero, List.set_cons_succ]
                refine wpAnyH_take (i := 60) (oi := { dst := some 96, op := Op.binOp BinOp.mul 3 (Operand.tmp 95) (Operand.const (Value.int IntKind.i64 7)) 3, type := 3, pos := "law.go:117", after := #[{ on := 59, ground := Ground.data }, { on := 52, ground := Ground.guard }], guard := some (52, true) }) (v := undef) rfl (by kernel_rfl) (by kernel_rfl) (by kernel_rfl) (fun _ _ _ h => h) (Or.inr ⟨by rfl, rfl⟩) (by assumption) ?_
                try simp only [Act.put, List.setIfInBounds_toArray, List.set_cons_zero, List.set_cons_succ]
                refine wpAnyH_take (i := 61) (oi := { dst := some 97, op := Op.convert 3 5 (Operand.tmp 96), type := 5, pos := "law.go:117", after := #[{ on := 60, ground := Ground.data }, { on := 52, ground := Ground.guard }], guard := some (52, true) }) (v := undef) rfl (by kernel_rfl) (by kernel_rfl) (by kernel_rfl) (fun _ _ _ h => h) (Or.inr ⟨by rfl, rfl⟩) (by assumption) ?_
                try simp only [Act.put, List.setIfInBounds_toArray, List.set_cons_zero, List.set_cons_succ]
                refine wpAnyH_take (i := 62) (oi := { dst := some 98, op := Op.call { callee := Callee.value (Operand.func 6), args := #[Operand.tmp 89, Operand.tmp 90, Operand.tmp 91, Operand.tmp 92, Operand.tmp 94, Operand.tmp 97], argTypes := #[23, 34, 24, 3, 3, 5] }, type := 4, pos := "law.go:117", after := #[{ on := 53, ground := Ground.data }, { on := 54, ground := Ground.data }, { on := 55, ground := Ground.data }, { on := 56, ground := Ground.data }, { on := 58, ground := Ground.data }, { on := 61, ground := Ground.data }, { on := 52, ground := Ground.chain }, { on := 52, ground := Ground.guard }], guard := some (52, true) }) (v := undef) rfl (by kernel_rfl) (by kernel_rfl) (by kernel_rfl) (fun _ _ _ h => h) (Or.inr ⟨by rfl, rfl⟩) (by assumption) ?_
                try simp only [Act.put, List.setIfInBounds_toArray, List.set_cons_zero, List.set_cons_succ]
                refine wpAnyH_take (i := 63) (oi := { dst := some 99, op := Op.unOp UnOp.not 4 (Operand.tmp 98), type := 4, pos := "law.go:117", after := #[{ on := 62, ground := Ground.data }, { on := 52, ground := Ground.guard }], guard := some (52, true) }) (v := undef) rfl (by kernel_rfl) (by kernel_rfl) (by kernel_rfl) (fun _ _ _ h => h) (Or.inr ⟨by rfl, rfl⟩) (by assumption) ?_
                try simp only [Act.put, List.setIfInBounds_toArray, List.set_cons_zero, List.set_cons_succ]
                refine wpAnyH_take (i := 64) (oi := { dst := some 100, op := Op.pick (Operand.tmp 88) (Operand.tmp 99) (Operand.const (Value.bool false)), type := 4, pos := "law.go:117", after := #[{ on := 52, ground := Ground.data }, { on := 63, ground := Ground.data }, { on := 45, ground := Ground.guard }], guard := some (45, false) }) (v := ?_) rfl (by kernel_rfl) (by kernel_rfl) (by kernel_rfl) (fun _ _ _ h => h) (Or.inl ⟨by rfl, ?_⟩) (by assumption) ?_; rotate_left
                · intro w hSw; (try dsimp only at hSw); go_split_ands; go_simp; (try with_reducible rfl)
                try simp only [Act.put, List.setIfInBounds_toArray, List.set_cons_zero, List.set_cons_succ]
                refine wpAnyH_take (i := 65) (oi := { dst := some 101, op := Op.pick (Operand.tmp 81) (Operand.const (Value.bool true)) (Operand.tmp 100), type := 4, pos := "law.go:117", after := #[{ on := 45, ground := Ground.data }, { on := 64, ground := Ground.data }], guard := none }) (v := ?_) rfl (by kernel_rfl) (by kernel_rfl) (by kernel_rfl) (fun _ _ _ h => h) (Or.inl ⟨by rfl, ?_⟩) (by assumption) ?_; rotate_left
                · intro w hSw; (try dsimp only at hSw); go_split_ands; go_simp; (try with_reducible rfl)
                try simp only [Act.put, List.setIfInBounds_toArray, List.set_cons_zero, List.set_cons_succ]
                refine wpAnyH_done (by kernel_rfl) ?_ _
                go_wp2_with fail
                go_meet
                exact ⟨rfl, HG9⟩
              · go_simp
                refine hK.out _ _ ?_ (fun hHeld => ?_)
                · ((try dsimp only); go_keep)
                clear hK K
                try simp only [Act.put, List.setIfInBounds_toArray, List.set_cons_zero, List.set_cons_succ]
                refine wpAnyH_ready (rs := [39]) (by kernel_rfl) (by simp) ?_
                refine AllReadyH.cons (o := { dst := some 75, op := Op.buildSlice 31 4 #[(0, Operand.tmp 70), (1, Operand.tmp 73), (2, Operand.const (Value.slice none 0 0)), (3, Operand.tmp 74)], type := 31, pos := "law.go:117", after := #[{ on := 34, ground := Ground.data }, { on := 37, ground := Ground.data }, { on := 38, ground := Ground.data }, { on := 29, ground := Ground.guard }], guard := some (29, false) }) rfl (fun K hK => ?_) AllReadyH.nil
                go_simp
                refine hK.out _ _ ?_ (fun hHeld => ?_)
                · ((try dsimp only); go_keep)
                clear hK K
                try simp only [Act.put, List.setIfInBounds_toArray, List.set_cons_zero, List.set_cons_succ]
                refine wpAnyH_ready (rs := [42]) (by kernel_rfl) (by simp) ?_
                refine AllReadyH.cons (o := { dst := some 78, op := Op.call { callee := Callee.value (Operand.func 5), args := #[Operand.tmp 66, Operand.tmp 67, Operand.tmp 75, Operand.tmp 77], argTypes := #[23, 34, 31, 35] }, type := 4, pos := "law.go:117", after := #[{ on := 30, ground := Ground.data }, { on := 31, ground := Ground.data }, { on := 39, ground := Ground.data }, { on := 41, ground := Ground.data }, { on := 29, ground := Ground.chain }, { on := 29, ground := Ground.guard }], guard := some (29, false) }) rfl (fun K hK => ?_) AllReadyH.nil
                go_simp
                go_at_call 5
                refine (HMb.out _ ?_).mono ?_
                · assumption
                rintro e w9 ⟨rfl, HG9⟩
                obtain ⟨g0, g1, g2, g3, g4, g5⟩ := jb_cells (keep HXr.out HG9.out)
                go_wp2_with fail
                refine hK.out _ _ ?_ (fun hHeld => ?_)
                · ((try dsimp only); go_keep)
                clear hK K
                try simp only [Act.put, List.setIfInBounds_toArray, List.set_cons_zero, List.set_cons_succ]
                refine wpAnyH_take (i := 43) (oi := { dst := some 79, op := Op.unOp UnOp.not 4 (Operand.tmp 78), type := 4, pos := "law.go:117", after := #[{ on := 42, ground := Ground.data }, { on := 29, ground := Ground.guard }], guard := some (29, false) }) (v := ?_) rfl (by kernel_rfl) (by kernel_rfl) (by kernel_rfl) (fun _ _ _ h => h) (Or.inl ⟨by rfl, ?_⟩) (by assumption) ?_; rotate_left
                · intro w hSw; (try dsimp only at hSw); go_split_ands; go_simp; (try with_reducible rfl)
                try simp only [Act.put, List.setIfInBounds_toArray, List.set_cons_zero, List.set_cons_succ]
                refine wpAnyH_take (i := 44) (oi := { dst := some 80, op := Op.pick (Operand.tmp 65) (Operand.const (Value.bool true)) (Operand.tmp 79), type := 4, pos := "law.go:117", after := #[{ on := 29, ground := Ground.data }, { on := 43, ground := Ground.data }], guard := none }) (v := ?_) rfl (by kernel_rfl) (by kernel_rfl) (by kernel_rfl) (fun _ _ _ h => h) (Or.inl ⟨by rfl, ?_⟩) (by assumption) ?_; rotate_left
                · intro w hSw; (try dsimp only at hSw); go_split_ands; go_simp; (try with_reducible rfl)
                try simp only [Act.put, List.setIfInBounds_toArray, List.set_cons_zero, List.set_cons_succ]
                refine wpAnyH_take (i := 45) (oi := { dst := some 81, op := Op.move (Operand.tmp 80), type := 4, pos := "law.go:117", after := #[{ on := 44, ground := Ground.data }, { on := 42, ground := Ground.chain }], guard := none }) (v := ?_) rfl (by kernel_rfl) (by kernel_rfl) (by kernel_rfl) (fun _ _ _ h => h) (Or.inl ⟨by rfl, ?_⟩) (by assumption) ?_; rotate_left
                · intro w hSw; (try dsimp only at hSw); go_split_ands; go_simp; (try with_reducible rfl)
                try simp only [Act.put, List.setIfInBounds_toArray, List.set_cons_zero, List.set_cons_succ]
                refine wpAnyH_take (i := 46) (oi := { dst := some 82, op := Op.move (Operand.tmp 4), type := 5, pos := "law.go:117", after := #[{ on := 45, ground := Ground.guard }], guard := some (45, false) }) (v := ?_) rfl (by kernel_rfl) (by kernel_rfl) (by kernel_rfl) (fun _ _ _ h => h) (Or.inl ⟨by rfl, ?_⟩) (by assumption) ?_; rotate_left
                · intro w hSw; (try dsimp only at hSw); go_split_ands; go_simp; (try with_reducible rfl)
                try simp only [Act.put, List.setIfInBounds_toArray, List.set_cons_zero, List.set_cons_succ]
                refine wpAnyH_take (i := 47) (oi := { dst := some 83, op := Op.binOp BinOp.gtr 5 (Operand.tmp 82) (Operand.const (Value.int IntKind.u8 0)) 5, type := 4, pos := "law.go:117", after := #[{ on := 46, ground := Ground.data }, { on := 45, ground := Ground.guard }], guard := some (45, false) }) (v := ?_) rfl (by kernel_rfl) (by kernel_rfl) (by kernel_rfl) (fun _ _ _ h => h) (Or.inl ⟨by rfl, ?_⟩) (by assumption) ?_; rotate_left
                · intro w hSw; (try dsimp only at hSw); go_split_ands; go_simp; (try with_reducible rfl)
                try simp only [Act.put, List.setIfInBounds_toArray, List.set_cons_zero, List.set_cons_succ]
                refine wpAnyH_take (i := 48) (oi := { dst := some 84, op := Op.move (Operand.tmp 83), type := 4, pos := "law.go:117", after := #[{ on := 47, ground := Ground.data }, { on := 45, ground := Ground.chain }, { on := 45, ground := Ground.guard }], guard := some (45, false) }) (v := ?_) rfl (by kernel_rfl) (by kernel_rfl) (by kernel_rfl) (fun _ _ _ h => h) (Or.inl ⟨by rfl, ?_⟩) (by assumption) ?_; rotate_left
                · intro w hSw; (try dsimp only at hSw); go_split_ands; go_simp; (try with_reducible rfl)
                try simp only [Act.put, List.setIfInBounds_toArray, List.set_cons_zero, List.set_cons_succ]
                refine wpAnyH_take (i := 49) (oi := { dst := some 85, op := Op.move (Operand.tmp 4), type := 5, pos := "law.go:117", after := #[{ on := 48, ground := Ground.guard }], guard := some (48, true) }) (v := undef) rfl (by kernel_rfl) (by kernel_rfl) (by kernel_rfl) (fun _ _ _ h => h) (Or.inr ⟨by rfl, rfl⟩) (by assumption) ?_
                try simp only [Act.put, List.setIfInBounds_toArray, List.set_cons_zero, List.set_cons_succ]
                refine wpAnyH_take (i := 50) (oi := { dst := some 86, op := Op.binOp BinOp.lss 5 (Operand.tmp 85) (Operand.const (Value.int IntKind.u8 4)) 5, type := 4, pos := "law.go:117", after := #[{ on := 49, ground := Ground.data }, { on := 48, ground := Ground.guard }], guard := some (48, true) }) (v := undef) rfl (by kernel_rfl) (by kernel_rfl) (by kernel_rfl) (fun _ _ _ h => h) (Or.inr ⟨by rfl, rfl⟩) (by assumption) ?_
                try simp only [Act.put, List.setIfInBounds_toArray, List.set_cons_zero, List.set_cons_succ]
                refine wpAnyH_take (i := 51) (oi := { dst := some 87, op := Op.pick (Operand.tmp 84) (Operand.tmp 86) (Operand.const (Value.bool false)), type := 4, pos := "law.go:117", after := #[{ on := 48, ground := Ground.data }, { on := 50, ground := Ground.data }, { on := 45, ground := Ground.guard }], guard := some (45, false) }) (v := ?_) rfl (by kernel_rfl) (by kernel_rfl) (by kernel_rfl) (fun _ _ _ h => h) (Or.inl ⟨by rfl, ?_⟩) (by assumption) ?_; rotate_left
                · intro w hSw; (try dsimp only at hSw); go_split_ands; go_simp; (try with_reducible rfl)
                try simp only [Act.put, List.setIfInBounds_toArray, List.set_cons_zero, List.set_cons_succ]
                refine wpAnyH_take (i := 52) (oi := { dst := some 88, op := Op.move (Operand.tmp 87), type := 4, pos := "law.go:117", after := #[{ on := 51, ground := Ground.data }, { on := 48, ground := Ground.chain }, { on := 45, ground := Ground.guard }], guard := some (45, false) }) (v := ?_) rfl (by kernel_rfl) (by kernel_rfl) (by kernel_rfl) (fun _ _ _ h => h) (Or.inl ⟨by rfl, ?_⟩) (by assumption) ?_; rotate_left
                · intro w hSw; (try dsimp only at hSw); go_split_ands; go_simp; (try with_reducible rfl)
                try simp only [Act.put, List.setIfInBounds_toArray, List.set_cons_zero, List.set_cons_succ]
                refine wpAnyH_take (i := 53) (oi := { dst := some 89, op := Op.load 23 (Operand.tmp 5), type := 23, pos := "law.go:117", after := #[{ on := 52, ground := Ground.guard }], guard := some (52, true) }) (v := undef) rfl (by kernel_rfl) (by kernel_rfl) (by kernel_rfl) (fun _ _ _ h => h) (Or.inr ⟨by rfl, rfl⟩) (by assumption) ?_
                try simp only [Act.put, List.setIfInBounds_toArray, List.set_cons_zero, List.set_cons_succ]
                refine wpAnyH_take (i := 54) (oi := { dst := some 90, op := Op.move (Operand.tmp 3), type := 34, pos := "law.go:117", after := #[{ on := 52, ground := Ground.guard }], guard := some (52, true) }) (v := undef) rfl (by kernel_rfl) (by kernel_rfl) (by kernel_rfl) (fun _ _ _ h => h) (Or.inr ⟨by rfl, rfl⟩) (by assumption) ?_
                try simp only [Act.put, List.setIfInBounds_toArray, List.set_cons_zero, List.set_cons_succ]
                refine wpAnyH_take (i := 55) (oi := { dst := some 91, op := Op.move (Operand.tmp 1), type := 24, pos := "law.go:117", after := #[{ on := 52, ground := Ground.guard }], guard := some (52, true) }) (v := undef) rfl (by kernel_rfl) (by kernel_rfl) (by kernel_rfl) (fun _ _ _ h => h) (Or.inr ⟨by rfl, rfl⟩) (by assumption) ?_
                try simp only [Act.put, List.setIfInBounds_toArray, List.set_cons_zero, List.set_cons_succ]
                refine wpAnyH_take (i := 56) (oi := { dst := some 92, op := Op.move (Operand.tmp 6), type := 3, pos := "law.go:117", after := #[{ on := 52, ground := Ground.guard }], guard := some (52, true) }) (v := undef) rfl (by kernel_rfl) (by kernel_rfl) (by kernel_rfl) (fun _ _ _ h => h) (Or.inr ⟨by rfl, rfl⟩) (by assumption) ?_
                try simp only [Act.put, List.setIfInBounds_toArray, List.set_cons_zero, List.set_cons_succ]
                refine wpAnyH_take (i := 57) (oi := { dst := some 93, op := Op.move (Operand.tmp 6), type := 3, pos := "law.go:117", after := #[{ on := 52, ground := Ground.guard }], guard := some (52, true) }) (v := undef) rfl (by kernel_rfl) (by kernel_rfl) (by kernel_rfl) (fun _ _ _ h => h) (Or.inr ⟨by rfl, rfl⟩) (by assumption) ?_
                try simp only [Act.put, List.setIfInBounds_toArray, List.set_cons_zero, List.set_cons_succ]
                refine wpAnyH_take (i := 58) (oi := { dst := some 94, op := Op.binOp BinOp.mul 3 (Operand.tmp 93) (Operand.const (Value.int IntKind.i64 3)) 3, type := 3, pos := "law.go:117", after := #[{ on := 57, ground := Ground.data }, { on := 52, ground := Ground.guard }], guard := some (52, true) }) (v := undef) rfl (by kernel_rfl) (by kernel_rfl) (by kernel_rfl) (fun _ _ _ h => h) (Or.inr ⟨by rfl, rfl⟩) (by assumption) ?_
                try simp only [Act.put, List.setIfInBounds_toArray, List.set_cons_zero, List.set_cons_succ]
                refine wpAnyH_take (i := 59) (oi := { dst := some 95, op := Op.move (Operand.tmp 6), type := 3, pos := "law.go:117", after := #[{ on := 52, ground := Ground.guard }], guard := some (52, true) }) (v := undef) rfl (by kernel_rfl) (by kernel_rfl) (by kernel_rfl) (fun _ _ _ h => h) (Or.inr ⟨by rfl, rfl⟩) (by assumption) ?_
                try simp only [Act.put, List.setIfInBounds_toArray, List.set_cons_zero, List.set_cons_succ]
                refine wpAnyH_take (i := 60) (oi := { dst := some 96, op := Op.binOp BinOp.mul 3 (Operand.tmp 95) (Operand.const (Value.int IntKind.i64 7)) 3, type := 3, pos := "law.go:117", after := #[{ on := 59, ground := Ground.data }, { on := 52, ground := Ground.guard }], guard := some (52, true) }) (v := undef) rfl (by kernel_rfl) (by kernel_rfl) (by kernel_rfl) (fun _ _ _ h => h) (Or.inr ⟨by rfl, rfl⟩) (by assumption) ?_
                try simp only [Act.put, List.setIfInBounds_toArray, List.set_cons_zero, List.set_cons_succ]
                refine wpAnyH_take (i := 61) (oi := { dst := some 97, op := Op.convert 3 5 (Operand.tmp 96), type := 5, pos := "law.go:117", after := #[{ on := 60, ground := Ground.data }, { on := 52, ground := Ground.guard }], guard := some (52, true) }) (v := undef) rfl (by kernel_rfl) (by kernel_rfl) (by kernel_rfl) (fun _ _ _ h => h) (Or.inr ⟨by rfl, rfl⟩) (by assumption) ?_
                try simp only [Act.put, List.setIfInBounds_toArray, List.set_cons_zero, List.set_cons_succ]
                refine wpAnyH_take (i := 62) (oi := { dst := some 98, op := Op.call { callee := Callee.value (Operand.func 6), args := #[Operand.tmp 89, Operand.tmp 90, Operand.tmp 91, Operand.tmp 92, Operand.tmp 94, Operand.tmp 97], argTypes := #[23, 34, 24, 3, 3, 5] }, type := 4, pos := "law.go:117", after := #[{ on := 53, ground := Ground.data }, { on := 54, ground := Ground.data }, { on := 55, ground := Ground.data }, { on := 56, ground := Ground.data }, { on := 58, ground := Ground.data }, { on := 61, ground := Ground.data }, { on := 52, ground := Ground.chain }, { on := 52, ground := Ground.guard }], guard := some (52, true) }) (v := undef) rfl (by kernel_rfl) (by kernel_rfl) (by kernel_rfl) (fun _ _ _ h => h) (Or.inr ⟨by rfl, rfl⟩) (by assumption) ?_
                try simp only [Act.put, List.setIfInBounds_toArray, List.set_cons_zero, List.set_cons_succ]
                refine wpAnyH_take (i := 63) (oi := { dst := some 99, op := Op.unOp UnOp.not 4 (Operand.tmp 98), type := 4, pos := "law.go:117", after := #[{ on := 62, ground := Ground.data }, { on := 52, ground := Ground.guard }], guard := some (52, true) }) (v := undef) rfl (by kernel_rfl) (by kernel_rfl) (by kernel_rfl) (fun _ _ _ h => h) (Or.inr ⟨by rfl, rfl⟩) (by assumption) ?_
                try simp only [Act.put, List.setIfInBounds_toArray, List.set_cons_zero, List.set_cons_succ]
                refine wpAnyH_take (i := 64) (oi := { dst := some 100, op := Op.pick (Operand.tmp 88) (Operand.tmp 99) (Operand.const (Value.bool false)), type := 4, pos := "law.go:117", after := #[{ on := 52, ground := Ground.data }, { on := 63, ground := Ground.data }, { on := 45, ground := Ground.guard }], guard := some (45, false) }) (v := ?_) rfl (by kernel_rfl) (by kernel_rfl) (by kernel_rfl) (fun _ _ _ h => h) (Or.inl ⟨by rfl, ?_⟩) (by assumption) ?_; rotate_left
                · intro w hSw; (try dsimp only at hSw); go_split_ands; go_simp; (try with_reducible rfl)
                try simp only [Act.put, List.setIfInBounds_toArray, List.set_cons_zero, List.set_cons_succ]
                refine wpAnyH_take (i := 65) (oi := { dst := some 101, op := Op.pick (Operand.tmp 81) (Operand.const (Value.bool true)) (Operand.tmp 100), type := 4, pos := "law.go:117", after := #[{ on := 45, ground := Ground.data }, { on := 64, ground := Ground.data }], guard := none }) (v := ?_) rfl (by kernel_rfl) (by kernel_rfl) (by kernel_rfl) (fun _ _ _ h => h) (Or.inl ⟨by rfl, ?_⟩) (by assumption) ?_; rotate_left
                · intro w hSw; (try dsimp only at hSw); go_split_ands; go_simp; (try with_reducible rfl)
                try simp only [Act.put, List.setIfInBounds_toArray, List.set_cons_zero, List.set_cons_succ]
                refine wpAnyH_done (by kernel_rfl) ?_ _
                go_wp2_with fail
                go_meet
                exact ⟨rfl, HG9⟩
            by_cases hk4 : kd = 4
            · have hd1 : decide (0 < kd) = true := decide_eq_true (by omega)
              have hd2 : decide ((kd : Int) < 4) = false := decide_eq_false (by omega)
              clear hk0 hk4
              refine wp_region_held_drew (S := (fun w' => w'.cell? ⟨bj, 0, none⟩ = some (.int .u8 (kd : Int)) ∧ w'.cell? ⟨bj, 1, none⟩ = some (.int .i64 0) ∧ w'.cell? ⟨bj, 2, none⟩ = some (.int .i64 0) ∧ w'.cell? ⟨bj, 3, none⟩ = some (.int .i64 0) ∧ w'.cell? ⟨bj, 4, none⟩ = some (.int .i64 0))) (by kernel_rfl) ?_ (fun hHeld => ?_)
              · ((try dsimp only); go_keep)
              refine wpAnyH_take (i := 0) (oi := { dst := some 36, op := Op.load 23 (Operand.tmp 5), type := 23, pos := "law.go:117", after := #[], guard := none }) (v := ?_) rfl (by kernel_rfl) (by kernel_rfl) (by kernel_rfl) (fun _ _ _ h => h) (Or.inl ⟨by rfl, ?_⟩) (by assumption) ?_; rotate_left
              · intro w hSw; (try dsimp only at hSw); go_split_ands; go_simp; (try with_reducible rfl)
              try simp only [Act.put, List.setIfInBounds_toArray, List.set_cons_zero, List.set_cons_succ]
              refine wpAnyH_take (i := 1) (oi := { dst := some 37, op := Op.move (Operand.tmp 2), type := 24, pos := "law.go:117", after := #[], guard := none }) (v := ?_) rfl (by kernel_rfl) (by kernel_rfl) (by kernel_rfl) (fun _ _ _ h => h) (Or.inl ⟨by rfl, ?_⟩) (by assumption) ?_; rotate_left
              · intro w hSw; (try dsimp only at hSw); go_split_ands; go_simp; (try with_reducible rfl)
              try simp only [Act.put, List.setIfInBounds_toArray, List.set_cons_zero, List.set_cons_succ]
              refine wpAnyH_take (i := 2) (oi := { dst := some 38, op := Op.move (Operand.tmp 6), type := 3, pos := "law.go:117", after := #[], guard := none }) (v := ?_) rfl (by kernel_rfl) (by kernel_rfl) (by kernel_rfl) (fun _ _ _ h => h) (Or.inl ⟨by rfl, ?_⟩) (by assumption) ?_; rotate_left
              · intro w hSw; (try dsimp only at hSw); go_split_ands; go_simp; (try with_reducible rfl)
              try simp only [Act.put, List.setIfInBounds_toArray, List.set_cons_zero, List.set_cons_succ]
              refine wpAnyH_take (i := 3) (oi := { dst := some 39, op := Op.binOp BinOp.add 3 (Operand.tmp 38) (Operand.const (Value.int IntKind.i64 4)) 3, type := 3, pos := "law.go:117", after := #[{ on := 2, ground := Ground.data }], guard := none }) (v := ?_) rfl (by kernel_rfl) (by kernel_rfl) (by kernel_rfl) (fun _ _ _ h => h) (Or.inl ⟨by rfl, ?_⟩) (by assumption) ?_; rotate_left
              · intro w hSw; (try dsimp only at hSw); go_split_ands; go_simp; (try with_reducible rfl)
              try simp only [Act.put, List.setIfInBounds_toArray, List.set_cons_zero, List.set_cons_succ]
              refine wpAnyH_take (i := 4) (oi := { dst := some 40, op := Op.slice 24 (Operand.tmp 37) none (some (Operand.tmp 39)) none, type := 24, pos := "law.go:117", after := #[{ on := 1, ground := Ground.data }, { on := 3, ground := Ground.data }], guard := none }) (v := ?_) rfl (by kernel_rfl) (by kernel_rfl) (by kernel_rfl) (fun _ _ _ h => h) (Or.inl ⟨by rfl, ?_⟩) (by assumption) ?_; rotate_left
              · intro w hSw; (try dsimp only at hSw); go_split_ands; go_simp; (try with_reducible rfl)
              try simp only [Act.put, List.setIfInBounds_toArray, List.set_cons_zero, List.set_cons_succ]
              refine wpAnyH_ready (rs := [5]) (by kernel_rfl) (by simp) ?_
              refine AllReadyH.cons (o := { dst := some 41, op := Op.call { callee := Callee.value (Operand.func 3), args := #[Operand.tmp 36, Operand.tmp 40], argTypes := #[23, 24] }, type := 4, pos := "law.go:117", after := #[{ on := 0, ground := Ground.data }, { on := 4, ground := Ground.data }], guard := none }) rfl (fun K hK => ?_) AllReadyH.nil
              go_simp
              go_at_call 3
              refine (HFa.out _ ?_).mono ?_
              · assumption
              rintro e w9 ⟨rfl, HG9⟩
              obtain ⟨g0, g1, g2, g3, g4, g5⟩ := jb_cells (keep HXr.out HG9.out)
              go_wp2_with fail
              refine hK.out _ _ ?_ (fun hHeld => ?_)
              · ((try dsimp only); go_keep)
              clear hK K
              try simp only [Act.put, List.setIfInBounds_toArray, List.set_cons_zero, List.set_cons_succ]
              refine wpAnyH_take (i := 6) (oi := { dst := some 42, op := Op.unOp UnOp.not 4 (Operand.tmp 41), type := 4, pos := "law.go:117", after := #[{ on := 5, ground := Ground.data }], guard := none }) (v := ?_) rfl (by kernel_rfl) (by kernel_rfl) (by kernel_rfl) (fun _ _ _ h => h) (Or.inl ⟨by rfl, ?_⟩) (by assumption) ?_; rotate_left
              · intro w hSw; (try dsimp only at hSw); go_split_ands; go_simp; (try with_reducible rfl)
              try simp only [Act.put, List.setIfInBounds_toArray, List.set_cons_zero, List.set_cons_succ]
              refine wpAnyH_take (i := 7) (oi := { dst := some 43, op := Op.move (Operand.tmp 42), type := 4, pos := "law.go:117", after := #[{ on := 6, ground := Ground.data }, { on := 5, ground := Ground.chain }], guard := none }) (v := ?_) rfl (by kernel_rfl) (by kernel_rfl) (by kernel_rfl) (fun _ _ _ h => h) (Or.inl ⟨by rfl, ?_⟩) (by assumption) ?_; rotate_left
              · intro w hSw; (try dsimp only at hSw); go_split_ands; go_simp; (try with_reducible rfl)
              try simp only [Act.put, List.setIfInBounds_toArray, List.set_cons_zero, List.set_cons_succ]
              refine wpAnyH_take (i := 8) (oi := { dst := some 44, op := Op.load 23 (Operand.tmp 5), type := 23, pos := "law.go:117", after := #[{ on := 7, ground := Ground.guard }], guard := some (7, false) }) (v := ?_) rfl (by kernel_rfl) (by kernel_rfl) (by kernel_rfl) (fun _ _ _ h => h) (Or.inl ⟨by rfl, ?_⟩) (by assumption) ?_; rotate_left
              · intro w hSw; (try dsimp only at hSw); go_split_ands; go_simp; (try with_reducible rfl)
              try simp only [Act.put, List.setIfInBounds_toArray, List.set_cons_zero, List.set_cons_succ]
              refine wpAnyH_take (i := 9) (oi := { dst := some 45, op := Op.move (Operand.tmp 1), type := 24, pos := "law.go:117", after := #[{ on := 7, ground := Ground.guard }], guard := some (7, false) }) (v := ?_) rfl (by kernel_rfl) (by kernel_rfl) (by kernel_rfl) (fun _ _ _ h => h) (Or.inl ⟨by rfl, ?_⟩) (by assumption) ?_; rotate_left
              · intro w hSw; (try dsimp only at hSw); go_split_ands; go_simp; (try with_reducible rfl)
              try simp only [Act.put, List.setIfInBounds_toArray, List.set_cons_zero, List.set_cons_succ]
              refine wpAnyH_take (i := 10) (oi := { dst := some 46, op := Op.move (Operand.tmp 6), type := 3, pos := "law.go:117", after := #[{ on := 7, ground := Ground.guard }], guard := some (7, false) }) (v := ?_) rfl (by kernel_rfl) (by kernel_rfl) (by kernel_rfl) (fun _ _ _ h => h) (Or.inl ⟨by rfl, ?_⟩) (by assumption) ?_; rotate_left
              · intro w hSw; (try dsimp only at hSw); go_split_ands; go_simp; (try with_reducible rfl)
              try simp only [Act.put, List.setIfInBounds_toArray, List.set_cons_zero, List.set_cons_succ]
              refine wpAnyH_take (i := 11) (oi := { dst := some 47, op := Op.slice 24 (Operand.tmp 45) (some (Operand.tmp 46)) none none, type := 24, pos := "law.go:117", after := #[{ on := 9, ground := Ground.data }, { on := 10, ground := Ground.data }, { on := 7, ground := Ground.guard }], guard := some (7, false) }) (v := ?_) rfl (by kernel_rfl) (by kernel_rfl) (by kernel_rfl) (fun _ _ _ h => h) (Or.inl ⟨by rfl, ?_⟩) (by assumption) ?_; rotate_left
              · intro w hSw; (try dsimp only at hSw); go_split_ands; go_simp; (try with_reducible rfl)
              try simp only [Act.put, List.setIfInBounds_toArray, List.set_cons_zero, List.set_cons_succ]
              refine wpAnyH_ready (rs := [12]) (by kernel_rfl) (by simp) ?_
              refine AllReadyH.cons (o := { dst := some 48, op := Op.call { callee := Callee.value (Operand.func 3), args := #[Operand.tmp 44, Operand.tmp 47], argTypes := #[23, 24] }, type := 4, pos := "law.go:117", after := #[{ on := 8, ground := Ground.data }, { on := 11, ground := Ground.data }, { on := 7, ground := Ground.chain }, { on := 7, ground := Ground.guard }], guard := some (7, false) }) rfl (fun K hK => ?_) AllReadyH.nil
              go_simp
              go_at_call 3
              refine (HFb.out _ ?_).mono ?_
              · assumption
              rintro e w9 ⟨rfl, HG9⟩
              obtain ⟨g0, g1, g2, g3, g4, g5⟩ := jb_cells (keep HXr.out HG9.out)
              go_wp2_with fail
              refine hK.out _ _ ?_ (fun hHeld => ?_)
              · ((try dsimp only); go_keep)
              clear hK K
              try simp only [Act.put, List.setIfInBounds_toArray, List.set_cons_zero, List.set_cons_succ]
              refine wpAnyH_take (i := 13) (oi := { dst := some 49, op := Op.unOp UnOp.not 4 (Operand.tmp 48), type := 4, pos := "law.go:117", after := #[{ on := 12, ground := Ground.data }, { on := 7, ground := Ground.guard }], guard := some (7, false) }) (v := ?_) rfl (by kernel_rfl) (by kernel_rfl) (by kernel_rfl) (fun _ _ _ h => h) (Or.inl ⟨by rfl, ?_⟩) (by assumption) ?_; rotate_left
              · intro w hSw; (try dsimp only at hSw); go_split_ands; go_simp; (try with_reducible rfl)
              try simp only [Act.put, List.setIfInBounds_toArray, List.set_cons_zero, List.set_cons_succ]
              refine wpAnyH_take (i := 14) (oi := { dst := some 50, op := Op.pick (Operand.tmp 43) (Operand.const (Value.bool true)) (Operand.tmp 49), type := 4, pos := "law.go:117", after := #[{ on := 7, ground := Ground.data }, { on := 13, ground := Ground.data }], guard := none }) (v := ?_) rfl (by kernel_rfl) (by kernel_rfl) (by kernel_rfl) (fun _ _ _ h => h) (Or.inl ⟨by rfl, ?_⟩) (by assumption) ?_; rotate_left
              · intro w hSw; (try dsimp only at hSw); go_split_ands; go_simp; (try with_reducible rfl)
              try simp only [Act.put, List.setIfInBounds_toArray, List.set_cons_zero, List.set_cons_succ]
              refine wpAnyH_take (i := 15) (oi := { dst := some 51, op := Op.move (Operand.tmp 50), type := 4, pos := "law.go:117", after := #[{ on := 14, ground := Ground.data }, { on := 12, ground := Ground.chain }], guard := none }) (v := ?_) rfl (by kernel_rfl) (by kernel_rfl) (by kernel_rfl) (fun _ _ _ h => h) (Or.inl ⟨by rfl, ?_⟩) (by assumption) ?_; rotate_left
              · intro w hSw; (try dsimp only at hSw); go_split_ands; go_simp; (try with_reducible rfl)
              try simp only [Act.put, List.setIfInBounds_toArray, List.set_cons_zero, List.set_cons_succ]
              refine wpAnyH_take (i := 16) (oi := { dst := some 52, op := Op.move (Operand.tmp 2), type := 24, pos := "law.go:117", after := #[{ on := 15, ground := Ground.guard }], guard := some (15, false) }) (v := ?_) rfl (by kernel_rfl) (by kernel_rfl) (by kernel_rfl) (fun _ _ _ h => h) (Or.inl ⟨by rfl, ?_⟩) (by assumption) ?_; rotate_left
              · intro w hSw; (try dsimp only at hSw); go_split_ands; go_simp; (try with_reducible rfl)
              try simp only [Act.put, List.setIfInBounds_toArray, List.set_cons_zero, List.set_cons_succ]
              refine wpAnyH_take (i := 17) (oi := { dst := some 53, op := Op.move (Operand.tmp 6), type := 3, pos := "law.go:117", after := #[{ on := 15, ground := Ground.guard }], guard := some (15, false) }) (v := ?_) rfl (by kernel_rfl) (by kernel_rfl) (by kernel_rfl) (fun _ _ _ h => h) (Or.inl ⟨by rfl, ?_⟩) (by assumption) ?_; rotate_left
              · intro w hSw; (try dsimp only at hSw); go_split_ands; go_simp; (try with_reducible rfl)
              try simp only [Act.put, List.setIfInBounds_toArray, List.set_cons_zero, List.set_cons_succ]
              refine wpAnyH_take (i := 18) (oi := { dst := some 54, op := Op.binOp BinOp.mul 3 (Operand.tmp 53) (Operand.const (Value.int IntKind.i64 9)) 3, type := 3, pos := "law.go:117", after := #[{ on := 17, ground := Ground.data }, { on := 15, ground := Ground.guard }], guard := some (15, false) }) (v := ?_) rfl (by kernel_rfl) (by kernel_rfl) (by kernel_rfl) (fun _ _ _ h => h) (Or.inl ⟨by rfl, ?_⟩) (by assumption) ?_; rotate_left
              · intro w hSw; (try dsimp only at hSw); go_split_ands; go_simp; (try with_reducible rfl)
              try simp only [Act.put, List.setIfInBounds_toArray, List.set_cons_zero, List.set_cons_succ]
              refine wpAnyH_ready (rs := [19]) (by kernel_rfl) (by simp) ?_
              refine AllReadyH.cons (o := { dst := some 55, op := Op.call { callee := Callee.value (Operand.func 4), args := #[Operand.tmp 52, Operand.tmp 54], argTypes := #[24, 3] }, type := 4, pos := "law.go:117", after := #[{ on := 16, ground := Ground.data }, { on := 18, ground := Ground.data }, { on := 15, ground := Ground.chain }, { on := 15, ground := Ground.guard }], guard := some (15, false) }) rfl (fun K hK => ?_) AllReadyH.nil
              go_simp
              go_at_call 4
              refine (HSa.out _ ?_).mono ?_
              · assumption
              rintro e w9 ⟨rfl, HG9⟩
              obtain ⟨g0, g1, g2, g3, g4, g5⟩ := jb_cells (keep HXr.out HG9.out)
              go_wp2_with fail
              refine hK.out _ _ ?_ (fun hHeld => ?_)
              · ((try dsimp only); go_keep)
              clear hK K
              try simp only [Act.put, List.setIfInBounds_toArray, List.set_cons_zero, List.set_cons_succ]
              refine wpAnyH_take (i := 20) (oi := { dst := some 56, op := Op.unOp UnOp.not 4 (Operand.tmp 55), type := 4, pos := "law.go:117", after := #[{ on := 19, ground := Ground.data }, { on := 15, ground := Ground.guard }], guard := some (15, false) }) (v := ?_) rfl (by kernel_rfl) (by kernel_rfl) (by kernel_rfl) (fun _ _ _ h => h) (Or.inl ⟨by rfl, ?_⟩) (by assumption) ?_; rotate_left
              · intro w hSw; (try dsimp only at hSw); go_split_ands; go_simp; (try with_reducible rfl)
              try simp only [Act.put, List.setIfInBounds_toArray, List.set_cons_zero, List.set_cons_succ]
              refine wpAnyH_take (i := 21) (oi := { dst := some 57, op := Op.pick (Operand.tmp 51) (Operand.const (Value.bool true)) (Operand.tmp 56), type := 4, pos := "law.go:117", after := #[{ on := 15, ground := Ground.data }, { on := 20, ground := Ground.data }], guard := none }) (v := ?_) rfl (by kernel_rfl) (by kernel_rfl) (by kernel_rfl) (fun _ _ _ h => h) (Or.inl ⟨by rfl, ?_⟩) (by assumption) ?_; rotate_left
              · intro w hSw; (try dsimp only at hSw); go_split_ands; go_simp; (try with_reducible rfl)
              try simp only [Act.put, List.setIfInBounds_toArray, List.set_cons_zero, List.set_cons_succ]
              refine wpAnyH_take (i := 22) (oi := { dst := some 58, op := Op.move (Operand.tmp 57), type := 4, pos := "law.go:117", after := #[{ on := 21, ground := Ground.data }, { on := 19, ground := Ground.chain }], guard := none }) (v := ?_) rfl (by kernel_rfl) (by kernel_rfl) (by kernel_rfl) (fun _ _ _ h => h) (Or.inl ⟨by rfl, ?_⟩) (by assumption) ?_; rotate_left
              · intro w hSw; (try dsimp only at hSw); go_split_ands; go_simp; (try with_reducible rfl)
              try simp only [Act.put, List.setIfInBounds_toArray, List.set_cons_zero, List.set_cons_succ]
              refine wpAnyH_take (i := 23) (oi := { dst := some 59, op := Op.move (Operand.tmp 2), type := 24, pos := "law.go:117", after := #[{ on := 22, ground := Ground.guard }], guard := some (22, false) }) (v := ?_) rfl (by kernel_rfl) (by kernel_rfl) (by kernel_rfl) (fun _ _ _ h => h) (Or.inl ⟨by rfl, ?_⟩) (by assumption) ?_; rotate_left
              · intro w hSw; (try dsimp only at hSw); go_split_ands; go_simp; (try with_reducible rfl)
              try simp only [Act.put, List.setIfInBounds_toArray, List.set_cons_zero, List.set_cons_succ]
              refine wpAnyH_take (i := 24) (oi := { dst := some 60, op := Op.move (Operand.tmp 6), type := 3, pos := "law.go:117", after := #[{ on := 22, ground := Ground.guard }], guard := some (22, false) }) (v := ?_) rfl (by kernel_rfl) (by kernel_rfl) (by kernel_rfl) (fun _ _ _ h => h) (Or.inl ⟨by rfl, ?_⟩) (by assumption) ?_; rotate_left
              · intro w hSw; (try dsimp only at hSw); go_split_ands; go_simp; (try with_reducible rfl)
              try simp only [Act.put, List.setIfInBounds_toArray, List.set_cons_zero, List.set_cons_succ]
              refine wpAnyH_take (i := 25) (oi := { dst := some 61, op := Op.binOp BinOp.sub 3 (Operand.tmp 60) (Operand.const (Value.int IntKind.i64 1)) 3, type := 3, pos := "law.go:117", after := #[{ on := 24, ground := Ground.data }, { on := 22, ground := Ground.guard }], guard := some (22, false) }) (v := ?_) rfl (by kernel_rfl) (by kernel_rfl) (by kernel_rfl) (fun _ _ _ h => h) (Or.inl ⟨by rfl, ?_⟩) (by assumption) ?_; rotate_left
              · intro w hSw; (try dsimp only at hSw); go_split_ands; go_simp; (try with_reducible rfl)
              try simp only [Act.put, List.setIfInBounds_toArray, List.set_cons_zero, List.set_cons_succ]
              refine wpAnyH_ready (rs := [26]) (by kernel_rfl) (by simp) ?_
              refine AllReadyH.cons (o := { dst := some 62, op := Op.call { callee := Callee.value (Operand.func 4), args := #[Operand.tmp 59, Operand.tmp 61], argTypes := #[24, 3] }, type := 4, pos := "law.go:117", after := #[{ on := 23, ground := Ground.data }, { on := 25, ground := Ground.data }, { on := 22, ground := Ground.chain }, { on := 22, ground := Ground.guard }], guard := some (22, false) }) rfl (fun K hK => ?_) AllReadyH.nil
              go_simp
              go_at_call 4
              refine (HSb.out _ ?_).mono ?_
              · assumption
              rintro e w9 ⟨rfl, HG9⟩
              obtain ⟨g0, g1, g2, g3, g4, g5⟩ := jb_cells (keep HXr.out HG9.out)
              go_wp2_with fail
              refine hK.out _ _ ?_ (fun hHeld => ?_)
              · ((try dsimp only); go_keep)
              clear hK K
              try simp only [Act.put, List.setIfInBounds_toArray, List.set_cons_zero, List.set_cons_succ]
              refine wpAnyH_take (i := 27) (oi := { dst := some 63, op := Op.unOp UnOp.not 4 (Operand.tmp 62), type := 4, pos := "law.go:117", after := #[{ on := 26, ground := Ground.data }, { on := 22, ground := Ground.guard }], guard := some (22, false) }) (v := ?_) rfl (by kernel_rfl) (by kernel_rfl) (by kernel_rfl) (fun _ _ _ h => h) (Or.inl ⟨by rfl, ?_⟩) (by assumption) ?_; rotate_left
              · intro w hSw; (try dsimp only at hSw); go_split_ands; go_simp; (try with_reducible rfl)
              try simp only [Act.put, List.setIfInBounds_toArray, List.set_cons_zero, List.set_cons_succ]
              refine wpAnyH_take (i := 28) (oi := { dst := some 64, op := Op.pick (Operand.tmp 58) (Operand.const (Value.bool true)) (Operand.tmp 63), type := 4, pos := "law.go:117", after := #[{ on := 22, ground := Ground.data }, { on := 27, ground := Ground.data }], guard := none }) (v := ?_) rfl (by kernel_rfl) (by kernel_rfl) (by kernel_rfl) (fun _ _ _ h => h) (Or.inl ⟨by rfl, ?_⟩) (by assumption) ?_; rotate_left
              · intro w hSw; (try dsimp only at hSw); go_split_ands; go_simp; (try with_reducible rfl)
              try simp only [Act.put, List.setIfInBounds_toArray, List.set_cons_zero, List.set_cons_succ]
              refine wpAnyH_take (i := 29) (oi := { dst := some 65, op := Op.move (Operand.tmp 64), type := 4, pos := "law.go:117", after := #[{ on := 28, ground := Ground.data }, { on := 26, ground := Ground.chain }], guard := none }) (v := ?_) rfl (by kernel_rfl) (by kernel_rfl) (by kernel_rfl) (fun _ _ _ h => h) (Or.inl ⟨by rfl, ?_⟩) (by assumption) ?_; rotate_left
              · intro w hSw; (try dsimp only at hSw); go_split_ands; go_simp; (try with_reducible rfl)
              try simp only [Act.put, List.setIfInBounds_toArray, List.set_cons_zero, List.set_cons_succ]
              refine wpAnyH_take (i := 30) (oi := { dst := some 66, op := Op.load 23 (Operand.tmp 5), type := 23, pos := "law.go:117", after := #[{ on := 29, ground := Ground.guard }], guard := some (29, false) }) (v := ?_) rfl (by kernel_rfl) (by kernel_rfl) (by kernel_rfl) (fun _ _ _ h => h) (Or.inl ⟨by rfl, ?_⟩) (by assumption) ?_; rotate_left
              · intro w hSw; (try dsimp only at hSw); go_split_ands; go_simp; (try with_reducible rfl)
              try simp only [Act.put, List.setIfInBounds_toArray, List.set_cons_zero, List.set_cons_succ]
              refine wpAnyH_take (i := 31) (oi := { dst := some 67, op := Op.move (Operand.tmp 3), type := 34, pos := "law.go:117", after := #[{ on := 29, ground := Ground.guard }], guard := some (29, false) }) (v := ?_) rfl (by kernel_rfl) (by kernel_rfl) (by kernel_rfl) (fun _ _ _ h => h) (Or.inl ⟨by rfl, ?_⟩) (by assumption) ?_; rotate_left
              · intro w hSw; (try dsimp only at hSw); go_split_ands; go_simp; (try with_reducible rfl)
              try simp only [Act.put, List.setIfInBounds_toArray, List.set_cons_zero, List.set_cons_succ]
              refine wpAnyH_take (i := 32) (oi := { dst := some 68, op := Op.move (Operand.tmp 2), type := 24, pos := "law.go:117", after := #[{ on := 29, ground := Ground.guard }], guard := some (29, false) }) (v := ?_) rfl (by kernel_rfl) (by kernel_rfl) (by kernel_rfl) (fun _ _ _ h => h) (Or.inl ⟨by rfl, ?_⟩) (by assumption) ?_; rotate_left
              · intro w hSw; (try dsimp only at hSw); go_split_ands; go_simp; (try with_reducible rfl)
              try simp only [Act.put, List.setIfInBounds_toArray, List.set_cons_zero, List.set_cons_succ]
              refine wpAnyH_take (i := 33) (oi := { dst := some 69, op := Op.move (Operand.tmp 6), type := 3, pos := "law.go:117", after := #[{ on := 29, ground := Ground.guard }], guard := some (29, false) }) (v := ?_) rfl (by kernel_rfl) (by kernel_rfl) (by kernel_rfl) (fun _ _ _ h => h) (Or.inl ⟨by rfl, ?_⟩) (by assumption) ?_; rotate_left
              · intro w hSw; (try dsimp only at hSw); go_split_ands; go_simp; (try with_reducible rfl)
              try simp only [Act.put, List.setIfInBounds_toArray, List.set_cons_zero, List.set_cons_succ]
              refine wpAnyH_take (i := 34) (oi := { dst := some 70, op := Op.slice 24 (Operand.tmp 68) (some (Operand.tmp 69)) none none, type := 24, pos := "law.go:117", after := #[{ on := 32, ground := Ground.data }, { on := 33, ground := Ground.data }, { on := 29, ground := Ground.guard }], guard := some (29, false) }) (v := ?_) rfl (by kernel_rfl) (by kernel_rfl) (by kernel_rfl) (fun _ _ _ h => h) (Or.inl ⟨by rfl, ?_⟩) (by assumption) ?_; rotate_left
              · intro w hSw; (try dsimp only at hSw); go_split_ands; go_simp; (try with_reducible rfl)
              try simp only [Act.put, List.setIfInBounds_toArray, List.set_cons_zero, List.set_cons_succ]
              refine wpAnyH_take (i := 35) (oi := { dst := some 71, op := Op.move (Operand.tmp 1), type := 24, pos := "law.go:117", after := #[{ on := 29, ground := Ground.guard }], guard := some (29, false) }) (v := ?_) rfl (by kernel_rfl) (by kernel_rfl) (by kernel_rfl) (fun _ _ _ h => h) (Or.inl ⟨by rfl, ?_⟩) (by assumption) ?_; rotate_left
              · intro w hSw; (try dsimp only at hSw); go_split_ands; go_simp; (try with_reducible rfl)
              try simp only [Act.put, List.setIfInBounds_toArray, List.set_cons_zero, List.set_cons_succ]
              refine wpAnyH_take (i := 36) (oi := { dst := some 72, op := Op.move (Operand.tmp 6), type := 3, pos := "law.go:117", after := #[{ on := 29, ground := Ground.guard }], guard := some (29, false) }) (v := ?_) rfl (by kernel_rfl) (by kernel_rfl) (by kernel_rfl) (fun _ _ _ h => h) (Or.inl ⟨by rfl, ?_⟩) (by assumption) ?_; rotate_left
              · intro w hSw; (try dsimp only at hSw); go_split_ands; go_simp; (try with_reducible rfl)
              try simp only [Act.put, List.setIfInBounds_toArray, List.set_cons_zero, List.set_cons_succ]
              refine wpAnyH_take (i := 37) (oi := { dst := some 73, op := Op.slice 24 (Operand.tmp 71) none (some (Operand.tmp 72)) none, type := 24, pos := "law.go:117", after := #[{ on := 35, ground := Ground.data }, { on := 36, ground := Ground.data }, { on := 29, ground := Ground.guard }], guard := some (29, false) }) (v := ?_) rfl (by kernel_rfl) (by kernel_rfl) (by kernel_rfl) (fun _ _ _ h => h) (Or.inl ⟨by rfl, ?_⟩) (by assumption) ?_; rotate_left
              · intro w hSw; (try dsimp only at hSw); go_split_ands; go_simp; (try with_reducible rfl)
              try simp only [Act.put, List.setIfInBounds_toArray, List.set_cons_zero, List.set_cons_succ]
              refine wpAnyH_take (i := 38) (oi := { dst := some 74, op := Op.move (Operand.tmp 2), type := 24, pos := "law.go:117", after := #[{ on := 29, ground := Ground.guard }], guard := some (29, false) }) (v := ?_) rfl (by kernel_rfl) (by kernel_rfl) (by kernel_rfl) (fun _ _ _ h => h) (Or.inl ⟨by rfl, ?_⟩) (by assumption) ?_; rotate_left
              · intro w hSw; (try dsimp only at hSw); go_split_ands; go_simp; (try with_reducible rfl)
              try simp only [Act.put, List.setIfInBounds_toArray, List.set_cons_zero, List.set_cons_succ]
              refine wpAnyH_take (i := 40) (oi := { dst := some 76, op := Op.build 43 #[(0, Operand.const (Value.bool true)), (1, Operand.const (Value.int IntKind.i64 9))], type := 43, pos := "law.go:117", after := #[{ on := 29, ground := Ground.guard }], guard := some (29, false) }) (v := ?_) rfl (by kernel_rfl) (by kernel_rfl) (by kernel_rfl) (fun _ _ _ h => h) (Or.inl ⟨by rfl, ?_⟩) (by assumption) ?_; rotate_left
              · intro w hSw; (try dsimp only at hSw); go_split_ands; go_simp; (try with_reducible rfl)
              try simp only [Act.put, List.setIfInBounds_toArray, List.set_cons_zero, List.set_cons_succ]
              refine wpAnyH_ready (rs := [39, 41]) (by kernel_rfl) (by simp) ?_
              refine AllReadyH.cons (o := { dst := some 75, op := Op.buildSlice 31 4 #[(0, Operand.tmp 70), (1, Operand.tmp 73), (2, Operand.const (Value.slice none 0 0)), (3, Operand.tmp 74)], type := 31, pos := "law.go:117", after := #[{ on := 34, ground := Ground.data }, { on := 37, ground := Ground.data }, { on := 38, ground := Ground.data }, { on := 29, ground := Ground.guard }], guard := some (29, false) }) rfl (fun K hK => ?_) (AllReadyH.cons (o := { dst := some 77, op := Op.buildSlice 35 1 #[(0, Operand.tmp 76)], type := 35, pos := "law.go:117", after := #[{ on := 40, ground := Ground.data }, { on := 29, ground := Ground.guard }], guard := some (29, false) }) rfl (fun K hK => ?_) AllReadyH.nil)
              · go_simp
                refine hK.out _ _ ?_ (fun hHeld => ?_)
                · ((try dsimp only); go_keep)
                clear hK K
                try simp only [Act.put, List.setIfInBounds_toArray, List.set_cons_zero, List.set_cons_succ]
                refine wpAnyH_ready (rs := [41]) (by kernel_rfl) (by simp) ?_
                refine AllReadyH.cons (o := { dst := some 77, op := Op.buildSlice 35 1 #[(0, Operand.tmp 76)], type := 35, pos := "law.go:117", after := #[{ on := 40, ground := Ground.data }, { on := 29, ground := Ground.guard }], guard := some (29, false) }) rfl (fun K hK => ?_) AllReadyH.nil
                go_simp
                refine hK.out _ _ ?_ (fun hHeld => ?_)
                · ((try dsimp only); go_keep)
                clear hK K
                try simp only [Act.put, List.setIfInBounds_toArray, List.set_cons_zero, List.set_cons_succ]
                refine wpAnyH_ready (rs := [42]) (by kernel_rfl) (by simp) ?_
                refine AllReadyH.cons (o := { dst := some 78, op := Op.call { callee := Callee.value (Operand.func 5), args := #[Operand.tmp 66, Operand.tmp 67, Operand.tmp 75, Operand.tmp 77], argTypes := #[23, 34, 31, 35] }, type := 4, pos := "law.go:117", after := #[{ on := 30, ground := Ground.data }, { on := 31, ground := Ground.data }, { on := 39, ground := Ground.data }, { on := 41, ground := Ground.data }, { on := 29, ground := Ground.chain }, { on := 29, ground := Ground.guard }], guard := some (29, false) }) rfl (fun K hK => ?_) AllReadyH.nil
                go_simp
                go_at_call 5
                refine (HMa.out _ ?_).mono ?_
                · assumption
                rintro e w9 ⟨rfl, HG9⟩
                obtain ⟨g0, g1, g2, g3, g4, g5⟩ := jb_cells (keep HXr.out HG9.out)
                go_wp2_with fail
                refine hK.out _ _ ?_ (fun hHeld => ?_)
                · ((try dsimp only); go_keep)
                clear hK K
                try simp only [Act.put, List.setIfInBounds_toArray, List.set_cons_zero, List.set_cons_succ]
                refine wpAnyH_take (i := 43) (oi := { dst := some 79, op := Op.unOp UnOp.not 4 (Operand.tmp 78), type := 4, pos := "law.go:117", after := #[{ on := 42, ground := Ground.data }, { on := 29, ground := Ground.guard }], guard := some (29, false) }) (v := ?_) rfl (by kernel_rfl) (by kernel_rfl) (by kernel_rfl) (fun _ _ _ h => h) (Or.inl ⟨by rfl, ?_⟩) (by assumption) ?_; rotate_left
                · intro w hSw; (try dsimp only at hSw); go_split_ands; go_simp; (try with_reducible rfl)
                try simp only [Act.put, List.setIfInBounds_toArray, List.set_cons_zero, List.set_cons_succ]
                refine wpAnyH_take (i := 44) (oi := { dst := some 80, op := Op.pick (Operand.tmp 65) (Operand.const (Value.bool true)) (Operand.tmp 79), type := 4, pos := "law.go:117", after := #[{ on := 29, ground := Ground.data }, { on := 43, ground := Ground.data }], guard := none }) (v := ?_) rfl (by kernel_rfl) (by kernel_rfl) (by kernel_rfl) (fun _ _ _ h => h) (Or.inl ⟨by rfl, ?_⟩) (by assumption) ?_; rotate_left
                · intro w hSw; (try dsimp only at hSw); go_split_ands; go_simp; (try with_reducible rfl)
                try simp only [Act.put, List.setIfInBounds_toArray, List.set_cons_zero, List.set_cons_succ]
                refine wpAnyH_take (i := 45) (oi := { dst := some 81, op := Op.move (Operand.tmp 80), type := 4, pos := "law.go:117", after := #[{ on := 44, ground := Ground.data }, { on := 42, ground := Ground.chain }], guard := none }) (v := ?_) rfl (by kernel_rfl) (by kernel_rfl) (by kernel_rfl) (fun _ _ _ h => h) (Or.inl ⟨by rfl, ?_⟩) (by assumption) ?_; rotate_left
                · intro w hSw; (try dsimp only at hSw); go_split_ands; go_simp; (try with_reducible rfl)
                try simp only [Act.put, List.setIfInBounds_toArray, List.set_cons_zero, List.set_cons_succ]
                refine wpAnyH_take (i := 46) (oi := { dst := some 82, op := Op.move (Operand.tmp 4), type := 5, pos := "law.go:117", after := #[{ on := 45, ground := Ground.guard }], guard := some (45, false) }) (v := ?_) rfl (by kernel_rfl) (by kernel_rfl) (by kernel_rfl) (fun _ _ _ h => h) (Or.inl ⟨by rfl, ?_⟩) (by assumption) ?_; rotate_left
                · intro w hSw; (try dsimp only at hSw); go_split_ands; go_simp; (try with_reducible rfl)
                try simp only [Act.put, List.setIfInBounds_toArray, List.set_cons_zero, List.set_cons_succ]
                refine wpAnyH_take (i := 47) (oi := { dst := some 83, op := Op.binOp BinOp.gtr 5 (Operand.tmp 82) (Operand.const (Value.int IntKind.u8 0)) 5, type := 4, pos := "law.go:117", after := #[{ on := 46, ground := Ground.data }, { on := 45, ground := Ground.guard }], guard := some (45, false) }) (v := ?_) rfl (by kernel_rfl) (by kernel_rfl) (by kernel_rfl) (fun _ _ _ h => h) (Or.inl ⟨by rfl, ?_⟩) (by assumption) ?_; rotate_left
                · intro w hSw; (try dsimp only at hSw); go_split_ands; go_simp; (try with_reducible rfl)
                try simp only [Act.put, List.setIfInBounds_toArray, List.set_cons_zero, List.set_cons_succ]
                refine wpAnyH_take (i := 48) (oi := { dst := some 84, op := Op.move (Operand.tmp 83), type := 4, pos := "law.go:117", after := #[{ on := 47, ground := Ground.data }, { on := 45, ground := Ground.chain }, { on := 45, ground := Ground.guard }], guard := some (45, false) }) (v := ?_) rfl (by kernel_rfl) (by kernel_rfl) (by kernel_rfl) (fun _ _ _ h => h) (Or.inl ⟨by rfl, ?_⟩) (by assumption) ?_; rotate_left
                · intro w hSw; (try dsimp only at hSw); go_split_ands; go_simp; (try with_reducible rfl)
                try simp only [Act.put, List.setIfInBounds_toArray, List.set_cons_zero, List.set_cons_succ]
                refine wpAnyH_take (i := 49) (oi := { dst := some 85, op := Op.move (Operand.tmp 4), type := 5, pos := "law.go:117", after := #[{ on := 48, ground := Ground.guard }], guard := some (48, true) }) (v := ?_) rfl (by kernel_rfl) (by kernel_rfl) (by kernel_rfl) (fun _ _ _ h => h) (Or.inl ⟨by rfl, ?_⟩) (by assumption) ?_; rotate_left
                · intro w hSw; (try dsimp only at hSw); go_split_ands; go_simp; (try with_reducible rfl)
                try simp only [Act.put, List.setIfInBounds_toArray, List.set_cons_zero, List.set_cons_succ]
                refine wpAnyH_take (i := 50) (oi := { dst := some 86, op := Op.binOp BinOp.lss 5 (Operand.tmp 85) (Operand.const (Value.int IntKind.u8 4)) 5, type := 4, pos := "law.go:117", after := #[{ on := 49, ground := Ground.data }, { on := 48, ground := Ground.guard }], guard := some (48, true) }) (v := ?_) rfl (by kernel_rfl) (by kernel_rfl) (by kernel_rfl) (fun _ _ _ h => h) (Or.inl ⟨by rfl, ?_⟩) (by assumption) ?_; rotate_left
                · intro w hSw; (try dsimp only at hSw); go_split_ands; go_simp; (try with_reducible rfl)
                try simp only [Act.put, List.setIfInBounds_toArray, List.set_cons_zero, List.set_cons_succ]
                refine wpAnyH_take (i := 51) (oi := { dst := some 87, op := Op.pick (Operand.tmp 84) (Operand.tmp 86) (Operand.const (Value.bool false)), type := 4, pos := "law.go:117", after := #[{ on := 48, ground := Ground.data }, { on := 50, ground := Ground.data }, { on := 45, ground := Ground.guard }], guard := some (45, false) }) (v := ?_) rfl (by kernel_rfl) (by kernel_rfl) (by kernel_rfl) (fun _ _ _ h => h) (Or.inl ⟨by rfl, ?_⟩) (by assumption) ?_; rotate_left
                · intro w hSw; (try dsimp only at hSw); go_split_ands; go_simp; (try with_reducible rfl)
                try simp only [Act.put, List.setIfInBounds_toArray, List.set_cons_zero, List.set_cons_succ]
                refine wpAnyH_take (i := 52) (oi := { dst := some 88, op := Op.move (Operand.tmp 87), type := 4, pos := "law.go:117", after := #[{ on := 51, ground := Ground.data }, { on := 48, ground := Ground.chain }, { on := 45, ground := Ground.guard }], guard := some (45, false) }) (v := ?_) rfl (by kernel_rfl) (by kernel_rfl) (by kernel_rfl) (fun _ _ _ h => h) (Or.inl ⟨by rfl, ?_⟩) (by assumption) ?_; rotate_left
                · intro w hSw; (try dsimp only at hSw); go_split_ands; go_simp; (try with_reducible rfl)
                try simp only [Act.put, List.setIfInBounds_toArray, List.set_cons_zero, List.set_cons_succ]
                refine wpAnyH_take (i := 53) (oi := { dst := some 89, op := Op.load 23 (Operand.tmp 5), type := 23, pos := "law.go:117", after := #[{ on := 52, ground := Ground.guard }], guard := some (52, true) }) (v := undef) rfl (by kernel_rfl) (by kernel_rfl) (by kernel_rfl) (fun _ _ _ h => h) (Or.inr ⟨by rfl, rfl⟩) (by assumption) ?_
                try simp only [Act.put, List.setIfInBounds_toArray, List.set_cons_zero, List.set_cons_succ]
                refine wpAnyH_take (i := 54) (oi := { dst := some 90, op := Op.move (Operand.tmp 3), type := 34, pos := "law.go:117", after := #[{ on := 52, ground := Ground.guard }], guard := some (52, true) }) (v := undef) rfl (by kernel_rfl) (by kernel_rfl) (by kernel_rfl) (fun _ _ _ h => h) (Or.inr ⟨by rfl, rfl⟩) (by assumption) ?_
                try simp only [Act.put, List.setIfInBounds_toArray, List.set_cons_zero, List.set_cons_succ]
                refine wpAnyH_take (i := 55) (oi := { dst := some 91, op := Op.move (Operand.tmp 1), type := 24, pos := "law.go:117", after := #[{ on := 52, ground := Ground.guard }], guard := some (52, true) }) (v := undef) rfl (by kernel_rfl) (by kernel_rfl) (by kernel_rfl) (fun _ _ _ h => h) (Or.inr ⟨by rfl, rfl⟩) (by assumption) ?_
                try simp only [Act.put, List.setIfInBounds_toArray, List.set_cons_zero, List.set_cons_succ]
                refine wpAnyH_take (i := 56) (oi := { dst := some 92, op := Op.move (Operand.tmp 6), type := 3, pos := "law.go:117", after := #[{ on := 52, ground := Ground.guard }], guard := some (52, true) }) (v := undef) rfl (by kernel_rfl) (by kernel_rfl) (by kernel_rfl) (fun _ _ _ h => h) (Or.inr ⟨by rfl, rfl⟩) (by assumption) ?_
                try simp only [Act.put, List.setIfInBounds_toArray, List.set_cons_zero, List.set_cons_succ]
                refine wpAnyH_take (i := 57) (oi := { dst := some 93, op := Op.move (Operand.tmp 6), type := 3, pos := "law.go:117", after := #[{ on := 52, ground := Ground.guard }], guard := some (52, true) }) (v := undef) rfl (by kernel_rfl) (by kernel_rfl) (by kernel_rfl) (fun _ _ _ h => h) (Or.inr ⟨by rfl, rfl⟩) (by assumption) ?_
                try simp only [Act.put, List.setIfInBounds_toArray, List.set_cons_zero, List.set_cons_succ]
                refine wpAnyH_take (i := 58) (oi := { dst := some 94, op := Op.binOp BinOp.mul 3 (Operand.tmp 93) (Operand.const (Value.int IntKind.i64 3)) 3, type := 3, pos := "law.go:117", after := #[{ on := 57, ground := Ground.data }, { on := 52, ground := Ground.guard }], guard := some (52, true) }) (v := undef) rfl (by kernel_rfl) (by kernel_rfl) (by kernel_rfl) (fun _ _ _ h => h) (Or.inr ⟨by rfl, rfl⟩) (by assumption) ?_
                try simp only [Act.put, List.setIfInBounds_toArray, List.set_cons_zero, List.set_cons_succ]
                refine wpAnyH_take (i := 59) (oi := { dst := some 95, op := Op.move (Operand.tmp 6), type := 3, pos := "law.go:117", after := #[{ on := 52, ground := Ground.guard }], guard := some (52, true) }) (v := undef) rfl (by kernel_rfl) (by kernel_rfl) (by kernel_rfl) (fun _ _ _ h => h) (Or.inr ⟨by rfl, rfl⟩) (by assumption) ?_
                try simp only [Act.put, List.setIfInBounds_toArray, List.set_cons_zero, List.set_cons_succ]
                refine wpAnyH_take (i := 60) (oi := { dst := some 96, op := Op.binOp BinOp.mul 3 (Operand.tmp 95) (Operand.const (Value.int IntKind.i64 7)) 3, type := 3, pos := "law.go:117", after := #[{ on := 59, ground := Ground.data }, { on := 52, ground := Ground.guard }], guard := some (52, true) }) (v := undef) rfl (by kernel_rfl) (by kernel_rfl) (by kernel_rfl) (fun _ _ _ h => h) (Or.inr ⟨by rfl, rfl⟩) (by assumption) ?_
                try simp only [Act.put, List.setIfInBounds_toArray, List.set_cons_zero, List.set_cons_succ]
                refine wpAnyH_take (i := 61) (oi := { dst := some 97, op := Op.convert 3 5 (Operand.tmp 96), type := 5, pos := "law.go:117", after := #[{ on := 60, ground := Ground.data }, { on := 52, ground := Ground.guard }], guard := some (52, true) }) (v := undef) rfl (by kernel_rfl) (by kernel_rfl) (by kernel_rfl) (fun _ _ _ h => h) (Or.inr ⟨by rfl, rfl⟩) (by assumption) ?_
                try simp only [Act.put, List.setIfInBounds_toArray, List.set_cons_zero, List.set_cons_succ]
                refine wpAnyH_take (i := 62) (oi := { dst := some 98, op := Op.call { callee := Callee.value (Operand.func 6), args := #[Operand.tmp 89, Operand.tmp 90, Operand.tmp 91, Operand.tmp 92, Operand.tmp 94, Operand.tmp 97], argTypes := #[23, 34, 24, 3, 3, 5] }, type := 4, pos := "law.go:117", after := #[{ on := 53, ground := Ground.data }, { on := 54, ground := Ground.data }, { on := 55, ground := Ground.data }, { on := 56, ground := Ground.data }, { on := 58, ground := Ground.data }, { on := 61, ground := Ground.data }, { on := 52, ground := Ground.chain }, { on := 52, ground := Ground.guard }], guard := some (52, true) }) (v := undef) rfl (by kernel_rfl) (by kernel_rfl) (by kernel_rfl) (fun _ _ _ h => h) (Or.inr ⟨by rfl, rfl⟩) (by assumption) ?_
                try simp only [Act.put, List.setIfInBounds_toArray, List.set_cons_zero, List.set_cons_succ]
                refine wpAnyH_take (i := 63) (oi := { dst := some 99, op := Op.unOp UnOp.not 4 (Operand.tmp 98), type := 4, pos := "law.go:117", after := #[{ on := 62, ground := Ground.data }, { on := 52, ground := Ground.guard }], guard := some (52, true) }) (v := undef) rfl (by kernel_rfl) (by kernel_rfl) (by kernel_rfl) (fun _ _ _ h => h) (Or.inr ⟨by rfl, rfl⟩) (by assumption) ?_
                try simp only [Act.put, List.setIfInBounds_toArray, List.set_cons_zero, List.set_cons_succ]
                refine wpAnyH_take (i := 64) (oi := { dst := some 100, op := Op.pick (Operand.tmp 88) (Operand.tmp 99) (Operand.const (Value.bool false)), type := 4, pos := "law.go:117", after := #[{ on := 52, ground := Ground.data }, { on := 63, ground := Ground.data }, { on := 45, ground := Ground.guard }], guard := some (45, false) }) (v := ?_) rfl (by kernel_rfl) (by kernel_rfl) (by kernel_rfl) (fun _ _ _ h => h) (Or.inl ⟨by rfl, ?_⟩) (by assumption) ?_; rotate_left
                · intro w hSw; (try dsimp only at hSw); go_split_ands; go_simp; (try with_reducible rfl)
                try simp only [Act.put, List.setIfInBounds_toArray, List.set_cons_zero, List.set_cons_succ]
                refine wpAnyH_take (i := 65) (oi := { dst := some 101, op := Op.pick (Operand.tmp 81) (Operand.const (Value.bool true)) (Operand.tmp 100), type := 4, pos := "law.go:117", after := #[{ on := 45, ground := Ground.data }, { on := 64, ground := Ground.data }], guard := none }) (v := ?_) rfl (by kernel_rfl) (by kernel_rfl) (by kernel_rfl) (fun _ _ _ h => h) (Or.inl ⟨by rfl, ?_⟩) (by assumption) ?_; rotate_left
                · intro w hSw; (try dsimp only at hSw); go_split_ands; go_simp; (try with_reducible rfl)
                try simp only [Act.put, List.setIfInBounds_toArray, List.set_cons_zero, List.set_cons_succ]
                refine wpAnyH_done (by kernel_rfl) ?_ _
                go_wp2_with fail
                go_meet
                exact ⟨rfl, HG9⟩
              · go_simp
                refine hK.out _ _ ?_ (fun hHeld => ?_)
                · ((try dsimp only); go_keep)
                clear hK K
                try simp only [Act.put, List.setIfInBounds_toArray, List.set_cons_zero, List.set_cons_succ]
                refine wpAnyH_ready (rs := [39]) (by kernel_rfl) (by simp) ?_
                refine AllReadyH.cons (o := { dst := some 75, op := Op.buildSlice 31 4 #[(0, Operand.tmp 70), (1, Operand.tmp 73), (2, Operand.const (Value.slice none 0 0)), (3, Operand.tmp 74)], type := 31, pos := "law.go:117", after := #[{ on := 34, ground := Ground.data }, { on := 37, ground := Ground.data }, { on := 38, ground := Ground.data }, { on := 29, ground := Ground.guard }], guard := some (29, false) }) rfl (fun K hK => ?_) AllReadyH.nil
                go_simp
                refine hK.out _ _ ?_ (fun hHeld => ?_)
                · ((try dsimp only); go_keep)
                clear hK K
                try simp only [Act.put, List.setIfInBounds_toArray, List.set_cons_zero, List.set_cons_succ]
                refine wpAnyH_ready (rs := [42]) (by kernel_rfl) (by simp) ?_
                refine AllReadyH.cons (o := { dst := some 78, op := Op.call { callee := Callee.value (Operand.func 5), args := #[Operand.tmp 66, Operand.tmp 67, Operand.tmp 75, Operand.tmp 77], argTypes := #[23, 34, 31, 35] }, type := 4, pos := "law.go:117", after := #[{ on := 30, ground := Ground.data }, { on := 31, ground := Ground.data }, { on := 39, ground := Ground.data }, { on := 41, ground := Ground.data }, { on := 29, ground := Ground.chain }, { on := 29, ground := Ground.guard }], guard := some (29, false) }) rfl (fun K hK => ?_) AllReadyH.nil
                go_simp
                go_at_call 5
                refine (HMb.out _ ?_).mono ?_
                · assumption
                rintro e w9 ⟨rfl, HG9⟩
                obtain ⟨g0, g1, g2, g3, g4, g5⟩ := jb_cells (keep HXr.out HG9.out)
                go_wp2_with fail
                refine hK.out _ _ ?_ (fun hHeld => ?_)
                · ((try dsimp only); go_keep)
                clear hK K
                try simp only [Act.put, List.setIfInBounds_toArray, List.set_cons_zero, List.set_cons_succ]
                refine wpAnyH_take (i := 43) (oi := { dst := some 79, op := Op.unOp UnOp.not 4 (Operand.tmp 78), type := 4, pos := "law.go:117", after := #[{ on := 42, ground := Ground.data }, { on := 29, ground := Ground.guard }], guard := some (29, false) }) (v := ?_) rfl (by kernel_rfl) (by kernel_rfl) (by kernel_rfl) (fun _ _ _ h => h) (Or.inl ⟨by rfl, ?_⟩) (by assumption) ?_; rotate_left
                · intro w hSw; (try dsimp only at hSw); go_split_ands; go_simp; (try with_reducible rfl)
                try simp only [Act.put, List.setIfInBounds_toArray, List.set_cons_zero, List.set_cons_succ]
                refine wpAnyH_take (i := 44) (oi := { dst := some 80, op := Op.pick (Operand.tmp 65) (Operand.const (Value.bool true)) (Operand.tmp 79), type := 4, pos := "law.go:117", after := #[{ on := 29, ground := Ground.data }, { on := 43, ground := Ground.data }], guard := none }) (v := ?_) rfl (by kernel_rfl) (by kernel_rfl) (by kernel_rfl) (fun _ _ _ h => h) (Or.inl ⟨by rfl, ?_⟩) (by assumption) ?_; rotate_left
                · intro w hSw; (try dsimp only at hSw); go_split_ands; go_simp; (try with_reducible rfl)
                try simp only [Act.put, List.setIfInBounds_toArray, List.set_cons_zero, List.set_cons_succ]
                refine wpAnyH_take (i := 45) (oi := { dst := some 81, op := Op.move (Operand.tmp 80), type := 4, pos := "law.go:117", after := #[{ on := 44, ground := Ground.data }, { on := 42, ground := Ground.chain }], guard := none }) (v := ?_) rfl (by kernel_rfl) (by kernel_rfl) (by kernel_rfl) (fun _ _ _ h => h) (Or.inl ⟨by rfl, ?_⟩) (by assumption) ?_; rotate_left
                · intro w hSw; (try dsimp only at hSw); go_split_ands; go_simp; (try with_reducible rfl)
                try simp only [Act.put, List.setIfInBounds_toArray, List.set_cons_zero, List.set_cons_succ]
                refine wpAnyH_take (i := 46) (oi := { dst := some 82, op := Op.move (Operand.tmp 4), type := 5, pos := "law.go:117", after := #[{ on := 45, ground := Ground.guard }], guard := some (45, false) }) (v := ?_) rfl (by kernel_rfl) (by kernel_rfl) (by kernel_rfl) (fun _ _ _ h => h) (Or.inl ⟨by rfl, ?_⟩) (by assumption) ?_; rotate_left
                · intro w hSw; (try dsimp only at hSw); go_split_ands; go_simp; (try with_reducible rfl)
                try simp only [Act.put, List.setIfInBounds_toArray, List.set_cons_zero, List.set_cons_succ]
                refine wpAnyH_take (i := 47) (oi := { dst := some 83, op := Op.binOp BinOp.gtr 5 (Operand.tmp 82) (Operand.const (Value.int IntKind.u8 0)) 5, type := 4, pos := "law.go:117", after := #[{ on := 46, ground := Ground.data }, { on := 45, ground := Ground.guard }], guard := some (45, false) }) (v := ?_) rfl (by kernel_rfl) (by kernel_rfl) (by kernel_rfl) (fun _ _ _ h => h) (Or.inl ⟨by rfl, ?_⟩) (by assumption) ?_; rotate_left
                · intro w hSw; (try dsimp only at hSw); go_split_ands; go_simp; (try with_reducible rfl)
                try simp only [Act.put, List.setIfInBounds_toArray, List.set_cons_zero, List.set_cons_succ]
                refine wpAnyH_take (i := 48) (oi := { dst := some 84, op := Op.move (Operand.tmp 83), type := 4, pos := "law.go:117", after := #[{ on := 47, ground := Ground.data }, { on := 45, ground := Ground.chain }, { on := 45, ground := Ground.guard }], guard := some (45, false) }) (v := ?_) rfl (by kernel_rfl) (by kernel_rfl) (by kernel_rfl) (fun _ _ _ h => h) (Or.inl ⟨by rfl, ?_⟩) (by assumption) ?_; rotate_left
                · intro w hSw; (try dsimp only at hSw); go_split_ands; go_simp; (try with_reducible rfl)
                try simp only [Act.put, List.setIfInBounds_toArray, List.set_cons_zero, List.set_cons_succ]
                refine wpAnyH_take (i := 49) (oi := { dst := some 85, op := Op.move (Operand.tmp 4), type := 5, pos := "law.go:117", after := #[{ on := 48, ground := Ground.guard }], guard := some (48, true) }) (v := ?_) rfl (by kernel_rfl) (by kernel_rfl) (by kernel_rfl) (fun _ _ _ h => h) (Or.inl ⟨by rfl, ?_⟩) (by assumption) ?_; rotate_left
                · intro w hSw; (try dsimp only at hSw); go_split_ands; go_simp; (try with_reducible rfl)
                try simp only [Act.put, List.setIfInBounds_toArray, List.set_cons_zero, List.set_cons_succ]
                refine wpAnyH_take (i := 50) (oi := { dst := some 86, op := Op.binOp BinOp.lss 5 (Operand.tmp 85) (Operand.const (Value.int IntKind.u8 4)) 5, type := 4, pos := "law.go:117", after := #[{ on := 49, ground := Ground.data }, { on := 48, ground := Ground.guard }], guard := some (48, true) }) (v := ?_) rfl (by kernel_rfl) (by kernel_rfl) (by kernel_rfl) (fun _ _ _ h => h) (Or.inl ⟨by rfl, ?_⟩) (by assumption) ?_; rotate_left
                · intro w hSw; (try dsimp only at hSw); go_split_ands; go_simp; (try with_reducible rfl)
                try simp only [Act.put, List.setIfInBounds_toArray, List.set_cons_zero, List.set_cons_succ]
                refine wpAnyH_take (i := 51) (oi := { dst := some 87, op := Op.pick (Operand.tmp 84) (Operand.tmp 86) (Operand.const (Value.bool false)), type := 4, pos := "law.go:117", after := #[{ on := 48, ground := Ground.data }, { on := 50, ground := Ground.data }, { on := 45, ground := Ground.guard }], guard := some (45, false) }) (v := ?_) rfl (by kernel_rfl) (by kernel_rfl) (by kernel_rfl) (fun _ _ _ h => h) (Or.inl ⟨by rfl, ?_⟩) (by assumption) ?_; rotate_left
                · intro w hSw; (try dsimp only at hSw); go_split_ands; go_simp; (try with_reducible rfl)
                try simp only [Act.put, List.setIfInBounds_toArray, List.set_cons_zero, List.set_cons_succ]
                refine wpAnyH_take (i := 52) (oi := { dst := some 88, op := Op.move (Operand.tmp 87), type := 4, pos := "law.go:117", after := #[{ on := 51, ground := Ground.data }, { on := 48, ground := Ground.chain }, { on := 45, ground := Ground.guard }], guard := some (45, false) }) (v := ?_) rfl (by kernel_rfl) (by kernel_rfl) (by kernel_rfl) (fun _ _ _ h => h) (Or.inl ⟨by rfl, ?_⟩) (by assumption) ?_; rotate_left
                · intro w hSw; (try dsimp only at hSw); go_split_ands; go_simp; (try with_reducible rfl)
                try simp only [Act.put, List.setIfInBounds_toArray, List.set_cons_zero, List.set_cons_succ]
                refine wpAnyH_take (i := 53) (oi := { dst := some 89, op := Op.load 23 (Operand.tmp 5), type := 23, pos := "law.go:117", after := #[{ on := 52, ground := Ground.guard }], guard := some (52, true) }) (v := undef) rfl (by kernel_rfl) (by kernel_rfl) (by kernel_rfl) (fun _ _ _ h => h) (Or.inr ⟨by rfl, rfl⟩) (by assumption) ?_
                try simp only [Act.put, List.setIfInBounds_toArray, List.set_cons_zero, List.set_cons_succ]
                refine wpAnyH_take (i := 54) (oi := { dst := some 90, op := Op.move (Operand.tmp 3), type := 34, pos := "law.go:117", after := #[{ on := 52, ground := Ground.guard }], guard := some (52, true) }) (v := undef) rfl (by kernel_rfl) (by kernel_rfl) (by kernel_rfl) (fun _ _ _ h => h) (Or.inr ⟨by rfl, rfl⟩) (by assumption) ?_
                try simp only [Act.put, List.setIfInBounds_toArray, List.set_cons_zero, List.set_cons_succ]
                refine wpAnyH_take (i := 55) (oi := { dst := some 91, op := Op.move (Operand.tmp 1), type := 24, pos := "law.go:117", after := #[{ on := 52, ground := Ground.guard }], guard := some (52, true) }) (v := undef) rfl (by kernel_rfl) (by kernel_rfl) (by kernel_rfl) (fun _ _ _ h => h) (Or.inr ⟨by rfl, rfl⟩) (by assumption) ?_
                try simp only [Act.put, List.setIfInBounds_toArray, List.set_cons_zero, List.set_cons_succ]
                refine wpAnyH_take (i := 56) (oi := { dst := some 92, op := Op.move (Operand.tmp 6), type := 3, pos := "law.go:117", after := #[{ on := 52, ground := Ground.guard }], guard := some (52, true) }) (v := undef) rfl (by kernel_rfl) (by kernel_rfl) (by kernel_rfl) (fun _ _ _ h => h) (Or.inr ⟨by rfl, rfl⟩) (by assumption) ?_
                try simp only [Act.put, List.setIfInBounds_toArray, List.set_cons_zero, List.set_cons_succ]
                refine wpAnyH_take (i := 57) (oi := { dst := some 93, op := Op.move (Operand.tmp 6), type := 3, pos := "law.go:117", after := #[{ on := 52, ground := Ground.guard }], guard := some (52, true) }) (v := undef) rfl (by kernel_rfl) (by kernel_rfl) (by kernel_rfl) (fun _ _ _ h => h) (Or.inr ⟨by rfl, rfl⟩) (by assumption) ?_
                try simp only [Act.put, List.setIfInBounds_toArray, List.set_cons_zero, List.set_cons_succ]
                refine wpAnyH_take (i := 58) (oi := { dst := some 94, op := Op.binOp BinOp.mul 3 (Operand.tmp 93) (Operand.const (Value.int IntKind.i64 3)) 3, type := 3, pos := "law.go:117", after := #[{ on := 57, ground := Ground.data }, { on := 52, ground := Ground.guard }], guard := some (52, true) }) (v := undef) rfl (by kernel_rfl) (by kernel_rfl) (by kernel_rfl) (fun _ _ _ h => h) (Or.inr ⟨by rfl, rfl⟩) (by assumption) ?_
                try simp only [Act.put, List.setIfInBounds_toArray, List.set_cons_zero, List.set_cons_succ]
                refine wpAnyH_take (i := 59) (oi := { dst := some 95, op := Op.move (Operand.tmp 6), type := 3, pos := "law.go:117", after := #[{ on := 52, ground := Ground.guard }], guard := some (52, true) }) (v := undef) rfl (by kernel_rfl) (by kernel_rfl) (by kernel_rfl) (fun _ _ _ h => h) (Or.inr ⟨by rfl, rfl⟩) (by assumption) ?_
                try simp only [Act.put, List.setIfInBounds_toArray, List.set_cons_zero, List.set_cons_succ]
                refine wpAnyH_take (i := 60) (oi := { dst := some 96, op := Op.binOp BinOp.mul 3 (Operand.tmp 95) (Operand.const (Value.int IntKind.i64 7)) 3, type := 3, pos := "law.go:117", after := #[{ on := 59, ground := Ground.data }, { on := 52, ground := Ground.guard }], guard := some (52, true) }) (v := undef) rfl (by kernel_rfl) (by kernel_rfl) (by kernel_rfl) (fun _ _ _ h => h) (Or.inr ⟨by rfl, rfl⟩) (by assumption) ?_
                try simp only [Act.put, List.setIfInBounds_toArray, List.set_cons_zero, List.set_cons_succ]
                refine wpAnyH_take (i := 61) (oi := { dst := some 97, op := Op.convert 3 5 (Operand.tmp 96), type := 5, pos := "law.go:117", after := #[{ on := 60, ground := Ground.data }, { on := 52, ground := Ground.guard }], guard := some (52, true) }) (v := undef) rfl (by kernel_rfl) (by kernel_rfl) (by kernel_rfl) (fun _ _ _ h => h) (Or.inr ⟨by rfl, rfl⟩) (by assumption) ?_
                try simp only [Act.put, List.setIfInBounds_toArray, List.set_cons_zero, List.set_cons_succ]
                refine wpAnyH_take (i := 62) (oi := { dst := some 98, op := Op.call { callee := Callee.value (Operand.func 6), args := #[Operand.tmp 89, Operand.tmp 90, Operand.tmp 91, Operand.tmp 92, Operand.tmp 94, Operand.tmp 97], argTypes := #[23, 34, 24, 3, 3, 5] }, type := 4, pos := "law.go:117", after := #[{ on := 53, ground := Ground.data }, { on := 54, ground := Ground.data }, { on := 55, ground := Ground.data }, { on := 56, ground := Ground.data }, { on := 58, ground := Ground.data }, { on := 61, ground := Ground.data }, { on := 52, ground := Ground.chain }, { on := 52, ground := Ground.guard }], guard := some (52, true) }) (v := undef) rfl (by kernel_rfl) (by kernel_rfl) (by kernel_rfl) (fun _ _ _ h => h) (Or.inr ⟨by rfl, rfl⟩) (by assumption) ?_
                try simp only [Act.put, List.setIfInBounds_toArray, List.set_cons_zero, List.set_cons_succ]
                refine wpAnyH_take (i := 63) (oi := { dst := some 99, op := Op.unOp UnOp.not 4 (Operand.tmp 98), type := 4, pos := "law.go:117", after := #[{ on := 62, ground := Ground.data }, { on := 52, ground := Ground.guard }], guard := some (52, true) }) (v := undef) rfl (by kernel_rfl) (by kernel_rfl) (by kernel_rfl) (fun _ _ _ h => h) (Or.inr ⟨by rfl, rfl⟩) (by assumption) ?_
                try simp only [Act.put, List.setIfInBounds_toArray, List.set_cons_zero, List.set_cons_succ]
                refine wpAnyH_take (i := 64) (oi := { dst := some 100, op := Op.pick (Operand.tmp 88) (Operand.tmp 99) (Operand.const (Value.bool false)), type := 4, pos := "law.go:117", after := #[{ on := 52, ground := Ground.data }, { on := 63, ground := Ground.data }, { on := 45, ground := Ground.guard }], guard := some (45, false) }) (v := ?_) rfl (by kernel_rfl) (by kernel_rfl) (by kernel_rfl) (fun _ _ _ h => h) (Or.inl ⟨by rfl, ?_⟩) (by assumption) ?_; rotate_left
                · intro w hSw; (try dsimp only at hSw); go_split_ands; go_simp; (try with_reducible rfl)
                try simp only [Act.put, List.setIfInBounds_toArray, List.set_cons_zero, List.set_cons_succ]
                refine wpAnyH_take (i := 65) (oi := { dst := some 101, op := Op.pick (Operand.tmp 81) (Operand.const (Value.bool true)) (Operand.tmp 100), type := 4, pos := "law.go:117", after := #[{ on := 45, ground := Ground.data }, { on := 64, ground := Ground.data }], guard := none }) (v := ?_) rfl (by kernel_rfl) (by kernel_rfl) (by kernel_rfl) (fun _ _ _ h => h) (Or.inl ⟨by rfl, ?_⟩) (by assumption) ?_; rotate_left
                · intro w hSw; (try dsimp only at hSw); go_split_ands; go_simp; (try with_reducible rfl)
                try simp only [Act.put, List.setIfInBounds_toArray, List.set_cons_zero, List.set_cons_succ]
                refine wpAnyH_done (by kernel_rfl) ?_ _
                go_wp2_with fail
                go_meet
                exact ⟨rfl, HG9⟩
            have hd1 : decide (0 < kd) = true := decide_eq_true (by omega)
            have hd2 : decide ((kd : Int) < 4) = true := decide_eq_true (by omega)
            clear hk0 hk4
            go_region_held3 (fun w' => w'.cell? ⟨bj, 0, none⟩ = some (.int .u8 (kd : Int)) ∧ w'.cell? ⟨bj, 1, none⟩ = some (.int .i64 0) ∧ w'.cell? ⟨bj, 2, none⟩ = some (.int .i64 0) ∧ w'.cell? ⟨bj, 3, none⟩ = some (.int .i64 0) ∧ w'.cell? ⟨bj, 4, none⟩ = some (.int .i64 0)) (go_keep) (first
              | (go_at_call 3; refine (HFa.out _ ?_).mono ?_; assumption; rintro e w9 ⟨rfl, HG9⟩; obtain ⟨g0, g1, g2, g3, g4, g5⟩ := jb_cells (keep HXr.out HG9.out))
              | (go_at_call 3; refine (HFb.out _ ?_).mono ?_; assumption; rintro e w9 ⟨rfl, HG9⟩; obtain ⟨g0, g1, g2, g3, g4, g5⟩ := jb_cells (keep HXr.out HG9.out))
              | (go_at_call 4; refine (HSa.out _ ?_).mono ?_; assumption; rintro e w9 ⟨rfl, HG9⟩; obtain ⟨g0, g1, g2, g3, g4, g5⟩ := jb_cells (keep HXr.out HG9.out))
              | (go_at_call 4; refine (HSb.out _ ?_).mono ?_; assumption; rintro e w9 ⟨rfl, HG9⟩; obtain ⟨g0, g1, g2, g3, g4, g5⟩ := jb_cells (keep HXr.out HG9.out))
              | (go_at_call 5; refine (HMa.out _ ?_).mono ?_; assumption; rintro e w9 ⟨rfl, HG9⟩; obtain ⟨g0, g1, g2, g3, g4, g5⟩ := jb_cells (keep HXr.out HG9.out))
              | (go_at_call 5; refine (HMb.out _ ?_).mono ?_; assumption; rintro e w9 ⟨rfl, HG9⟩; obtain ⟨g0, g1, g2, g3, g4, g5⟩ := jb_cells (keep HXr.out HG9.out))
              | (go_at_call 6; refine (HOr.out _ ?_).mono ?_; assumption; rintro e w9 ⟨rfl, HG9⟩; obtain ⟨g0, g1, g2, g3, g4, g5⟩ := jb_cells (keep HXr.out HG9.out)))
            all_goals
              go_wp2_with fail
              go_meet
              exact ⟨rfl, HG9⟩
          case rest =>
            clear HFa HFb HSa HSb HMa HMb HOr HG0 j0 j1 j2 j3 j4 j5 hs1 hs2 hs3 hs4
            obtain ⟨rfl, hbc⟩ := hcut
            go_wp2
            go_roundg (gk - 1)
            case measure => omega
            case rel => exact ⟨q + 1, by omega, by go_num, Lib.hid (step_below HC.out HC.out.size hbc.out)⟩
        · go_wp2_with fail
          go_roundg (G0 - 1)
          case measure => omega
          case rel => exact ⟨kd + 1, by omega, by go_num, Lib.hid (step_below HB5.out HB5.out.size HC.out)⟩
    · have HBr := Lib.hid (step_below HB4.out HB4.out.size HB.out)
      have HIr := Lib.hid (HI4.out.below HB.out)
      have HM0 := yes_m0 wr
      go_wp2_with fail
      refine (HM0.out wr (Lib.hid (Below.refl _ _))).mono ?_
      rintro e w5 ⟨rfl, HB5⟩
      have HM1 := yes_m1 wr w5 HB5
      go_wp2_with fail
      refine HM1.out.mono ?_
      rintro e w6 ⟨rfl, HB6⟩
      have HO1 := yes_order 1 0 0 0 0 (some ⟨bo, 0, none⟩) none 9 9 0 0 knW [] 0 0 0 wr HIr.out rfl (MAt.nil _ _) rfl (fun x hx => by simp at hx) knW_in (by omega) (by omega) (by omega) (by omega) (by omega) (by omega) (by omega) (by omega) (by omega)
      go_wp2_with fail
      refine (HO1.out w6 HB6).mono ?_
      rintro e w7 ⟨rfl, HB7⟩
      have HWk := yes_works wr
      go_wp2_with fail
      refine (HWk.out w7 HB7).mono ?_
      rintro e w8 ⟨rfl, HB8⟩
      go_wp2
      go_ret
      exact ⟨rfl, Lib.hid (step_below HBr.out HBr.out.size HB8.out)⟩

end Go.Proofs.Ytgkmmjlhphinhaa.In
