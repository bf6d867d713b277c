/-
  What is proved here: the law PathsTight walked: it returns true, and no block that was there has changed. Conditions: counts fit an int.
-/
import Derived.Test.YtiaihloncpkjbaaPaL1
import Derived.Test.YtiaihloncpkjbaaPaR
namespace Go.Proofs.Ytiaihloncpkjbaa.Pa
open Go.RowKit Gr Wd Ws Fx Lb

theorem light_of (V : Int) (A : Option Addr) (n c : Nat) (top : Int) (b : Bool) (t : Nat) (ht : top = (t : Int)) (hb : decide (n ≤ t) = b) (w : World) :
    Calls Try.prog 15 #[.agg #[.int .i64 V, .slice A n c], .int .i64 top] w fun e w' => e = .returned (.bool b) ∧ Below w.heap.size w w' := by
  subst ht
  have := light_any V A n c t w
  rw [hb] at this
  exact this.mono fun e w' k => ⟨k.1, k.2.below⟩
theorem iat_add {w : World} {a : Addr} {l : List Int} (h : IAt w (some a) l) : ∀ j u, (ints l)[j]? = some u → w.cell? (a.add j) = some u := by
  intro j u hu
  rw [ints_at] at hu
  cases hx : l[j]? with
  | none => rw [hx] at hu; cases hu
  | some x =>
    rw [hx] at hu
    obtain ⟨bk, o, hA, c⟩ := h j x hx
    cases hA
    rw [add_plain, c]
    simpa using hu
theorem iat_none {w : World} {l : List Int} (h : IAt w none l) : l = [] := by
  cases l with
  | nil => rfl
  | cons x l => obtain ⟨_, _, h0, _⟩ := h 0 x rfl; cases h0
theorem app_icopy {w : World} {ops : Array Oper} {rest : List Oper} {o : Oper} {a : Act} {Q : Exit → Act → World → Prop} (hgd : o.guard = none) (s x : Operand)
    (ho : o.op = .call { callee := .builtin .append, args := #[s, x], argTypes := #[36, 36] }) (B : Nat) (l : List Int) (hs : a.eval s = .slice none 0 0)
    (A : Option Addr) (n c : Nat) (hnl : n = l.length) (hx : a.eval x = .slice A n c) (hL : IAt w A l) (hn : n < 1000000000) (hB : B ≤ w.heap.size)
    (h : ∀ v' w', IOwn w' B v' l → w.grownBy w' none → wpList Try.prog ops Q rest (a.put o.dst v') w') : wpList Try.prog ops Q (o :: rest) a w := by
  subst hnl
  obtain ⟨i0, hi, hz0, hz1, hz2⟩ := info_parts infoI
  cases A with
  | some ad =>
    refine wpList_append_own w hgd s x 36 ho B 2 i0 _ 1 8 Try.underlying36 hi hz0 hz1 hz2 rfl (by decide) (.slice none 0 0) 0 [] hs (World.ownsRow_nil _ _ _ _) ad l.length c (ints l) hx (by rw [ints_len]; omega) (iat_add hL) ?_ ?_ ?_ hB ?_
    · intro u hu
      simp only [ints, List.mem_map] at hu
      obtain ⟨y, _, rfl⟩ := hu; rfl
    · unfold maxLen; omega
    · omega
    · intro v' w' h1 h2 _
      refine h v' w' ?_ h2
      unfold IOwn
      rw [Nat.zero_add, List.nil_append] at h1
      exact h1
  | none =>
    obtain rfl := iat_none hL
    have u22 := run_underlying Try.underlying36
    have hr : (Builtin.append_ #[36, 36] o.type #[.slice none 0 0, .slice none 0 c]).run Try.prog w = .ok (.slice none 0 0) w := by
      simp [Builtin.append_, Builtin.lenOf, Builtin.firstCells, u22, sizeOf, typeInfo, hi]
    refine wpList_plain hgd fun _ hK => ?_
    unfold Oper.wp execOp
    simp only [ho, resolve, invoke, builtin, Sem.run_bind, Sem.run_pure, Result.andThen_ok, List.map_toArray, List.map_cons, List.map_nil, hs, hx, hr, List.length_nil]
    exact hK _ _ (h _ _ (IOwn.none_ _ _) ⟨rfl, rfl, rfl, Nat.le_refl _, fun _ _ _ => rfl⟩)
theorem same_yes (A B : Option Addr) (c d n : Nat) (l : List Int) (w : World) (hn : Hid (n = l.length)) (hL : IAt w A l) (hM : IAt w B l) (hl : n ≤ 100000) :
    Calls Try.prog 18 #[.slice A n c, .slice B n d] w fun e w' => e = .returned (.bool true) ∧ Below w.heap.size w w' := by
  have := kitsame_any A B c d l l w hL hM (by rw [← hn.out]; omega) (by rw [← hn.out]; omega)
  rw [← hn.out] at this
  simpa using this

set_option maxRecDepth 100000 in
set_option maxHeartbeats 2000000 in
theorem law_tight (V s : Int) (A B : Option Addr) (c d : Nat) (L : List Ed) (l : List Int) (w : World) (hL : Hid (EAt w A L)) (hl : Hid (IAt w B l)) (hn : L.length ≤ 9223372036854775807) (hm : l.length ≤ 9223372036854775807) :
    Calls Try.prog 5 #[.agg #[.int .i64 V, .slice A L.length c], .int .i64 s, .slice B l.length d] w fun e w' => e = .returned (.bool true) ∧ Below w.heap.size w w' := by
  have mixed := mixedP
  have T1 := Lib.hid (fun W (h : Below w.heap.size w W) => tight_any V s A B c d L l W (hL.out.below h) (hl.out.below h) hn hm)
  have T2 := Lib.hid (fun W (h : Below w.heap.size w W) => rtight_any V s A B c d L l W (hL.out.below h) (hl.out.below h) hn hm)
  obtain ⟨T, hT⟩ : ∃ T, tgt V L s l = T := ⟨_, rfl⟩
  rw [hT] at T1 T2
  clear hT
  obtain ⟨n, hn'⟩ : ∃ n, n = L.length := ⟨_, rfl⟩
  obtain ⟨m, hm'⟩ : ∃ m, m = l.length := ⟨_, rfl⟩
  rw [← hn'] at hn T1 T2 ⊢
  rw [← hm'] at hm T1 T2 ⊢
  have HN := Lib.hid hn'; have HM := Lib.hid hm'
  clear hn' hm'
  obtain ⟨W1, hW1⟩ : ∃ W1, W1 = w.alloc (.cells #[.int .i64 V, .slice A n c] 35) := ⟨_, rfl⟩
  have HB : Hid (Below w.heap.size w W1) := Lib.hid (by rw [hW1]; exact (Below.refl _ w).alloc (Nat.le_refl _) _)
  have HX : Hid (W1.heap[w.heap.size]? = some (.cells #[.int .i64 V, .slice A n c] 35 (0, 0))) := Lib.hid (by rw [hW1]; exact heap_alloc_new w _)
  obtain ⟨b, hb⟩ : ∃ b, b = w.heap.size := ⟨_, rfl⟩
  rw [← hb] at HX
  have HBb := Lib.hid hb; clear hb
  obtain ⟨k0, k1, _⟩ := Bx.cells HX.out
  rcases (show 300 < n ∨ (n ≤ 300 ∧ 600 < m) ∨ (n ≤ 300 ∧ m ≤ 600) by omega) with g1 | ⟨g1, g2⟩ | ⟨g1, g2⟩
  · go_enter Try.func5, Try.ntmps5
    go_upto_region 1 with fail
    rw [← hW1, ← HBb.out]
    clear hW1
    go_wp2_with fail
    refine (light_of V A n c 300 false 300 rfl (by simp; omega) _).mono ?_
    rintro e w2 ⟨rfl, h2⟩
    have HB2 := Lib.hid (step_below HB.out HB.out.size h2); clear h2 k0 k1
    go_wp2_with fail
    refine (works_any _).mono ?_
    rintro e w3 ⟨rfl, h3⟩
    have HB3 := Lib.hid (step_below HB2.out HB2.out.size h3.out); clear h3
    go_wp2
    go_ret
    exact ⟨rfl, HB3.out⟩
  · go_enter Try.func5, Try.ntmps5
    go_upto_region 1 with fail
    rw [← hW1, ← HBb.out]
    clear hW1
    go_wp2_with fail
    refine (light_of V A n c 300 true 300 rfl (by simp; omega) _).mono ?_
    rintro e w2 ⟨rfl, h2⟩
    have HB2 := Lib.hid (step_below HB.out HB.out.size h2); clear h2 k0 k1
    go_wp2_with fail
    refine (works_any _).mono ?_
    rintro e w3 ⟨rfl, h3⟩
    have HB3 := Lib.hid (step_below HB2.out HB2.out.size h3.out); clear h3
    go_wp2
    go_ret
    exact ⟨rfl, HB3.out⟩
  · go_enter Try.func5, Try.ntmps5
    go_upto_region 1 with fail
    rw [← hW1, ← HBb.out]
    clear hW1
    go_wp2_with fail
    refine (light_of V A n c 300 true 300 rfl (by simp; omega) _).mono ?_
    rintro e w2 ⟨rfl, h2⟩
    have HB2 := Lib.hid (step_below HB.out HB.out.size h2)
    have HX2 := Lib.hid ((h2.block _ (lt_of_block HX.out)).trans HX.out)
    have HL2 := Lib.hid (hl.out.below HB2.out)
    clear h2 k0 k1 HX HB
    go_wp2_with (at_builtin; refine app_icopy rfl (.tmp 17) (.tmp 18) rfl w2.heap.size l rfl B m d HM.out rfl HL2.out (by omega) (Nat.le_refl _) ?_)
    intro v3 w3 ho3 hg3
    have hb3 : Below w2.heap.size w2 w3 := Below.grown (Below.refl _ w2) hg3 (Nat.le_refl _) nofun
    have HB3 := Lib.hid (step_below HB2.out HB2.out.size hb3)
    have HX3 := Lib.hid ((hb3.block _ (lt_of_block HX2.out)).trans HX2.out)
    obtain ⟨A3, c3, rfl, hA3⟩ := ho3.form
    rw [← HM.out]
    have HL3 := Lib.hid (hl.out.below HB3.out); have HA3 := Lib.hid hA3
    clear ho3 hg3 hb3 hA3 HB2 HX2 HL2
    obtain ⟨k0, k1, _⟩ := Bx.cells HX3.out
    have z0 := cell_regrown k0; have z1 := cell_regrown k1
    have C1 := Lib.hid (regr fun W (h : Below w3.heap.size w3 W) => T1.out W (step_below HB3.out HB3.out.size h))
    have C2 := Lib.hid (regr fun W (h : Below w3.heap.size w3 W) => T2.out W (step_below HB3.out HB3.out.size h))
    have C3 := Lib.hid (regr fun W (h : Below w3.heap.size w3 W) => same_yes A3 B c3 d m l W HM (HA3.out.below h) (HL3.out.below h) (by omega))
    have C4 := Lib.hid (regr fun W (_ : Below w3.heap.size w3 W) => works_q W)
    clear k0 k1
    go_wp2_with fail
    refine wp_region_quiet_below mixed (by kernel_rfl) ?_
    repeat (go_big_quiet_step ((with_reducible first | exact C1.out _ _ | exact C2.out _ _ | exact C3.out _ _ | exact C4.out _ _)))
    refine wpQuiet_nil ?_
    intro _ hw'
    obtain ⟨⟨dq, osq⟩, hw''⟩ := hw'
    subst hw''
    have HB4 := Lib.hid (step_below HB3.out HB3.out.size (below_regrown w3 dq osq))
    go_wp2
    go_ret
    exact ⟨rfl, HB4.out⟩

end Go.Proofs.Ytiaihloncpkjbaa.Pa
