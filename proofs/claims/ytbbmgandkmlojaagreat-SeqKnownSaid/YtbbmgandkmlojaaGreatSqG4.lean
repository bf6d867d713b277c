/-
  What is proved here: the texts SqTl SqNm SqNx SqS0 SqEq SqW2 SqRes SqSt SqStp SqAt SqRun SqWk of this seat, laid together (each says itself what it proves; no condition beyond theirs).
-/
import Derived.Test.YtbbmgandkmlojaaGreatSqG1
import Derived.Test.YtbbmgandkmlojaaGreatSqG3
import Derived.Test.YtbbmgandkmlojaaGreatPtG4
/-
  What is proved here: a contract of what is told of all. Conditions: at most 512 vertices, at most 1000 edges; values that may be.
-/
namespace Go.Proofs.YtbbmgandkmlojaaGreat.Sq
open Go.RowKit Go.Shelf Gr Wd Ws Fx Rk Lb Al In
open Pa (vl bt vl_of vl_at bt_of bt_at)
attribute [local go_sem] Oper.semAt_some

set_option maxRecDepth 100000 in
set_option maxHeartbeats 8000000 in
theorem tell_any (k st so dm ep : Int) (V : Nat) (L : List Ed) (Ae Av Ac Aa : Option Addr) (ce cv cc ca b be : Nat) (was vals : List Int) (chg : List Bool) (a0 a3 a4 a5 : Value) (w : World)
    (hE : WOwn w be (.slice Ae V ce) (egs V L)) (hb : w.heap[b]? = some (.cells #[a0, .slice Av V cv, .slice Ac V cc, a3, a4, a5] 33 (0, 0)))
    (hv : IAt w Av vals) (hc : BAt w Ac chg) (ha : IAt w Aa was) (hvl : vals.length = V) (hcl : chg.length = V) (hal : was.length = V) (hvr : ∀ x ∈ vals, I63 x) (har : ∀ x ∈ was, I63 x) (hV : V ≤ 512) (hL : L.length ≤ 1000) (hfit : ∀ e ∈ L, fitE (V : Int) e = true) :
    Calls Tryz.prog 57 #[.agg #[.int .u8 k, .int .i64 st, .int .i64 so, .int .i64 dm, .int .i64 ep, .slice Ae V ce], .pointer (some ⟨b, 0, none⟩), .slice Aa V ca] w fun e w' => (∃ v, e = .returned v) ∧ Hid (∃ vi, w'.heap[b]? = some (.cells #[a0, .slice Av V cv, .slice Ac V cc, vi, .int .i64 (sumS k V L vals), .int .i64 (mosS k V was vals chg)] 33 (0, 0)) ∧ KOwn w' w.heap.size vi (inbS k V L vals chg) ∧ w.grownBy w' (some b)) := by
  have mixed := mixedI
  have HE := Lib.hid hE; have HSB := Lib.hid hb; have HVA := Lib.hid hv; have HCA := Lib.hid hc; have HAA := Lib.hid ha
  have HVL := Lib.hid hvl; have HCL := Lib.hid hcl; have HAL := Lib.hid hal; have HVR := Lib.hid hvr; have HAR := Lib.hid har; have HFI := Lib.hid hfit
  clear hE hb hv hc ha hvl hcl hal hvr har hfit
  obtain ⟨W6, hW6⟩ : ∃ W6, W6 = (((((w.alloc (.cells #[.int .u8 k, .int .i64 st, .int .i64 so, .int .i64 dm, .int .i64 ep, .slice Ae V ce] 61)).alloc (.cells #[.pointer (some ⟨b, 0, none⟩)] 90)).alloc (.cells #[.slice Aa V ca] 29)).alloc (.cells #[.slice none 0 0] 93)).alloc (.cells #[.slice none 0 0] 94)).alloc (.cells #[.int .i64 0, .int .i64 0] 120) := ⟨_, rfl⟩
  obtain ⟨n0, e0⟩ : ∃ n0, n0 = w.heap.size := ⟨_, rfl⟩
  have HH6 : Hid (TlH w W6 n0 b k st so dm ep (.slice Ae V ce) Aa V ca L was vals chg [] [] [] (.slice none 0 0) (.slice none 0 0) (.slice none 0 0) (.slice none 0 0)) := Lib.hid (by rw [hW6, e0]; exact TlH.made ..)
  have hs6 : W6.heap.size = n0 + 6 := by rw [hW6, e0]; simp
  have HS6 := Lib.hid hs6
  have HN0 : Hid (w.heap.size ≤ n0) := Lib.hid (by omega)
  have HN06 : Hid (w.heap.size ≤ n0 + 6) := Lib.hid (by omega)
  have f57 : Fence.wide.fn 57 := trivial
  refine (callsIn_wide (n := 6)).1 (callsIn_of_wp_marks Tryz.func57 rfl f57 ?_ rfl)
  refine (wpIn_wide (n := 6)).2 ?_
  simp only [Tryz.ntmps57, List.size_toArray, List.length_cons, List.length_nil, Nat.reduceAdd, Nat.reduceSub, Array.replicate_succ, Array.replicate_zero, List.push_toArray, List.append_toArray, List.nil_append, List.cons_append]
  go_upto_region 4 with fail
  rw [← hW6, show w.heap.size = n0 from e0.symm]
  clear hW6 hs6 e0
  obtain ⟨c0, c1, c2, c3, c4, c5, cl⟩ := six HH6.out.cb
  go_wp2_with fail
  refine (vertices_any k st so dm ep Ae V ce W6).mono ?_
  rintro e W7 ⟨rfl, hW7⟩
  have hb7 : Below W6.heap.size W6 W7 := by rw [hW7]; exact (Below.refl _ W6).alloc (Nat.le_refl _) _
  have HH7 := Lib.hid (HH6.out.step hb7)
  have HI7 : Hid (ItV W7 W6.heap.size be k st so dm ep (.slice Ae V ce) (egs V L)) := Lib.hid ⟨by rw [hW7]; exact heap_alloc_new W6 _, (HE.out.below HH6.out.below).below hb7⟩
  obtain ⟨bv, ebv⟩ : ∃ bv, bv = W6.heap.size := ⟨_, rfl⟩
  rw [← ebv] at HI7 ⊢
  have HS7 : Hid (n0 + 6 ≤ W7.heap.size) := Lib.hid (by rw [← HS6.out]; exact hb7.size)
  clear hW7 hb7 HH6 c0 c1 c2 c3 c4 c5 cl ebv HS6
  go_wp2_with fail
  refine (wpIn_wide (n := 6)).1 ?_
  refine Pt.wp_told (n := 6) (R' := fun (x : Vx) a' W => RV (egs V L) x W ∧ ∃ b10 : Nat, a' = Act.mk #[.agg #[.int .u8 k, .int .i64 st, .int .i64 so, .int .i64 dm, .int .i64 ep, .slice Ae V ce], .pointer (some ⟨b, 0, none⟩), .slice Aa V ca, .pointer (some ⟨n0, 0, none⟩), .pointer (some ⟨n0 + 1, 0, none⟩), .pointer (some ⟨n0 + 1 + 1, 0, none⟩), .pointer (some ⟨n0 + 1 + 1 + 1, 0, none⟩), .pointer (some ⟨n0 + 1 + 1 + 1 + 1, 0, none⟩), .pointer (some ⟨n0 + 1 + 1 + 1 + 1 + 1, 0, none⟩), .int .i64 (x.v : Int), .pointer (some ⟨b10, 0, none⟩), undef, undef, .agg #[.int .u8 k, .int .i64 st, .int .i64 so, .int .i64 dm, .int .i64 ep, .slice Ae V ce], .func (.func 79) #[] #[.pointer (some ⟨bv, 0, none⟩)], .int .i64 (x.v : Int), .agg #[x.o, x.b], undef, undef, undef, undef, undef, undef, undef, undef, undef, undef, undef, undef, undef, undef, undef, undef, undef, undef, undef, undef, undef, undef, undef, undef, undef, undef, undef, undef, undef, undef, undef, undef, undef, undef, undef, undef, undef, undef, undef, undef, undef, undef, undef, undef, undef, undef, undef, undef, undef, undef, undef, undef, undef, undef, undef, undef, undef, undef, undef, undef, undef, undef, undef, undef] [] ∧ W.heap[b10]? = some (.cells #[x.o, x.b] 85 (0, 0))) rfl (by omega) (gf := 79) (lb := #[.pointer (some ⟨bv, 0, none⟩)]) rfl trivial (enters_of Tryz.func79 (by kernel_rfl) rfl)
    (vert_told 5 (by omega) bv be k st so dm ep (.slice Ae V ce) (egs V L) V W7 HI7.out (egs_len V L) (by omega)) Kq.trans Kq.obj (Below.refl _ _) (fun _ => rfl)
    ?hRk
    (fun pre W => ∃ va vs, TlH w W n0 b k st so dm ep (.slice Ae V ce) Aa V ca L was vals chg (pre.map Vx.v) (pre.map Vx.v) (pre.map Vx.v) va va vs vs)
    (fun _ _ _ => False)
    (fun s A B row hs hg hr => by obtain ⟨va, vs, h⟩ := hs; exact ⟨va, vs, h.kept hg (fun r e => (hr r e).2) (fun r e => Nat.le_trans HH7.out.below.size (hr r e).1)⟩)
    (fun cd s A B row hs hg hr => hs)
    ⟨_, _, HH7.out⟩ ?assign ?body ?done ?stop
  case hRk =>
    rintro x a' W lp o o' h ho ⟨⟨L', B', g1, g4, g5⟩, b10, h2, h3⟩
    have hk : Kq W (W.putObj lp o') := fun i c T fz _ hi => World.putObj_heap_other (fun e => by subst e; rw [h] at hi; injection hi with hi; subst hi; cases ho)
    exact ⟨⟨L', B', g1, own_kq g4 (.inr (.inr rfl)) hk, own_kq g5 (.inr (.inr rfl)) hk⟩, b10, h2, (hk _ _ _ _ (.inr (.inl rfl)) h3).trans h3⟩
  case assign =>
    intro lp pre x W K hI hR hK
    obtain ⟨va, vs, hT⟩ := hI
    obtain ⟨xv, xo, xb⟩ := x
    obtain ⟨L', B', g1, g4, g5⟩ := hR
    try simp only at g4 g5
    obtain ⟨A1, c1, rfl, _⟩ := g4.form
    obtain ⟨A2, c2, rfl, _⟩ := g5.form
    have hb := (Below.refl _ W).alloc (Nat.le_refl _) (.cells #[.slice A1 L'.1.length c1, .slice A2 L'.2.length c2] 85)
    have HH := Lib.hid (hK _ _ (keeps_below hb) (Kq.below hb) ⟨va, vs, hT.step hb⟩ ⟨⟨L', B', g1, g4.below hb, g5.below hb⟩, W.heap.size, rfl, heap_alloc_new W _⟩)
    dsimp only [encsV]
    clear hK hb g4 g5 hT
    gi_wp2
    exact HH.out
  case body =>
    rintro lp pre x a' W ⟨va, vs, hT⟩ ⟨⟨L', B', g1, g4, g5⟩, b10, rfl, hb10⟩ hlen
    obtain ⟨ns, hns⟩ : ∃ ns, pre.map Vx.v = ns := ⟨_, rfl⟩
    rw [hns] at hT
    have hnl : ns.length = pre.length := by rw [← hns, List.length_map]
    have HNS := Lib.hid hns
    clear hns
    have hxl : x.v < V := by have := lt_at g1; rwa [egs_len] at this
    rw [egs_at hxl] at g1
    obtain rfl := Option.some.inj g1
    try simp only at g4 g5
    obtain ⟨xv, xo, xb⟩ := x
    try simp only at hxl hb10 g4 g5 ⊢
    obtain ⟨A1, c1, rfl, _⟩ := g4.form
    obtain ⟨A2, c2, rfl, _⟩ := g5.form
    obtain ⟨n1, hn1⟩ : ∃ n1, n1 = (outE L (xv : Int)).length := ⟨_, rfl⟩
    obtain ⟨n2, hn2⟩ : ∃ n2, n2 = (bckE L (xv : Int)).length := ⟨_, rfl⟩
    rw [← hn1] at g4; rw [← hn2] at g5
    rw [← hn1, ← hn2] at hb10 ⊢
    have HN1 := Lib.hid hn1; have HN2 := Lib.hid hn2; have HX0 : Hid (RX W b10 B' L xv A1 A2 n1 n2 c1 c2) := Lib.hid ⟨hb10, g4, g5⟩; have HT := Lib.hid hT
    clear hn1 hn2 g1 g4 g5 hb10 hT
    -- region 7: the vertex's value and mark
    obtain ⟨y, hy⟩ := at_lt vals xv (by rw [HVL.out]; exact hxl)
    obtain ⟨ch, hch⟩ := at_lt chg xv (by rw [HCL.out]; exact hxl)
    obtain ⟨z, hz⟩ := at_lt was xv (by rw [HAL.out]; exact hxl)
    obtain ⟨kv, ov, rfl, v0⟩ := (HVA.out.below HT.out.below) xv y hy
    obtain ⟨kc, oc, rfl, u0⟩ := (HCA.out.below HT.out.below) xv ch hch
    obtain ⟨ka, oa, rfl, _⟩ := HAA.out xv z hz
    have HY := Lib.hid hy; have HCH := Lib.hid hch; have HZ := Lib.hid hz
    clear hy hch hz
    have hbx := keep HSB.out HT.out.below
    obtain ⟨_, s1, s2, _, _, _, sl⟩ := six hbx
    have p0 : W.cell? ⟨n0 + 1, 0, none⟩ = some (.pointer (some ⟨b, 0, none⟩)) := by rw [Lib.cell_of_heap HT.out.pb]; rfl
    have q0 := cell_regrown p0; have q1 := cell_regrown s1; have q2 := cell_regrown s2; have q3 := cell_regrown v0; have q4 := cell_regrown u0
    try dsimp only
    clear p0 s1 s2 v0 u0
    gi_wp2
    rename_i K8 hK8
    refine Tl.region_quiet_round mixed (by rfl) ?hq7 (by kernel_rfl) ?_
    case hq7 => rintro ⟨_, _, h⟩; exact h
    repeat (go_big_quiet_step (fail))
    refine wpQuiet_nil ?_
    intro W8 hw8
    have hb8 : Below W.heap.size W W8 := by obtain ⟨⟨dq, osq⟩, rfl⟩ := hw8; exact below_regrown W dq osq
    have HT8 := Lib.hid (HT.out.step hb8)
    have HK8 := Lib.hid (KK.below hb8)
    have HX8 := Lib.hid (HX0.out.below hb8)
    have HB8 := Lib.hid hb8
    clear hb8 hw8 q0 q1 q2 q3 q4 hbx sl
    -- region 8: the vertex behind all
    refine hK8 _ _ ?_
    clear hK8
    refine wpIn_seq_k fun K9 hK9 => ?_
    refine Tl.region_round (by rfl) ?hq8 ?_
    case hq8 => rintro ⟨_, _, h⟩; exact h
    obtain ⟨Aal, cal, rfl, _⟩ := HT8.out.ao.form
    obtain ⟨m8, hm8⟩ : ∃ m8, m8 = (ns.map fun (v : Nat) => (v : Int)).length := ⟨_, rfl⟩
    rw [← hm8] at HT8
    have hm8' : m8 = pre.length := by rw [hm8, List.length_map, hnl]
    have HL8 : Hid ((ns.map fun (v : Nat) => (v : Int)).length < 1000000000) := Lib.hid (by rw [← hm8, hm8']; omega)
    clear hm8 hm8'
    have a08 : W8.cell? ⟨n0 + 1 + 1 + 1, 0, none⟩ = some (.slice Aal m8 cal) := by rw [Lib.cell_of_heap HT8.out.ab]; rfl
    have hb9 : Below W8.heap.size W8 (W8.alloc (.cells #[.int .i64 (xv : Int)] 3)) := (Below.refl _ W8).alloc (Nat.le_refl _) _
    have HT9 := Lib.hid (HT8.out.step hb9)
    have HA9 := Lib.hid HT9.out.ao
    have HN9 : Hid ((W8.alloc (.cells #[.int .i64 (xv : Int)] 3)).heap[W8.heap.size]? = some (.cells #[.int .i64 (xv : Int)] 3 (0, 0))) := Lib.hid (heap_alloc_new W8 _)
    have HZ9 : Hid (n0 + 6 ≤ (W8.alloc (.cells #[.int .i64 (xv : Int)] 3)).heap.size) := Lib.hid (lt_of_block HT9.out.tb)
    have HK9 := Lib.hid (HK8.out.trans (KK.below hb9))
    clear hb9
    go_wp2_with (at_builtin; refine app_i rfl (.tmp 31) (.tmp 33) rfl (n0 + 6) _ _ _ rfl HA9.out _ rfl HN9.out HL8.out HZ9.out ?_)
    intro v10 w10 ho10 hg10
    have HK10 := Lib.hid (HK9.out.trans (KK.grown HA9.out hg10 (by decide) (by decide) (by decide)))
    have HT10 := Lib.hid (HT9.out.grownA hg10 HN06.out ho10 rfl)
    obtain ⟨A10, c10, rfl, _⟩ := ho10.form
    rw [show (ns.map (fun (v : Nat) => (v : Int)) ++ [(xv : Int)]).length = pre.length + 1 by simp [hnl]] at HT10 ⊢
    have HX9 := Lib.hid (HX8.out.below (show Below W8.heap.size W8 (W8.alloc (.cells #[.int .i64 (xv : Int)] 3)) from (Below.refl _ W8).alloc (Nat.le_refl _) _))
    have HX10 := Lib.hid (HX9.out.grown HA9.out hg10 (by decide) (by decide))
    have HT11 := Lib.hid (HT10.out.putA HN0.out)
    have HK11 := Lib.hid (HK10.out.trans (KK.set (i := 0) HT10.out.ab (.slice A10 (pre.length + 1) c10) (by decide) (by decide) (by decide)))
    have HX11 := Lib.hid (HX10.out.set (i := 0) HT10.out.ab (.slice A10 (pre.length + 1) c10) (by decide) (by decide))
    have fr10 := warm HT10.out.ab 0
    have a010 : w10.cell? ⟨n0 + 1 + 1 + 1, 0, none⟩ = some (.slice Aal m8 cal) := by rw [Lib.cell_of_heap HT10.out.ab]; rfl
    obtain ⟨W11, hW11⟩ : ∃ W11, W11 = w10.setCell ⟨n0 + 1 + 1 + 1, 0, none⟩ (.slice A10 (pre.length + 1) c10) := ⟨_, rfl⟩
    rw [← hW11] at HT11 HK11 HX11
    clear ho10 hg10 HA9 HT9 HN9 HL8 HZ9 HK9 HT8 HX8 HX9 HK8 HB8 a08 HX10 HK10
    go_wp2
    rw [← hW11]
    clear hW11 a010 fr10 HT10
    -- region 9: what it sends, behind what was sent
    obtain ⟨As, cs, rfl, _⟩ := HT11.out.so.form
    obtain ⟨ms, hms⟩ : ∃ ms, ms = (ns.map (rowF k L vals chg)).length := ⟨_, rfl⟩
    rw [← hms] at HT11
    have HL9 : Hid ((ns.map (rowF k L vals chg)).length < 1000000000) := Lib.hid (by rw [List.length_map, hnl]; omega)
    clear hms
    have hSW : ∀ W' : World, TlH w W' n0 b k st so dm ep (.slice Ae V ce) (some ⟨ka, oa, none⟩) V ca L was vals chg (ns ++ [xv]) ns ns (.slice A10 (pre.length + 1) c10) (.slice A10 (pre.length + 1) c10) (.slice As ms cs) (.slice As ms cs) → RX W' b10 B' L xv A1 A2 n1 n2 c1 c2 → (fun w' : World => w'.cell? ⟨n0 + 1 + 1 + 1 + 1, 0, none⟩ = some (.slice As ms cs) ∧ w'.cell? ⟨n0, 0, none⟩ = some (.int .u8 k) ∧ w'.cell? ⟨n0, 1, none⟩ = some (.int .i64 st) ∧ w'.cell? ⟨n0, 2, none⟩ = some (.int .i64 so) ∧ w'.cell? ⟨n0, 3, none⟩ = some (.int .i64 dm) ∧ w'.cell? ⟨n0, 4, none⟩ = some (.int .i64 ep) ∧ w'.cell? ⟨b10, 0, none⟩ = some (.slice A1 n1 c1) ∧ w'.cell? ⟨b10, 1, none⟩ = some (.slice A2 n2 c2)) W' := fun W' h1 h2 => by
      obtain ⟨c0, c1, c2, c3, c4, _, _⟩ := six h1.cb
      obtain ⟨d0, d1, _⟩ := two h2.box
      exact ⟨by rw [Lib.cell_of_heap h1.sb]; rfl, c0, c1, c2, c3, c4, d0, d1⟩
    have HSW := Lib.hid hSW
    clear hSW
    have hd11 : Below W11.heap.size W11 W11.drew := (Below.refl _ W11).drew
    have HT12 := Lib.hid (HT11.out.step hd11)
    have HX12 := Lib.hid (HX11.out.below hd11)
    have HK12 := Lib.hid (HK11.out.trans (KK.below hd11))
    have hS := HSW.out _ HT12.out HX12.out
    have HSD : Hid (∀ W : World, RX W b10 B' L xv A1 A2 n1 n2 c1 c2 → Calls Tryz.prog 80 #[.agg #[.int .u8 k, .int .i64 st, .int .i64 so, .int .i64 dm, .int .i64 ep], .int .i64 (xv : Int), .int .i64 y, .bool ch, .slice A1 n1 c1, .slice A2 n2 c2] W fun e w' => ∃ r, e = .returned r ∧ Hid (MOwn w' W.heap.size r (rowF k L vals chg xv) ∧ Below W.heap.size W w')) := Lib.hid (fun W hW => by
      have hyr := HVR.out y (List.mem_of_getElem? HY.out)
      obtain ⟨A1', c1', e1, h1, _⟩ := hW.o.form
      obtain ⟨A2', c2', e2, h2, _⟩ := hW.k.form
      cases e1; cases e2
      have h := send_any k st so dm ep (xv : Int) y ch A1 A2 c1 c2 (outE L (xv : Int)) (bckE L (xv : Int)) W h1 h2 (Nat.le_trans (List.length_filter_le _ _) hL) (Nat.le_trans (List.length_filter_le _ _) hL) (by have := hyr.1; omega) (by have := hyr.2; omega)
      refine h.mono ?_
      rintro e w' ⟨r, rfl, h3, h4⟩
      refine ⟨r, rfl, Lib.hid ⟨?_, h4.out⟩⟩
      unfold rowF
      rw [vl_of HY.out, bt_of HCH.out]
      exact h3.out)
    clear hd11 HT11 HX11 HK11
    refine wpIn_seq_k fun K10 hK10 => ?_
    refine Tl.headX_round (S := (fun w' : World => w'.cell? ⟨n0 + 1 + 1 + 1 + 1, 0, none⟩ = some (.slice As ms cs) ∧ w'.cell? ⟨n0, 0, none⟩ = some (.int .u8 k) ∧ w'.cell? ⟨n0, 1, none⟩ = some (.int .i64 st) ∧ w'.cell? ⟨n0, 2, none⟩ = some (.int .i64 so) ∧ w'.cell? ⟨n0, 3, none⟩ = some (.int .i64 dm) ∧ w'.cell? ⟨n0, 4, none⟩ = some (.int .i64 ep) ∧ w'.cell? ⟨b10, 0, none⟩ = some (.slice A1 n1 c1) ∧ w'.cell? ⟨b10, 1, none⟩ = some (.slice A2 n2 c2))) 12 mixed (by rfl) ?hq9 (by decide) ?_
    case hq9 => rintro ⟨_, _, h⟩; exact h
    try dsimp only
    refine Tl.headX_tk 0 ?v0_1 rfl (by kernel_rfl) (by decide) (by kernel_rfl) (by kernel_rfl) (by kernel_rfl) (fun _ _ _ h => h) (by rfl) (fun W hSw => ?hy0_1) hS ?_
    case hy0_1 => ((try dsimp only at hSw); go_simp; try with_reducible rfl)
    simp only [Act.put, List.setIfInBounds_toArray, List.set_cons_zero, List.set_cons_succ]
    refine Tl.headX_tk 1 ?v1_2 rfl (by kernel_rfl) (by decide) (by kernel_rfl) (by kernel_rfl) (by kernel_rfl) (fun _ _ _ h => h) (by rfl) (fun W hSw => ?hy1_2) hS ?_
    case hy1_2 => ((try dsimp only at hSw); go_simp; try with_reducible rfl)
    simp only [Act.put, List.setIfInBounds_toArray, List.set_cons_zero, List.set_cons_succ]
    refine Tl.headX_tk 2 ?v2_3 rfl (by kernel_rfl) (by decide) (by kernel_rfl) (by kernel_rfl) (by kernel_rfl) (fun _ _ _ h => h) (by rfl) (fun W hSw => ?hy2_3) hS ?_
    case hy2_3 => ((try dsimp only at hSw); go_simp; try with_reducible rfl)
    simp only [Act.put, List.setIfInBounds_toArray, List.set_cons_zero, List.set_cons_succ]
    refine Tl.headX_tk 3 ?v3_4 rfl (by kernel_rfl) (by decide) (by kernel_rfl) (by kernel_rfl) (by kernel_rfl) (fun _ _ _ h => h) (by rfl) (fun W hSw => ?hy3_4) hS ?_
    case hy3_4 => ((try dsimp only at hSw); go_simp; try with_reducible rfl)
    simp only [Act.put, List.setIfInBounds_toArray, List.set_cons_zero, List.set_cons_succ]
    refine Tl.headX_tk 4 ?v4_5 rfl (by kernel_rfl) (by decide) (by kernel_rfl) (by kernel_rfl) (by kernel_rfl) (fun _ _ _ h => h) (by rfl) (fun W hSw => ?hy4_5) hS ?_
    case hy4_5 => ((try dsimp only at hSw); go_simp; try with_reducible rfl)
    simp only [Act.put, List.setIfInBounds_toArray, List.set_cons_zero, List.set_cons_succ]
    refine Tl.headX_tk 5 ?v5_6 rfl (by kernel_rfl) (by decide) (by kernel_rfl) (by kernel_rfl) (by kernel_rfl) (fun _ _ _ h => h) (by rfl) (fun W hSw => ?hy5_6) hS ?_
    case hy5_6 => ((try dsimp only at hSw); go_simp; try with_reducible rfl)
    simp only [Act.put, List.setIfInBounds_toArray, List.set_cons_zero, List.set_cons_succ]
    refine Tl.headX_tk 6 ?v6_7 rfl (by kernel_rfl) (by decide) (by kernel_rfl) (by kernel_rfl) (by kernel_rfl) (fun _ _ _ h => h) (by rfl) (fun W hSw => ?hy6_7) hS ?_
    case hy6_7 => ((try dsimp only at hSw); go_simp; try with_reducible rfl)
    simp only [Act.put, List.setIfInBounds_toArray, List.set_cons_zero, List.set_cons_succ]
    refine Tl.headX_tk 7 ?v7_8 rfl (by kernel_rfl) (by decide) (by kernel_rfl) (by kernel_rfl) (by kernel_rfl) (fun _ _ _ h => h) (by rfl) (fun W hSw => ?hy7_8) hS ?_
    case hy7_8 => ((try dsimp only at hSw); go_simp; try with_reducible rfl)
    simp only [Act.put, List.setIfInBounds_toArray, List.set_cons_zero, List.set_cons_succ]
    refine Tl.headX_tk 8 ?v8_9 rfl (by kernel_rfl) (by decide) (by kernel_rfl) (by kernel_rfl) (by kernel_rfl) (fun _ _ _ h => h) (by rfl) (fun W hSw => ?hy8_9) hS ?_
    case hy8_9 => ((try dsimp only at hSw); go_simp; try with_reducible rfl)
    simp only [Act.put, List.setIfInBounds_toArray, List.set_cons_zero, List.set_cons_succ]
    refine Tl.headX_tk 9 ?v9_10 rfl (by kernel_rfl) (by decide) (by kernel_rfl) (by kernel_rfl) (by kernel_rfl) (fun _ _ _ h => h) (by rfl) (fun W hSw => ?hy9_10) hS ?_
    case hy9_10 => ((try dsimp only at hSw); go_simp; try with_reducible rfl)
    simp only [Act.put, List.setIfInBounds_toArray, List.set_cons_zero, List.set_cons_succ]
    refine Tl.headX_cl 10 _ _ rfl (by decide) (by kernel_rfl) (by rfl) ?he10 (HSD.out W11.drew HX12.out) ?_
    case he10 => (go_simp; try with_reducible rfl)
    rintro r w13 hr
    have HR13 := Lib.hid hr.out.1
    have HT13 := Lib.hid (HT12.out.step hr.out.2)
    have HX13 := Lib.hid (HX12.out.below hr.out.2)
    have HK13 := Lib.hid (HK12.out.trans (KK.below hr.out.2))
    have HZ13 : Hid (n0 + 6 ≤ W11.drew.heap.size) := Lib.hid (lt_of_block HT12.out.tb)
    clear hr hS
    obtain ⟨Ar, cr, rfl, _⟩ := HR13.out.room
    obtain ⟨mr, hmr⟩ : ∃ mr, mr = (rowF k L vals chg xv).length := ⟨_, rfl⟩
    rw [← hmr] at HR13 ⊢
    clear hmr
    have hS := HSW.out _ HT13.out HX13.out
    refine ⟨hS, ?_⟩
    simp only [Act.put, List.setIfInBounds_toArray, List.set_cons_zero, List.set_cons_succ]
    have hb14 : Below w13.heap.size w13 (w13.alloc (.cells #[.slice Ar mr cr] 97)) := (Below.refl _ w13).alloc (Nat.le_refl _) _
    have HT14 := Lib.hid (HT13.out.step hb14)
    have HX14 := Lib.hid (HX13.out.below hb14)
    have HK14 := Lib.hid (HK13.out.trans (KK.below hb14))
    have HR14 : Hid (MOwn (w13.alloc (.cells #[.slice Ar mr cr] 97)) (n0 + 6) (.slice Ar mr cr) (rowF k L vals chg xv)) := Lib.hid (own_mono (own_below HR13.out hb14) HZ13.out)
    have HN14 : Hid ((w13.alloc (.cells #[.slice Ar mr cr] 97)).heap[w13.heap.size]? = some (.cells #[.slice Ar mr cr] 97 (0, 0))) := Lib.hid (heap_alloc_new w13 _)
    have HZ14 : Hid (n0 + 6 ≤ (w13.alloc (.cells #[.slice Ar mr cr] 97)).heap.size) := Lib.hid (lt_of_block HT14.out.tb)
    have HO14 := Lib.hid HT14.out.so
    refine Tl.headX_vl 11 ?v11_18 ?w11_18 rfl (by decide) (by kernel_rfl) (by rfl) ?hy11_18 ?hs11_18 ?_
    case hy11_18 => (go_simp; first | (constructor <;> with_reducible rfl) | with_reducible rfl)
    case hs11_18 => exact HSW.out _ HT14.out HX14.out
    simp only [Act.put, List.setIfInBounds_toArray, List.set_cons_zero, List.set_cons_succ]
    refine Tl.headX_rest (by kernel_rfl) ?_
    simp only [List.drop_succ_cons, List.drop_zero]
    clear hS HSD HT13 HX13 HK13 HR13 HT12 HX12 HK12 HZ13 hb14 HSW
    go_wp2_with (at_builtin; refine app_r rfl (.tmp 35) (.tmp 46) rfl (n0 + 6) _ _ _ _ rfl HO14.out _ rfl HN14.out HR14.out HL9.out HZ14.out ?_)
    intro v15 w15 ho15 hg15
    have hso := HO14.out
    obtain ⟨xs14, ho14, _⟩ := hso
    have HK15 := Lib.hid (HK14.out.trans (KK.grown ho14 hg15 (by decide) (by decide) (by decide)))
    have HX15 := Lib.hid (HX14.out.grown ho14 hg15 (by decide) (by decide))
    have HT15 := Lib.hid (HT14.out.grownS hg15 HN06.out ho15)
    obtain ⟨A15, c15, rfl, _⟩ := ho15.form
    rw [show (ns.map (rowF k L vals chg) ++ [rowF k L vals chg xv]).length = pre.length + 1 by simp [hnl]] at HT15 ⊢
    have HT16 := Lib.hid (HT15.out.putS HN0.out)
    have HK16 := Lib.hid (HK15.out.trans (KK.set (i := 0) HT15.out.sb (.slice A15 (pre.length + 1) c15) (by decide) (by decide) (by decide)))
    have HX16 := Lib.hid (HX15.out.set (i := 0) HT15.out.sb (.slice A15 (pre.length + 1) c15) (by decide) (by decide))
    have fr15 := warm HT15.out.sb 0
    have a015 : w15.cell? ⟨n0 + 1 + 1 + 1 + 1, 0, none⟩ = some (.slice As ms cs) := by rw [Lib.cell_of_heap HT15.out.sb]; rfl
    obtain ⟨W16, hW16⟩ : ∃ W16, W16 = w15.setCell ⟨n0 + 1 + 1 + 1 + 1, 0, none⟩ (.slice A15 (pre.length + 1) c15) := ⟨_, rfl⟩
    rw [← hW16] at HT16 HK16 HX16
    clear hg15 ho15 ho14 HO14 HT14 HX14 HK14 HR14 HN14 HZ14 HL9 HK15 HX15
    go_wp2
    rw [← hW16]
    clear hW16 a015 fr15 HT15
    -- region 10: its part of the total
    obtain ⟨c0, c1', c2', c3, c4, _, _⟩ := six HT16.out.cb
    obtain ⟨t0, t1, _⟩ := two HT16.out.tb
    obtain ⟨d0, d1, _⟩ := two HX16.out.box
    have h0 : W16.cell? ⟨n0 + 1 + 1, 0, none⟩ = some (.slice (some ⟨ka, oa, none⟩) V ca) := by rw [Lib.cell_of_heap HT16.out.hb]; rfl
    obtain ⟨_, _, e0, z0⟩ := (HAA.out.below HT16.out.below) xv z HZ.out
    cases e0
    have hyr := HVR.out y (List.mem_of_getElem? HY.out)
    have hzr := HAR.out z (List.mem_of_getElem? HZ.out)
    obtain ⟨s1, hs1⟩ : ∃ s1, s1 = sumF k L vals (ns ++ [xv]) := ⟨_, rfl⟩
    obtain ⟨m1, hm1⟩ : ∃ m1, m1 = mosF k was vals chg (ns ++ [xv]) := ⟨_, rfl⟩
    obtain ⟨s0, hs0⟩ : ∃ s0, s0 = sumF k L vals ns := ⟨_, rfl⟩
    obtain ⟨m0, hm0⟩ : ∃ m0, m0 = mosF k was vals chg ns := ⟨_, rfl⟩
    obtain ⟨p1, hp1⟩ : ∃ p1, p1 = prtS k y n1 := ⟨_, rfl⟩
    obtain ⟨p2, hp2⟩ : ∃ p2, p2 = prtM k z y ch := ⟨_, rfl⟩
    have es : jonS k s0 p1 = s1 := by rw [hs1, sumF_next, hs0, hp1, vl_of HY.out, HN1.out]
    have em : jonM k m0 p2 = m1 := by rw [hm1, mosF_next, hm0, hp2, vl_of HY.out, vl_of HZ.out, bt_of HCH.out]
    rw [← hs0] at t0
    rw [← hm0] at t1
    have HS1 := Lib.hid hs1; have HM1 := Lib.hid hm1; have HS0 := Lib.hid hs0; have HM0 := Lib.hid hm0
    have C1 := Lib.hid (regr fun W (_ : Below W16.heap.size W16 W) => part_any k st so dm ep z y ch A1 n1 c1 (by have := hzr.1; omega) (by have := hzr.2; omega) (by have := hyr.1; omega) (by have := hyr.2; omega) W)
    have C2 := Lib.hid (regr fun W (_ : Below W16.heap.size W16 W) => join_any k st so dm ep s0 m0 p1 p2 W)
    rw [← hp1, ← hp2] at C1
    rw [es, em] at C2
    clear hs1 hm1 hs0 hm0 hp1 hp2 es em hyr hzr
    have y0 := cell_regrown c0; have y1 := cell_regrown c1'; have y2 := cell_regrown c2'; have y3 := cell_regrown c3; have y4 := cell_regrown c4
    have y5 := cell_regrown t0; have y6 := cell_regrown t1; have y7 := cell_regrown d0; have y8 := cell_regrown h0; have y9 := cell_regrown z0
    clear c0 c1' c2' c3 c4 t0 t1 d0 d1 h0 z0
    gi_wp2
    refine Tl.region_tail_round 15 mixed (by rfl) ?hq10 (by kernel_rfl) ?_
    case hq10 => rintro ⟨_, _, h⟩; exact h
    simp only [List.take_succ_cons, List.take_zero, List.drop_succ_cons, List.drop_zero]
    repeat (go_big_quiet_step ((with_reducible first | exact C1.out _ _ | exact C2.out _ _)))
    refine wpQuiet_nil ?_
    intro W17 hw17
    have hb17 : Below W16.heap.size W16 W17 := by obtain ⟨⟨dq, osq⟩, rfl⟩ := hw17; exact below_regrown W16 dq osq
    have HT17 := Lib.hid (HT16.out.step hb17)
    have HK17 := Lib.hid (HK16.out.trans (KK.below hb17))
    have HTP := Lib.hid (HT17.out.putT HN0.out xv)
    have HTB := Lib.hid HT17.out.tb
    rw [← HS1.out, ← HM1.out] at HTP
    rw [← HS0.out, ← HM0.out] at HTB
    have HKP := Lib.hid (HK17.out.trans ((KK.set (i := 0) HT17.out.tb (.int .i64 s1) (by decide) (by decide) (by decide)).trans (KK.set (i := 1) (set_heap (i := 0) HT17.out.tb (.int .i64 s1)) (.int .i64 m1) (by decide) (by decide) (by decide))))
    have f0 := warm HTB.out 0; have f1 := warm HTB.out 1
    obtain ⟨t0, t1, _⟩ := two HTB.out
    clear hb17 hw17 y0 y1 y2 y3 y4 y5 y6 y7 y8 y9 C1 C2 HT16 HK16 HX16
    go_wp2
    have en : ns ++ [xv] = (pre ++ [(⟨xv, .slice A1 n1 c1, .slice A2 n2 c2⟩ : Vx)]).map Vx.v := by rw [List.map_append, HNS.out]; rfl
    rw [en] at HTP
    exact ⟨HKP.out.1, HKP.out.2, _, _, HTP.out⟩
  case done =>
    rintro D xs W hD hxs ⟨va, vs, hT⟩ hK
    rw [hxs] at hT
    have HT := Lib.hid hT; have HD := Lib.hid hD; have HDK := Lib.hid hK
    clear hT hD hK hxs
    obtain ⟨Aal, cal, rfl, hal⟩ := HT.out.ao.form
    obtain ⟨As, cs, rfl, hrm⟩ := HT.out.so.form
    rw [List.length_map, List.length_range] at HT
    rw [List.length_map, List.length_range] at HT
    have HIA := Lib.hid hal; have HRM := Lib.hid hrm
    clear hal hrm
    have hbx := keep HSB.out HT.out.below
    have HBX := Lib.hid hbx
    have HNB : Hid (b < n0) := Lib.hid (by have := lt_of_block HSB.out; have := HN0.out; omega)
    clear hbx
    go_wp2
    have SS : ∀ W' : World, TlH w W' n0 b k st so dm ep (.slice Ae V ce) Aa V ca L was vals chg (List.range V) (List.range V) (List.range V) (.slice Aal V cal) (.slice Aal V cal) (.slice As V cs) (.slice As V cs) → (fun w' : World => w'.cell? ⟨n0 + 1, 0, none⟩ = some (.pointer (some ⟨b, 0, none⟩)) ∧ w'.cell? ⟨n0, 0, none⟩ = some (.int .u8 k) ∧ w'.cell? ⟨n0, 1, none⟩ = some (.int .i64 st) ∧ w'.cell? ⟨n0, 2, none⟩ = some (.int .i64 so) ∧ w'.cell? ⟨n0, 3, none⟩ = some (.int .i64 dm) ∧ w'.cell? ⟨n0, 4, none⟩ = some (.int .i64 ep) ∧ w'.cell? ⟨n0 + 1 + 1 + 1, 0, none⟩ = some (.slice Aal V cal) ∧ w'.cell? ⟨n0 + 1 + 1 + 1 + 1, 0, none⟩ = some (.slice As V cs)) W' := fun W' h1 => by
      obtain ⟨c0, c1, c2, c3, c4, _, _⟩ := six h1.cb
      exact ⟨by rw [Lib.cell_of_heap h1.pb]; rfl, c0, c1, c2, c3, c4, by rw [Lib.cell_of_heap h1.ab]; rfl, by rw [Lib.cell_of_heap h1.sb]; rfl⟩
    have HSS := Lib.hid SS
    clear SS
    have hd : Below W.heap.size W W.drew := (Below.refl _ W).drew
    have HTd := Lib.hid (HT.out.step hd)
    have HMG : Hid (Calls Tryz.prog 83 #[.agg #[.int .u8 k, .int .i64 st, .int .i64 so, .int .i64 dm, .int .i64 ep], .slice Aal V cal, .slice As V cs] W.drew fun e w' => ∃ r, e = .returned r ∧ Hid (KOwn w' W.drew.heap.size r (inbS k V L vals chg) ∧ Below W.drew.heap.size W.drew w')) := Lib.hid (by
      have h := merge_any k st so dm ep Aal As V cal V cs ((List.range V).map fun (v : Nat) => (v : Int)) (rowsS k V L vals chg) W.drew (HIA.out.below hd) (by simp) (fun i M hi => (HRM.out.below hd) i M hi) (by simp [rowsS]) (rows_toin HFI.out (by omega)) (own_in V (by omega)) (by omega) (by omega) (rows_few k V L vals chg hV hL)
      refine h.mono ?_
      rintro e w' ⟨v, rfl, h1, h2⟩
      exact ⟨v, rfl, Lib.hid ⟨h1.out, h2.out⟩⟩)
    have hS := HSS.out _ HTd.out
    refine wp_region_noPanic ?_
    refine Tl.headX_region (S := fun w' : World => w'.cell? ⟨n0 + 1, 0, none⟩ = some (.pointer (some ⟨b, 0, none⟩)) ∧ w'.cell? ⟨n0, 0, none⟩ = some (.int .u8 k) ∧ w'.cell? ⟨n0, 1, none⟩ = some (.int .i64 st) ∧ w'.cell? ⟨n0, 2, none⟩ = some (.int .i64 so) ∧ w'.cell? ⟨n0, 3, none⟩ = some (.int .i64 dm) ∧ w'.cell? ⟨n0, 4, none⟩ = some (.int .i64 ep) ∧ w'.cell? ⟨n0 + 1 + 1 + 1, 0, none⟩ = some (.slice Aal V cal) ∧ w'.cell? ⟨n0 + 1 + 1 + 1 + 1, 0, none⟩ = some (.slice As V cs)) 8 (by kernel_rfl) (by decide) ?_
    try dsimp only
    refine Tl.headX_tk 0 ?v0_11 rfl (by kernel_rfl) (by decide) (by kernel_rfl) (by kernel_rfl) (by kernel_rfl) (fun _ _ _ h => h) (by rfl) (fun W hSw => ?hy0_11) hS ?_
    case hy0_11 => ((try dsimp only at hSw); go_simp; try with_reducible rfl)
    simp only [Act.put, List.setIfInBounds_toArray, List.set_cons_zero, List.set_cons_succ]
    refine Tl.headX_tk 1 ?v1_12 rfl (by kernel_rfl) (by decide) (by kernel_rfl) (by kernel_rfl) (by kernel_rfl) (fun _ _ _ h => h) (by rfl) (fun W hSw => ?hy1_12) hS ?_
    case hy1_12 => ((try dsimp only at hSw); go_simp; try with_reducible rfl)
    simp only [Act.put, List.setIfInBounds_toArray, List.set_cons_zero, List.set_cons_succ]
    refine Tl.headX_tk 2 ?v2_13 rfl (by kernel_rfl) (by decide) (by kernel_rfl) (by kernel_rfl) (by kernel_rfl) (fun _ _ _ h => h) (by rfl) (fun W hSw => ?hy2_13) hS ?_
    case hy2_13 => ((try dsimp only at hSw); go_simp; try with_reducible rfl)
    simp only [Act.put, List.setIfInBounds_toArray, List.set_cons_zero, List.set_cons_succ]
    refine Tl.headX_tk 3 ?v3_14 rfl (by kernel_rfl) (by decide) (by kernel_rfl) (by kernel_rfl) (by kernel_rfl) (fun _ _ _ h => h) (by rfl) (fun W hSw => ?hy3_14) hS ?_
    case hy3_14 => ((try dsimp only at hSw); go_simp; try with_reducible rfl)
    simp only [Act.put, List.setIfInBounds_toArray, List.set_cons_zero, List.set_cons_succ]
    refine Tl.headX_tk 4 ?v4_15 rfl (by kernel_rfl) (by decide) (by kernel_rfl) (by kernel_rfl) (by kernel_rfl) (fun _ _ _ h => h) (by rfl) (fun W hSw => ?hy4_15) hS ?_
    case hy4_15 => ((try dsimp only at hSw); go_simp; try with_reducible rfl)
    simp only [Act.put, List.setIfInBounds_toArray, List.set_cons_zero, List.set_cons_succ]
    refine Tl.headX_cl 5 _ _ rfl (by decide) (by kernel_rfl) (by rfl) ?he5 HMG.out ?_
    case he5 => (go_simp; try with_reducible rfl)
    rintro r w3 hr
    have HR3 := Lib.hid hr.out.1
    have HT3 := Lib.hid (HTd.out.step hr.out.2)
    have HBX3 := Lib.hid (keep (keep HBX.out hd) hr.out.2)
    have HDK3 := Lib.hid (((keeps_below hd).trans (keeps_below hr.out.2)).same D _ HDK.out rfl)
    have HWS : Hid (w.heap.size ≤ W.drew.heap.size) := Lib.hid HTd.out.below.size
    clear hr hS
    obtain ⟨Ar, cr, rfl, _⟩ := HR3.out.room
    rw [inb_len] at HR3 ⊢
    have hS := HSS.out _ HT3.out
    refine ⟨hS, ?_⟩
    simp only [Act.put, List.setIfInBounds_toArray, List.set_cons_zero, List.set_cons_succ]
    refine Tl.headX_tk 6 ?v6_16 rfl (by kernel_rfl) (by decide) (by kernel_rfl) (by kernel_rfl) (by kernel_rfl) (fun _ _ _ h => h) (by rfl) (fun W hSw => ?hy6_16) hS ?_
    case hy6_16 => ((try dsimp only at hSw); go_simp; try with_reducible rfl)
    simp only [Act.put, List.setIfInBounds_toArray, List.set_cons_zero, List.set_cons_succ]
    refine Tl.headX_tk 7 ?v7_17 rfl (by kernel_rfl) (by decide) (by kernel_rfl) (by kernel_rfl) (by kernel_rfl) (fun _ _ _ h => h) (by rfl) (fun W hSw => ?hy7_17) hS ?_
    case hy7_17 => ((try dsimp only at hSw); go_simp; try with_reducible rfl)
    simp only [Act.put, List.setIfInBounds_toArray, List.set_cons_zero, List.set_cons_succ]
    refine Tl.headX_rest (by kernel_rfl) ?_
    simp only [List.drop_succ_cons, List.drop_zero]
    clear hS HMG hd
    obtain ⟨_, _, _, b3, _, _, bl⟩ := six HBX3.out
    have fr3 := warm HBX3.out 3
    have hbx4 := set_heap (i := 3) HBX3.out (.slice Ar V cr)
    have HBX4 := Lib.hid hbx4
    clear hbx4
    obtain ⟨W4, hW4⟩ : ∃ W4, W4 = w3.setCell ⟨b, 3, none⟩ (.slice Ar V cr) := ⟨_, rfl⟩
    rw [← hW4] at HBX4
    have HW4 := Lib.hid hW4
    go_wp2
    refine NoPanic.normal ?_
    rw [← HW4.out]
    go_wp2
    clear hW4 b3 fr3 bl
    have ho4 : ∀ j, j ≠ b → W4.heap[j]? = w3.heap[j]? := fun j hj => by rw [HW4.out]; exact set_other _ _ _ _ _ hj
    have HO4 := Lib.hid ho4
    have hne1 : b ≠ n0 + 1 := by have := HNB.out; omega
    have hne5 : b ≠ n0 + 1 + 1 + 1 + 1 + 1 := by have := HNB.out; omega
    obtain ⟨t0, t1, _⟩ := two ((ho4 _ (Ne.symm hne5)).trans HT3.out.tb)
    have p0 : W4.cell? ⟨n0 + 1, 0, none⟩ = some (.pointer (some ⟨b, 0, none⟩)) := by rw [Lib.cell_of_heap ((ho4 _ (Ne.symm hne1)).trans HT3.out.pb)]; rfl
    obtain ⟨s1, hs1⟩ : ∃ s1, s1 = sumF k L vals (List.range V) := ⟨_, rfl⟩
    obtain ⟨m1, hm1⟩ : ∃ m1, m1 = mosF k was vals chg (List.range V) := ⟨_, rfl⟩
    rw [← hs1] at t0
    rw [← hm1] at t1
    have HS1 := Lib.hid hs1; have HM1 := Lib.hid hm1
    obtain ⟨_, _, _, _, e4, e5, el⟩ := six HBX4.out
    have fr4 := warm HBX4.out 4
    have fr5 := warm HBX4.out 5
    clear ho4 hs1 hm1
    go_region_held3 (fun w' => w'.cell? ⟨n0 + 1, 0, none⟩ = some (.pointer (some ⟨b, 0, none⟩)) ∧ w'.cell? ⟨n0 + 1 + 1 + 1 + 1 + 1, 0, none⟩ = some (.int .i64 s1) ∧ w'.cell? ⟨n0 + 1 + 1 + 1 + 1 + 1, 1, none⟩ = some (.int .i64 m1)) (go_keep) (fail)
    go_wp2
    clear t0 t1 p0 e4 e5 el fr4 fr5
    have hX : (((W4.setCell ⟨b, 4, none⟩ (.int .i64 s1)).setCell ⟨b, 5, none⟩ (.int .i64 m1)).drew).heap[b]? = some (.cells #[a0, .slice Av V cv, .slice Ac V cc, .slice Ar V cr, .int .i64 s1, .int .i64 m1] 33 (0, 0)) := set_heap (i := 5) (set_heap (i := 4) HBX4.out (.int .i64 s1)) (.int .i64 m1)
    obtain ⟨X, hXe⟩ : ∃ X, X = ((W4.setCell ⟨b, 4, none⟩ (.int .i64 s1)).setCell ⟨b, 5, none⟩ (.int .i64 m1)).drew := ⟨_, rfl⟩
    have hXo : ∀ j, j ≠ b → X.heap[j]? = w3.heap[j]? := fun j hj => by
      rw [hXe]
      exact ((set_other _ _ _ _ _ hj).trans (set_other _ _ _ _ _ hj)).trans (HO4.out j hj)
    have hXB : Below b w3 X := by
      rw [hXe, HW4.out]
      exact ((((Below.refl b w3).setCell (p := ⟨b, 3, none⟩) (Nat.le_refl _) _).setCell (p := ⟨b, 4, none⟩) (Nat.le_refl _) _).setCell (p := ⟨b, 5, none⟩) (Nat.le_refl _) _).drew
    rw [← hXe] at hX ⊢
    have hwD : w.heap.size ≤ D := Nat.le_trans HH7.out.below.size HD.out
    have hbw := lt_of_block HSB.out
    have hKX : X.heap[D]? = some (.deferred (some [])) := (hXo D (by omega)).trans HDK3.out
    have hP : ∀ j, j ≠ D → (X.putObj D (.deferred none)).heap[j]? = X.heap[j]? := fun j hj => World.putObj_heap_other hj
    have hBP : Below b w3 (X.putObj D (.deferred none)) := hXB.trans (belowK_b (w := w) (Nat.le_of_lt hbw) X D _ _ hwD hKX rfl rfl)
    refine ⟨by simp, .inl ⟨_, _, rfl, run_takeDeferred hKX, _, results_none rfl _ _ _, ⟨_, rfl⟩, Lib.hid ⟨.slice Ar V cr, ?_, ?_, ?_⟩⟩⟩
    · rw [hP b (by omega), hX, HS1.out, HM1.out]; rfl
    · have h1 : KOwn X w.heap.size (.slice Ar V cr) (inbS k V L vals chg) := own_mono (own_moved HR3.out HBX3.out (by decide) hXo) HWS.out
      exact own_kept h1 fun g c fz _ hc => hP g fun e => by rw [e, hKX] at hc; cases hc
    · have h3 := HT3.out.below
      refine ⟨hBP.os.trans h3.os, hBP.tape.trans h3.tape, hBP.output.trans h3.output, Nat.le_trans h3.size hBP.size, fun j hj hne => ?_⟩
      have hjb : j ≠ b := fun e => hne (by rw [e])
      rw [hP j (by omega), hXo j hjb]
      exact h3.block j hj
  case stop =>
    rintro D cd pre W hD hS hF hK
    exact hF.elim

end Go.Proofs.YtbbmgandkmlojaaGreat.Sq

/-
  What is proved here: words for a state that is being made: its box, its two rows, and boxes that stay. No condition.
-/
namespace Go.Proofs.YtbbmgandkmlojaaGreat.Sq
open Go.RowKit Go.Shelf Gr Wd Ws Fx Rk Lb Al In

abbrev Fxd := List (Nat × Array Value × TypeId)
structure NxH (w W : World) (bo B : Nat) (fx : Fxd) (a0 a3 a4 a5 : Value) (l1 : List Int) (l2 : List Bool) (va ua vb ub : Value) : Prop where
  below : Below w.heap.size w W
  fixed : ∀ p ∈ fx, W.heap[p.1]? = some (.cells p.2.1 p.2.2 (0, 0))
  ob : W.heap[bo]? = some (.cells #[a0, va, vb, a3, a4, a5] 33 (0, 0))
  qo : QOwn W B ua l1
  mo : BOwn W B ub l2
  apart : ∀ p ∈ fx, p.1 ≠ bo ∧ 2 ≠ p.2.2 ∧ 4 ≠ p.2.2
  lo : w.heap.size ≤ bo ∧ w.heap.size ≤ B
section
variable {w W W' : World} {bo B : Nat} {fx : Fxd} {a0 a3 a4 a5 : Value} {l1 l1' : List Int} {l2 l2' : List Bool} {va ua vb ub u : Value}
theorem NxH.step (h : NxH w W bo B fx a0 a3 a4 a5 l1 l2 va ua vb ub) (hb : Below W.heap.size W W') : NxH w W' bo B fx a0 a3 a4 a5 l1 l2 va ua vb ub :=
  ⟨step_below h.below h.below.size hb, fun p hp => keep (h.fixed p hp) hb, keep h.ob hb, h.qo.below hb, h.mo.below hb, h.apart, h.lo⟩
theorem NxH.kept (h : NxH w W bo B fx a0 a3 a4 a5 l1 l2 va ua vb ub) {row : Option Nat} (hg : W.grownBy W' row) (hr : ∀ r, row = some r → ∃ o, W.heap[r]? = some o ∧ o.isCells = false) (hn : ∀ r, row = some r → w.heap.size ≤ r) : NxH w W' bo B fx a0 a3 a4 a5 l1 l2 va ua vb ub :=
  ⟨Below.grown h.below hg h.below.size hn, fun p hp => obj_kept hg hr (h.fixed p hp), obj_kept hg hr h.ob, row_kept hg hr h.qo, row_kept hg hr h.mo, h.apart, h.lo⟩
theorem NxH.grownQ (h : NxH w W bo B fx a0 a3 a4 a5 l1 l2 va ua vb ub) (hg : W.grownBy W' ua.ownBlock) (ho : QOwn W' B u l1') : NxH w W' bo B fx a0 a3 a4 a5 l1' l2 va u vb ub :=
  ⟨h.below.trans (own_grown h.qo hg h.lo.2 h.below.size), fun p hp => box_other (h.fixed p hp) h.qo (Ne.symm (h.apart p hp).2.1) hg, box_other h.ob h.qo (by decide) hg, ho, own_other h.mo h.qo (by decide) hg, h.apart, h.lo⟩
theorem NxH.grownB (h : NxH w W bo B fx a0 a3 a4 a5 l1 l2 va ua vb ub) (hg : W.grownBy W' ub.ownBlock) (ho : BOwn W' B u l2') : NxH w W' bo B fx a0 a3 a4 a5 l1 l2' va ua vb u :=
  ⟨h.below.trans (own_grown h.mo hg h.lo.2 h.below.size), fun p hp => box_other (h.fixed p hp) h.mo (Ne.symm (h.apart p hp).2.2) hg, box_other h.ob h.mo (by decide) hg, own_other h.qo h.mo (by decide) hg, ho, h.apart, h.lo⟩
theorem NxH.putQ (h : NxH w W bo B fx a0 a3 a4 a5 l1 l2 va ua vb ub) : NxH w (W.setCell ⟨bo, 1, none⟩ ua) bo B fx a0 a3 a4 a5 l1 l2 ua ua vb ub := by
  have ho : ∀ j, j ≠ bo → (W.setCell ⟨bo, 1, none⟩ ua).heap[j]? = W.heap[j]? := fun _ hj => set_other _ _ _ _ _ hj
  exact ⟨h.below.setCell (p := ⟨bo, 1, none⟩) h.lo.1 ua, fun p hp => (ho _ (h.apart p hp).1).trans (h.fixed p hp), set_heap (i := 1) h.ob ua, own_moved h.qo h.ob (by decide) ho, own_moved h.mo h.ob (by decide) ho, h.apart, h.lo⟩
theorem NxH.putB (h : NxH w W bo B fx a0 a3 a4 a5 l1 l2 va ua vb ub) : NxH w (W.setCell ⟨bo, 2, none⟩ ub) bo B fx a0 a3 a4 a5 l1 l2 va ua ub ub := by
  have ho : ∀ j, j ≠ bo → (W.setCell ⟨bo, 2, none⟩ ub).heap[j]? = W.heap[j]? := fun _ hj => set_other _ _ _ _ _ hj
  exact ⟨h.below.setCell (p := ⟨bo, 2, none⟩) h.lo.1 ub, fun p hp => (ho _ (h.apart p hp).1).trans (h.fixed p hp), set_heap (i := 2) h.ob ub, own_moved h.qo h.ob (by decide) ho, own_moved h.mo h.ob (by decide) ho, h.apart, h.lo⟩
end
theorem own_by {w w' : World} {b B n s : Nat} {T T' : TypeId} {v : Value} {xs : List Value} {c : Array Value} (h : w.ownsRow B T s v n xs) (hb : w.heap[b]? = some (.cells c T' (0, 0))) (hT : T ≠ T') (hg : w.grownBy w' (some b)) : w'.ownsRow B T s v n xs :=
  own_kept h fun g _ _ _ hc => hg.block g (lt_of_block hc) fun e => by
    have e := Option.some.inj e
    subst e; rw [hb] at hc; injection hc with hc; injection hc with _ hc _
    exact hT hc.symm
theorem own_shut {w : World} {D B n s : Nat} {T : TypeId} {v : Value} {xs : List Value} {ds : Option (List Deferred)} (h : w.ownsRow B T s v n xs) (hK : w.heap[D]? = some (.deferred ds)) (o : Obj) : (w.putObj D o).ownsRow B T s v n xs :=
  own_kept h fun g _ _ _ hc => World.putObj_heap_other fun e => by rw [e, hK] at hc; cases hc
theorem shut_below {w W : World} {D : Nat} {ds : Option (List Deferred)} (h : Below w.heap.size w W) (hD : w.heap.size ≤ D) (hK : W.heap[D]? = some (.deferred ds)) (o : Obj) : Below w.heap.size w (W.putObj D o) :=
  h.trans (belowK_b (w := w) (Nat.le_refl _) W D _ o hD hK rfl rfl)
theorem put6_moved {w : World} {b B n s : Nat} {T T' : TypeId} {v : Value} {xs : List Value} {c : Array Value} (h : w.ownsRow B T s v n xs) (hb : w.heap[b]? = some (.cells c T' (0, 0))) (hT : T ≠ T') (u0 u1 u2 u3 u4 u5 : Value) : (put6 w b u0 u1 u2 u3 u4 u5).ownsRow B T s v n xs :=
  own_moved h hb hT fun j hj => put6_other w b j u0 u1 u2 u3 u4 u5 hj
/- A state that a call has made, from block B on; one that can be read. -/
def SOwn (w : World) (B : Nat) (x : Value) (st : Int) (s : Sq) : Prop := ∃ va vc vi, x = .agg #[.int .i64 st, va, vc, vi, .int .i64 s.sum, .int .i64 s.most] ∧ QOwn w B va s.vals ∧ BOwn w B vc s.chg ∧ KOwn w B vi s.inb
theorem SOwn.below {w w' : World} {B : Nat} {x : Value} {st : Int} {s : Sq} (h : SOwn w B x st s) (hb : Below w.heap.size w w') : SOwn w' B x st s := by
  obtain ⟨va, vc, vi, e, h1, h2, h3⟩ := h
  exact ⟨va, vc, vi, e, h1.below hb, h2.below hb, h3.below hb⟩
theorem SOwn.mono {w : World} {B B' : Nat} {x : Value} {st : Int} {s : Sq} (h : SOwn w B x st s) (hb : B' ≤ B) : SOwn w B' x st s := by
  obtain ⟨va, vc, vi, e, h1, h2, h3⟩ := h
  exact ⟨va, vc, vi, e, h1.mono hb, h2.mono hb, h3.mono hb⟩
theorem SOwn.form {w : World} {B : Nat} {x : Value} {st : Int} {s : Sq} (h : SOwn w B x st s) : ∃ Av cv Ac cc Ai ci, x = .agg #[.int .i64 st, .slice Av s.vals.length cv, .slice Ac s.chg.length cc, .slice Ai s.inb.length ci, .int .i64 s.sum, .int .i64 s.most] ∧ IAt w Av s.vals ∧ BAt w Ac s.chg ∧ KAt w Ai s.inb := by
  obtain ⟨va, vc, vi, e, h1, h2, h3⟩ := h
  obtain ⟨Av, cv, rfl, g1⟩ := h1.form
  obtain ⟨Ac, cc, rfl, g2⟩ := h2.form
  obtain ⟨Ai, ci, rfl, g3, _⟩ := h3.room
  exact ⟨Av, cv, Ac, cc, Ai, ci, e, g1, g2, g3⟩

end Go.Proofs.YtbbmgandkmlojaaGreat.Sq

/-
  What is proved here: a contract of a step on. Conditions: at most 512 vertices, at most 1000 edges; numbers that fit an int.
-/
namespace Go.Proofs.YtbbmgandkmlojaaGreat.Sq
open Go.RowKit Go.Shelf Gr Wd Ws Fx Rk Lb Al In
open Pa (vl bt vl_of vl_at bt_of bt_at)
attribute [local go_sem] Oper.semAt_some

def nvF (k dm : Int) (V : Nat) (s : Sq) (v : Nat) : Int := cmpM k (V : Int) dm (vl s.vals v) (ml s.inb v).1 (ml s.inb v).2 s.sum
def ncF (k dm : Int) (V : Nat) (s : Sq) (v : Nat) : Bool := cmpB k (V : Int) dm (vl s.vals v) (ml s.inb v).1 (ml s.inb v).2 s.sum
theorem new_s (w : World) (a0 a1 a2 a3 a4 a5 : Value) : (w.alloc (.cells #[a0, a1, a2, a3, a4, a5] 33)).heap[w.heap.size]? = some (.cells #[a0, a1, a2, a3, a4, a5] 33 (0, 0)) := heap_alloc_new w _

set_option maxRecDepth 100000 in
set_option maxHeartbeats 8000000 in
theorem next_any (k st so dm ep step : Int) (V : Nat) (L : List Ed) (Ae Av Ac Ai : Option Addr) (ce cv cc ci nc be : Nat) (s : Sq) (w : World)
    (hE : WOwn w be (.slice Ae V ce) (egs V L)) (hv : IAt w Av s.vals) (hi : KAt w Ai s.inb) (hvl : s.vals.length = V) (hil : s.inb.length = V) (hvr : ∀ x ∈ s.vals, I63 x) (hir : ∀ m ∈ s.inb, I63 m.2) (hsr : I63 s.sum) (hnr : ∀ x ∈ nxtV k dm V s, I63 x)
    (hd : I63 dm) (hst : 0 ≤ step ∧ step ≤ 2000) (hV : V ≤ 512) (hL : L.length ≤ 1000) (hfit : ∀ e ∈ L, fitE (V : Int) e = true) :
    Calls Tryz.prog 41 #[.agg #[.int .u8 k, .int .i64 st, .int .i64 so, .int .i64 dm, .int .i64 ep, .slice Ae V ce], .agg #[.int .i64 step, .slice Av V cv, .slice Ac nc cc, .slice Ai V ci, .int .i64 s.sum, .int .i64 s.most]] w fun e w' => ∃ x, e = .returned x ∧ Hid (SOwn w' w.heap.size x (step + 1) (nxtS k dm V L s)) ∧ Hid (Below w.heap.size w w') := by
  have mixed := mixedI
  have HE := Lib.hid hE; have HVA := Lib.hid hv; have HIA := Lib.hid hi; have HVL := Lib.hid hvl; have HIL := Lib.hid hil; have HVR := Lib.hid hvr; have HIR := Lib.hid hir; have HSR := Lib.hid hsr; have HNR := Lib.hid hnr; have HDR := Lib.hid hd; have HFI := Lib.hid hfit
  clear hE hv hi hvl hil hvr hir hsr hnr hd hfit
  obtain ⟨sm, hsm⟩ : ∃ sm, sm = s.sum := ⟨_, rfl⟩
  obtain ⟨mo, hmo⟩ : ∃ mo, mo = s.most := ⟨_, rfl⟩
  rw [← hsm, ← hmo]
  have HSM := Lib.hid hsm; have HMO := Lib.hid hmo
  clear hsm hmo
  have f41 : Fence.wide.fn 41 := trivial
  refine (callsIn_wide (n := 6)).1 (callsIn_of_wp_marks Tryz.func41 rfl f41 ?_ rfl)
  refine (wpIn_wide (n := 6)).2 ?_
  simp only [Tryz.ntmps41, List.size_toArray, List.length_cons, List.length_nil, Nat.reduceAdd, Nat.reduceSub, Array.replicate_succ, Array.replicate_zero, List.push_toArray, List.append_toArray, List.nil_append, List.cons_append]
  obtain ⟨W4, hW4⟩ : ∃ W4, W4 = (((w.alloc (.cells #[.int .u8 k, .int .i64 st, .int .i64 so, .int .i64 dm, .int .i64 ep, .slice Ae V ce] 61)).alloc (.cells #[.int .i64 step, .slice Av V cv, .slice Ac nc cc, .slice Ai V ci, .int .i64 sm, .int .i64 mo] 33)).alloc (.cells #[.int .i64 0, .slice none 0 0, .slice none 0 0, .slice none 0 0, .int .i64 0, .int .i64 0] 33)).alloc (.cells #[.int .i64 (step + 1), .slice none 0 0, .slice none 0 0, .slice none 0 0, .int .i64 0, .int .i64 0] 33) := ⟨_, rfl⟩
  have hal := al4 w (.cells #[.int .u8 k, .int .i64 st, .int .i64 so, .int .i64 dm, .int .i64 ep, .slice Ae V ce] 61) (.cells #[.int .i64 step, .slice Av V cv, .slice Ac nc cc, .slice Ai V ci, .int .i64 sm, .int .i64 mo] 33) (.cells #[.int .i64 0, .slice none 0 0, .slice none 0 0, .slice none 0 0, .int .i64 0, .int .i64 0] 33) (.cells #[.int .i64 (step + 1), .slice none 0 0, .slice none 0 0, .slice none 0 0, .int .i64 0, .int .i64 0] 33)
  rw [← hW4] at hal
  obtain ⟨n0, e0⟩ : ∃ n0, n0 = w.heap.size := ⟨_, rfl⟩
  obtain ⟨fx, hfx⟩ : ∃ fx : Fxd, fx = [(n0, #[.int .u8 k, .int .i64 st, .int .i64 so, .int .i64 dm, .int .i64 ep, .slice Ae V ce], 61), (n0 + 1, #[.int .i64 step, .slice Av V cv, .slice Ac nc cc, .slice Ai V ci, .int .i64 sm, .int .i64 mo], 33), (n0 + 1 + 1, #[.int .i64 0, .slice none 0 0, .slice none 0 0, .slice none 0 0, .int .i64 0, .int .i64 0], 33)] := ⟨_, rfl⟩
  have HH4 : Hid (NxH w W4 (n0 + 1 + 1 + 1) (n0 + 4) fx (.int .i64 (step + 1)) (.slice none 0 0) (.int .i64 0) (.int .i64 0) [] [] (.slice none 0 0) (.slice none 0 0) (.slice none 0 0) (.slice none 0 0)) := Lib.hid (by
    refine ⟨hal.2.2.2.2, ?_, by rw [e0]; exact hal.2.2.2.1, QOwn.none_ _ _, BOwn.none_ _ _, ?_, by omega⟩
    · rw [hfx]; intro p hp
      simp only [List.mem_cons, List.not_mem_nil, or_false] at hp
      rcases hp with rfl | rfl | rfl
      · rw [e0]; exact hal.1
      · rw [e0]; exact hal.2.1
      · rw [e0]; exact hal.2.2.1
    · rw [hfx]; intro p hp
      simp only [List.mem_cons, List.not_mem_nil, or_false] at hp
      rcases hp with rfl | rfl | rfl
      · exact ⟨by simp only []; omega, by simp only []; decide, by simp only []; decide⟩
      · exact ⟨by simp only []; omega, by simp only []; decide, by simp only []; decide⟩
      · exact ⟨by simp only []; omega, by simp only []; decide, by simp only []; decide⟩)
  have HF0 : Hid (∀ W l1 l2 va ua vb ub, NxH w W (n0 + 1 + 1 + 1) (n0 + 4) fx (.int .i64 (step + 1)) (.slice none 0 0) (.int .i64 0) (.int .i64 0) l1 l2 va ua vb ub → W.heap[n0]? = some (.cells #[.int .u8 k, .int .i64 st, .int .i64 so, .int .i64 dm, .int .i64 ep, .slice Ae V ce] 61 (0, 0))) := Lib.hid (fun W _ _ _ _ _ _ h => h.fixed (n0, #[.int .u8 k, .int .i64 st, .int .i64 so, .int .i64 dm, .int .i64 ep, .slice Ae V ce], 61) (by rw [hfx]; exact List.mem_cons_self))
  have HF1 : Hid (∀ W l1 l2 va ua vb ub, NxH w W (n0 + 1 + 1 + 1) (n0 + 4) fx (.int .i64 (step + 1)) (.slice none 0 0) (.int .i64 0) (.int .i64 0) l1 l2 va ua vb ub → W.heap[n0 + 1]? = some (.cells #[.int .i64 step, .slice Av V cv, .slice Ac nc cc, .slice Ai V ci, .int .i64 sm, .int .i64 mo] 33 (0, 0))) := Lib.hid (fun W _ _ _ _ _ _ h => h.fixed (n0 + 1, #[.int .i64 step, .slice Av V cv, .slice Ac nc cc, .slice Ai V ci, .int .i64 sm, .int .i64 mo], 33) (by rw [hfx]; exact List.mem_cons_of_mem _ List.mem_cons_self))
  have HF2 : Hid (∀ W l1 l2 va ua vb ub, NxH w W (n0 + 1 + 1 + 1) (n0 + 4) fx (.int .i64 (step + 1)) (.slice none 0 0) (.int .i64 0) (.int .i64 0) l1 l2 va ua vb ub → W.heap[n0 + 1 + 1]? = some (.cells #[.int .i64 0, .slice none 0 0, .slice none 0 0, .slice none 0 0, .int .i64 0, .int .i64 0] 33 (0, 0))) := Lib.hid (fun W _ _ _ _ _ _ h => h.fixed (n0 + 1 + 1, #[.int .i64 0, .slice none 0 0, .slice none 0 0, .slice none 0 0, .int .i64 0, .int .i64 0], 33) (by rw [hfx]; exact List.mem_cons_of_mem _ (List.mem_cons_of_mem _ List.mem_cons_self)))
  have HN0 : Hid (w.heap.size ≤ n0) := Lib.hid (by omega)
  have hs4 : W4.heap.size = n0 + 4 := by rw [hW4, e0]; simp
  clear hal hfx
  go_upto_region 2 with fail
  rw [← hW4, show w.heap.size = n0 from e0.symm]
  clear hW4 e0
  have HS4 := Lib.hid hs4
  clear hs4
  obtain ⟨c0, c1, c2, c3, c4, c5, cl⟩ := six (HF0.out _ _ _ _ _ _ _ HH4.out)
  go_wp2_with fail
  refine (vertices_any k st so dm ep Ae V ce W4).mono ?_
  rintro e W7 ⟨rfl, hW7⟩
  have hb7 : Below W4.heap.size W4 W7 := by rw [hW7]; exact (Below.refl _ W4).alloc (Nat.le_refl _) _
  have HH7 := Lib.hid (HH4.out.step hb7)
  have HI7 : Hid (ItV W7 W4.heap.size be k st so dm ep (.slice Ae V ce) (egs V L)) := Lib.hid ⟨by rw [hW7]; exact heap_alloc_new W4 _, (HE.out.below HH4.out.below).below hb7⟩
  obtain ⟨bv, ebv⟩ : ∃ bv, bv = W4.heap.size := ⟨_, rfl⟩
  rw [← ebv] at HI7 ⊢
  clear hW7 hb7 HH4 c0 c1 c2 c3 c4 c5 cl ebv HS4
  go_wp2_with fail
  refine (wpIn_wide (n := 6)).1 ?_
  refine Pt.wp_told (n := 6) (R' := fun (x : Vx) a' W => x.v < V ∧ a' = Act.mk #[.agg #[.int .u8 k, .int .i64 st, .int .i64 so, .int .i64 dm, .int .i64 ep, .slice Ae V ce], .agg #[.int .i64 step, .slice Av V cv, .slice Ac nc cc, .slice Ai V ci, .int .i64 sm, .int .i64 mo], .pointer (some ⟨n0, 0, none⟩), .pointer (some ⟨n0 + 1, 0, none⟩), .pointer (some ⟨n0 + 1 + 1, 0, none⟩), .pointer (some ⟨n0 + 1 + 1 + 1, 0, none⟩), .int .i64 (x.v : Int), undef, undef, .pointer (some ⟨n0 + 1, 0, none⟩), .int .i64 step, .int .i64 (step + 1), .agg #[.int .i64 (step + 1), .slice none 0 0, .slice none 0 0, .slice none 0 0, .int .i64 0, .int .i64 0], .agg #[.int .u8 k, .int .i64 st, .int .i64 so, .int .i64 dm, .int .i64 ep, .slice Ae V ce], .func (.func 79) #[] #[.pointer (some ⟨bv, 0, none⟩)], .int .i64 (x.v : Int), .agg #[x.o, x.b], undef, undef, undef, undef, undef, undef, undef, undef, undef, undef, undef, undef, undef, undef, undef, undef, undef, undef, undef, undef, undef, undef, undef, undef, undef, undef, undef, undef, undef, undef, undef, undef, undef, undef, undef, undef, undef, undef] []) rfl (by omega) (gf := 79) (lb := #[.pointer (some ⟨bv, 0, none⟩)]) rfl trivial (enters_of Tryz.func79 (by kernel_rfl) rfl)
    (vert_told 5 (by omega) bv be k st so dm ep (.slice Ae V ce) (egs V L) V W7 HI7.out (egs_len V L) (by omega)) Kq.trans Kq.obj (Below.refl _ _) (fun _ => rfl)
    (fun _ _ _ _ _ _ _ _ h => h)
    (fun pre W => ∃ va vb, NxH w W (n0 + 1 + 1 + 1) (n0 + 4) fx (.int .i64 (step + 1)) (.slice none 0 0) (.int .i64 0) (.int .i64 0) ((pre.map Vx.v).map (nvF k dm V s)) ((pre.map Vx.v).map (ncF k dm V s)) va va vb vb)
    (fun _ _ _ => False)
    (fun s' A B row hs hg hr => by obtain ⟨va, vb, h⟩ := hs; exact ⟨va, vb, h.kept hg (fun r e => (hr r e).2) (fun r e => Nat.le_trans HH7.out.below.size (hr r e).1)⟩)
    (fun cd s' A B row hs hg hr => hs)
    ⟨_, _, HH7.out⟩ ?assign ?body ?done ?stop
  case assign =>
    intro lp pre x W K hI hR hK
    obtain ⟨L', B', g1, _, _⟩ := hR
    have hxl : x.v < V := by have := lt_at g1; rwa [egs_len] at this
    have HH := Lib.hid (hK _ _ (keeps_below (Below.refl _ W)) (Kq.refl W) hI ⟨hxl, rfl⟩)
    dsimp only [encsV]
    clear hK hI g1
    gi_wp2
    exact HH.out
  case body =>
    rintro lp pre x a' W ⟨va, vb, hT⟩ ⟨hxl, rfl⟩ hlen
    obtain ⟨ns, hns⟩ : ∃ ns, pre.map Vx.v = ns := ⟨_, rfl⟩
    rw [hns] at hT
    have hnl : ns.length = pre.length := by rw [← hns, List.length_map]
    have HNS := Lib.hid hns
    have HT := Lib.hid hT
    clear hns hT
    obtain ⟨xv, xo, xb⟩ := x
    try simp only at hxl ⊢
    -- region 4: what the vertex has next
    obtain ⟨y, hy⟩ := at_lt s.vals xv (by rw [HVL.out]; exact hxl)
    obtain ⟨⟨p, q⟩, hq⟩ := at_lt s.inb xv (by rw [HIL.out]; exact hxl)
    obtain ⟨kv, ov, rfl, v0⟩ := (HVA.out.below HT.out.below) xv y hy
    obtain ⟨ki, oi, rfl, i0, i1⟩ := (HIA.out.below HT.out.below) xv (p, q) hq
    simp only at i0 i1
    obtain ⟨nv, hnv⟩ : ∃ nv, nv = nvF k dm V s xv := ⟨_, rfl⟩
    obtain ⟨nb, hnb⟩ : ∃ nb, nb = ncF k dm V s xv := ⟨_, rfl⟩
    have hyr := HVR.out y (List.mem_of_getElem? hy)
    have hqr := HIR.out (p, q) (List.mem_of_getElem? hq)
    have hsr := HSR.out
    have hdr := HDR.out
    have C1 : Hid (∀ (d : Nat) (os : Array Obj), Calls Tryz.prog 70 #[.agg #[.int .u8 k, .int .i64 st, .int .i64 so, .int .i64 dm, .int .i64 ep], .int .i64 (V : Int), .int .i64 y, .agg #[.bool p, .int .i64 q], .int .i64 sm] (Sort.grow (redrawn W d) os) fun e w'' => e = .returned (.tuple #[.int .i64 nv, .bool nb]) ∧ ∃ pp : Regrown, w'' = Sort.grow (redrawn W pp.d) pp.os) := Lib.hid (by
      have h := regr (w := W) fun W' (_ : Below W.heap.size W W') => compute_any k st so dm ep (V : Int) y q sm p (by omega) (by omega) hdr.1 hdr.2 hqr.1 hqr.2 (by rw [HSM.out]; exact hsr.1) (by rw [HSM.out]; exact hsr.2) W'
      rw [hnv, hnb]
      unfold nvF ncF
      rw [vl_of hy, ml_of hq, ← HSM.out]
      exact h)
    have HNV := Lib.hid hnv; have HNB := Lib.hid hnb
    clear hnv hnb hyr hqr hsr hdr hy hq
    obtain ⟨c0, c1, c2, c3, c4, c5, _⟩ := six (HF0.out _ _ _ _ _ _ _ HT.out)
    obtain ⟨_, d1, _, d3, d4, _, _⟩ := six (HF1.out _ _ _ _ _ _ _ HT.out)
    have y0 := cell_regrown c0; have y1 := cell_regrown c1; have y2 := cell_regrown c2; have y3 := cell_regrown c3; have y4 := cell_regrown c4; have y5 := cell_regrown c5
    have z1 := cell_regrown d1; have z3 := cell_regrown d3; have z4 := cell_regrown d4; have zv := cell_regrown v0; have zi := cell_regrown i0; have zj := cell_regrown i1
    clear c0 c1 c2 c3 c4 c5 d1 d3 d4 v0 i0 i1
    gi_wp2
    rename_i K5 hK5
    refine Tl.region_quiet_round mixed (by rfl) ?hq4 (by kernel_rfl) ?_
    case hq4 => rintro ⟨_, _, h⟩; exact h
    repeat (go_big_quiet_step ((with_reducible exact C1.out _ _)))
    refine wpQuiet_nil ?_
    intro W8 hw8
    have hb8 : Below W.heap.size W W8 := by obtain ⟨⟨dq, osq⟩, rfl⟩ := hw8; exact below_regrown W dq osq
    have HT8 := Lib.hid (HT.out.step hb8)
    have HK8 := Lib.hid (KK.below hb8)
    clear hb8 hw8 y0 y1 y2 y3 y4 y5 z1 z3 z4 zv zi zj C1 HT
    refine hK5 _ _ ?_
    clear hK5
    -- region 5: its value
    refine wpIn_seq_k fun K6 hK6 => ?_
    refine Tl.region_round (by rfl) ?hq5 ?_
    case hq5 => rintro ⟨_, _, h⟩; exact h
    obtain ⟨Aq, cq, rfl, _⟩ := HT8.out.qo.form
    obtain ⟨Ab, cb, rfl, _⟩ := HT8.out.mo.form
    rw [List.length_map, List.length_map, hnl] at HT8
    have HLQ : Hid ((ns.map (nvF k dm V s)).length < 1000000000) := Lib.hid (by rw [List.length_map, hnl]; omega)
    have HLB : Hid ((ns.map (ncF k dm V s)).length < 1000000000) := Lib.hid (by rw [List.length_map, hnl]; omega)
    obtain ⟨_, a1, _, _, _, _, _⟩ := six HT8.out.ob
    have hb9 : Below W8.heap.size W8 (W8.alloc (.cells #[.int .i64 nv] 2)) := (Below.refl _ W8).alloc (Nat.le_refl _) _
    have HT9 := Lib.hid (HT8.out.step hb9)
    have HQ9 := Lib.hid HT9.out.qo
    have HN9 : Hid ((W8.alloc (.cells #[.int .i64 nv] 2)).heap[W8.heap.size]? = some (.cells #[.int .i64 nv] 2 (0, 0))) := Lib.hid (heap_alloc_new W8 _)
    have HZ9 : Hid (n0 + 4 ≤ (W8.alloc (.cells #[.int .i64 nv] 2)).heap.size) := Lib.hid (lt_of_block HT9.out.ob)
    have HK9 := Lib.hid (HK8.out.trans (KK.below hb9))
    clear hb9
    go_wp2_with (at_builtin; refine app_q rfl (.tmp 39) (.tmp 41) rfl (n0 + 4) _ _ _ rfl HQ9.out _ rfl HN9.out HLQ.out HZ9.out ?_)
    intro v10 w10 ho10 hg10
    have HK10 := Lib.hid (HK9.out.trans (KK.grown HQ9.out hg10 (by decide) (by decide) (by decide)))
    have HT10 := Lib.hid (HT9.out.grownQ hg10 ho10)
    obtain ⟨A10, c10, rfl, _⟩ := ho10.form
    rw [show (ns.map (nvF k dm V s) ++ [nv]).length = pre.length + 1 by simp [hnl]] at HT10 ⊢
    have HT11 := Lib.hid HT10.out.putQ
    have HK11 := Lib.hid (HK10.out.trans (KK.set (i := 1) HT10.out.ob (.slice A10 (pre.length + 1) c10) (by decide) (by decide) (by decide)))
    have fr10 := warm HT10.out.ob 1
    obtain ⟨_, a11, _, _, _, _, _⟩ := six HT10.out.ob
    obtain ⟨W11, hW11⟩ : ∃ W11, W11 = w10.setCell ⟨n0 + 1 + 1 + 1, 1, none⟩ (.slice A10 (pre.length + 1) c10) := ⟨_, rfl⟩
    rw [← hW11] at HT11 HK11
    clear ho10 hg10 HQ9 HT9 HN9 HLQ HZ9 HK9 HT8 HK8 a1 HK10
    go_wp2
    rw [← hW11]
    clear hW11 a11 fr10 HT10
    -- region 6: its mark
    refine Tl.region_round (by rfl) ?hq6 ?_
    case hq6 => rintro ⟨_, _, h⟩; exact h
    obtain ⟨_, _, a2, _, _, _, _⟩ := six HT11.out.ob
    have hb12 : Below W11.heap.size W11 (W11.alloc (.cells #[.bool nb] 4)) := (Below.refl _ W11).alloc (Nat.le_refl _) _
    have HT12 := Lib.hid (HT11.out.step hb12)
    have HQ12 := Lib.hid HT12.out.mo
    have HN12 : Hid ((W11.alloc (.cells #[.bool nb] 4)).heap[W11.heap.size]? = some (.cells #[.bool nb] 4 (0, 0))) := Lib.hid (heap_alloc_new W11 _)
    have HZ12 : Hid (n0 + 4 ≤ (W11.alloc (.cells #[.bool nb] 4)).heap.size) := Lib.hid (lt_of_block HT12.out.ob)
    have HK12 := Lib.hid (HK11.out.trans (KK.below hb12))
    clear hb12
    go_wp2_with (at_builtin; refine app_b rfl (.tmp 45) (.tmp 47) rfl (n0 + 4) _ _ _ rfl HQ12.out _ rfl HN12.out HLB.out HZ12.out ?_)
    intro v13 w13 ho13 hg13
    have HK13 := Lib.hid (HK12.out.trans (KK.grown HQ12.out hg13 (by decide) (by decide) (by decide)))
    have HT13 := Lib.hid (HT12.out.grownB hg13 ho13)
    obtain ⟨A13, c13, rfl, _⟩ := ho13.form
    rw [show (ns.map (ncF k dm V s) ++ [nb]).length = pre.length + 1 by simp [hnl]] at HT13 ⊢
    have HT14 := Lib.hid HT13.out.putB
    have HK14 := Lib.hid (HK13.out.trans (KK.set (i := 2) HT13.out.ob (.slice A13 (pre.length + 1) c13) (by decide) (by decide) (by decide)))
    have fr13 := warm HT13.out.ob 2
    obtain ⟨_, _, a12, _, _, _, _⟩ := six HT13.out.ob
    rw [HNV.out, HNB.out] at HT14
    have e1 : ns.map (nvF k dm V s) ++ [nvF k dm V s xv] = ((pre ++ [(⟨xv, xo, xb⟩ : Vx)]).map Vx.v).map (nvF k dm V s) := by rw [List.map_append, HNS.out, List.map_append]; rfl
    have e2 : ns.map (ncF k dm V s) ++ [ncF k dm V s xv] = ((pre ++ [(⟨xv, xo, xb⟩ : Vx)]).map Vx.v).map (ncF k dm V s) := by rw [List.map_append, HNS.out, List.map_append]; rfl
    rw [e1, e2] at HT14
    clear ho13 hg13 HQ12 HT12 HN12 HLB HZ12 HK12 HT11 HK11 a2 HK13 HT13 HNV HNB e1 e2
    go_wp2
    exact ⟨HK14.out.1, HK14.out.2, _, _, HT14.out⟩
  case done =>
    rintro D xs W hD hxs ⟨va, vb, hT⟩ hK
    rw [hxs] at hT
    have HT := Lib.hid hT; have HDK := Lib.hid hK
    have HDW : Hid (w.heap.size ≤ D) := Lib.hid (Nat.le_trans HH7.out.below.size hD)
    clear hT hK hxs hD
    obtain ⟨Aq, cq, rfl, hqa⟩ := HT.out.qo.form
    obtain ⟨Ab, cb, rfl, hba⟩ := HT.out.mo.form
    rw [List.length_map, List.length_map, List.length_range] at HT
    have HTL := Lib.hid (tell_any k st so dm ep V L Ae Aq Ab Av ce cq cb cv (n0 + 1 + 1 + 1) be s.vals (nxtV k dm V s) (nxtC k dm V s) (.int .i64 (step + 1)) (.slice none 0 0) (.int .i64 0) (.int .i64 0) W (HE.out.below HT.out.below) HT.out.ob hqa hba (HVA.out.below HT.out.below) (nxtV_len ..) (nxtC_len ..) HVL.out HNR.out HVR.out hV hL HFI.out)
    clear hqa hba
    obtain ⟨c0, c1, c2, c3, c4, c5, _⟩ := six (HF0.out _ _ _ _ _ _ _ HT.out)
    obtain ⟨_, d1, _, _, _, _, _⟩ := six (HF1.out _ _ _ _ _ _ _ HT.out)
    go_wp2_with fail
    refine HTL.out.mono ?_
    rintro e w9 ⟨⟨v9, rfl⟩, h9⟩
    obtain ⟨vi, hbx, hki, hg9⟩ := h9.out
    obtain ⟨Aj, cj, rfl, _⟩ := hki.room
    rw [inb_len] at hki hbx
    have HBX := Lib.hid hbx; have HKI := Lib.hid hki; have HG9 := Lib.hid hg9
    have hrb : w9.heap[n0 + 1 + 1]? = some (.cells #[.int .i64 0, .slice none 0 0, .slice none 0 0, .slice none 0 0, .int .i64 0, .int .i64 0] 33 (0, 0)) := (hg9.block _ (lt_of_block (HF2.out _ _ _ _ _ _ _ HT.out)) (by intro e; have := Option.some.inj e; omega)).trans (HF2.out _ _ _ _ _ _ _ HT.out)
    have hdk : w9.heap[D]? = some (.deferred (some [])) := (hg9.block _ (lt_of_block HDK.out) (by
      intro e
      have e := Option.some.inj e
      have h1 := HDK.out
      rw [e, HT.out.ob] at h1; cases h1)).trans HDK.out
    have HRB := Lib.hid hrb; have HD9 := Lib.hid hdk
    clear hbx hki hg9 hrb hdk h9 HTL c0 c1 c2 c3 c4 c5 d1
    obtain ⟨s0, s1, s2, s3, s4, s5, _⟩ := six HBX.out
    obtain ⟨r0, r1, r2, r3, r4, r5, rl⟩ := six HRB.out
    have f0 := warm HRB.out 0; have f1 := warm HRB.out 1; have f2 := warm HRB.out 2; have f3 := warm HRB.out 3; have f4 := warm HRB.out 4; have f5 := warm HRB.out 5
    go_wp2
    have hX := put6_heap HRB.out (.int .i64 (step + 1)) (.slice Aq V cq) (.slice Ab V cb) (.slice Aj V cj) (.int .i64 (sumS k V L (nxtV k dm V s))) (.int .i64 (mosS k V s.vals (nxtV k dm V s) (nxtC k dm V s)))
    have hXo : ∀ j, j ≠ n0 + 1 + 1 → (put6 w9 (n0 + 1 + 1) (.int .i64 (step + 1)) (.slice Aq V cq) (.slice Ab V cb) (.slice Aj V cj) (.int .i64 (sumS k V L (nxtV k dm V s))) (.int .i64 (mosS k V s.vals (nxtV k dm V s) (nxtC k dm V s)))).heap[j]? = w9.heap[j]? := fun j hj => put6_other _ _ _ _ _ _ _ _ _ hj
    have hB9 : Below w.heap.size w w9 := Below.grown HT.out.below HG9.out HT.out.below.size (fun j e => by have e := Option.some.inj e; have := HN0.out; omega)
    have hBX := put6_below hB9 (b := n0 + 1 + 1) (by have := HN0.out; omega) (.int .i64 (step + 1)) (.slice Aq V cq) (.slice Ab V cb) (.slice Aj V cj) (.int .i64 (sumS k V L (nxtV k dm V s))) (.int .i64 (mosS k V s.vals (nxtV k dm V s) (nxtC k dm V s)))
    have hq1 := put6_moved (own_by HT.out.qo HT.out.ob (by decide) HG9.out) HRB.out (by decide) (.int .i64 (step + 1)) (.slice Aq V cq) (.slice Ab V cb) (.slice Aj V cj) (.int .i64 (sumS k V L (nxtV k dm V s))) (.int .i64 (mosS k V s.vals (nxtV k dm V s) (nxtC k dm V s)))
    have hb1 := put6_moved (own_by HT.out.mo HT.out.ob (by decide) HG9.out) HRB.out (by decide) (.int .i64 (step + 1)) (.slice Aq V cq) (.slice Ab V cb) (.slice Aj V cj) (.int .i64 (sumS k V L (nxtV k dm V s))) (.int .i64 (mosS k V s.vals (nxtV k dm V s) (nxtC k dm V s)))
    have hk1 := put6_moved HKI.out HRB.out (by decide) (.int .i64 (step + 1)) (.slice Aq V cq) (.slice Ab V cb) (.slice Aj V cj) (.int .i64 (sumS k V L (nxtV k dm V s))) (.int .i64 (mosS k V s.vals (nxtV k dm V s) (nxtC k dm V s)))
    obtain ⟨X, hXe⟩ : ∃ X, X = put6 w9 (n0 + 1 + 1) (.int .i64 (step + 1)) (.slice Aq V cq) (.slice Ab V cb) (.slice Aj V cj) (.int .i64 (sumS k V L (nxtV k dm V s))) (.int .i64 (mosS k V s.vals (nxtV k dm V s) (nxtC k dm V s))) := ⟨_, rfl⟩
    rw [← hXe] at hX hXo hBX hq1 hb1 hk1
    unfold put6 at hXe
    rw [← hXe]
    have hne : D ≠ n0 + 1 + 1 := by
      intro e
      have h1 := HD9.out
      rw [e, HRB.out] at h1; cases h1
    have hKX : X.heap[D]? = some (.deferred (some [])) := (hXo D hne).trans HD9.out
    have hP : (X.putObj D (.deferred none)).heap[n0 + 1 + 1]? = some (.cells #[.int .i64 (step + 1), .slice Aq V cq, .slice Ab V cb, .slice Aj V cj, .int .i64 (sumS k V L (nxtV k dm V s)), .int .i64 (mosS k V s.vals (nxtV k dm V s) (nxtC k dm V s))] 33 (0, 0)) := (World.putObj_heap_other (Ne.symm hne)).trans hX
    refine ⟨by simp, .inl ⟨_, _, rfl, run_takeDeferred hKX, _, res_s _ _ _ _ _ _ _ _ _ _ _ Tryz.results41 rfl hP, _, rfl, Lib.hid ⟨.slice Aq V cq, .slice Ab V cb, .slice Aj V cj, rfl, ?_, ?_, ?_⟩, Lib.hid (shut_below hBX HDW.out hKX _)⟩⟩
    · exact own_mono (own_shut hq1 hKX _) (by have := HN0.out; omega)
    · exact own_mono (own_shut hb1 hKX _) (by have := HN0.out; omega)
    · exact own_mono (own_shut hk1 hKX _) HT.out.below.size
  case stop =>
    rintro D cd pre W hD hS hF hK
    exact hF.elim

end Go.Proofs.YtbbmgandkmlojaaGreat.Sq

/-
  What is proved here: a contract of the state at first. Conditions: at most 512 vertices, at most 1000 edges.
-/
namespace Go.Proofs.YtbbmgandkmlojaaGreat.Sq
open Go.RowKit Go.Shelf Gr Wd Ws Fx Rk Lb Al In
open Pa (vl bt vl_of vl_at bt_of bt_at)
attribute [local go_sem] Oper.semAt_some

def svF (k so : Int) (V : Nat) (v : Nat) : Int := sttM k (V : Int) (v : Int) so
def scF (k so : Int) (v : Nat) : Bool := sttB k (v : Int) so

set_option maxRecDepth 100000 in
set_option maxHeartbeats 8000000 in
theorem sstart_any (k st so dm ep : Int) (V : Nat) (L : List Ed) (Ae : Option Addr) (ce be : Nat) (w : World)
    (hE : WOwn w be (.slice Ae V ce) (egs V L)) (hV : V ≤ 512) (hL : L.length ≤ 1000) (hfit : ∀ e ∈ L, fitE (V : Int) e = true) :
    Calls Tryz.prog 35 #[.agg #[.int .u8 k, .int .i64 st, .int .i64 so, .int .i64 dm, .int .i64 ep, .slice Ae V ce]] w fun e w' => ∃ x, e = .returned x ∧ Hid (SOwn w' w.heap.size x 0 (strS k so V L)) ∧ Hid (Below w.heap.size w w') := by
  have mixed := mixedI
  have HE := Lib.hid hE; have HFI := Lib.hid hfit
  clear hE hfit
  have f35 : Fence.wide.fn 35 := trivial
  refine (callsIn_wide (n := 6)).1 (callsIn_of_wp_marks Tryz.func35 rfl f35 ?_ rfl)
  refine (wpIn_wide (n := 6)).2 ?_
  simp only [Tryz.ntmps35, List.size_toArray, List.length_cons, List.length_nil, Nat.reduceAdd, Nat.reduceSub, Array.replicate_succ, Array.replicate_zero, List.push_toArray, List.append_toArray, List.nil_append, List.cons_append]
  obtain ⟨W4, hW4⟩ : ∃ W4, W4 = ((w.alloc (.cells #[.int .u8 k, .int .i64 st, .int .i64 so, .int .i64 dm, .int .i64 ep, .slice Ae V ce] 61)).alloc (.cells #[.int .i64 0, .slice none 0 0, .slice none 0 0, .slice none 0 0, .int .i64 0, .int .i64 0] 33)).alloc (.cells #[.int .i64 0, .slice none 0 0, .slice none 0 0, .slice none 0 0, .int .i64 0, .int .i64 0] 33) := ⟨_, rfl⟩
  have hal := al3 w (.cells #[.int .u8 k, .int .i64 st, .int .i64 so, .int .i64 dm, .int .i64 ep, .slice Ae V ce] 61) (.cells #[.int .i64 0, .slice none 0 0, .slice none 0 0, .slice none 0 0, .int .i64 0, .int .i64 0] 33) (.cells #[.int .i64 0, .slice none 0 0, .slice none 0 0, .slice none 0 0, .int .i64 0, .int .i64 0] 33)
  rw [← hW4] at hal
  obtain ⟨n0, e0⟩ : ∃ n0, n0 = w.heap.size := ⟨_, rfl⟩
  obtain ⟨fx, hfx⟩ : ∃ fx : Fxd, fx = [(n0, #[.int .u8 k, .int .i64 st, .int .i64 so, .int .i64 dm, .int .i64 ep, .slice Ae V ce], 61), (n0 + 1, #[.int .i64 0, .slice none 0 0, .slice none 0 0, .slice none 0 0, .int .i64 0, .int .i64 0], 33)] := ⟨_, rfl⟩
  have HH4 : Hid (NxH w W4 (n0 + 1 + 1) (n0 + 3) fx (.int .i64 0) (.slice none 0 0) (.int .i64 0) (.int .i64 0) [] [] (.slice none 0 0) (.slice none 0 0) (.slice none 0 0) (.slice none 0 0)) := Lib.hid (by
    refine ⟨hal.2.2.2, ?_, by rw [e0]; exact hal.2.2.1, QOwn.none_ _ _, BOwn.none_ _ _, ?_, by omega⟩
    · rw [hfx]; intro p hp
      simp only [List.mem_cons, List.not_mem_nil, or_false] at hp
      rcases hp with rfl | rfl
      · rw [e0]; exact hal.1
      · rw [e0]; exact hal.2.1
    · rw [hfx]; intro p hp
      simp only [List.mem_cons, List.not_mem_nil, or_false] at hp
      rcases hp with rfl | rfl
      · exact ⟨by simp only []; omega, by simp only []; decide, by simp only []; decide⟩
      · exact ⟨by simp only []; omega, by simp only []; decide, by simp only []; decide⟩)
  have HF0 : Hid (∀ W l1 l2 va ua vb ub, NxH w W (n0 + 1 + 1) (n0 + 3) fx (.int .i64 0) (.slice none 0 0) (.int .i64 0) (.int .i64 0) l1 l2 va ua vb ub → W.heap[n0]? = some (.cells #[.int .u8 k, .int .i64 st, .int .i64 so, .int .i64 dm, .int .i64 ep, .slice Ae V ce] 61 (0, 0))) := Lib.hid (fun W _ _ _ _ _ _ h => h.fixed (n0, #[.int .u8 k, .int .i64 st, .int .i64 so, .int .i64 dm, .int .i64 ep, .slice Ae V ce], 61) (by rw [hfx]; exact List.mem_cons_self))
  have HF2 : Hid (∀ W l1 l2 va ua vb ub, NxH w W (n0 + 1 + 1) (n0 + 3) fx (.int .i64 0) (.slice none 0 0) (.int .i64 0) (.int .i64 0) l1 l2 va ua vb ub → W.heap[n0 + 1]? = some (.cells #[.int .i64 0, .slice none 0 0, .slice none 0 0, .slice none 0 0, .int .i64 0, .int .i64 0] 33 (0, 0))) := Lib.hid (fun W _ _ _ _ _ _ h => h.fixed (n0 + 1, #[.int .i64 0, .slice none 0 0, .slice none 0 0, .slice none 0 0, .int .i64 0, .int .i64 0], 33) (by rw [hfx]; exact List.mem_cons_of_mem _ List.mem_cons_self))
  have HN0 : Hid (w.heap.size ≤ n0) := Lib.hid (by omega)
  have hs4 : W4.heap.size = n0 + 3 := by rw [hW4, e0]; simp
  clear hal hfx
  go_upto_region 2 with fail
  rw [← hW4, show w.heap.size = n0 from e0.symm]
  clear hW4 e0
  have HS4 := Lib.hid hs4
  clear hs4
  obtain ⟨c0, c1, c2, c3, c4, c5, cl⟩ := six (HF0.out _ _ _ _ _ _ _ HH4.out)
  go_wp2_with fail
  refine (vertices_any k st so dm ep Ae V ce W4).mono ?_
  rintro e W7 ⟨rfl, hW7⟩
  have hb7 : Below W4.heap.size W4 W7 := by rw [hW7]; exact (Below.refl _ W4).alloc (Nat.le_refl _) _
  have HH7 := Lib.hid (HH4.out.step hb7)
  have HI7 : Hid (ItV W7 W4.heap.size be k st so dm ep (.slice Ae V ce) (egs V L)) := Lib.hid ⟨by rw [hW7]; exact heap_alloc_new W4 _, (HE.out.below HH4.out.below).below hb7⟩
  obtain ⟨bv, ebv⟩ : ∃ bv, bv = W4.heap.size := ⟨_, rfl⟩
  rw [← ebv] at HI7 ⊢
  clear hW7 hb7 HH4 c0 c1 c2 c3 c4 c5 cl ebv HS4
  go_wp2_with fail
  refine (wpIn_wide (n := 6)).1 ?_
  refine Pt.wp_told (n := 6) (R' := fun (x : Vx) a' W => x.v < V ∧ a' = Act.mk #[.agg #[.int .u8 k, .int .i64 st, .int .i64 so, .int .i64 dm, .int .i64 ep, .slice Ae V ce], .pointer (some ⟨n0, 0, none⟩), .pointer (some ⟨n0 + 1, 0, none⟩), .pointer (some ⟨n0 + 1 + 1, 0, none⟩), .int .i64 (x.v : Int), undef, undef, .agg #[.int .u8 k, .int .i64 st, .int .i64 so, .int .i64 dm, .int .i64 ep, .slice Ae V ce], .func (.func 79) #[] #[.pointer (some ⟨bv, 0, none⟩)], .int .i64 (x.v : Int), .agg #[x.o, x.b], undef, undef, undef, undef, undef, undef, undef, undef, undef, undef, undef, undef, undef, undef, undef, undef, undef, undef, undef, undef, undef, undef, undef, undef, undef, undef, undef, undef] []) rfl (by omega) (gf := 79) (lb := #[.pointer (some ⟨bv, 0, none⟩)]) rfl trivial (enters_of Tryz.func79 (by kernel_rfl) rfl)
    (vert_told 5 (by omega) bv be k st so dm ep (.slice Ae V ce) (egs V L) V W7 HI7.out (egs_len V L) (by omega)) Kq.trans Kq.obj (Below.refl _ _) (fun _ => rfl)
    (fun _ _ _ _ _ _ _ _ h => h)
    (fun pre W => ∃ va vb, NxH w W (n0 + 1 + 1) (n0 + 3) fx (.int .i64 0) (.slice none 0 0) (.int .i64 0) (.int .i64 0) ((pre.map Vx.v).map (svF k so V)) ((pre.map Vx.v).map (scF k so)) va va vb vb)
    (fun _ _ _ => False)
    (fun s' A B row hs hg hr => by obtain ⟨va, vb, h⟩ := hs; exact ⟨va, vb, h.kept hg (fun r e => (hr r e).2) (fun r e => Nat.le_trans HH7.out.below.size (hr r e).1)⟩)
    (fun cd s' A B row hs hg hr => hs)
    ⟨_, _, HH7.out⟩ ?assign ?body ?done ?stop
  case assign =>
    intro lp pre x W K hI hR hK
    obtain ⟨L', B', g1, _, _⟩ := hR
    have hxl : x.v < V := by have := lt_at g1; rwa [egs_len] at this
    have HH := Lib.hid (hK _ _ (keeps_below (Below.refl _ W)) (Kq.refl W) hI ⟨hxl, rfl⟩)
    dsimp only [encsV]
    clear hK hI g1
    gi_wp2
    exact HH.out
  case body =>
    rintro lp pre x a' W ⟨va, vb, hT⟩ ⟨hxl, rfl⟩ hlen
    obtain ⟨ns, hns⟩ : ∃ ns, pre.map Vx.v = ns := ⟨_, rfl⟩
    rw [hns] at hT
    have hnl : ns.length = pre.length := by rw [← hns, List.length_map]
    have HNS := Lib.hid hns
    have HT := Lib.hid hT
    clear hns hT
    obtain ⟨xv, xo, xb⟩ := x
    try simp only at hxl ⊢
    -- region 4: where the vertex begins
    obtain ⟨nv, hnv⟩ : ∃ nv, nv = svF k so V xv := ⟨_, rfl⟩
    obtain ⟨nb, hnb⟩ : ∃ nb, nb = scF k so xv := ⟨_, rfl⟩
    have C1 : Hid (Calls Tryz.prog 56 #[.agg #[.int .u8 k, .int .i64 st, .int .i64 so, .int .i64 dm, .int .i64 ep], .int .i64 (V : Int), .int .i64 (xv : Int)] W fun e w' => e = .returned (.tuple #[.int .i64 nv, .bool nb]) ∧ Below W.heap.size W w') := Lib.hid (by
      rw [hnv, hnb]
      exact Al.start_any k st so dm ep (V : Int) (xv : Int) (by omega) (by omega) (by omega) (by omega) W)
    have HNV := Lib.hid hnv; have HNB := Lib.hid hnb
    clear hnv hnb
    obtain ⟨c0, c1, c2, c3, c4, c5, _⟩ := six (HF0.out _ _ _ _ _ _ _ HT.out)
    refine wpIn_block ?_
    refine wpIn_seq_k fun K5 hK5 => ?_
    refine Tl.region_round (by rfl) ?hq4 ?_
    case hq4 => rintro ⟨_, _, h⟩; exact h
    go_wp2_with fail
    refine C1.out.mono ?_
    rintro e W8 ⟨rfl, hb8⟩
    have HT8 := Lib.hid (HT.out.step hb8)
    have HK8 := Lib.hid (KK.below hb8)
    clear hb8 C1 HT c0 c1 c2 c3 c4 c5
    go_wp2
    -- region 5: its value
    refine wpIn_seq_k fun K6 hK6 => ?_
    refine Tl.region_round (by rfl) ?hq5 ?_
    case hq5 => rintro ⟨_, _, h⟩; exact h
    obtain ⟨Aq, cq, rfl, _⟩ := HT8.out.qo.form
    obtain ⟨Ab, cb, rfl, _⟩ := HT8.out.mo.form
    rw [List.length_map, List.length_map, hnl] at HT8
    have HLQ : Hid ((ns.map (svF k so V)).length < 1000000000) := Lib.hid (by rw [List.length_map, hnl]; omega)
    have HLB : Hid ((ns.map (scF k so)).length < 1000000000) := Lib.hid (by rw [List.length_map, hnl]; omega)
    obtain ⟨_, a1, _, _, _, _, _⟩ := six HT8.out.ob
    have hb9 : Below W8.heap.size W8 (W8.alloc (.cells #[.int .i64 nv] 2)) := (Below.refl _ W8).alloc (Nat.le_refl _) _
    have HT9 := Lib.hid (HT8.out.step hb9)
    have HQ9 := Lib.hid HT9.out.qo
    have HN9 : Hid ((W8.alloc (.cells #[.int .i64 nv] 2)).heap[W8.heap.size]? = some (.cells #[.int .i64 nv] 2 (0, 0))) := Lib.hid (heap_alloc_new W8 _)
    have HZ9 : Hid (n0 + 3 ≤ (W8.alloc (.cells #[.int .i64 nv] 2)).heap.size) := Lib.hid (lt_of_block HT9.out.ob)
    have HK9 := Lib.hid (HK8.out.trans (KK.below hb9))
    clear hb9
    go_wp2_with (at_builtin; refine app_q rfl (.tmp 22) (.tmp 24) rfl (n0 + 3) _ _ _ rfl HQ9.out _ rfl HN9.out HLQ.out HZ9.out ?_)
    intro v10 w10 ho10 hg10
    have HK10 := Lib.hid (HK9.out.trans (KK.grown HQ9.out hg10 (by decide) (by decide) (by decide)))
    have HT10 := Lib.hid (HT9.out.grownQ hg10 ho10)
    obtain ⟨A10, c10, rfl, _⟩ := ho10.form
    rw [show (ns.map (svF k so V) ++ [nv]).length = pre.length + 1 by simp [hnl]] at HT10 ⊢
    have HT11 := Lib.hid HT10.out.putQ
    have HK11 := Lib.hid (HK10.out.trans (KK.set (i := 1) HT10.out.ob (.slice A10 (pre.length + 1) c10) (by decide) (by decide) (by decide)))
    have fr10 := warm HT10.out.ob 1
    obtain ⟨_, a11, _, _, _, _, _⟩ := six HT10.out.ob
    obtain ⟨W11, hW11⟩ : ∃ W11, W11 = w10.setCell ⟨n0 + 1 + 1, 1, none⟩ (.slice A10 (pre.length + 1) c10) := ⟨_, rfl⟩
    rw [← hW11] at HT11 HK11
    clear ho10 hg10 HQ9 HT9 HN9 HLQ HZ9 HK9 HT8 HK8 a1 HK10
    go_wp2
    rw [← hW11]
    clear hW11 a11 fr10 HT10
    -- region 6: its mark
    refine Tl.region_round (by rfl) ?hq6 ?_
    case hq6 => rintro ⟨_, _, h⟩; exact h
    obtain ⟨_, _, a2, _, _, _, _⟩ := six HT11.out.ob
    have hb12 : Below W11.heap.size W11 (W11.alloc (.cells #[.bool nb] 4)) := (Below.refl _ W11).alloc (Nat.le_refl _) _
    have HT12 := Lib.hid (HT11.out.step hb12)
    have HQ12 := Lib.hid HT12.out.mo
    have HN12 : Hid ((W11.alloc (.cells #[.bool nb] 4)).heap[W11.heap.size]? = some (.cells #[.bool nb] 4 (0, 0))) := Lib.hid (heap_alloc_new W11 _)
    have HZ12 : Hid (n0 + 3 ≤ (W11.alloc (.cells #[.bool nb] 4)).heap.size) := Lib.hid (lt_of_block HT12.out.ob)
    have HK12 := Lib.hid (HK11.out.trans (KK.below hb12))
    clear hb12
    go_wp2_with (at_builtin; refine app_b rfl (.tmp 28) (.tmp 30) rfl (n0 + 3) _ _ _ rfl HQ12.out _ rfl HN12.out HLB.out HZ12.out ?_)
    intro v13 w13 ho13 hg13
    have HK13 := Lib.hid (HK12.out.trans (KK.grown HQ12.out hg13 (by decide) (by decide) (by decide)))
    have HT13 := Lib.hid (HT12.out.grownB hg13 ho13)
    obtain ⟨A13, c13, rfl, _⟩ := ho13.form
    rw [show (ns.map (scF k so) ++ [nb]).length = pre.length + 1 by simp [hnl]] at HT13 ⊢
    have HT14 := Lib.hid HT13.out.putB
    have HK14 := Lib.hid (HK13.out.trans (KK.set (i := 2) HT13.out.ob (.slice A13 (pre.length + 1) c13) (by decide) (by decide) (by decide)))
    have fr13 := warm HT13.out.ob 2
    obtain ⟨_, _, a12, _, _, _, _⟩ := six HT13.out.ob
    rw [HNV.out, HNB.out] at HT14
    have e1 : ns.map (svF k so V) ++ [svF k so V xv] = ((pre ++ [(⟨xv, xo, xb⟩ : Vx)]).map Vx.v).map (svF k so V) := by rw [List.map_append, HNS.out, List.map_append]; rfl
    have e2 : ns.map (scF k so) ++ [scF k so xv] = ((pre ++ [(⟨xv, xo, xb⟩ : Vx)]).map Vx.v).map (scF k so) := by rw [List.map_append, HNS.out, List.map_append]; rfl
    rw [e1, e2] at HT14
    clear ho13 hg13 HQ12 HT12 HN12 HLB HZ12 HK12 HT11 HK11 a2 HK13 HT13 HNV HNB e1 e2
    go_wp2
    have h14 := HT14.out
    simp only [List.map_map] at h14
    exact ⟨HK14.out.1, HK14.out.2, _, _, h14⟩
  case done =>
    rintro D xs W hD hxs ⟨va, vb, hT⟩ hK
    rw [hxs] at hT
    have HT := Lib.hid hT; have HDK := Lib.hid hK
    have HDW : Hid (w.heap.size ≤ D) := Lib.hid (Nat.le_trans HH7.out.below.size hD)
    clear hT hK hxs hD
    obtain ⟨Aq, cq, rfl, hqa⟩ := HT.out.qo.form
    obtain ⟨Ab, cb, rfl, hba⟩ := HT.out.mo.form
    rw [List.length_map, List.length_map, List.length_range] at HT
    have HIR : Hid (∀ x ∈ strV k so V, I63 x) := Lib.hid (fun x hx => (strV_in hV x hx).i63)
    have HTL := Lib.hid (tell_any k st so dm ep V L Ae Aq Ab Aq ce cq cb cq (n0 + 1 + 1) be (strV k so V) (strV k so V) (strC k so V) (.int .i64 0) (.slice none 0 0) (.int .i64 0) (.int .i64 0) W (HE.out.below HT.out.below) HT.out.ob hqa hba hqa (by simp [strV]) (by simp [strC]) (by simp [strV]) HIR.out HIR.out hV hL HFI.out)
    clear hqa hba
    obtain ⟨c0, c1, c2, c3, c4, c5, _⟩ := six (HF0.out _ _ _ _ _ _ _ HT.out)
    obtain ⟨_, d1, _, _, _, _, _⟩ := six HT.out.ob
    go_wp2_with fail
    refine HTL.out.mono ?_
    rintro e w9 ⟨⟨v9, rfl⟩, h9⟩
    obtain ⟨vi, hbx, hki, hg9⟩ := h9.out
    obtain ⟨Aj, cj, rfl, _⟩ := hki.room
    rw [inb_len] at hki hbx
    have HBX := Lib.hid hbx; have HKI := Lib.hid hki; have HG9 := Lib.hid hg9
    have hrb : w9.heap[n0 + 1]? = some (.cells #[.int .i64 0, .slice none 0 0, .slice none 0 0, .slice none 0 0, .int .i64 0, .int .i64 0] 33 (0, 0)) := (hg9.block _ (lt_of_block (HF2.out _ _ _ _ _ _ _ HT.out)) (by intro e; have := Option.some.inj e; omega)).trans (HF2.out _ _ _ _ _ _ _ HT.out)
    have hdk : w9.heap[D]? = some (.deferred (some [])) := (hg9.block _ (lt_of_block HDK.out) (by
      intro e
      have e := Option.some.inj e
      have h1 := HDK.out
      rw [e, HT.out.ob] at h1; cases h1)).trans HDK.out
    have HRB := Lib.hid hrb; have HD9 := Lib.hid hdk
    have HQ9 := Lib.hid (own_by HT.out.qo HT.out.ob (by decide) hg9); have HM9 := Lib.hid (own_by HT.out.mo HT.out.ob (by decide) hg9)
    have HB9 : Hid (Below w.heap.size w w9) := Lib.hid (Below.grown HT.out.below hg9 HT.out.below.size (fun j e => by have e := Option.some.inj e; have := HN0.out; omega))
    clear hbx hki hg9 hrb hdk h9 HTL c0 c1 c2 c3 c4 c5 d1
    obtain ⟨_, _, _, _, _, s5, _⟩ := six HBX.out
    have g5 := warm HBX.out 5
    obtain ⟨W10, hW10⟩ : ∃ W10, W10 = w9.setCell ⟨n0 + 1 + 1, 5, none⟩ (.int .i64 0) := ⟨_, rfl⟩
    have ho10 : ∀ j, j ≠ n0 + 1 + 1 → W10.heap[j]? = w9.heap[j]? := fun j hj => by rw [hW10]; exact set_other _ _ _ _ _ hj
    have hbx10 : W10.heap[n0 + 1 + 1]? = some (.cells #[.int .i64 0, .slice Aq V cq, .slice Ab V cb, .slice Aj V cj, .int .i64 (sumS k V L (strV k so V)), .int .i64 0] 33 (0, 0)) := by rw [hW10]; exact set_heap (i := 5) HBX.out (.int .i64 0)
    have HBX10 := Lib.hid hbx10
    have HRB10 := Lib.hid ((ho10 _ (by omega)).trans HRB.out)
    have HQ10 := Lib.hid (own_moved HQ9.out HBX.out (by decide) ho10); have HM10 := Lib.hid (own_moved HM9.out HBX.out (by decide) ho10); have HK10 := Lib.hid (own_moved HKI.out HBX.out (by decide) ho10)
    have HB10 : Hid (Below w.heap.size w W10) := Lib.hid (by rw [hW10]; exact HB9.out.setCell (p := ⟨n0 + 1 + 1, 5, none⟩) (by show w.heap.size ≤ n0 + 1 + 1; have := HN0.out; omega) _)
    have HD10 : Hid (W10.heap[D]? = some (.deferred (some []))) := Lib.hid ((ho10 D (by
      intro e
      have h1 := HD9.out
      rw [e, HBX.out] at h1; cases h1)).trans HD9.out)
    have HW10 := Lib.hid hW10
    clear hbx10 ho10 hW10
    go_upto_region 9 with fail
    rw [← HW10.out]
    clear s5 g5
    obtain ⟨s0, s1, s2, s3, s4, s5, _⟩ := six HBX10.out
    obtain ⟨r0, r1, r2, r3, r4, r5, rl⟩ := six HRB10.out
    have f0 := warm HRB10.out 0; have f1 := warm HRB10.out 1; have f2 := warm HRB10.out 2; have f3 := warm HRB10.out 3; have f4 := warm HRB10.out 4; have f5 := warm HRB10.out 5
    go_wp2
    have hX := put6_heap HRB10.out (.int .i64 0) (.slice Aq V cq) (.slice Ab V cb) (.slice Aj V cj) (.int .i64 (sumS k V L (strV k so V))) (.int .i64 0)
    have hXo : ∀ j, j ≠ n0 + 1 → (put6 W10 (n0 + 1) (.int .i64 0) (.slice Aq V cq) (.slice Ab V cb) (.slice Aj V cj) (.int .i64 (sumS k V L (strV k so V))) (.int .i64 0)).heap[j]? = W10.heap[j]? := fun j hj => put6_other _ _ _ _ _ _ _ _ _ hj
    have hBX := put6_below HB10.out (b := n0 + 1) (by have := HN0.out; omega) (.int .i64 0) (.slice Aq V cq) (.slice Ab V cb) (.slice Aj V cj) (.int .i64 (sumS k V L (strV k so V))) (.int .i64 0)
    have hq1 := put6_moved HQ10.out HRB10.out (by decide) (.int .i64 0) (.slice Aq V cq) (.slice Ab V cb) (.slice Aj V cj) (.int .i64 (sumS k V L (strV k so V))) (.int .i64 0)
    have hb1 := put6_moved HM10.out HRB10.out (by decide) (.int .i64 0) (.slice Aq V cq) (.slice Ab V cb) (.slice Aj V cj) (.int .i64 (sumS k V L (strV k so V))) (.int .i64 0)
    have hk1 := put6_moved HK10.out HRB10.out (by decide) (.int .i64 0) (.slice Aq V cq) (.slice Ab V cb) (.slice Aj V cj) (.int .i64 (sumS k V L (strV k so V))) (.int .i64 0)
    obtain ⟨X, hXe⟩ : ∃ X, X = put6 W10 (n0 + 1) (.int .i64 0) (.slice Aq V cq) (.slice Ab V cb) (.slice Aj V cj) (.int .i64 (sumS k V L (strV k so V))) (.int .i64 0) := ⟨_, rfl⟩
    rw [← hXe] at hX hXo hBX hq1 hb1 hk1
    unfold put6 at hXe
    rw [← hXe]
    have hne : D ≠ n0 + 1 := by
      intro e
      have h1 := HD10.out
      rw [e, HRB10.out] at h1; cases h1
    have hKX : X.heap[D]? = some (.deferred (some [])) := (hXo D hne).trans HD10.out
    have hP : (X.putObj D (.deferred none)).heap[n0 + 1]? = some (.cells #[.int .i64 0, .slice Aq V cq, .slice Ab V cb, .slice Aj V cj, .int .i64 (sumS k V L (strV k so V)), .int .i64 0] 33 (0, 0)) := (World.putObj_heap_other (Ne.symm hne)).trans hX
    refine ⟨by simp, .inl ⟨_, _, rfl, run_takeDeferred hKX, _, res_s _ _ _ _ _ _ _ _ _ _ _ Tryz.results35 rfl hP, _, rfl, Lib.hid ⟨.slice Aq V cq, .slice Ab V cb, .slice Aj V cj, rfl, ?_, ?_, ?_⟩, Lib.hid (shut_below hBX HDW.out hKX _)⟩⟩
    · exact own_mono (own_shut hq1 hKX _) (by have := HN0.out; omega)
    · exact own_mono (own_shut hb1 hKX _) (by have := HN0.out; omega)
    · exact own_mono (own_shut hk1 hKX _) HT.out.below.size
  case stop =>
    rintro D cd pre W hD hS hF hK
    exact hF.elim

end Go.Proofs.YtbbmgandkmlojaaGreat.Sq

/-
  What is proved here: contracts of what tells whether two rows, and two states, are the same. Conditions: counts fit an int.
-/
namespace Go.Proofs.YtbbmgandkmlojaaGreat.Sq
open Go.RowKit Gr Wd Ws Fx Rk Lb Al In

def SqRel (w : World) (L M : List Int) (g : Nat) (i : Value) (wr : World) : Prop :=
  ∃ k : Nat, k + g = L.length ∧ i = .int .i64 (k : Int) ∧ Below w.heap.size w wr ∧ decide (L = M) = decide (L.drop k = M.drop k)
def SbRel (w : World) (L M : List Bool) (g : Nat) (i : Value) (wr : World) : Prop :=
  ∃ k : Nat, k + g = L.length ∧ i = .int .i64 (k : Int) ∧ Below w.heap.size w wr ∧ decide (L = M) = decide (L.drop k = M.drop k)
set_option maxRecDepth 100000 in
set_option maxHeartbeats 600000 in
theorem equalQ_any (A B : Option Addr) (n m c d : Nat) (L M : List Int) (w : World) (hL : IAt w A L) (hM : IAt w B M) (hn : L.length = n) (hm : M.length = m) (hl : n ≤ 9223372036854775807) (_hm2 : m ≤ 9223372036854775807) :
    Calls Tryz.prog 44 #[.slice A n c, .slice B m d] w fun e w' => e = .returned (.bool (decide (L = M))) ∧ Below w.heap.size w w' := by
  have mixed := mixedI
  have HL := Lib.hid hL; have HM := Lib.hid hM; have HLn := Lib.hid hn; have HMm := Lib.hid hm; clear hL hM hn hm
  obtain ⟨R, hR⟩ : ∃ R, decide (L = M) = R := ⟨_, rfl⟩
  rw [hR]
  have HR := Lib.hid hR; clear hR
  by_cases hlm : n = m
  · subst hlm
    go_enter Tryz.func44, Tryz.ntmps44
    go_wp2
    go_loopg [13] n (fun g i wr => SqRel w L M g i wr)
    case atStart => exact ⟨0, by have := HLn.out; omega, rfl, Below.refl _ w, rfl⟩
    case round =>
      obtain ⟨k, hk, rfl, hb, hd⟩ := hrel
      rw [HLn.out] at hk
      by_cases hlt : k < n
      · obtain ⟨e, he⟩ := at_lt L k (by rw [HLn.out]; exact hlt)
        obtain ⟨f, hf⟩ := at_lt M k (by rw [HMm.out]; exact hlt)
        obtain ⟨bk, o, rfl, c0⟩ := (HL.out.below hb) k e he
        obtain ⟨bk', o', rfl, d0⟩ := (HM.out.below hb) k f hf
        rw [drop_at he, drop_at hf] at hd
        have HB := Lib.hid hb; have HD := Lib.hid hd
        clear hb hd he hf
        by_cases hef : e = f
        · subst hef
          go_wp2
          go_quiet (fail)
          go_wp2
          go_roundg (gk - 1)
          case measure => omega
          case rel =>
            refine ⟨k + 1, by have := HLn.out; omega, by go_num, Ws.below_drewN HB.out _, ?_⟩
            rw [HD.out]; simp
        · go_wp2
          go_quiet (fail)
          go_wp2
          go_ret
          refine ⟨ret_b ?_, Ws.below_drewN HB.out _⟩
          rw [← HR.out, HD.out]
          simp only [List.cons.injEq, hef, false_and, decide_false]
      · have HB := Lib.hid hb; have HD := Lib.hid hd
        have HK : Hid (k = n) := Lib.hid (by omega)
        clear hb hd
        go_wp2
        go_ret
        refine ⟨ret_b ?_, HB.out⟩
        rw [← HR.out, HD.out, HK.out]
        rw [List.drop_eq_nil_of_le (by rw [HLn.out]; exact Nat.le_refl _), List.drop_eq_nil_of_le (by rw [HMm.out]; exact Nat.le_refl _)]; simp
  · have hne : R = false := by
      rw [← HR.out]
      exact decide_eq_false fun h => hlm (by rw [← HLn.out, ← HMm.out, h])
    subst hne
    go_enter Tryz.func44, Tryz.ntmps44
    go_wp2
    go_ret
    exact ⟨rfl, Below.refl _ w⟩
set_option maxRecDepth 100000 in
set_option maxHeartbeats 600000 in
theorem equalB_any (A B : Option Addr) (n m c d : Nat) (L M : List Bool) (w : World) (hL : BAt w A L) (hM : BAt w B M) (hn : L.length = n) (hm : M.length = m) (hl : n ≤ 9223372036854775807) (_hm2 : m ≤ 9223372036854775807) :
    Calls Tryz.prog 45 #[.slice A n c, .slice B m d] w fun e w' => e = .returned (.bool (decide (L = M))) ∧ Below w.heap.size w w' := by
  have mixed := mixedI
  have HL := Lib.hid hL; have HM := Lib.hid hM; have HLn := Lib.hid hn; have HMm := Lib.hid hm; clear hL hM hn hm
  obtain ⟨R, hR⟩ : ∃ R, decide (L = M) = R := ⟨_, rfl⟩
  rw [hR]
  have HR := Lib.hid hR; clear hR
  by_cases hlm : n = m
  · subst hlm
    go_enter Tryz.func45, Tryz.ntmps45
    go_wp2
    go_loopg [13] n (fun g i wr => SbRel w L M g i wr)
    case atStart => exact ⟨0, by have := HLn.out; omega, rfl, Below.refl _ w, rfl⟩
    case round =>
      obtain ⟨k, hk, rfl, hb, hd⟩ := hrel
      rw [HLn.out] at hk
      by_cases hlt : k < n
      · obtain ⟨e, he⟩ := at_lt L k (by rw [HLn.out]; exact hlt)
        obtain ⟨f, hf⟩ := at_lt M k (by rw [HMm.out]; exact hlt)
        obtain ⟨bk, o, rfl, c0⟩ := (HL.out.below hb) k e he
        obtain ⟨bk', o', rfl, d0⟩ := (HM.out.below hb) k f hf
        rw [drop_at he, drop_at hf] at hd
        have HB := Lib.hid hb; have HD := Lib.hid hd
        clear hb hd he hf
        rcases e with _ | _ <;> rcases f with _ | _
        · go_wp2
          go_quiet (fail)
          go_wp2
          go_roundg (gk - 1)
          case measure => omega
          case rel =>
            refine ⟨k + 1, by have := HLn.out; omega, by go_num, Ws.below_drewN HB.out _, ?_⟩
            rw [HD.out]; simp
        · go_wp2
          go_quiet (fail)
          go_wp2
          go_ret
          refine ⟨ret_b ?_, Ws.below_drewN HB.out _⟩
          rw [← HR.out, HD.out]
          simp
        · go_wp2
          go_quiet (fail)
          go_wp2
          go_ret
          refine ⟨ret_b ?_, Ws.below_drewN HB.out _⟩
          rw [← HR.out, HD.out]
          simp
        · go_wp2
          go_quiet (fail)
          go_wp2
          go_roundg (gk - 1)
          case measure => omega
          case rel =>
            refine ⟨k + 1, by have := HLn.out; omega, by go_num, Ws.below_drewN HB.out _, ?_⟩
            rw [HD.out]; simp
      · have HB := Lib.hid hb; have HD := Lib.hid hd
        have HK : Hid (k = n) := Lib.hid (by omega)
        clear hb hd
        go_wp2
        go_ret
        refine ⟨ret_b ?_, HB.out⟩
        rw [← HR.out, HD.out, HK.out]
        rw [List.drop_eq_nil_of_le (by rw [HLn.out]; exact Nat.le_refl _), List.drop_eq_nil_of_le (by rw [HMm.out]; exact Nat.le_refl _)]; simp
  · have hne : R = false := by
      rw [← HR.out]
      exact decide_eq_false fun h => hlm (by rw [← HLn.out, ← HMm.out, h])
    subst hne
    go_enter Tryz.func45, Tryz.ntmps45
    go_wp2
    go_ret
    exact ⟨rfl, Below.refl _ w⟩
set_option maxRecDepth 100000 in
set_option maxHeartbeats 600000 in
theorem kitq_any (A B : Option Addr) (n m c d : Nat) (L M : List Int) (w : World) (hL : IAt w A L) (hM : IAt w B M) (hn : L.length = n) (hm : M.length = m) (hl : n ≤ 9223372036854775807) (_hm2 : m ≤ 9223372036854775807) :
    Calls Tryz.prog 27 #[.slice A n c, .slice B m d] w fun e w' => e = .returned (.bool (decide (L = M))) ∧ Below w.heap.size w w' := by
  have mixed := mixedI
  have HL := Lib.hid hL; have HM := Lib.hid hM; have HLn := Lib.hid hn; have HMm := Lib.hid hm; clear hL hM hn hm
  obtain ⟨R, hR⟩ : ∃ R, decide (L = M) = R := ⟨_, rfl⟩
  rw [hR]
  have HR := Lib.hid hR; clear hR
  by_cases hlm : n = m
  · subst hlm
    go_enter Tryz.func27, Tryz.ntmps27
    go_wp2
    go_loopg [5] n (fun g i wr => SqRel w L M g i wr)
    case atStart => exact ⟨0, by have := HLn.out; omega, rfl, Below.refl _ w, rfl⟩
    case round =>
      obtain ⟨k, hk, rfl, hb, hd⟩ := hrel
      rw [HLn.out] at hk
      by_cases hlt : k < n
      · obtain ⟨e, he⟩ := at_lt L k (by rw [HLn.out]; exact hlt)
        obtain ⟨f, hf⟩ := at_lt M k (by rw [HMm.out]; exact hlt)
        obtain ⟨bk, o, rfl, c0⟩ := (HL.out.below hb) k e he
        obtain ⟨bk', o', rfl, d0⟩ := (HM.out.below hb) k f hf
        rw [drop_at he, drop_at hf] at hd
        have HB := Lib.hid hb; have HD := Lib.hid hd
        clear hb hd he hf
        by_cases hef : e = f
        · subst hef
          go_wp2
          go_quiet (fail)
          go_wp2
          go_roundg (gk - 1)
          case measure => omega
          case rel =>
            refine ⟨k + 1, by have := HLn.out; omega, by go_num, Ws.below_drewN HB.out _, ?_⟩
            rw [HD.out]; simp
        · go_wp2
          go_quiet (fail)
          go_wp2
          go_ret
          refine ⟨ret_b ?_, Ws.below_drewN HB.out _⟩
          rw [← HR.out, HD.out]
          simp only [List.cons.injEq, hef, false_and, decide_false]
      · have HB := Lib.hid hb; have HD := Lib.hid hd
        have HK : Hid (k = n) := Lib.hid (by omega)
        clear hb hd
        go_wp2
        go_ret
        refine ⟨ret_b ?_, HB.out⟩
        rw [← HR.out, HD.out, HK.out]
        rw [List.drop_eq_nil_of_le (by rw [HLn.out]; exact Nat.le_refl _), List.drop_eq_nil_of_le (by rw [HMm.out]; exact Nat.le_refl _)]; simp
  · have hne : R = false := by
      rw [← HR.out]
      exact decide_eq_false fun h => hlm (by rw [← HLn.out, ← HMm.out, h])
    subst hne
    go_enter Tryz.func27, Tryz.ntmps27
    go_wp2
    go_ret
    exact ⟨rfl, Below.refl _ w⟩
/- Two states. -/
def sameS (p q : Int) (a b : Sq) : Bool := decide (p = q) && (decide (a.sum = b.sum) && (decide (a.most = b.most) && (decide (a.vals = b.vals) && (decide (a.chg = b.chg) && sameB a.inb b.inb))))
theorem sameB_refl : ∀ l : List Ml, sameB l l = true
  | [] => rfl
  | x :: l => by rw [sameB_cons, sameB_refl l]; unfold eqM; simp
theorem sameS_refl (p : Int) (a : Sq) : sameS p p a a = true := by unfold sameS; simp [sameB_refl]
/- A state that can be read. -/
structure SAt (w : World) (Av Ac Ai : Option Addr) (nv nc ni : Nat) (s : Sq) : Prop where
  v : IAt w Av s.vals
  c : BAt w Ac s.chg
  i : KAt w Ai s.inb
  nv : s.vals.length = nv
  nc : s.chg.length = nc
  ni : s.inb.length = ni
theorem SAt.below {w w' : World} {Av Ac Ai : Option Addr} {nv nc ni : Nat} {s : Sq} (h : SAt w Av Ac Ai nv nc ni s) (hb : Below w.heap.size w w') : SAt w' Av Ac Ai nv nc ni s := ⟨h.v.below hb, h.c.below hb, h.i.below hb, h.nv, h.nc, h.ni⟩
set_option maxRecDepth 100000 in
set_option maxHeartbeats 2000000 in
theorem seqSame_any (p q : Int) (a b : Sq) (Av Ac Ai Bv Bc Bi : Option Addr) (nv nc ni cv cc ci mv mc mi dv dc di : Nat) (w : World) (ha : SAt w Av Ac Ai nv nc ni a) (hb : SAt w Bv Bc Bi mv mc mi b)
    (h1 : nv ≤ 9223372036854775807) (h2 : nc ≤ 9223372036854775807) (h3 : ni ≤ 9223372036854775807) (g1 : mv ≤ 9223372036854775807) (g2 : mc ≤ 9223372036854775807) (g3 : mi ≤ 9223372036854775807) :
    Calls Tryz.prog 23 #[.agg #[.int .i64 p, .slice Av nv cv, .slice Ac nc cc, .slice Ai ni ci, .int .i64 a.sum, .int .i64 a.most], .agg #[.int .i64 q, .slice Bv mv dv, .slice Bc mc dc, .slice Bi mi di, .int .i64 b.sum, .int .i64 b.most]] w fun e w' => e = .returned (.bool (sameS p q a b)) ∧ Below w.heap.size w w' := by
  have HA := Lib.hid ha; have HB := Lib.hid hb
  clear ha hb
  obtain ⟨sa, esa⟩ : ∃ sa, sa = a.sum := ⟨_, rfl⟩
  obtain ⟨ma, eam⟩ : ∃ ma, ma = a.most := ⟨_, rfl⟩
  obtain ⟨sb, ebs⟩ : ∃ sb, sb = b.sum := ⟨_, rfl⟩
  obtain ⟨mb, ebm⟩ : ∃ mb, mb = b.most := ⟨_, rfl⟩
  obtain ⟨r, hr⟩ : ∃ r, sameS p q a b = r := ⟨_, rfl⟩
  rw [hr]
  unfold sameS at hr
  rw [← esa, ← eam, ← ebs, ← ebm] at hr ⊢
  clear esa eam ebs ebm
  obtain ⟨W2, hW2⟩ : ∃ W2, W2 = (w.alloc (.cells #[.int .i64 p, .slice Av nv cv, .slice Ac nc cc, .slice Ai ni ci, .int .i64 sa, .int .i64 ma] 33)).alloc (.cells #[.int .i64 q, .slice Bv mv dv, .slice Bc mc dc, .slice Bi mi di, .int .i64 sb, .int .i64 mb] 33) := ⟨_, rfl⟩
  have hal := al2 w (.cells #[.int .i64 p, .slice Av nv cv, .slice Ac nc cc, .slice Ai ni ci, .int .i64 sa, .int .i64 ma] 33) (.cells #[.int .i64 q, .slice Bv mv dv, .slice Bc mc dc, .slice Bi mi di, .int .i64 sb, .int .i64 mb] 33)
  rw [← hW2] at hal
  have HB2 := Lib.hid hal.2.2
  have HX := Lib.hid hal.1; have HY := Lib.hid hal.2.1
  obtain ⟨b0, e0⟩ : ∃ b0, b0 = w.heap.size := ⟨_, rfl⟩
  obtain ⟨b1, e1⟩ : ∃ b1, b1 = w.heap.size + 1 := ⟨_, rfl⟩
  rw [← e0] at HX
  rw [← e1] at HY
  obtain ⟨x0, x1, x2, x3, x4, x5, _⟩ := six HX.out
  obtain ⟨y0, y1, y2, y3, y4, y5, _⟩ := six HY.out
  clear hal
  by_cases k1 : p = q
  · by_cases k2 : sa = sb
    · by_cases k3 : ma = mb
      · rw [decide_eq_true k1, decide_eq_true k2, decide_eq_true k3, Bool.true_and, Bool.true_and, Bool.true_and] at hr
        subst k1; subst k2; subst k3
        obtain ⟨t1, ht1⟩ : ∃ t, decide (a.vals = b.vals) = t := ⟨_, rfl⟩
        obtain ⟨t2, ht2⟩ : ∃ t, decide (a.chg = b.chg) = t := ⟨_, rfl⟩
        obtain ⟨t3, ht3⟩ : ∃ t, sameB a.inb b.inb = t := ⟨_, rfl⟩
        rw [ht1, ht2, ht3] at hr
        have HC1 := Lib.hid (fun W (h : Below w.heap.size w W) => equalQ_any Av Bv nv mv cv dv a.vals b.vals W (HA.out.v.below h) (HB.out.v.below h) HA.out.nv HB.out.nv h1 g1)
        have HC2 := Lib.hid (fun W (h : Below w.heap.size w W) => equalB_any Ac Bc nc mc cc dc a.chg b.chg W (HA.out.c.below h) (HB.out.c.below h) HA.out.nc HB.out.nc h2 g2)
        have HC3 := Lib.hid (fun W (h : Below w.heap.size w W) => In.same_any Ai Bi ni mi ci di a.inb b.inb W (HA.out.i.below h) (HB.out.i.below h) HA.out.ni HB.out.ni h3 g3)
        rw [ht1] at HC1; rw [ht2] at HC2; rw [ht3] at HC3
        clear ht1 ht2 ht3 h1 h2 h3 g1 g2 g3
        go_enter Tryz.func23, Tryz.ntmps23
        go_upto_region 1 with fail
        rw [← hW2, show w.heap.size + 1 = b1 from e1.symm, show w.heap.size = b0 from e0.symm]
        clear hW2 e0 e1
        go_wp2_with fail
        refine (HC1.out _ HB2.out).mono ?_
        rintro e w3 ⟨rfl, hb3⟩
        have HB3 := Lib.hid (step_below HB2.out HB2.out.size hb3)
        have HX3 := Lib.hid (keep HX.out hb3); have HY3 := Lib.hid (keep HY.out hb3)
        clear hb3 x0 x1 x2 x3 x4 x5 y0 y1 y2 y3 y4 y5
        obtain ⟨x0, x1, x2, x3, x4, x5, _⟩ := six HX3.out
        obtain ⟨y0, y1, y2, y3, y4, y5, _⟩ := six HY3.out
        cases t1 with
        | false =>
          obtain rfl : false = r := by rw [← hr]; rfl
          go_wp2_with fail
          go_ret
          exact ⟨rfl, HB3.out⟩
        | true =>
          go_wp2_with fail
          refine (HC2.out _ HB3.out).mono ?_
          rintro e w4 ⟨rfl, hb4⟩
          have HB4 := Lib.hid (step_below HB3.out HB3.out.size hb4)
          have HX4 := Lib.hid (keep HX3.out hb4); have HY4 := Lib.hid (keep HY3.out hb4)
          clear hb4 x0 x1 x2 x3 x4 x5 y0 y1 y2 y3 y4 y5
          obtain ⟨x0, x1, x2, x3, x4, x5, _⟩ := six HX4.out
          obtain ⟨y0, y1, y2, y3, y4, y5, _⟩ := six HY4.out
          cases t2 with
          | false =>
            obtain rfl : false = r := by rw [← hr]; rfl
            go_wp2_with fail
            go_ret
            exact ⟨rfl, HB4.out⟩
          | true =>
            go_wp2_with fail
            refine (HC3.out _ HB4.out).mono ?_
            rintro e w5 ⟨rfl, hb5⟩
            have HB5 := Lib.hid (step_below HB4.out HB4.out.size hb5.out)
            obtain rfl : t3 = r := by rw [← hr]; rfl
            clear hb5 x0 x1 x2 x3 x4 x5 y0 y1 y2 y3 y4 y5
            go_wp2_with fail
            go_ret
            exact ⟨rfl, HB5.out⟩
      · obtain rfl : false = r := by rw [← hr]; rw [decide_eq_false k3]; simp
        clear hr
        subst k1; subst k2
        go_enter Tryz.func23, Tryz.ntmps23
        go_upto_region 1 with fail
        rw [← hW2, show w.heap.size + 1 = b1 from e1.symm, show w.heap.size = b0 from e0.symm]
        clear hW2 e0 e1
        go_wp2_with fail
        go_ret
        exact ⟨rfl, HB2.out⟩
    · obtain rfl : false = r := by rw [← hr]; rw [decide_eq_false k2]; simp
      clear hr
      subst k1
      go_enter Tryz.func23, Tryz.ntmps23
      go_upto_region 1 with fail
      rw [← hW2, show w.heap.size + 1 = b1 from e1.symm, show w.heap.size = b0 from e0.symm]
      clear hW2 e0 e1
      go_wp2_with fail
      go_ret
      exact ⟨rfl, HB2.out⟩
  · obtain rfl : false = r := by rw [← hr]; rw [decide_eq_false k1]; simp
    clear hr
    go_enter Tryz.func23, Tryz.ntmps23
    go_upto_region 1 with fail
    rw [← hW2, show w.heap.size + 1 = b1 from e1.symm, show w.heap.size = b0 from e0.symm]
    clear hW2 e0 e1
    go_wp2_with fail
    go_ret
    exact ⟨rfl, HB2.out⟩

end Go.Proofs.YtbbmgandkmlojaaGreat.Sq

/-
  What is proved here: contracts of what tells whether a state may be: the program's and the document's. Conditions: counts fit an int.
-/
namespace Go.Proofs.YtbbmgandkmlojaaGreat.Sq
open Go.RowKit Gr Wd Ws Fx Rk Lb Al In
open Pa (vl bt vl_of vl_at bt_of bt_at)

def mayB (V st : Int) (s : Sq) : Bool := decide (0 ≤ st) && (decide (st ≤ 2000) && (inB s.sum && (inB s.most && (decide ((s.vals.length : Int) = V) && (decide ((s.chg.length : Int) = V) && (decide ((s.inb.length : Int) = V) && ((!s.vals.any fun x => !inB x) && !s.inb.any badB)))))))
theorem mayB_iff (V : Nat) (st : Int) (s : Sq) : mayB (V : Int) st s = true ↔ (0 ≤ st ∧ st ≤ 2000) ∧ MayS V s := by
  have key : (!s.vals.any fun x => !inB x) = true ↔ ∀ x ∈ s.vals, InR x := by
    simp only [Bool.not_eq_true', List.any_eq_false, ← inB_iff]
    simp
  have key2 : (!s.inb.any badB) = true ↔ ∀ m ∈ s.inb, m.1 = true → InR m.2 := by
    simp only [Bool.not_eq_true', List.any_eq_false, ← inB_iff]
    constructor
    · intro h m hm h1
      have := h m hm
      unfold badB at this
      rw [h1] at this; simpa using this
    · intro h m hm hb
      unfold badB at hb
      simp only [Bool.and_eq_true, Bool.not_eq_true'] at hb
      rw [h m hm hb.1] at hb; simp at hb
  unfold mayB MayS
  simp only [Bool.and_eq_true, decide_eq_true_eq, key, key2, inB_iff]
  constructor
  · rintro ⟨h0, h1, h2, h3, h4, h5, h6, h7, h8⟩
    exact ⟨⟨h0, h1⟩, by omega, by omega, by omega, h7, h8, h2, h3⟩
  · rintro ⟨⟨h0, h1⟩, h4, h5, h6, h7, h8, h2, h3⟩
    exact ⟨h0, h1, h2, h3, by omega, by omega, by omega, h7, h8⟩

set_option maxRecDepth 100000 in
set_option maxHeartbeats 4000000 in
theorem mayBe_any (V st : Int) (s : Sq) (Av Ac Ai : Option Addr) (nv nc ni cv cc ci : Nat) (w : World) (ha : SAt w Av Ac Ai nv nc ni s) (h1 : nv ≤ 9223372036854775807) (h2 : nc ≤ 9223372036854775807) (h3 : ni ≤ 9223372036854775807) :
    Calls Tryz.prog 40 #[.agg #[.int .i64 st, .slice Av nv cv, .slice Ac nc cc, .slice Ai ni ci, .int .i64 s.sum, .int .i64 s.most], .int .i64 V] w fun e w' => e = .returned (.bool (mayB V st s)) ∧ Below w.heap.size w w' := by
  have HA := Lib.hid ha
  clear ha
  obtain ⟨r, hr⟩ : ∃ r, mayB V st s = r := ⟨_, rfl⟩
  rw [hr]
  unfold mayB at hr
  rw [HA.out.nv, HA.out.nc, HA.out.ni] at hr
  obtain ⟨sm, esm⟩ : ∃ sm, sm = s.sum := ⟨_, rfl⟩
  obtain ⟨mo, emo⟩ : ∃ mo, mo = s.most := ⟨_, rfl⟩
  rw [← esm, ← emo] at hr ⊢
  clear esm emo
  obtain ⟨W1, hW1⟩ : ∃ W1, W1 = w.alloc (.cells #[.int .i64 st, .slice Av nv cv, .slice Ac nc cc, .slice Ai ni ci, .int .i64 sm, .int .i64 mo] 33) := ⟨_, rfl⟩
  have HB1 : Hid (Below w.heap.size w W1) := Lib.hid (by rw [hW1]; exact (Below.refl _ w).alloc (Nat.le_refl _) _)
  have HX : Hid (W1.heap[w.heap.size]? = some (.cells #[.int .i64 st, .slice Av nv cv, .slice Ac nc cc, .slice Ai ni ci, .int .i64 sm, .int .i64 mo] 33 (0, 0))) := Lib.hid (by rw [hW1]; exact heap_alloc_new w _)
  obtain ⟨b0, e0⟩ : ∃ b0, b0 = w.heap.size := ⟨_, rfl⟩
  rw [← e0] at HX
  obtain ⟨x0, x1, x2, x3, x4, x5, _⟩ := six HX.out
  obtain ⟨q1, hq1⟩ : ∃ q, inB sm = q := ⟨_, rfl⟩
  obtain ⟨q2, hq2⟩ : ∃ q, inB mo = q := ⟨_, rfl⟩
  obtain ⟨t1, ht1⟩ : ∃ t, (s.vals.any fun x => !inB x) = t := ⟨_, rfl⟩
  obtain ⟨t2, ht2⟩ : ∃ t, s.inb.any badB = t := ⟨_, rfl⟩
  rw [hq1, hq2, ht1, ht2] at hr
  have D1 := Lib.hid (fun W => isDist_at sm q1 (Lib.hid hq1) W)
  have D2 := Lib.hid (fun W => isDist_at mo q2 (Lib.hid hq2) W)
  have D3 := Lib.hid (allD_any Av nv cv s.vals W1 (HA.out.v.below HB1.out) HA.out.nv h1)
  have D4 := Lib.hid (fun W (h : Below W1.heap.size W1 W) => containsK_any Ai ni ci s.inb W ((HA.out.i.below HB1.out).below h) HA.out.ni h3)
  rw [ht1] at D3
  rw [ht2] at D4
  clear hq1 hq2 ht1 ht2 HA
  by_cases k1 : 0 ≤ st
  · by_cases k2 : st ≤ 2000
    · cases q1 with
      | false =>
        obtain rfl : false = r := by rw [← hr]; simp
        clear hr
        go_enter Tryz.func40, Tryz.ntmps40
        go_upto_region 1 with fail
        rw [← hW1, show w.heap.size = b0 from e0.symm]
        clear hW1 e0
        go_wp2_with fail
        refine (D1.out _).mono ?_
        rintro e w2 ⟨rfl, rfl⟩
        go_wp2_with fail
        go_ret
        exact ⟨rfl, HB1.out⟩
      | true =>
        cases q2 with
        | false =>
          obtain rfl : false = r := by rw [← hr]; simp
          clear hr
          go_enter Tryz.func40, Tryz.ntmps40
          go_upto_region 1 with fail
          rw [← hW1, show w.heap.size = b0 from e0.symm]
          clear hW1 e0
          go_wp2_with fail
          refine (D1.out _).mono ?_
          rintro e w2 ⟨rfl, rfl⟩
          go_wp2_with fail
          refine (D2.out _).mono ?_
          rintro e w3 ⟨rfl, rfl⟩
          go_wp2_with fail
          go_ret
          exact ⟨rfl, HB1.out⟩
        | true =>
          by_cases k5 : (nv : Int) = V
          · by_cases k6 : (nc : Int) = V
            · by_cases k7 : (ni : Int) = V
              · obtain rfl : (!t1 && !t2) = r := by rw [← hr, decide_eq_true k1, decide_eq_true k2, decide_eq_true k5, decide_eq_true k6, decide_eq_true k7]; rfl
                clear hr
                subst k5
                obtain rfl : nc = nv := by omega
                obtain rfl : ni = nc := by omega
                clear k6 k7
                go_enter Tryz.func40, Tryz.ntmps40
                go_upto_region 1 with fail
                rw [← hW1, show w.heap.size = b0 from e0.symm]
                clear hW1 e0
                go_wp2_with fail
                refine (D1.out _).mono ?_
                rintro e w2 ⟨rfl, rfl⟩
                go_wp2_with fail
                refine (D2.out _).mono ?_
                rintro e w3 ⟨rfl, rfl⟩
                go_wp2_with fail
                refine D3.out.mono ?_
                rintro e w4 ⟨rfl, hb4⟩
                have HX4 := Lib.hid (keep HX.out hb4.out)
                have HB4 := Lib.hid (step_below HB1.out HB1.out.size hb4.out)
                have HC4 := Lib.hid (D4.out _ hb4.out)
                clear hb4 x0 x1 x2 x3 x4 x5 D4 D3
                obtain ⟨x0, x1, x2, x3, x4, x5, _⟩ := six HX4.out
                cases t1 with
                | true =>
                  go_wp2_with fail
                  go_ret
                  exact ⟨rfl, HB4.out⟩
                | false =>
                  go_wp2_with fail
                  refine HC4.out.mono ?_
                  rintro e w5 ⟨rfl, hb5⟩
                  have HB5 := Lib.hid (step_below HB4.out HB4.out.size hb5.out)
                  clear hb5 x0 x1 x2 x3 x4 x5
                  go_wp2_with fail
                  go_ret
                  exact ⟨rfl, HB5.out⟩
              · obtain rfl : false = r := by rw [← hr, decide_eq_false k7]; simp
                clear hr
                subst k5
                obtain rfl : nc = nv := by omega
                clear k6
                go_enter Tryz.func40, Tryz.ntmps40
                go_upto_region 1 with fail
                rw [← hW1, show w.heap.size = b0 from e0.symm]
                clear hW1 e0
                go_wp2_with fail
                refine (D1.out _).mono ?_
                rintro e w2 ⟨rfl, rfl⟩
                go_wp2_with fail
                refine (D2.out _).mono ?_
                rintro e w3 ⟨rfl, rfl⟩
                go_wp2_with fail
                go_ret
                exact ⟨rfl, HB1.out⟩
            · obtain rfl : false = r := by rw [← hr, decide_eq_false k6]; simp
              clear hr
              subst k5
              go_enter Tryz.func40, Tryz.ntmps40
              go_upto_region 1 with fail
              rw [← hW1, show w.heap.size = b0 from e0.symm]
              clear hW1 e0
              go_wp2_with fail
              refine (D1.out _).mono ?_
              rintro e w2 ⟨rfl, rfl⟩
              go_wp2_with fail
              refine (D2.out _).mono ?_
              rintro e w3 ⟨rfl, rfl⟩
              go_wp2_with fail
              go_ret
              exact ⟨rfl, HB1.out⟩
          · obtain rfl : false = r := by rw [← hr, decide_eq_false k5]; simp
            clear hr
            go_enter Tryz.func40, Tryz.ntmps40
            go_upto_region 1 with fail
            rw [← hW1, show w.heap.size = b0 from e0.symm]
            clear hW1 e0
            go_wp2_with fail
            refine (D1.out _).mono ?_
            rintro e w2 ⟨rfl, rfl⟩
            go_wp2_with fail
            refine (D2.out _).mono ?_
            rintro e w3 ⟨rfl, rfl⟩
            go_wp2_with fail
            go_ret
            exact ⟨rfl, HB1.out⟩
    · obtain rfl : false = r := by rw [← hr, decide_eq_false k2]; simp
      clear hr
      go_enter Tryz.func40, Tryz.ntmps40
      go_upto_region 1 with fail
      rw [← hW1, show w.heap.size = b0 from e0.symm]
      clear hW1 e0
      go_wp2_with fail
      go_ret
      exact ⟨rfl, HB1.out⟩
  · obtain rfl : false = r := by rw [← hr, decide_eq_false k1]; simp
    clear hr
    go_enter Tryz.func40, Tryz.ntmps40
    go_upto_region 1 with fail
    rw [← hW1, show w.heap.size = b0 from e0.symm]
    clear hW1 e0
    go_wp2_with fail
    go_ret
    exact ⟨rfl, HB1.out⟩

end Go.Proofs.YtbbmgandkmlojaaGreat.Sq

/-
  What is proved here: what the four functions answer, as plain words; a state in its box; which numbers fit. No program but the model's words.
-/
namespace Go.Proofs.YtbbmgandkmlojaaGreat.Sq
open Go.RowKit Go.Shelf Gr Wd Ws Fx Rk Lb Al In
open Pa (vl bt vl_of vl_at bt_of bt_at itr itr_next)

def zS : Sq := ⟨[], [], [], 0, 0⟩
def startR (k st so dm ep V : Int) (L : List Ed) : Int × Sq × Int := if chkJ k st so dm ep V L = 0 then (0, strS k so V.toNat L, 0) else (0, zS, chkJ k st so dm ep V L)
def stepR (k st so dm ep V : Int) (L : List Ed) (p : Int) (s : Sq) : Int × Sq × Int := if chkJ k st so dm ep V L = 0 then (if mayB V p s = true ∧ p < 2000 then (p + 1, nxtS k dm V.toNat L s, 0) else (0, zS, 4)) else (0, zS, chkJ k st so dm ep V L)
def atR (k st so dm ep V : Int) (L : List Ed) (n : Int) : Int × Sq × Int := if chkJ k st so dm ep V L = 0 then (if 0 ≤ n ∧ n ≤ 2000 then (n, stS k so dm V.toNat L n.toNat, 0) else (0, zS, 4)) else (0, zS, chkJ k st so dm ep V L)
def Res (w w' : World) (e : Ending) (r : Int × Sq × Int) : Prop := ∃ x, e = .returned (.tuple #[x, .int .i64 r.2.2]) ∧ Hid (SOwn w' w.heap.size x r.1 r.2.1) ∧ Hid (Below w.heap.size w w')

theorem chkJ_zero {k st so dm ep V : Int} {L : List Ed} (h : chkJ k st so dm ep V L = 0) : chk V L = 0 ∧ 0 ≤ st ∧ st ≤ 2000 ∧ (k = 1 ∨ k = 2 ∨ k = 3) ∧ 0 ≤ dm ∧ dm ≤ 4294967296 := by
  unfold chkJ at h
  split at h
  · rename_i hc
    split at h
    · rename_i hj
      unfold jobOk at hj
      simp only [Bool.and_eq_true, decide_eq_true_eq] at hj
      obtain ⟨⟨h0, h1⟩, h2⟩ := hj
      refine ⟨hc, h0, h1, ?_⟩
      split at h2
      · rename_i hk
        simp only [Bool.and_eq_true, decide_eq_true_eq] at h2
        exact ⟨Or.inl hk, by omega, by omega⟩
      · split at h2
        · rename_i hk
          simp only [Bool.and_eq_true, decide_eq_true_eq] at h2
          exact ⟨Or.inr (Or.inl hk), by omega, by omega⟩
        · split at h2
          · rename_i hk
            simp only [Bool.and_eq_true, decide_eq_true_eq] at h2
            exact ⟨Or.inr (Or.inr hk), by omega, by omega⟩
          · cases h2
    · cases h
  · rename_i hc; exact absurd h hc
theorem chk_facts {V : Int} {L : List Ed} (h : chk V L = 0) : ∃ Vn : Nat, V = (Vn : Int) ∧ 1 ≤ Vn ∧ Vn ≤ 512 ∧ ∀ e ∈ L, fitE (Vn : Int) e = true := by
  obtain ⟨h1, h2, _, h4, _⟩ := (chk_zero _ _).1 h
  refine ⟨V.toNat, by omega, by omega, by omega, ?_⟩
  rw [show ((V.toNat : Nat) : Int) = V by omega]; exact h4
/- What a vertex has next fits an int. -/
theorem take_i63 (n d m s : Int) : I63 (takeI n d m s) := by
  have h0 := take_nonneg n d m s
  unfold I63
  refine ⟨by omega, ?_⟩
  unfold takeI
  split
  · omega
  · rename_i h
    have h1 : (4294967296 - d) / n ≤ 4294967296 := by
      have : (4294967296 - d) / n ≤ 4294967296 - d := Int.ediv_le_self _ (by omega)
      omega
    have h2 := addI_in m (s / n)
    have h3 : d * addI m (s / n) ≤ 4294967296 * 4611686018427387904 := Int.mul_le_mul (by omega) h2.2 h2.1 (by omega)
    have h4 : d * addI m (s / n) / 4294967296 ≤ 4611686018427387904 := by omega
    omega
theorem cmp_i63 {k V dm x m s : Int} {h : Bool} (hx : I63 x) (hm : I63 m) : I63 (cmpM k V dm x h m s) := by
  unfold cmpM
  split
  · exact take_i63 _ _ _ _
  · split
    · unfold takM; split <;> assumption
    · split
      · unfold Pa.tkm I63 at *; split <;> omega
      · unfold I63; omega
theorem vl_i63 {l : List Int} (h : ∀ x ∈ l, I63 x) (v : Nat) : I63 (vl l v) := by
  rcases Nat.lt_or_ge v l.length with hv | hv
  · exact h _ (List.mem_of_getElem? (vl_at hv))
  · unfold vl; rw [List.getD_eq_getElem?_getD, List.getElem?_eq_none hv]; unfold I63; simp
theorem ml_i63 {l : List Ml} (h : ∀ m ∈ l, I63 m.2) (v : Nat) : I63 (ml l v).2 := by
  rcases Nat.lt_or_ge v l.length with hv | hv
  · rw [ml_of (List.getElem?_eq_getElem hv)]; exact h _ (List.getElem_mem hv)
  · unfold ml; rw [List.getD_eq_getElem?_getD, List.getElem?_eq_none hv]; unfold I63; simp
theorem nxt_i63 {k dm : Int} {V : Nat} {s : Sq} (h1 : ∀ x ∈ s.vals, I63 x) (h2 : ∀ m ∈ s.inb, I63 m.2) : ∀ x ∈ nxtV k dm V s, I63 x := by
  intro x hx
  obtain ⟨v, _, rfl⟩ := List.mem_map.1 hx
  exact cmp_i63 (vl_i63 h1 v) (ml_i63 h2 v)
theorem inb_i63 {k : Int} {V : Nat} {L : List Ed} {vals : List Int} {chg : List Bool} (h : ∀ x ∈ vals, InR x) : ∀ m ∈ inbS k V L vals chg, I63 m.2 := by
  intro m hm
  cases ht : m.1 with
  | true => exact (inb_in h m hm ht).i63
  | false =>
    obtain ⟨v, hv⟩ := List.getElem?_of_mem hm
    have hl : v < V := by have := (List.getElem?_eq_some_iff.1 hv).1; rwa [inb_len] at this
    rw [inb_at k V L vals chg v hl] at hv
    cases hc : mailM k (v : Int) (rawS k V L vals chg).flatten with
    | none => rw [hc] at hv; simp [mlOf] at hv; subst hv; unfold I63; simp
    | some x => rw [hc] at hv; simp [mlOf] at hv; subst hv; cases ht
/- What a state has to have for a step. -/
structure Fit (V : Nat) (s : Sq) : Prop where
  v : ∀ x ∈ s.vals, I63 x
  i : ∀ m ∈ s.inb, I63 m.2
  sm : I63 s.sum
  nv : s.vals.length = V
  nc : s.chg.length = V
  ni : s.inb.length = V
theorem fit_go {k : Int} {V : Nat} {L : List Ed} {s : Sq} (h : GoS k V L s) : Fit V s :=
  ⟨fun x hx => (h.may.2.2.2.1 x hx).i63, fun m hm => inb_i63 (k := k) (V := V) (L := L) (chg := s.chg) h.may.2.2.2.1 m (by rw [← h.form.1]; exact hm), h.may.2.2.2.2.2.1.i63, h.may.1, h.may.2.1, h.may.2.2.1⟩

/- A state in its box, and a course's edges. -/
structure LpH (w W : World) (bs B be : Nat) (fx : Fxd) (i : Int) (s : Sq) (ve : Value) (Ls : List Eg) : Prop where
  below : Below w.heap.size w W
  fixed : ∀ p ∈ fx, W.heap[p.1]? = some (.cells p.2.1 p.2.2 (0, 0))
  rows : ∃ va vc vi, W.heap[bs]? = some (.cells #[.int .i64 i, va, vc, vi, .int .i64 s.sum, .int .i64 s.most] 33 (0, 0)) ∧ QOwn W B va s.vals ∧ BOwn W B vc s.chg ∧ KOwn W B vi s.inb
  edges : WOwn W be ve Ls
  apart : ∀ p ∈ fx, p.1 ≠ bs
  lo : w.heap.size ≤ bs
section
variable {w W W' : World} {bs B be : Nat} {fx : Fxd} {i : Int} {s : Sq} {ve : Value} {Ls : List Eg}
theorem LpH.step (h : LpH w W bs B be fx i s ve Ls) (hb : Below W.heap.size W W') : LpH w W' bs B be fx i s ve Ls := by
  obtain ⟨va, vc, vi, h1, h2, h3, h4⟩ := h.rows
  exact ⟨step_below h.below h.below.size hb, fun p hp => keep (h.fixed p hp) hb, ⟨va, vc, vi, keep h1 hb, h2.below hb, h3.below hb, h4.below hb⟩, h.edges.below hb, h.apart, h.lo⟩
theorem LpH.put (h : LpH w W bs B be fx i s ve Ls) {j : Int} {t : Sq} {va vc vi : Value} (h2 : QOwn W B va t.vals) (h3 : BOwn W B vc t.chg) (h4 : KOwn W B vi t.inb) :
    LpH w (put6 W bs (.int .i64 j) va vc vi (.int .i64 t.sum) (.int .i64 t.most)) bs B be fx j t ve Ls := by
  obtain ⟨va', vc', vi', h1, _, _, _⟩ := h.rows
  have ho : ∀ k, k ≠ bs → (put6 W bs (.int .i64 j) va vc vi (.int .i64 t.sum) (.int .i64 t.most)).heap[k]? = W.heap[k]? := fun k hk => put6_other _ _ _ _ _ _ _ _ _ hk
  exact ⟨put6_below h.below h.lo .., fun p hp => (ho _ (h.apart p hp)).trans (h.fixed p hp), ⟨va, vc, vi, put6_heap h1 .., own_moved h2 h1 (by decide) ho, own_moved h3 h1 (by decide) ho, own_moved h4 h1 (by decide) ho⟩, h.edges.moved h1 (by decide) (by decide) ho, h.apart, h.lo⟩
end
theorem SOwn.moved {w w' : World} {b B : Nat} {x : Value} {st : Int} {s : Sq} {c : Array Value} (h : SOwn w B x st s) (hb : w.heap[b]? = some (.cells c 33 (0, 0))) (ho : ∀ k, k ≠ b → w'.heap[k]? = w.heap[k]?) : SOwn w' B x st s := by
  obtain ⟨va, vc, vi, e, h1, h2, h3⟩ := h
  exact ⟨va, vc, vi, e, own_moved h1 hb (by decide) ho, own_moved h2 hb (by decide) ho, own_moved h3 hb (by decide) ho⟩
theorem SOwn.zero (w : World) (B : Nat) : SOwn w B (.agg #[.int .i64 0, .slice none 0 0, .slice none 0 0, .slice none 0 0, .int .i64 0, .int .i64 0]) 0 zS := ⟨_, _, _, rfl, QOwn.none_ _ _, BOwn.none_ _ _, KOwn.none_ _ _⟩
theorem SOwn.at {w : World} {B : Nat} {x : Value} {st : Int} {s : Sq} (h : SOwn w B x st s) : ∃ Av cv Ac cc Ai ci, x = .agg #[.int .i64 st, .slice Av s.vals.length cv, .slice Ac s.chg.length cc, .slice Ai s.inb.length ci, .int .i64 s.sum, .int .i64 s.most] ∧ SAt w Av Ac Ai s.vals.length s.chg.length s.inb.length s ∧ QOwn w B (.slice Av s.vals.length cv) s.vals ∧ BOwn w B (.slice Ac s.chg.length cc) s.chg ∧ KOwn w B (.slice Ai s.inb.length ci) s.inb := by
  obtain ⟨va, vc, vi, e, h1, h2, h3⟩ := h
  obtain ⟨Av, cv, rfl, g1⟩ := h1.form
  obtain ⟨Ac, cc, rfl, g2⟩ := h2.form
  obtain ⟨Ai, ci, rfl, g3, _⟩ := h3.room
  exact ⟨Av, cv, Ac, cc, Ai, ci, e, ⟨g1, g2, g3, rfl, rfl, rfl⟩, h1, h2, h3⟩

end Go.Proofs.YtbbmgandkmlojaaGreat.Sq

/-
  What is proved here: contracts of seq.Start and seq.Step. Conditions: at most 1000 edges; numbers that fit an int.
-/
namespace Go.Proofs.YtbbmgandkmlojaaGreat.Sq
open Go.RowKit Go.Shelf Gr Wd Ws Fx Rk Lb Al In
open Pa (vl bt vl_of vl_at bt_of bt_at)

set_option maxRecDepth 100000 in
set_option maxHeartbeats 1000000 in
theorem seqStart_any (k st so dm ep V : Int) (A : Option Addr) (n c : Nat) (L : List Ed) (w : World) (hL : EAt w A L) (hn : L.length = n) (hm : n ≤ 1000) :
    Calls Tryz.prog 12 #[.agg #[.int .i64 V, .slice A n c], .agg #[.int .u8 k, .int .i64 st, .int .i64 so, .int .i64 dm, .int .i64 ep]] w fun e w' => Res w w' e (startR k st so dm ep V L) := by
  have HL := Lib.hid hL; have HN := Lib.hid hn
  clear hL hn
  obtain ⟨W3, hW3⟩ : ∃ W3, W3 = ((w.alloc (.cells #[.int .i64 V, .slice A n c] 24)).alloc (.cells #[.int .u8 k, .int .i64 st, .int .i64 so, .int .i64 dm, .int .i64 ep] 26)).alloc (.cells #[.int .i64 0, .slice none 0 0, .slice none 0 0, .slice none 0 0, .int .i64 0, .int .i64 0] 33) := ⟨_, rfl⟩
  have hal := al3 w (.cells #[.int .i64 V, .slice A n c] 24) (.cells #[.int .u8 k, .int .i64 st, .int .i64 so, .int .i64 dm, .int .i64 ep] 26) (.cells #[.int .i64 0, .slice none 0 0, .slice none 0 0, .slice none 0 0, .int .i64 0, .int .i64 0] 33)
  rw [← hW3] at hal
  obtain ⟨n0, e0⟩ : ∃ n0, n0 = w.heap.size := ⟨_, rfl⟩
  have HG : Hid (W3.heap[n0]? = some (.cells #[.int .i64 V, .slice A n c] 24 (0, 0))) := Lib.hid (by rw [e0]; exact hal.1)
  have HJ : Hid (W3.heap[n0 + 1]? = some (.cells #[.int .u8 k, .int .i64 st, .int .i64 so, .int .i64 dm, .int .i64 ep] 26 (0, 0))) := Lib.hid (by rw [e0]; exact hal.2.1)
  have HR : Hid (W3.heap[n0 + 1 + 1]? = some (.cells #[.int .i64 0, .slice none 0 0, .slice none 0 0, .slice none 0 0, .int .i64 0, .int .i64 0] 33 (0, 0))) := Lib.hid (by rw [e0]; exact hal.2.2.1)
  have HB := Lib.hid hal.2.2.2
  have HN0 : Hid (w.heap.size ≤ n0) := Lib.hid (by omega)
  clear hal
  obtain ⟨g0, g1, _⟩ := two HG.out
  obtain ⟨j0, j1, j2, j3, j4, _⟩ := jb_cells HJ.out
  obtain ⟨E, hE⟩ : ∃ E, E = chkJ k st so dm ep V L := ⟨_, rfl⟩
  have HC : Hid (∀ W, Below w.heap.size w W → Calls Tryz.prog 24 #[.agg #[.int .i64 V, .slice A n c], .agg #[.int .u8 k, .int .i64 st, .int .i64 so, .int .i64 dm, .int .i64 ep]] W fun e w' => e = .returned (.int .i64 E) ∧ Below W.heap.size W w') := Lib.hid (fun W h => by
    rw [hE, ← HN.out]
    exact checkj_any k st so dm ep V A c L W (HL.out.below h) (by rw [HN.out]; omega))
  have HE := Lib.hid hE
  clear hE
  go_enter Tryz.func12, Tryz.ntmps12
  go_upto_region 1 with fail
  rw [← hW3, show w.heap.size = n0 from e0.symm]
  clear hW3 e0
  go_wp2_with fail
  refine (HC.out _ HB.out).mono ?_
  rintro e w4 ⟨rfl, hb4⟩
  have HG4 := Lib.hid (keep HG.out hb4); have HJ4 := Lib.hid (keep HJ.out hb4); have HR4 := Lib.hid (keep HR.out hb4)
  have HB4 := Lib.hid (step_below HB.out HB.out.size hb4)
  clear hb4 g0 g1 j0 j1 j2 j3 j4 HG HJ HR HB HC
  by_cases hE0 : E = 0
  · subst hE0
    obtain ⟨hz, _, _, _, _, _⟩ := chkJ_zero HE.out.symm
    obtain ⟨Vn, rfl, hV1, hV2, hfit⟩ := chk_facts hz
    have HFI := Lib.hid hfit
    have HZ : Hid (startR k st so dm ep (Vn : Int) L = (0, strS k so Vn L, 0)) := Lib.hid (by unfold startR; rw [if_pos HE.out.symm]; rfl)
    clear hfit hz
    obtain ⟨g0, g1, _⟩ := two HG4.out
    obtain ⟨j0, j1, j2, j3, j4, _⟩ := jb_cells HJ4.out
    go_wp2_with fail
    refine (course_any k st so dm ep Vn A c n L w4 (HL.out.below HB4.out) HN.out.symm (by rw [HN.out]; omega) hV2).mono ?_
    rintro e w5 ⟨v, rfl, hv, hb5⟩
    obtain ⟨Ae, ce, rfl, _⟩ := hv.out.form
    rw [egs_len] at hv ⊢
    have HB5 := Lib.hid (step_below HB4.out HB4.out.size hb5.out)
    have HR5 := Lib.hid (keep HR4.out hb5.out)
    clear hb5 g0 g1 j0 j1 j2 j3 j4
    go_wp2_with fail
    refine (sstart_any k st so dm ep Vn L Ae ce w4.heap.size w5 hv.out hV2 (by rw [HN.out]; omega) HFI.out).mono ?_
    rintro e w6 ⟨x, rfl, hx, hb6⟩
    have HX6 := Lib.hid (hx.out.mono HB5.out.size)
    have HB6 := Lib.hid (step_below HB5.out HB5.out.size hb6.out)
    have HR6 := Lib.hid (keep HR5.out hb6.out)
    clear hb6 hv hx
    obtain ⟨Av, cv, Ac, cc, Ai, ci, rfl, _⟩ := HX6.out.form
    obtain ⟨r0, r1, r2, r3, r4, r5, rl⟩ := six HR6.out
    have f0 := warm HR6.out 0; have f1 := warm HR6.out 1; have f2 := warm HR6.out 2; have f3 := warm HR6.out 3; have f4 := warm HR6.out 4; have f5 := warm HR6.out 5
    obtain ⟨S, hS⟩ : ∃ S, strS k so Vn L = S := ⟨_, rfl⟩
    rw [hS] at HX6 HZ ⊢
    clear hS
    obtain ⟨n1, hn1⟩ : ∃ n1, S.vals.length = n1 := ⟨_, rfl⟩
    obtain ⟨n2, hn2⟩ : ∃ n2, S.chg.length = n2 := ⟨_, rfl⟩
    obtain ⟨n3, hn3⟩ : ∃ n3, S.inb.length = n3 := ⟨_, rfl⟩
    rw [hn1, hn2, hn3] at HX6 ⊢
    clear hn1 hn2 hn3
    go_wp2
    have hX := put6_heap HR6.out (.int .i64 0) (.slice Av n1 cv) (.slice Ac n2 cc) (.slice Ai n3 ci) (.int .i64 S.sum) (.int .i64 S.most)
    have hBX := put6_below HB6.out (b := n0 + 1 + 1) (by have := HN0.out; omega) (.int .i64 0) (.slice Av n1 cv) (.slice Ac n2 cc) (.slice Ai n3 ci) (.int .i64 S.sum) (.int .i64 S.most)
    have hSX := HX6.out.moved HR6.out (fun j hj => put6_other w6 (n0 + 1 + 1) j (.int .i64 0) (.slice Av n1 cv) (.slice Ac n2 cc) (.slice Ai n3 ci) (.int .i64 S.sum) (.int .i64 S.most) hj)
    unfold put6 at hX hBX hSX
    exact bodyPost_ret (v := .tuple #[.agg #[.int .i64 0, .slice Av n1 cv, .slice Ac n2 cc, .slice Ai n3 ci, .int .i64 S.sum, .int .i64 S.most], .int .i64 0]) (res2_s _ _ _ _ _ _ _ _ _ _ _ _ _ Tryz.results12 rfl rfl hX) rfl ⟨_, by rw [HZ.out], Lib.hid (by rw [HZ.out]; exact hSX), Lib.hid hBX⟩
  · have HZ : Hid (startR k st so dm ep V L = (0, zS, E)) := Lib.hid (by unfold startR; rw [if_neg (by rw [← HE.out]; exact hE0), ← HE.out])
    obtain ⟨r0, r1, r2, r3, r4, r5, rl⟩ := six HR4.out
    have f0 := warm HR4.out 0; have f1 := warm HR4.out 1; have f2 := warm HR4.out 2; have f3 := warm HR4.out 3; have f4 := warm HR4.out 4; have f5 := warm HR4.out 5
    go_wp2
    have hX := put6_heap HR4.out (.int .i64 0) (.slice none 0 0) (.slice none 0 0) (.slice none 0 0) (.int .i64 0) (.int .i64 0)
    have hBX := put6_below HB4.out (b := n0 + 1 + 1) (by have := HN0.out; omega) (.int .i64 0) (.slice none 0 0) (.slice none 0 0) (.slice none 0 0) (.int .i64 0) (.int .i64 0)
    unfold put6 at hX hBX
    exact bodyPost_ret (v := .tuple #[.agg #[.int .i64 0, .slice none 0 0, .slice none 0 0, .slice none 0 0, .int .i64 0, .int .i64 0], .int .i64 E]) (res2_s _ _ _ _ _ _ _ _ _ _ _ _ _ Tryz.results12 rfl rfl hX) rfl ⟨_, by rw [HZ.out], Lib.hid (by rw [HZ.out]; exact SOwn.zero _ _), Lib.hid hBX⟩

end Go.Proofs.YtbbmgandkmlojaaGreat.Sq

/-
  What is proved here: contracts of seq.Step. Conditions: at most 1000 edges; numbers that fit an int.
-/
namespace Go.Proofs.YtbbmgandkmlojaaGreat.Sq
open Go.RowKit Go.Shelf Gr Wd Ws Fx Rk Lb Al In
open Pa (vl bt vl_of vl_at bt_of bt_at)

theorem bad_res {w W : World} {b : Nat} {r : Int × Sq × Int} {E : Int} (h : r = (0, zS, E)) (hb : Below w.heap.size w W) (hn : w.heap.size ≤ b) (hr : W.heap[b]? = some (.cells #[.int .i64 0, .slice none 0 0, .slice none 0 0, .slice none 0 0, .int .i64 0, .int .i64 0] 33 (0, 0))) :
    (put6 W b (.int .i64 0) (.slice none 0 0) (.slice none 0 0) (.slice none 0 0) (.int .i64 0) (.int .i64 0)).heap[b]? = some (.cells #[.int .i64 0, .slice none 0 0, .slice none 0 0, .slice none 0 0, .int .i64 0, .int .i64 0] 33 (0, 0)) ∧ Res w (put6 W b (.int .i64 0) (.slice none 0 0) (.slice none 0 0) (.slice none 0 0) (.int .i64 0) (.int .i64 0)) (.returned (.tuple #[.agg #[.int .i64 0, .slice none 0 0, .slice none 0 0, .slice none 0 0, .int .i64 0, .int .i64 0], .int .i64 E])) r :=
  ⟨put6_heap hr .., _, by rw [h], Lib.hid (by rw [h]; exact SOwn.zero _ _), Lib.hid (put6_below hb hn ..)⟩
set_option maxRecDepth 100000 in
set_option maxHeartbeats 1000000 in
theorem seqStep_any (k st so dm ep V p : Int) (A : Option Addr) (n c : Nat) (L : List Ed) (s : Sq) (Av Ac Ai : Option Addr) (nv nc ni cv cc ci : Nat) (w : World) (hL : EAt w A L) (hn : L.length = n) (hm : n ≤ 1000) (ha : SAt w Av Ac Ai nv nc ni s) (hi : ∀ m ∈ s.inb, I63 m.2)
    (h1 : nv ≤ 9223372036854775807) (h2 : nc ≤ 9223372036854775807) (h3 : ni ≤ 9223372036854775807) :
    Calls Tryz.prog 17 #[.agg #[.int .i64 V, .slice A n c], .agg #[.int .u8 k, .int .i64 st, .int .i64 so, .int .i64 dm, .int .i64 ep], .agg #[.int .i64 p, .slice Av nv cv, .slice Ac nc cc, .slice Ai ni ci, .int .i64 s.sum, .int .i64 s.most]] w fun e w' => Res w w' e (stepR k st so dm ep V L p s) := by
  have mixed := mixedI
  have HL := Lib.hid hL; have HN := Lib.hid hn; have HA := Lib.hid ha; have HI := Lib.hid hi
  clear hL hn ha hi
  obtain ⟨sm, esm⟩ : ∃ sm, sm = s.sum := ⟨_, rfl⟩
  obtain ⟨mo, emo⟩ : ∃ mo, mo = s.most := ⟨_, rfl⟩
  rw [← esm, ← emo]
  have HSM := Lib.hid esm; have HMO := Lib.hid emo
  clear esm emo
  obtain ⟨W4, hW4⟩ : ∃ W4, W4 = (((w.alloc (.cells #[.int .i64 V, .slice A n c] 24)).alloc (.cells #[.int .u8 k, .int .i64 st, .int .i64 so, .int .i64 dm, .int .i64 ep] 26)).alloc (.cells #[.int .i64 p, .slice Av nv cv, .slice Ac nc cc, .slice Ai ni ci, .int .i64 sm, .int .i64 mo] 33)).alloc (.cells #[.int .i64 0, .slice none 0 0, .slice none 0 0, .slice none 0 0, .int .i64 0, .int .i64 0] 33) := ⟨_, rfl⟩
  have hal := al4 w (.cells #[.int .i64 V, .slice A n c] 24) (.cells #[.int .u8 k, .int .i64 st, .int .i64 so, .int .i64 dm, .int .i64 ep] 26) (.cells #[.int .i64 p, .slice Av nv cv, .slice Ac nc cc, .slice Ai ni ci, .int .i64 sm, .int .i64 mo] 33) (.cells #[.int .i64 0, .slice none 0 0, .slice none 0 0, .slice none 0 0, .int .i64 0, .int .i64 0] 33)
  rw [← hW4] at hal
  obtain ⟨n0, e0⟩ : ∃ n0, n0 = w.heap.size := ⟨_, rfl⟩
  have HG : Hid (W4.heap[n0]? = some (.cells #[.int .i64 V, .slice A n c] 24 (0, 0))) := Lib.hid (by rw [e0]; exact hal.1)
  have HJ : Hid (W4.heap[n0 + 1]? = some (.cells #[.int .u8 k, .int .i64 st, .int .i64 so, .int .i64 dm, .int .i64 ep] 26 (0, 0))) := Lib.hid (by rw [e0]; exact hal.2.1)
  have HS : Hid (W4.heap[n0 + 1 + 1]? = some (.cells #[.int .i64 p, .slice Av nv cv, .slice Ac nc cc, .slice Ai ni ci, .int .i64 sm, .int .i64 mo] 33 (0, 0))) := Lib.hid (by rw [e0]; exact hal.2.2.1)
  have HR : Hid (W4.heap[n0 + 1 + 1 + 1]? = some (.cells #[.int .i64 0, .slice none 0 0, .slice none 0 0, .slice none 0 0, .int .i64 0, .int .i64 0] 33 (0, 0))) := Lib.hid (by rw [e0]; exact hal.2.2.2.1)
  have HB := Lib.hid hal.2.2.2.2
  have HN0 : Hid (w.heap.size ≤ n0) := Lib.hid (by omega)
  clear hal
  obtain ⟨g0, g1, _⟩ := two HG.out
  obtain ⟨j0, j1, j2, j3, j4, _⟩ := jb_cells HJ.out
  obtain ⟨E, hE⟩ : ∃ E, E = chkJ k st so dm ep V L := ⟨_, rfl⟩
  have HC : Hid (∀ W, Below w.heap.size w W → Calls Tryz.prog 24 #[.agg #[.int .i64 V, .slice A n c], .agg #[.int .u8 k, .int .i64 st, .int .i64 so, .int .i64 dm, .int .i64 ep]] W fun e w' => e = .returned (.int .i64 E) ∧ Below W.heap.size W w') := Lib.hid (fun W h => by
    rw [hE, ← HN.out]
    exact checkj_any k st so dm ep V A c L W (HL.out.below h) (by rw [HN.out]; omega))
  have HE := Lib.hid hE
  clear hE
  go_enter Tryz.func17, Tryz.ntmps17
  go_upto_region 1 with fail
  rw [← hW4, show w.heap.size = n0 from e0.symm]
  clear hW4 e0
  go_wp2_with fail
  refine (HC.out _ HB.out).mono ?_
  rintro e w5 ⟨rfl, hb5⟩
  have HG5 := Lib.hid (keep HG.out hb5); have HJ5 := Lib.hid (keep HJ.out hb5); have HS5 := Lib.hid (keep HS.out hb5); have HR5 := Lib.hid (keep HR.out hb5)
  have HB5 := Lib.hid (step_below HB.out HB.out.size hb5)
  clear hb5 g0 g1 j0 j1 j2 j3 j4 HG HJ HS HR HB HC
  by_cases hE0 : E = 0
  · subst hE0
    obtain ⟨hz, _, _, _, _, _⟩ := chkJ_zero HE.out.symm
    obtain ⟨Vn, rfl, hV1, hV2, hfit⟩ := chk_facts hz
    have HFI := Lib.hid hfit
    have hdm : I63 dm := by obtain ⟨_, _, _, _, d0, d1⟩ := chkJ_zero HE.out.symm; unfold I63; omega
    have HDM := Lib.hid hdm
    clear hfit hz hdm
    have HMB := Lib.hid (mayBe_any (Vn : Int) p s Av Ac Ai nv nc ni cv cc ci w5 (HA.out.below HB5.out) h1 h2 h3)
    obtain ⟨t, ht⟩ : ∃ t, mayB (Vn : Int) p s = t := ⟨_, rfl⟩
    rw [ht, ← HSM.out, ← HMO.out] at HMB
    have HT := Lib.hid ht
    clear ht
    obtain ⟨g0, g1, _⟩ := two HG5.out
    obtain ⟨s0, s1, s2, s3, s4, s5, _⟩ := six HS5.out
    go_wp2_with fail
    refine HMB.out.mono ?_
    rintro e w6 ⟨rfl, hb6⟩
    have HG6 := Lib.hid (keep HG5.out hb6); have HJ6 := Lib.hid (keep HJ5.out hb6); have HS6 := Lib.hid (keep HS5.out hb6); have HR6 := Lib.hid (keep HR5.out hb6)
    have HB6 := Lib.hid (step_below HB5.out HB5.out.size hb6)
    clear hb6 g0 g1 s0 s1 s2 s3 s4 s5 HMB HG5 HJ5 HS5 HR5
    obtain ⟨s0, s1, s2, s3, s4, s5, _⟩ := six HS6.out
    cases t with
    | false =>
      have hq : stepR k st so dm ep (Vn : Int) L p s = (0, zS, 4) := by unfold stepR; rw [if_pos HE.out.symm, if_neg (by rw [HT.out]; simp)]
      have HQ := Lib.hid hq
      obtain ⟨r0, r1, r2, r3, r4, r5, rl⟩ := six HR6.out
      have f0 := warm HR6.out 0; have f1 := warm HR6.out 1; have f2 := warm HR6.out 2; have f3 := warm HR6.out 3; have f4 := warm HR6.out 4; have f5 := warm HR6.out 5
      clear hq
      go_wp2
      obtain ⟨hX, hRes⟩ := bad_res HQ.out HB6.out (b := n0 + 1 + 1 + 1) (by have := HN0.out; omega) HR6.out
      unfold put6 at hX hRes
      exact bodyPost_ret (v := .tuple #[.agg #[.int .i64 0, .slice none 0 0, .slice none 0 0, .slice none 0 0, .int .i64 0, .int .i64 0], .int .i64 4]) (res2_s _ _ _ _ _ _ _ _ _ _ _ _ _ Tryz.results17 rfl rfl hX) rfl hRes
    | true =>
      by_cases hp : p = 2000
      · have hq : stepR k st so dm ep (Vn : Int) L p s = (0, zS, 4) := by unfold stepR; rw [if_pos HE.out.symm, if_neg (by rw [hp]; simp)]
        have HQ := Lib.hid hq
        obtain ⟨r0, r1, r2, r3, r4, r5, rl⟩ := six HR6.out
        have f0 := warm HR6.out 0; have f1 := warm HR6.out 1; have f2 := warm HR6.out 2; have f3 := warm HR6.out 3; have f4 := warm HR6.out 4; have f5 := warm HR6.out 5
        clear hq
        go_wp2
        obtain ⟨hX, hRes⟩ := bad_res HQ.out HB6.out (b := n0 + 1 + 1 + 1) (by have := HN0.out; omega) HR6.out
        unfold put6 at hX hRes
        exact bodyPost_ret (v := .tuple #[.agg #[.int .i64 0, .slice none 0 0, .slice none 0 0, .slice none 0 0, .int .i64 0, .int .i64 0], .int .i64 4]) (res2_s _ _ _ _ _ _ _ _ _ _ _ _ _ Tryz.results17 rfl rfl hX) rfl hRes
      · obtain ⟨⟨hp0, hp1⟩, hmay⟩ := (mayB_iff Vn p s).1 HT.out
        have HZ : Hid (stepR k st so dm ep (Vn : Int) L p s = (p + 1, nxtS k dm Vn L s, 0)) := Lib.hid (by unfold stepR; rw [if_pos HE.out.symm, if_pos ⟨HT.out, by omega⟩]; rfl)
        have HM := Lib.hid hmay
        clear hmay
        obtain rfl : nv = Vn := by rw [← HA.out.nv]; exact HM.out.1
        obtain rfl : nc = nv := by rw [← HA.out.nc]; exact HM.out.2.1
        obtain rfl : ni = nc := by rw [← HA.out.ni]; exact HM.out.2.2.1
        go_wp2_with fail
        have HSF : Hid (∀ W : World, Below w6.heap.size w6 W → (fun w' : World => (w'.cell? ⟨n0, 0, none⟩ = some (.int .i64 (ni : Int)) ∧ w'.cell? ⟨n0, 1, none⟩ = some (.slice A n c)) ∧ (w'.cell? ⟨n0 + 1, 0, none⟩ = some (.int .u8 k) ∧ w'.cell? ⟨n0 + 1, 1, none⟩ = some (.int .i64 st) ∧ w'.cell? ⟨n0 + 1, 2, none⟩ = some (.int .i64 so) ∧ w'.cell? ⟨n0 + 1, 3, none⟩ = some (.int .i64 dm) ∧ w'.cell? ⟨n0 + 1, 4, none⟩ = some (.int .i64 ep)) ∧ (w'.cell? ⟨n0 + 1 + 1, 0, none⟩ = some (.int .i64 p) ∧ w'.cell? ⟨n0 + 1 + 1, 1, none⟩ = some (.slice Av ni cv) ∧ w'.cell? ⟨n0 + 1 + 1, 2, none⟩ = some (.slice Ac ni cc) ∧ w'.cell? ⟨n0 + 1 + 1, 3, none⟩ = some (.slice Ai ni ci) ∧ w'.cell? ⟨n0 + 1 + 1, 4, none⟩ = some (.int .i64 sm) ∧ w'.cell? ⟨n0 + 1 + 1, 5, none⟩ = some (.int .i64 mo))) W) := Lib.hid (fun W hW => by
          obtain ⟨g0, g1, _⟩ := two (keep HG6.out hW)
          obtain ⟨j0, j1, j2, j3, j4, _⟩ := jb_cells (keep HJ6.out hW)
          obtain ⟨s0, s1, s2, s3, s4, s5, _⟩ := six (keep HS6.out hW)
          exact ⟨⟨g0, g1⟩, ⟨j0, j1, j2, j3, j4⟩, s0, s1, s2, s3, s4, s5⟩)
        have hd : Below w6.heap.size w6 w6.drew := (Below.refl _ w6).drew
        have HD := Lib.hid hd
        have hS := HSF.out _ hd
        clear s0 s1 s2 s3 s4 s5 hd
        refine Tl.headX_region (S := (fun w' : World => (w'.cell? ⟨n0, 0, none⟩ = some (.int .i64 (ni : Int)) ∧ w'.cell? ⟨n0, 1, none⟩ = some (.slice A n c)) ∧ (w'.cell? ⟨n0 + 1, 0, none⟩ = some (.int .u8 k) ∧ w'.cell? ⟨n0 + 1, 1, none⟩ = some (.int .i64 st) ∧ w'.cell? ⟨n0 + 1, 2, none⟩ = some (.int .i64 so) ∧ w'.cell? ⟨n0 + 1, 3, none⟩ = some (.int .i64 dm) ∧ w'.cell? ⟨n0 + 1, 4, none⟩ = some (.int .i64 ep)) ∧ (w'.cell? ⟨n0 + 1 + 1, 0, none⟩ = some (.int .i64 p) ∧ w'.cell? ⟨n0 + 1 + 1, 1, none⟩ = some (.slice Av ni cv) ∧ w'.cell? ⟨n0 + 1 + 1, 2, none⟩ = some (.slice Ac ni cc) ∧ w'.cell? ⟨n0 + 1 + 1, 3, none⟩ = some (.slice Ai ni ci) ∧ w'.cell? ⟨n0 + 1 + 1, 4, none⟩ = some (.int .i64 sm) ∧ w'.cell? ⟨n0 + 1 + 1, 5, none⟩ = some (.int .i64 mo)))) 5 (by kernel_rfl) (by decide) ?_
        refine Tl.headX_tk 0 ?v0_1 rfl (by kernel_rfl) (by decide) (by kernel_rfl) (by kernel_rfl) (by kernel_rfl) (fun _ _ _ h => h) (by rfl) (fun W hSw => ?hy0_1) hS ?_
        case hy0_1 => ((try dsimp only at hSw); go_simp; try with_reducible rfl)
        simp only [Act.put, List.setIfInBounds_toArray, List.set_cons_zero, List.set_cons_succ]
        refine Tl.headX_tk 1 ?v1_2 rfl (by kernel_rfl) (by decide) (by kernel_rfl) (by kernel_rfl) (by kernel_rfl) (fun _ _ _ h => h) (by rfl) (fun W hSw => ?hy1_2) hS ?_
        case hy1_2 => ((try dsimp only at hSw); go_simp; try with_reducible rfl)
        simp only [Act.put, List.setIfInBounds_toArray, List.set_cons_zero, List.set_cons_succ]
        refine Tl.headX_tk 3 ?v3_3 rfl (by kernel_rfl) (by decide) (by kernel_rfl) (by kernel_rfl) (by kernel_rfl) (fun _ _ _ h => h) (by rfl) (fun W hSw => ?hy3_3) hS ?_
        case hy3_3 => ((try dsimp only at hSw); go_simp; try with_reducible rfl)
        simp only [Act.put, List.setIfInBounds_toArray, List.set_cons_zero, List.set_cons_succ]
        have HCO : Hid (Calls Tryz.prog 34 #[.agg #[.int .i64 (ni : Int), .slice A n c], .agg #[.int .u8 k, .int .i64 st, .int .i64 so, .int .i64 dm, .int .i64 ep]] w6.drew fun e w' => ∃ x, e = .returned x ∧ Hid (∃ Ae ce, x = .agg #[.int .u8 k, .int .i64 st, .int .i64 so, .int .i64 dm, .int .i64 ep, .slice Ae ni ce] ∧ WOwn w' w6.drew.heap.size (.slice Ae ni ce) (egs ni L) ∧ Below w6.drew.heap.size w6.drew w')) := Lib.hid (by
          refine (course_any k st so dm ep ni A c n L w6.drew (HL.out.below (step_below HB6.out HB6.out.size HD.out)) HN.out.symm (by rw [HN.out]; omega) hV2).mono ?_
          rintro e w' ⟨v, rfl, hv, hb⟩
          obtain ⟨Ae, ce, rfl, _⟩ := hv.out.form
          have h := hv.out
          rw [egs_len] at h ⊢
          exact ⟨_, rfl, Lib.hid ⟨Ae, ce, rfl, h, hb.out⟩⟩)
        refine Tl.headX_cl 2 _ _ rfl (by decide) (by kernel_rfl) (by rfl) ?he2 HCO.out ?_
        case he2 => (go_simp; try with_reducible rfl)
        rintro x w7 hx7
        obtain ⟨Ae, ce, rfl, hv7, hb7⟩ := hx7.out
        have HV7 := Lib.hid hv7
        have hb67 : Below w6.heap.size w6 w7 := HD.out.trans (hb7.mono HD.out.size)
        have HB67 := Lib.hid hb67
        have HB7 := Lib.hid (step_below HB6.out HB6.out.size hb67)
        clear hx7 hv7 hb7 HCO
        have hS := HSF.out _ hb67
        clear hb67
        refine ⟨hS, ?_⟩
        simp only [Act.put, List.setIfInBounds_toArray, List.set_cons_zero, List.set_cons_succ]
        have HNX : Hid (Calls Tryz.prog 41 #[.agg #[.int .u8 k, .int .i64 st, .int .i64 so, .int .i64 dm, .int .i64 ep, .slice Ae ni ce], .agg #[.int .i64 p, .slice Av ni cv, .slice Ac ni cc, .slice Ai ni ci, .int .i64 sm, .int .i64 mo]] w7 fun e w' => ∃ x, e = .returned x ∧ Hid (SOwn w' w7.heap.size x (p + 1) (nxtS k dm ni L s) ∧ Below w7.heap.size w7 w')) := Lib.hid (by
          have hvr : ∀ x ∈ s.vals, I63 x := fun x hx => (HM.out.2.2.2.1 x hx).i63
          have h := next_any k st so dm ep p ni L Ae Av Ac Ai ce cv cc ci ni w6.drew.heap.size s w7 HV7.out (HA.out.v.below HB7.out) (HA.out.i.below HB7.out) HA.out.nv HA.out.ni hvr HI.out HM.out.2.2.2.2.2.1.i63 (nxt_i63 hvr HI.out) HDM.out ⟨hp0, hp1⟩ hV2 (by rw [HN.out]; omega) HFI.out
          rw [← HSM.out, ← HMO.out] at h
          refine h.mono ?_
          rintro e w' ⟨x, rfl, h1, h2⟩
          exact ⟨x, rfl, Lib.hid ⟨h1.out, h2.out⟩⟩)
        refine Tl.headX_cl 4 _ _ rfl (by decide) (by kernel_rfl) (by rfl) ?he4 HNX.out ?_
        case he4 => (go_simp; try with_reducible rfl)
        rintro x w8 hx8
        have HX8 := Lib.hid hx8.out.1
        have HB8 := Lib.hid (step_below HB7.out HB7.out.size hx8.out.2)
        have HR8 := Lib.hid (keep (keep HR6.out HB67.out) hx8.out.2)
        have hS := HSF.out _ (HB67.out.trans (hx8.out.2.mono HB67.out.size))
        clear hx8 HNX
        refine ⟨hS, ?_⟩
        clear hS
        obtain ⟨Bv, dv, Bc, dc, Bi, di, rfl, _⟩ := HX8.out.form
        obtain ⟨S, hSq⟩ : ∃ S, nxtS k dm ni L s = S := ⟨_, rfl⟩
        rw [hSq] at HX8 HZ ⊢
        clear hSq
        obtain ⟨n1, hn1⟩ : ∃ n1, S.vals.length = n1 := ⟨_, rfl⟩
        obtain ⟨n2, hn2⟩ : ∃ n2, S.chg.length = n2 := ⟨_, rfl⟩
        obtain ⟨n3, hn3⟩ : ∃ n3, S.inb.length = n3 := ⟨_, rfl⟩
        rw [hn1, hn2, hn3] at HX8 ⊢
        clear hn1 hn2 hn3
        simp only [Act.put, List.setIfInBounds_toArray, List.set_cons_zero, List.set_cons_succ]
        refine Tl.headX_rest (by kernel_rfl) ?_
        simp only [List.drop_succ_cons, List.drop_zero]
        obtain ⟨r0, r1, r2, r3, r4, r5, rl⟩ := six HR8.out
        have f0 := warm HR8.out 0; have f1 := warm HR8.out 1; have f2 := warm HR8.out 2; have f3 := warm HR8.out 3; have f4 := warm HR8.out 4; have f5 := warm HR8.out 5
        go_wp2
        have hX := put6_heap HR8.out (.int .i64 (p + 1)) (.slice Bv n1 dv) (.slice Bc n2 dc) (.slice Bi n3 di) (.int .i64 S.sum) (.int .i64 S.most)
        have hBX := put6_below HB8.out (b := n0 + 1 + 1 + 1) (by have := HN0.out; omega) (.int .i64 (p + 1)) (.slice Bv n1 dv) (.slice Bc n2 dc) (.slice Bi n3 di) (.int .i64 S.sum) (.int .i64 S.most)
        have hSX := (HX8.out.mono HB7.out.size).moved HR8.out (fun j hj => put6_other w8 (n0 + 1 + 1 + 1) j (.int .i64 (p + 1)) (.slice Bv n1 dv) (.slice Bc n2 dc) (.slice Bi n3 di) (.int .i64 S.sum) (.int .i64 S.most) hj)
        unfold put6 at hX hBX hSX
        exact bodyPost_ret (v := .tuple #[.agg #[.int .i64 (p + 1), .slice Bv n1 dv, .slice Bc n2 dc, .slice Bi n3 di, .int .i64 S.sum, .int .i64 S.most], .int .i64 0]) (res2_s _ _ _ _ _ _ _ _ _ _ _ _ _ Tryz.results17 rfl rfl hX) rfl ⟨_, by rw [HZ.out], Lib.hid (by rw [HZ.out]; exact hSX), Lib.hid hBX⟩
  · have hq : stepR k st so dm ep V L p s = (0, zS, E) := by unfold stepR; rw [if_neg (by rw [← HE.out]; exact hE0), ← HE.out]
    have HQ := Lib.hid hq
    obtain ⟨r0, r1, r2, r3, r4, r5, rl⟩ := six HR5.out
    have f0 := warm HR5.out 0; have f1 := warm HR5.out 1; have f2 := warm HR5.out 2; have f3 := warm HR5.out 3; have f4 := warm HR5.out 4; have f5 := warm HR5.out 5
    clear hq
    go_wp2
    obtain ⟨hX, hRes⟩ := bad_res HQ.out HB5.out (b := n0 + 1 + 1 + 1) (by have := HN0.out; omega) HR5.out
    unfold put6 at hX hRes
    exact bodyPost_ret (v := .tuple #[.agg #[.int .i64 0, .slice none 0 0, .slice none 0 0, .slice none 0 0, .int .i64 0, .int .i64 0], .int .i64 E]) (res2_s _ _ _ _ _ _ _ _ _ _ _ _ _ Tryz.results17 rfl rfl hX) rfl hRes

end Go.Proofs.YtbbmgandkmlojaaGreat.Sq

/-
  What is proved here: a contract of seq.At. Conditions: at most 1000 edges; numbers that fit an int.
-/
namespace Go.Proofs.YtbbmgandkmlojaaGreat.Sq
open Go.RowKit Go.Shelf Gr Wd Ws Fx Rk Lb Al In
open Pa (vl bt vl_of vl_at bt_of bt_at)

theorem SOwn.at' {w : World} {B : Nat} {x : Value} {st : Int} {s : Sq} (h : SOwn w B x st s) : ∃ Av cv Ac cc Ai ci, x = .agg #[.int .i64 st, .slice Av s.vals.length cv, .slice Ac s.chg.length cc, .slice Ai s.inb.length ci, .int .i64 s.sum, .int .i64 s.most] ∧ QOwn w B (.slice Av s.vals.length cv) s.vals ∧ BOwn w B (.slice Ac s.chg.length cc) s.chg ∧ KOwn w B (.slice Ai s.inb.length ci) s.inb := by
  obtain ⟨Av, cv, Ac, cc, Ai, ci, e, _, h1, h2, h3⟩ := h.at
  exact ⟨Av, cv, Ac, cc, Ai, ci, e, h1, h2, h3⟩
set_option maxRecDepth 100000 in
set_option maxHeartbeats 600000 in
theorem seqAt_any (k st so dm ep V : Int) (A : Option Addr) (n c : Nat) (L : List Ed) (kk : Int) (w : World) (hL : EAt w A L) (hn : L.length = n) (hm : n ≤ 1000) :
    Calls Tryz.prog 19 #[.agg #[.int .i64 V, .slice A n c], .agg #[.int .u8 k, .int .i64 st, .int .i64 so, .int .i64 dm, .int .i64 ep], .int .i64 kk] w fun e w' => Res w w' e (atR k st so dm ep V L kk) := by
  have mixed := mixedI
  have HL := Lib.hid hL; have HN := Lib.hid hn
  clear hL hn
  obtain ⟨W3, hW3⟩ : ∃ W3, W3 = ((w.alloc (.cells #[.int .i64 V, .slice A n c] 24)).alloc (.cells #[.int .u8 k, .int .i64 st, .int .i64 so, .int .i64 dm, .int .i64 ep] 26)).alloc (.cells #[.int .i64 0, .slice none 0 0, .slice none 0 0, .slice none 0 0, .int .i64 0, .int .i64 0] 33) := ⟨_, rfl⟩
  have hal := al3 w (.cells #[.int .i64 V, .slice A n c] 24) (.cells #[.int .u8 k, .int .i64 st, .int .i64 so, .int .i64 dm, .int .i64 ep] 26) (.cells #[.int .i64 0, .slice none 0 0, .slice none 0 0, .slice none 0 0, .int .i64 0, .int .i64 0] 33)
  rw [← hW3] at hal
  obtain ⟨n0, e0⟩ : ∃ n0, n0 = w.heap.size := ⟨_, rfl⟩
  have HG : Hid (W3.heap[n0]? = some (.cells #[.int .i64 V, .slice A n c] 24 (0, 0))) := Lib.hid (by rw [e0]; exact hal.1)
  have HJ : Hid (W3.heap[n0 + 1]? = some (.cells #[.int .u8 k, .int .i64 st, .int .i64 so, .int .i64 dm, .int .i64 ep] 26 (0, 0))) := Lib.hid (by rw [e0]; exact hal.2.1)
  have HR : Hid (W3.heap[n0 + 1 + 1]? = some (.cells #[.int .i64 0, .slice none 0 0, .slice none 0 0, .slice none 0 0, .int .i64 0, .int .i64 0] 33 (0, 0))) := Lib.hid (by rw [e0]; exact hal.2.2.1)
  have HB := Lib.hid hal.2.2.2
  have HN0 : Hid (w.heap.size ≤ n0) := Lib.hid (by omega)
  clear hal
  obtain ⟨g0, g1, _⟩ := two HG.out
  obtain ⟨j0, j1, j2, j3, j4, _⟩ := jb_cells HJ.out
  obtain ⟨E, hE⟩ : ∃ E, E = chkJ k st so dm ep V L := ⟨_, rfl⟩
  have HC : Hid (∀ W, Below w.heap.size w W → Calls Tryz.prog 24 #[.agg #[.int .i64 V, .slice A n c], .agg #[.int .u8 k, .int .i64 st, .int .i64 so, .int .i64 dm, .int .i64 ep]] W fun e w' => e = .returned (.int .i64 E) ∧ Below W.heap.size W w') := Lib.hid (fun W h => by
    rw [hE, ← HN.out]
    exact checkj_any k st so dm ep V A c L W (HL.out.below h) (by rw [HN.out]; omega))
  have HE := Lib.hid hE
  clear hE
  go_enter Tryz.func19, Tryz.ntmps19
  go_upto_region 1 with fail
  rw [← hW3, show w.heap.size = n0 from e0.symm]
  clear hW3 e0
  go_wp2_with fail
  refine (HC.out _ HB.out).mono ?_
  rintro e w4 ⟨rfl, hb4⟩
  have HG4 := Lib.hid (keep HG.out hb4); have HJ4 := Lib.hid (keep HJ.out hb4); have HR4 := Lib.hid (keep HR.out hb4)
  have HB4 := Lib.hid (step_below HB.out HB.out.size hb4)
  clear hb4 g0 g1 j0 j1 j2 j3 j4 HG HJ HR HB HC
  by_cases hE0 : E = 0
  · subst hE0
    obtain ⟨hz, hst0, hst1, hk, hd0, hd1⟩ := chkJ_zero HE.out.symm
    obtain ⟨Vn, rfl, hV1, hV2, hfit⟩ := chk_facts hz
    have HGO : Hid (∀ q, GoS k Vn L (stS k so dm Vn L q)) := Lib.hid (fun q => go_all hz (fun _ => ⟨hd0, hd1⟩) q)
    have HFI := Lib.hid hfit
    have HDM : Hid (I63 dm) := Lib.hid (by unfold I63; omega)
    have HKK := Lib.hid hk; have HST := Lib.hid hst0
    clear hfit hz hst0 hst1 hk hd0 hd1
    obtain ⟨g0, g1, _⟩ := two HG4.out
    obtain ⟨j0, j1, j2, j3, j4, _⟩ := jb_cells HJ4.out
    by_cases hr : 0 ≤ kk ∧ kk ≤ 2000
    case neg =>
      have hq : atR k st so dm ep (Vn : Int) L kk = (0, zS, 4) := by unfold atR; rw [if_pos HE.out.symm, if_neg hr]
      obtain ⟨r0, r1, r2, r3, r4, r5, rl⟩ := six HR4.out
      have f0 := warm HR4.out 0; have f1 := warm HR4.out 1; have f2 := warm HR4.out 2; have f3 := warm HR4.out 3; have f4 := warm HR4.out 4; have f5 := warm HR4.out 5
      have HQ := Lib.hid hq
      clear hq
      by_cases h0 : kk < 0
      · clear hr
        go_wp2
        obtain ⟨hX, hRes⟩ := bad_res HQ.out HB4.out (b := n0 + 1 + 1) (by have := HN0.out; omega) HR4.out
        unfold put6 at hX hRes
        exact bodyPost_ret (v := .tuple #[.agg #[.int .i64 0, .slice none 0 0, .slice none 0 0, .slice none 0 0, .int .i64 0, .int .i64 0], .int .i64 4]) (res2_s _ _ _ _ _ _ _ _ _ _ _ _ _ Tryz.results19 rfl rfl hX) rfl hRes
      · have h2 : 2000 < kk := by omega
        clear hr
        go_wp2
        obtain ⟨hX, hRes⟩ := bad_res HQ.out HB4.out (b := n0 + 1 + 1) (by have := HN0.out; omega) HR4.out
        unfold put6 at hX hRes
        exact bodyPost_ret (v := .tuple #[.agg #[.int .i64 0, .slice none 0 0, .slice none 0 0, .slice none 0 0, .int .i64 0, .int .i64 0], .int .i64 4]) (res2_s _ _ _ _ _ _ _ _ _ _ _ _ _ Tryz.results19 rfl rfl hX) rfl hRes
    obtain ⟨m, rfl⟩ : ∃ m : Nat, kk = (m : Int) := ⟨kk.toNat, by omega⟩
    have hm2 : m ≤ 2000 := by omega
    have HZ0 : Hid (∀ q, q = m → atR k st so dm ep (Vn : Int) L (m : Int) = ((q : Int), stS k so dm Vn L q, 0)) := Lib.hid (fun q e => by subst e; unfold atR; rw [if_pos HE.out.symm, if_pos hr]; rfl)
    clear hr
    go_wp2_with fail
    refine (course_any k st so dm ep Vn A c n L w4 (HL.out.below HB4.out) HN.out.symm (by rw [HN.out]; omega) hV2).mono ?_
    rintro e w5 ⟨v, rfl, hv, hb5⟩
    obtain ⟨Ae, ce, rfl, _⟩ := hv.out.form
    rw [egs_len] at hv ⊢
    have HV5 := hv
    have HB5 := Lib.hid (step_below HB4.out HB4.out.size hb5.out)
    have HR5 := Lib.hid (keep HR4.out hb5.out); have HJ5 := Lib.hid (keep HJ4.out hb5.out)
    clear hb5 g0 g1 j0 j1 j2 j3 j4 hv
    obtain ⟨W6, hW6⟩ : ∃ W6, W6 = w5.alloc (.cells #[.int .u8 k, .int .i64 st, .int .i64 so, .int .i64 dm, .int .i64 ep, .slice Ae Vn ce] 61) := ⟨_, rfl⟩
    have hb6 : Below w5.heap.size w5 W6 := by rw [hW6]; exact (Below.refl _ w5).alloc (Nat.le_refl _) _
    obtain ⟨b9, eb9⟩ : ∃ b9, b9 = w5.heap.size := ⟨_, rfl⟩
    have HC6 : Hid (W6.heap[b9]? = some (.cells #[.int .u8 k, .int .i64 st, .int .i64 so, .int .i64 dm, .int .i64 ep, .slice Ae Vn ce] 61 (0, 0))) := Lib.hid (by rw [hW6, eb9]; exact heap_alloc_new w5 _)
    have HB6 := Lib.hid (step_below HB5.out HB5.out.size hb6)
    have HR6 := Lib.hid (keep HR5.out hb6); have HJ6 := Lib.hid (keep HJ5.out hb6)
    have HV6 := Lib.hid (HV5.out.below hb6)
    have HB9 : Hid (n0 + 1 + 1 < b9) := Lib.hid (by rw [eb9]; exact lt_of_block HR5.out)
    go_upto_region 7 with fail
    rw [← hW6, show w5.heap.size = b9 from eb9.symm]
    clear hW6 hb6 eb9 HR5 HJ5 HV5
    obtain ⟨c0, c1, c2, c3, c4, c5, _⟩ := six HC6.out
    go_wp2_with fail
    refine (sstart_any k st so dm ep Vn L Ae ce w4.heap.size W6 HV6.out hV2 (by rw [HN.out]; omega) HFI.out).mono ?_
    rintro e w7 ⟨x, rfl, hx, hb7⟩
    have HX7 := hx
    have HB7 := Lib.hid (step_below HB6.out HB6.out.size hb7.out)
    have HR7 := Lib.hid (keep HR6.out hb7.out); have HC7 := Lib.hid (keep HC6.out hb7.out); have HJ7 := Lib.hid (keep HJ6.out hb7.out); have HV7 := Lib.hid (HV6.out.below hb7.out)
    have HZ7 : Hid (b9 < w7.heap.size) := Lib.hid (lt_of_block HC7.out)
    have HM7 : Hid (w.heap.size ≤ W6.heap.size) := Lib.hid HB6.out.size
    clear hb7 hx c0 c1 c2 c3 c4 c5 HR6 HC6 HJ6 HV6
    obtain ⟨Av, cv, Ac, cc, Ai, ci, rfl, ⟨hq0, hm0, hk0⟩⟩ := HX7.out.at'
    rw [show strS k so Vn L = stS k so dm Vn L 0 from rfl] at HX7 hq0 hm0 hk0 ⊢
    obtain ⟨s0, hs0⟩ : ∃ s0, s0 = stS k so dm Vn L 0 := ⟨_, rfl⟩
    rw [← hs0] at HX7 hq0 hm0 hk0 ⊢
    obtain ⟨a1, ha1⟩ : ∃ a, a = s0.vals.length := ⟨_, rfl⟩
    obtain ⟨a2, ha2⟩ : ∃ a, a = s0.chg.length := ⟨_, rfl⟩
    obtain ⟨a3, ha3⟩ : ∃ a, a = s0.inb.length := ⟨_, rfl⟩
    rw [← ha1, ← ha2, ← ha3] at HX7 ⊢
    rw [← ha1] at hq0; rw [← ha2] at hm0; rw [← ha3] at hk0
    clear ha1 ha2 ha3
    obtain ⟨W8, hW8⟩ : ∃ W8, W8 = w7.alloc (.cells #[.int .i64 0, .slice Av a1 cv, .slice Ac a2 cc, .slice Ai a3 ci, .int .i64 s0.sum, .int .i64 s0.most] 33) := ⟨_, rfl⟩
    have hb8 : Below w7.heap.size w7 W8 := by rw [hW8]; exact (Below.refl _ w7).alloc (Nat.le_refl _) _
    obtain ⟨b10, eb10⟩ : ∃ b10, b10 = w7.heap.size := ⟨_, rfl⟩
    obtain ⟨fx, hfx⟩ : ∃ fx : Fxd, fx = [(n0 + 1, #[.int .u8 k, .int .i64 st, .int .i64 so, .int .i64 dm, .int .i64 ep], 26), (n0 + 1 + 1, #[.int .i64 0, .slice none 0 0, .slice none 0 0, .slice none 0 0, .int .i64 0, .int .i64 0], 33), (b9, #[.int .u8 k, .int .i64 st, .int .i64 so, .int .i64 dm, .int .i64 ep, .slice Ae Vn ce], 61)] := ⟨_, rfl⟩
    have HH8 : Hid (LpH w W8 b10 w.heap.size w4.heap.size fx ((0 : Nat) : Int) (stS k so dm Vn L 0) (.slice Ae Vn ce) (egs Vn L)) := Lib.hid (by
      refine ⟨step_below HB7.out HB7.out.size hb8, ?_, ⟨.slice Av a1 cv, .slice Ac a2 cc, .slice Ai a3 ci, ?_, (own_mono (own_below (hs0 ▸ hq0) hb8) HM7.out), (own_mono (own_below (hs0 ▸ hm0) hb8) HM7.out), (own_mono (own_below (hs0 ▸ hk0) hb8) HM7.out)⟩, HV7.out.below hb8, ?_, by rw [eb10]; exact HB7.out.size⟩
      · rw [hfx]; intro p hp
        simp only [List.mem_cons, List.not_mem_nil, or_false] at hp
        rcases hp with rfl | rfl | rfl
        · exact keep HJ7.out hb8
        · exact keep HR7.out hb8
        · exact keep HC7.out hb8
      · rw [hW8, eb10, ← hs0]; exact heap_alloc_new w7 _
      · rw [hfx]; intro p hp
        have h9 := HB9.out
        have h7 := HZ7.out
        simp only [List.mem_cons, List.not_mem_nil, or_false] at hp
        rcases hp with rfl | rfl | rfl <;> (simp only []; omega))
    have HF1 : Hid (∀ W i s, LpH w W b10 w.heap.size w4.heap.size fx i s (.slice Ae Vn ce) (egs Vn L) → W.heap[n0 + 1]? = some (.cells #[.int .u8 k, .int .i64 st, .int .i64 so, .int .i64 dm, .int .i64 ep] 26 (0, 0))) := Lib.hid (fun W i s h => h.fixed (n0 + 1, #[.int .u8 k, .int .i64 st, .int .i64 so, .int .i64 dm, .int .i64 ep], 26) (by rw [hfx]; exact List.mem_cons_self))
    have HF2 : Hid (∀ W i s, LpH w W b10 w.heap.size w4.heap.size fx i s (.slice Ae Vn ce) (egs Vn L) → W.heap[n0 + 1 + 1]? = some (.cells #[.int .i64 0, .slice none 0 0, .slice none 0 0, .slice none 0 0, .int .i64 0, .int .i64 0] 33 (0, 0))) := Lib.hid (fun W i s h => h.fixed (n0 + 1 + 1, #[.int .i64 0, .slice none 0 0, .slice none 0 0, .slice none 0 0, .int .i64 0, .int .i64 0], 33) (by rw [hfx]; exact List.mem_cons_of_mem _ List.mem_cons_self))
    have HF3 : Hid (∀ W i s, LpH w W b10 w.heap.size w4.heap.size fx i s (.slice Ae Vn ce) (egs Vn L) → W.heap[b9]? = some (.cells #[.int .u8 k, .int .i64 st, .int .i64 so, .int .i64 dm, .int .i64 ep, .slice Ae Vn ce] 61 (0, 0))) := Lib.hid (fun W i s h => h.fixed (b9, #[.int .u8 k, .int .i64 st, .int .i64 so, .int .i64 dm, .int .i64 ep, .slice Ae Vn ce], 61) (by rw [hfx]; exact List.mem_cons_of_mem _ (List.mem_cons_of_mem _ List.mem_cons_self)))
    clear hs0 hfx hq0 hm0 hk0
    go_upto_region 8 with fail
    rw [← hW8, show w7.heap.size = b10 from eb10.symm]
    clear hW8 hb8 eb10 HX7 HR7 HC7 HJ7 HV7 HB7 HZ7 HM7
    go_wp2_with fail
    go_loopg [31] m (fun gk i wr => ∃ q : Nat, q + gk = m ∧ i = .int .i64 (q : Int) ∧ Hid (LpH w wr b10 w.heap.size w4.heap.size fx (q : Int) (stS k so dm Vn L q) (.slice Ae Vn ce) (egs Vn L)))
    case atStart => exact ⟨0, by omega, rfl, HH8⟩
    case round =>
      clear HH8
      obtain ⟨q, hq, rfl, HH⟩ := hrel
      by_cases hlt : q < m
      · have HXX : True := trivial
        obtain ⟨va, vc, vi, hbs, hq0, hm0, hk0⟩ := HH.out.rows
        have FIT := Lib.hid (fit_go (HGO.out q))
        obtain ⟨S, hS⟩ : ∃ S, S = stS k so dm Vn L q := ⟨_, rfl⟩
        rw [← hS] at hbs hq0 hm0 hk0 FIT HH
        have HS := Lib.hid hS
        clear hS
        obtain ⟨Av, cv, rfl, hv0⟩ := hq0.form
        obtain ⟨Ac, cc, rfl, hc0⟩ := hm0.form
        obtain ⟨Ai, ci, rfl, hi0, _⟩ := hk0.room
        have hsv : SAt wr Av Ac Ai S.vals.length S.chg.length S.inb.length S := ⟨hv0, hc0, hi0, rfl, rfl, rfl⟩
        rw [FIT.out.nv, FIT.out.ni] at hbs
        obtain ⟨a2, ha2⟩ : ∃ a, a = S.chg.length := ⟨_, rfl⟩
        rw [← ha2] at hbs
        clear ha2 hq0 hm0 hk0 hv0 hc0 hi0
        have HSB := Lib.hid hbs
        clear hbs
        obtain ⟨x0, x1, x2, x3, x4, x5, _⟩ := six HSB.out
        obtain ⟨c0, c1, c2, c3, c4, c5, _⟩ := six (HF3.out _ _ _ HH.out)
        clear HXX
        go_wp2_with fail
        refine (next_any k st so dm ep (q : Int) Vn L Ae Av Ac Ai ce cv cc ci a2 w4.heap.size S wr HH.out.edges hsv.v hsv.i FIT.out.nv FIT.out.ni FIT.out.v FIT.out.i FIT.out.sm (nxt_i63 FIT.out.v FIT.out.i) HDM.out ⟨by omega, by omega⟩ hV2 (by rw [HN.out]; omega) HFI.out).mono ?_
        rintro e w9 ⟨x, rfl, hx, hb9⟩
        have HH9 := Lib.hid (HH.out.step hb9.out)
        have HX9 := Lib.hid (hx.out.mono HH.out.below.size)
        clear hx hb9 hsv HSB c0 c1 c2 c3 c4 c5 x0 x1 x2 x3 x4 x5 FIT
        obtain ⟨Bv, dv, Bc, dc, Bi, di, rfl, ⟨hq1, hm1, hk1⟩⟩ := HX9.out.at'
        obtain ⟨T, hT⟩ : ∃ T, nxtS k dm Vn L S = T := ⟨_, rfl⟩
        rw [hT] at HX9 hq1 hm1 hk1 ⊢
        have HT : Hid (T = stS k so dm Vn L (q + 1)) := Lib.hid (by rw [← hT, HS.out]; exact (stS_next k so dm Vn L q).symm)
        clear hT
        obtain ⟨m1, hm1'⟩ : ∃ a, a = T.vals.length := ⟨_, rfl⟩
        obtain ⟨m2, hm2'⟩ : ∃ a, a = T.chg.length := ⟨_, rfl⟩
        obtain ⟨m3, hm3'⟩ : ∃ a, a = T.inb.length := ⟨_, rfl⟩
        rw [← hm1', ← hm2', ← hm3'] at HX9 ⊢
        rw [← hm1'] at hq1; rw [← hm2'] at hm1; rw [← hm3'] at hk1
        clear hm1' hm2' hm3'
        have HP := Lib.hid (HH9.out.put (j := (q : Int) + 1) hq1 hm1 hk1)
        obtain ⟨z1, z2, z3, hzb, _, _, _⟩ := HH9.out.rows
        obtain ⟨y0, y1, y2, y3, y4, y5, yl⟩ := six hzb
        have f0 := warm hzb 0; have f1 := warm hzb 1; have f2 := warm hzb 2; have f3 := warm hzb 3; have f4 := warm hzb 4; have f5 := warm hzb 5
        clear hzb hq1 hm1 hk1 HX9 HH HH9
        go_wp2
        go_roundg (gk - 1)
        case measure => omega
        case rel =>
          refine ⟨q + 1, by omega, by go_num, ?_⟩
          have h := HP.out
          unfold put6 at h
          rw [← HT.out, show ((q + 1 : Nat) : Int) = (q : Int) + 1 from rfl]
          exact Lib.hid h
      · obtain rfl : q = m := by omega
        have HZ := Lib.hid (HZ0.out q rfl)
        clear HZ0
        obtain ⟨va, vc, vi, hbs, hq0, hm0, hk0⟩ := HH.out.rows
        obtain ⟨Av, cv, rfl, _⟩ := hq0.form
        obtain ⟨Ac, cc, rfl, _⟩ := hm0.form
        obtain ⟨Ai, ci, rfl, _⟩ := hk0.room
        obtain ⟨S, hS⟩ : ∃ S, stS k so dm Vn L q = S := ⟨_, rfl⟩
        rw [hS] at hbs hq0 hm0 hk0 HZ
        clear hS
        obtain ⟨a1, ha1⟩ : ∃ a, a = S.vals.length := ⟨_, rfl⟩
        obtain ⟨a2, ha2⟩ : ∃ a, a = S.chg.length := ⟨_, rfl⟩
        obtain ⟨a3, ha3⟩ : ∃ a, a = S.inb.length := ⟨_, rfl⟩
        rw [← ha1, ← ha2, ← ha3] at hbs
        rw [← ha1] at hq0; rw [← ha2] at hm0; rw [← ha3] at hk0
        clear ha1 ha2 ha3
        have HBS := Lib.hid hbs; have HQ0 := Lib.hid hq0; have HM0 := Lib.hid hm0; have HK0 := Lib.hid hk0
        have HRB := Lib.hid (HF2.out _ _ _ HH.out)
        clear hbs hq0 hm0 hk0
        obtain ⟨x0, x1, x2, x3, x4, x5, _⟩ := six HBS.out
        obtain ⟨r0, r1, r2, r3, r4, r5, rl⟩ := six HRB.out
        have f0 := warm HRB.out 0; have f1 := warm HRB.out 1; have f2 := warm HRB.out 2; have f3 := warm HRB.out 3; have f4 := warm HRB.out 4; have f5 := warm HRB.out 5
        go_wp2
        have hX := put6_heap HRB.out (.int .i64 (q : Int)) (.slice Av a1 cv) (.slice Ac a2 cc) (.slice Ai a3 ci) (.int .i64 S.sum) (.int .i64 S.most)
        have hBX := put6_below HH.out.below (b := n0 + 1 + 1) (by have := HN0.out; omega) (.int .i64 (q : Int)) (.slice Av a1 cv) (.slice Ac a2 cc) (.slice Ai a3 ci) (.int .i64 S.sum) (.int .i64 S.most)
        have h1 := put6_moved HQ0.out HRB.out (by decide) (.int .i64 (q : Int)) (.slice Av a1 cv) (.slice Ac a2 cc) (.slice Ai a3 ci) (.int .i64 S.sum) (.int .i64 S.most)
        have h2 := put6_moved HM0.out HRB.out (by decide) (.int .i64 (q : Int)) (.slice Av a1 cv) (.slice Ac a2 cc) (.slice Ai a3 ci) (.int .i64 S.sum) (.int .i64 S.most)
        have h3 := put6_moved HK0.out HRB.out (by decide) (.int .i64 (q : Int)) (.slice Av a1 cv) (.slice Ac a2 cc) (.slice Ai a3 ci) (.int .i64 S.sum) (.int .i64 S.most)
        unfold put6 at hX hBX h1 h2 h3
        exact bodyPost_ret (v := .tuple #[.agg #[.int .i64 (q : Int), .slice Av a1 cv, .slice Ac a2 cc, .slice Ai a3 ci, .int .i64 S.sum, .int .i64 S.most], .int .i64 0]) (res2_s _ _ _ _ _ _ _ _ _ _ _ _ _ Tryz.results19 rfl rfl hX) rfl ⟨_, by rw [HZ.out], Lib.hid (by rw [HZ.out]; exact ⟨_, _, _, rfl, h1, h2, h3⟩), Lib.hid hBX⟩

  · have hq : atR k st so dm ep V L kk = (0, zS, E) := by unfold atR; rw [if_neg (by rw [← HE.out]; exact hE0), ← HE.out]
    obtain ⟨r0, r1, r2, r3, r4, r5, rl⟩ := six HR4.out
    have f0 := warm HR4.out 0; have f1 := warm HR4.out 1; have f2 := warm HR4.out 2; have f3 := warm HR4.out 3; have f4 := warm HR4.out 4; have f5 := warm HR4.out 5
    have HQ := Lib.hid hq
    clear hq
    go_wp2
    obtain ⟨hX, hRes⟩ := bad_res HQ.out HB4.out (b := n0 + 1 + 1) (by have := HN0.out; omega) HR4.out
    unfold put6 at hX hRes
    exact bodyPost_ret (v := .tuple #[.agg #[.int .i64 0, .slice none 0 0, .slice none 0 0, .slice none 0 0, .int .i64 0, .int .i64 0], .int .i64 E]) (res2_s _ _ _ _ _ _ _ _ _ _ _ _ _ Tryz.results19 rfl rfl hX) rfl hRes

end Go.Proofs.YtbbmgandkmlojaaGreat.Sq

/-
  What is proved here: a contract of seq.Run. Conditions: at most 1000 edges; numbers that fit an int.
-/
namespace Go.Proofs.YtbbmgandkmlojaaGreat.Sq
open Go.RowKit Go.Shelf Gr Wd Ws Fx Rk Lb Al In
open Pa (vl bt vl_of vl_at bt_of bt_at)

def runR (k st so dm ep V : Int) (L : List Ed) (N : Nat) : Int × Sq × Int := if chkJ k st so dm ep V L = 0 then ((N : Int), stS k so dm V.toNat L N, 0) else (0, zS, chkJ k st so dm ep V L)
set_option maxRecDepth 100000 in
set_option maxHeartbeats 600000 in
theorem seqRun_any (k st so dm ep V : Int) (A : Option Addr) (n c : Nat) (L : List Ed) (N : Nat) (w : World) (hL : EAt w A L) (hn : L.length = n) (hm : n ≤ 1000) (hN : chkJ k st so dm ep V L = 0 → donB k st ep (N : Int) (stS k so dm V.toNat L N).most = true ∧ N ≤ 2000 ∧ ∀ i : Nat, i < N → donB k st ep (i : Int) (stS k so dm V.toNat L i).most = false) :
    Calls Tryz.prog 21 #[.agg #[.int .i64 V, .slice A n c], .agg #[.int .u8 k, .int .i64 st, .int .i64 so, .int .i64 dm, .int .i64 ep]] w fun e w' => Res w w' e (runR k st so dm ep V L N) := by
  have mixed := mixedI
  have HL := Lib.hid hL; have HN := Lib.hid hn
  clear hL hn
  obtain ⟨W3, hW3⟩ : ∃ W3, W3 = ((w.alloc (.cells #[.int .i64 V, .slice A n c] 24)).alloc (.cells #[.int .u8 k, .int .i64 st, .int .i64 so, .int .i64 dm, .int .i64 ep] 26)).alloc (.cells #[.int .i64 0, .slice none 0 0, .slice none 0 0, .slice none 0 0, .int .i64 0, .int .i64 0] 33) := ⟨_, rfl⟩
  have hal := al3 w (.cells #[.int .i64 V, .slice A n c] 24) (.cells #[.int .u8 k, .int .i64 st, .int .i64 so, .int .i64 dm, .int .i64 ep] 26) (.cells #[.int .i64 0, .slice none 0 0, .slice none 0 0, .slice none 0 0, .int .i64 0, .int .i64 0] 33)
  rw [← hW3] at hal
  obtain ⟨n0, e0⟩ : ∃ n0, n0 = w.heap.size := ⟨_, rfl⟩
  have HG : Hid (W3.heap[n0]? = some (.cells #[.int .i64 V, .slice A n c] 24 (0, 0))) := Lib.hid (by rw [e0]; exact hal.1)
  have HJ : Hid (W3.heap[n0 + 1]? = some (.cells #[.int .u8 k, .int .i64 st, .int .i64 so, .int .i64 dm, .int .i64 ep] 26 (0, 0))) := Lib.hid (by rw [e0]; exact hal.2.1)
  have HR : Hid (W3.heap[n0 + 1 + 1]? = some (.cells #[.int .i64 0, .slice none 0 0, .slice none 0 0, .slice none 0 0, .int .i64 0, .int .i64 0] 33 (0, 0))) := Lib.hid (by rw [e0]; exact hal.2.2.1)
  have HB := Lib.hid hal.2.2.2
  have HN0 : Hid (w.heap.size ≤ n0) := Lib.hid (by omega)
  clear hal
  obtain ⟨g0, g1, _⟩ := two HG.out
  obtain ⟨j0, j1, j2, j3, j4, _⟩ := jb_cells HJ.out
  obtain ⟨E, hE⟩ : ∃ E, E = chkJ k st so dm ep V L := ⟨_, rfl⟩
  have HC : Hid (∀ W, Below w.heap.size w W → Calls Tryz.prog 24 #[.agg #[.int .i64 V, .slice A n c], .agg #[.int .u8 k, .int .i64 st, .int .i64 so, .int .i64 dm, .int .i64 ep]] W fun e w' => e = .returned (.int .i64 E) ∧ Below W.heap.size W w') := Lib.hid (fun W h => by
    rw [hE, ← HN.out]
    exact checkj_any k st so dm ep V A c L W (HL.out.below h) (by rw [HN.out]; omega))
  have HE := Lib.hid hE
  clear hE
  go_enter Tryz.func21, Tryz.ntmps21
  go_upto_region 1 with fail
  rw [← hW3, show w.heap.size = n0 from e0.symm]
  clear hW3 e0
  go_wp2_with fail
  refine (HC.out _ HB.out).mono ?_
  rintro e w4 ⟨rfl, hb4⟩
  have HG4 := Lib.hid (keep HG.out hb4); have HJ4 := Lib.hid (keep HJ.out hb4); have HR4 := Lib.hid (keep HR.out hb4)
  have HB4 := Lib.hid (step_below HB.out HB.out.size hb4)
  clear hb4 g0 g1 j0 j1 j2 j3 j4 HG HJ HR HB HC
  by_cases hE0 : E = 0
  · subst hE0
    obtain ⟨hz, hst0, hst1, hk, hd0, hd1⟩ := chkJ_zero HE.out.symm
    obtain ⟨Vn, rfl, hV1, hV2, hfit⟩ := chk_facts hz
    have HGO : Hid (∀ q, GoS k Vn L (stS k so dm Vn L q)) := Lib.hid (fun q => go_all hz (fun _ => ⟨hd0, hd1⟩) q)
    have HFI := Lib.hid hfit
    have HDM : Hid (I63 dm) := Lib.hid (by unfold I63; omega)
    have HKK := Lib.hid hk; have HST := Lib.hid hst0
    clear hfit hz hst0 hst1 hk hd0 hd1
    obtain ⟨g0, g1, _⟩ := two HG4.out
    obtain ⟨j0, j1, j2, j3, j4, _⟩ := jb_cells HJ4.out
    obtain ⟨hN1, hN2, hN3⟩ : donB k st ep (N : Int) (stS k so dm Vn L N).most = true ∧ N ≤ 2000 ∧ ∀ i : Nat, i < N → donB k st ep (i : Int) (stS k so dm Vn L i).most = false := hN HE.out.symm
    have HDN := Lib.hid hN1; have HDF := Lib.hid hN3
    have HZ0 : Hid (∀ q, q = N → runR k st so dm ep (Vn : Int) L N = ((q : Int), stS k so dm Vn L q, 0)) := Lib.hid (fun q e => by subst e; unfold runR; rw [if_pos HE.out.symm]; rfl)
    clear hN hN1 hN3
    go_wp2_with fail
    refine (course_any k st so dm ep Vn A c n L w4 (HL.out.below HB4.out) HN.out.symm (by rw [HN.out]; omega) hV2).mono ?_
    rintro e w5 ⟨v, rfl, hv, hb5⟩
    obtain ⟨Ae, ce, rfl, _⟩ := hv.out.form
    rw [egs_len] at hv ⊢
    have HV5 := hv
    have HB5 := Lib.hid (step_below HB4.out HB4.out.size hb5.out)
    have HR5 := Lib.hid (keep HR4.out hb5.out); have HJ5 := Lib.hid (keep HJ4.out hb5.out)
    clear hb5 g0 g1 j0 j1 j2 j3 j4 hv
    obtain ⟨W6, hW6⟩ : ∃ W6, W6 = w5.alloc (.cells #[.int .u8 k, .int .i64 st, .int .i64 so, .int .i64 dm, .int .i64 ep, .slice Ae Vn ce] 61) := ⟨_, rfl⟩
    have hb6 : Below w5.heap.size w5 W6 := by rw [hW6]; exact (Below.refl _ w5).alloc (Nat.le_refl _) _
    obtain ⟨b9, eb9⟩ : ∃ b9, b9 = w5.heap.size := ⟨_, rfl⟩
    have HC6 : Hid (W6.heap[b9]? = some (.cells #[.int .u8 k, .int .i64 st, .int .i64 so, .int .i64 dm, .int .i64 ep, .slice Ae Vn ce] 61 (0, 0))) := Lib.hid (by rw [hW6, eb9]; exact heap_alloc_new w5 _)
    have HB6 := Lib.hid (step_below HB5.out HB5.out.size hb6)
    have HR6 := Lib.hid (keep HR5.out hb6); have HJ6 := Lib.hid (keep HJ5.out hb6)
    have HV6 := Lib.hid (HV5.out.below hb6)
    have HB9 : Hid (n0 + 1 + 1 < b9) := Lib.hid (by rw [eb9]; exact lt_of_block HR5.out)
    go_upto_region 5 with fail
    rw [← hW6, show w5.heap.size = b9 from eb9.symm]
    clear hW6 hb6 eb9 HR5 HJ5 HV5
    obtain ⟨c0, c1, c2, c3, c4, c5, _⟩ := six HC6.out
    go_wp2_with fail
    refine (sstart_any k st so dm ep Vn L Ae ce w4.heap.size W6 HV6.out hV2 (by rw [HN.out]; omega) HFI.out).mono ?_
    rintro e w7 ⟨x, rfl, hx, hb7⟩
    have HX7 := hx
    have HB7 := Lib.hid (step_below HB6.out HB6.out.size hb7.out)
    have HR7 := Lib.hid (keep HR6.out hb7.out); have HC7 := Lib.hid (keep HC6.out hb7.out); have HJ7 := Lib.hid (keep HJ6.out hb7.out); have HV7 := Lib.hid (HV6.out.below hb7.out)
    have HZ7 : Hid (b9 < w7.heap.size) := Lib.hid (lt_of_block HC7.out)
    have HM7 : Hid (w.heap.size ≤ W6.heap.size) := Lib.hid HB6.out.size
    clear hb7 hx c0 c1 c2 c3 c4 c5 HR6 HC6 HJ6 HV6
    obtain ⟨Av, cv, Ac, cc, Ai, ci, rfl, ⟨hq0, hm0, hk0⟩⟩ := HX7.out.at'
    rw [show strS k so Vn L = stS k so dm Vn L 0 from rfl] at HX7 hq0 hm0 hk0 ⊢
    obtain ⟨s0, hs0⟩ : ∃ s0, s0 = stS k so dm Vn L 0 := ⟨_, rfl⟩
    rw [← hs0] at HX7 hq0 hm0 hk0 ⊢
    obtain ⟨a1, ha1⟩ : ∃ a, a = s0.vals.length := ⟨_, rfl⟩
    obtain ⟨a2, ha2⟩ : ∃ a, a = s0.chg.length := ⟨_, rfl⟩
    obtain ⟨a3, ha3⟩ : ∃ a, a = s0.inb.length := ⟨_, rfl⟩
    rw [← ha1, ← ha2, ← ha3] at HX7 ⊢
    rw [← ha1] at hq0; rw [← ha2] at hm0; rw [← ha3] at hk0
    clear ha1 ha2 ha3
    obtain ⟨W8, hW8⟩ : ∃ W8, W8 = w7.alloc (.cells #[.int .i64 0, .slice Av a1 cv, .slice Ac a2 cc, .slice Ai a3 ci, .int .i64 s0.sum, .int .i64 s0.most] 33) := ⟨_, rfl⟩
    have hb8 : Below w7.heap.size w7 W8 := by rw [hW8]; exact (Below.refl _ w7).alloc (Nat.le_refl _) _
    obtain ⟨b10, eb10⟩ : ∃ b10, b10 = w7.heap.size := ⟨_, rfl⟩
    obtain ⟨fx, hfx⟩ : ∃ fx : Fxd, fx = [(n0 + 1, #[.int .u8 k, .int .i64 st, .int .i64 so, .int .i64 dm, .int .i64 ep], 26), (n0 + 1 + 1, #[.int .i64 0, .slice none 0 0, .slice none 0 0, .slice none 0 0, .int .i64 0, .int .i64 0], 33), (b9, #[.int .u8 k, .int .i64 st, .int .i64 so, .int .i64 dm, .int .i64 ep, .slice Ae Vn ce], 61)] := ⟨_, rfl⟩
    have HH8 : Hid (LpH w W8 b10 w.heap.size w4.heap.size fx ((0 : Nat) : Int) (stS k so dm Vn L 0) (.slice Ae Vn ce) (egs Vn L)) := Lib.hid (by
      refine ⟨step_below HB7.out HB7.out.size hb8, ?_, ⟨.slice Av a1 cv, .slice Ac a2 cc, .slice Ai a3 ci, ?_, (own_mono (own_below (hs0 ▸ hq0) hb8) HM7.out), (own_mono (own_below (hs0 ▸ hm0) hb8) HM7.out), (own_mono (own_below (hs0 ▸ hk0) hb8) HM7.out)⟩, HV7.out.below hb8, ?_, by rw [eb10]; exact HB7.out.size⟩
      · rw [hfx]; intro p hp
        simp only [List.mem_cons, List.not_mem_nil, or_false] at hp
        rcases hp with rfl | rfl | rfl
        · exact keep HJ7.out hb8
        · exact keep HR7.out hb8
        · exact keep HC7.out hb8
      · rw [hW8, eb10, ← hs0]; exact heap_alloc_new w7 _
      · rw [hfx]; intro p hp
        have h9 := HB9.out
        have h7 := HZ7.out
        simp only [List.mem_cons, List.not_mem_nil, or_false] at hp
        rcases hp with rfl | rfl | rfl <;> (simp only []; omega))
    have HF1 : Hid (∀ W i s, LpH w W b10 w.heap.size w4.heap.size fx i s (.slice Ae Vn ce) (egs Vn L) → W.heap[n0 + 1]? = some (.cells #[.int .u8 k, .int .i64 st, .int .i64 so, .int .i64 dm, .int .i64 ep] 26 (0, 0))) := Lib.hid (fun W i s h => h.fixed (n0 + 1, #[.int .u8 k, .int .i64 st, .int .i64 so, .int .i64 dm, .int .i64 ep], 26) (by rw [hfx]; exact List.mem_cons_self))
    have HF2 : Hid (∀ W i s, LpH w W b10 w.heap.size w4.heap.size fx i s (.slice Ae Vn ce) (egs Vn L) → W.heap[n0 + 1 + 1]? = some (.cells #[.int .i64 0, .slice none 0 0, .slice none 0 0, .slice none 0 0, .int .i64 0, .int .i64 0] 33 (0, 0))) := Lib.hid (fun W i s h => h.fixed (n0 + 1 + 1, #[.int .i64 0, .slice none 0 0, .slice none 0 0, .slice none 0 0, .int .i64 0, .int .i64 0], 33) (by rw [hfx]; exact List.mem_cons_of_mem _ List.mem_cons_self))
    have HF3 : Hid (∀ W i s, LpH w W b10 w.heap.size w4.heap.size fx i s (.slice Ae Vn ce) (egs Vn L) → W.heap[b9]? = some (.cells #[.int .u8 k, .int .i64 st, .int .i64 so, .int .i64 dm, .int .i64 ep, .slice Ae Vn ce] 61 (0, 0))) := Lib.hid (fun W i s h => h.fixed (b9, #[.int .u8 k, .int .i64 st, .int .i64 so, .int .i64 dm, .int .i64 ep, .slice Ae Vn ce], 61) (by rw [hfx]; exact List.mem_cons_of_mem _ (List.mem_cons_of_mem _ List.mem_cons_self)))
    clear hs0 hfx hq0 hm0 hk0
    go_wp2_with fail
    rw [← hW8, show w7.heap.size = b10 from eb10.symm]
    clear hW8 hb8 eb10 HX7 HR7 HC7 HJ7 HV7 HB7 HZ7 HM7
    go_loopg [] N (fun gk wr => ∃ q : Nat, q + gk = N ∧ Hid (LpH w wr b10 w.heap.size w4.heap.size fx (q : Int) (stS k so dm Vn L q) (.slice Ae Vn ce) (egs Vn L)))
    case atStart => exact ⟨0, by omega, HH8⟩
    case round =>
      clear HH8
      obtain ⟨q, hq, HH⟩ := hrel
      by_cases hlt : q < N
      · have HDQ := Lib.hid (HDF.out q hlt)
        obtain ⟨va, vc, vi, hbs, hq0, hm0, hk0⟩ := HH.out.rows
        have FIT := Lib.hid (fit_go (HGO.out q))
        obtain ⟨S, hS⟩ : ∃ S, S = stS k so dm Vn L q := ⟨_, rfl⟩
        rw [← hS] at hbs hq0 hm0 hk0 FIT HH HDQ
        have HS := Lib.hid hS
        clear hS
        obtain ⟨Av, cv, rfl, hv0⟩ := hq0.form
        obtain ⟨Ac, cc, rfl, hc0⟩ := hm0.form
        obtain ⟨Ai, ci, rfl, hi0, _⟩ := hk0.room
        have hsv : SAt wr Av Ac Ai S.vals.length S.chg.length S.inb.length S := ⟨hv0, hc0, hi0, rfl, rfl, rfl⟩
        rw [FIT.out.nv, FIT.out.ni] at hbs
        obtain ⟨a2, ha2⟩ : ∃ a, a = S.chg.length := ⟨_, rfl⟩
        rw [← ha2] at hbs
        clear ha2 hq0 hm0 hk0 hv0 hc0 hi0
        have HSB := Lib.hid hbs
        clear hbs
        obtain ⟨x0, x1, x2, x3, x4, x5, _⟩ := six HSB.out
        obtain ⟨c0, c1, c2, c3, c4, c5, _⟩ := six (HF3.out _ _ _ HH.out)
        obtain ⟨j0, j1, j2, j3, j4, _⟩ := jb_cells (HF1.out _ _ _ HH.out)
        have HDC : Hid (Calls Tryz.prog 28 #[.agg #[.int .u8 k, .int .i64 st, .int .i64 so, .int .i64 dm, .int .i64 ep], .int .i64 (q : Int), .int .i64 S.most] wr fun e w' => e = .returned (.bool false) ∧ Below wr.heap.size wr w') := Lib.hid (by
          have h := done_any k st so dm ep (q : Int) S.most wr
          rw [show donB k st ep (q : Int) S.most = false from HDQ.out] at h; exact h)
        go_wp2_with fail
        refine HDC.out.mono ?_
        rintro e wq ⟨rfl, hbq⟩
        have HHq := Lib.hid (HH.out.step hbq)
        have HSBq := Lib.hid (keep HSB.out hbq)
        have hsvq := hsv.below hbq
        clear hbq x0 x1 x2 x3 x4 x5 c0 c1 c2 c3 c4 c5 j0 j1 j2 j3 j4 HDC HH HSB hsv HDQ
        obtain ⟨x0, x1, x2, x3, x4, x5, _⟩ := six HSBq.out
        obtain ⟨c0, c1, c2, c3, c4, c5, _⟩ := six (HF3.out _ _ _ HHq.out)
        go_wp2_with fail
        refine (next_any k st so dm ep (q : Int) Vn L Ae Av Ac Ai ce cv cc ci a2 w4.heap.size S wq HHq.out.edges hsvq.v hsvq.i FIT.out.nv FIT.out.ni FIT.out.v FIT.out.i FIT.out.sm (nxt_i63 FIT.out.v FIT.out.i) HDM.out ⟨by omega, by omega⟩ hV2 (by rw [HN.out]; omega) HFI.out).mono ?_
        rintro e w9 ⟨x, rfl, hx, hb9⟩
        have HH9 := Lib.hid (HHq.out.step hb9.out)
        have HX9 := Lib.hid (hx.out.mono HHq.out.below.size)
        clear hx hb9 hsvq HSBq c0 c1 c2 c3 c4 c5 x0 x1 x2 x3 x4 x5 FIT
        obtain ⟨Bv, dv, Bc, dc, Bi, di, rfl, ⟨hq1, hm1, hk1⟩⟩ := HX9.out.at'
        obtain ⟨T, hT⟩ : ∃ T, nxtS k dm Vn L S = T := ⟨_, rfl⟩
        rw [hT] at HX9 hq1 hm1 hk1 ⊢
        have HT : Hid (T = stS k so dm Vn L (q + 1)) := Lib.hid (by rw [← hT, HS.out]; exact (stS_next k so dm Vn L q).symm)
        clear hT
        obtain ⟨m1, hm1'⟩ : ∃ a, a = T.vals.length := ⟨_, rfl⟩
        obtain ⟨m2, hm2'⟩ : ∃ a, a = T.chg.length := ⟨_, rfl⟩
        obtain ⟨m3, hm3'⟩ : ∃ a, a = T.inb.length := ⟨_, rfl⟩
        rw [← hm1', ← hm2', ← hm3'] at HX9 ⊢
        rw [← hm1'] at hq1; rw [← hm2'] at hm1; rw [← hm3'] at hk1
        clear hm1' hm2' hm3'
        have HP := Lib.hid (HH9.out.put (j := (q : Int) + 1) hq1 hm1 hk1)
        obtain ⟨z1, z2, z3, hzb, _, _, _⟩ := HH9.out.rows
        obtain ⟨y0, y1, y2, y3, y4, y5, yl⟩ := six hzb
        have f0 := warm hzb 0; have f1 := warm hzb 1; have f2 := warm hzb 2; have f3 := warm hzb 3; have f4 := warm hzb 4; have f5 := warm hzb 5
        clear hzb hq1 hm1 hk1 HX9 HHq HH9
        go_wp2
        go_roundg (gk - 1)
        case measure => omega
        case rel =>
          refine ⟨q + 1, by omega, ?_⟩
          have h := HP.out
          unfold put6 at h
          rw [← HT.out, show ((q + 1 : Nat) : Int) = (q : Int) + 1 from rfl]
          exact Lib.hid h
      · obtain rfl : q = N := by omega
        have HZ := Lib.hid (HZ0.out q rfl)
        clear HZ0
        obtain ⟨va, vc, vi, hbs, hq0, hm0, hk0⟩ := HH.out.rows
        obtain ⟨Av, cv, rfl, _⟩ := hq0.form
        obtain ⟨Ac, cc, rfl, _⟩ := hm0.form
        obtain ⟨Ai, ci, rfl, _⟩ := hk0.room
        have HDQ := HDN
        obtain ⟨S, hS⟩ : ∃ S, stS k so dm Vn L q = S := ⟨_, rfl⟩
        rw [hS] at HDQ
        rw [hS] at hbs hq0 hm0 hk0 HZ
        clear hS
        obtain ⟨a1, ha1⟩ : ∃ a, a = S.vals.length := ⟨_, rfl⟩
        obtain ⟨a2, ha2⟩ : ∃ a, a = S.chg.length := ⟨_, rfl⟩
        obtain ⟨a3, ha3⟩ : ∃ a, a = S.inb.length := ⟨_, rfl⟩
        rw [← ha1, ← ha2, ← ha3] at hbs
        rw [← ha1] at hq0; rw [← ha2] at hm0; rw [← ha3] at hk0
        clear ha1 ha2 ha3
        have HBS := Lib.hid hbs; have HQ0 := Lib.hid hq0; have HM0 := Lib.hid hm0; have HK0 := Lib.hid hk0
        have HRB := Lib.hid (HF2.out _ _ _ HH.out)
        clear hbs hq0 hm0 hk0
        obtain ⟨x0, x1, x2, x3, x4, x5, _⟩ := six HBS.out
        obtain ⟨r0, r1, r2, r3, r4, r5, rl⟩ := six HRB.out
        have f0 := warm HRB.out 0; have f1 := warm HRB.out 1; have f2 := warm HRB.out 2; have f3 := warm HRB.out 3; have f4 := warm HRB.out 4; have f5 := warm HRB.out 5
        obtain ⟨j0, j1, j2, j3, j4, _⟩ := jb_cells (HF1.out _ _ _ HH.out)
        have HDC : Hid (Calls Tryz.prog 28 #[.agg #[.int .u8 k, .int .i64 st, .int .i64 so, .int .i64 dm, .int .i64 ep], .int .i64 (q : Int), .int .i64 S.most] wr fun e w' => e = .returned (.bool true) ∧ Below wr.heap.size wr w') := Lib.hid (by
          have h := done_any k st so dm ep (q : Int) S.most wr
          rw [show donB k st ep (q : Int) S.most = true from HDQ.out] at h; exact h)
        clear r0 r1 r2 r3 r4 r5 rl f0 f1 f2 f3 f4 f5
        go_wp2_with fail
        refine HDC.out.mono ?_
        rintro e wq ⟨rfl, hbq⟩
        have HBSq := Lib.hid (keep HBS.out hbq); have HRBq := Lib.hid (keep HRB.out hbq); have HQq := Lib.hid (HQ0.out.below hbq); have HMq := Lib.hid (HM0.out.below hbq); have HKq := Lib.hid (HK0.out.below hbq)
        have HBq := Lib.hid (step_below HH.out.below HH.out.below.size hbq)
        clear hbq x0 x1 x2 x3 x4 x5 j0 j1 j2 j3 j4 HDC
        obtain ⟨x0, x1, x2, x3, x4, x5, _⟩ := six HBSq.out
        obtain ⟨r0, r1, r2, r3, r4, r5, rl⟩ := six HRBq.out
        have f0 := warm HRBq.out 0; have f1 := warm HRBq.out 1; have f2 := warm HRBq.out 2; have f3 := warm HRBq.out 3; have f4 := warm HRBq.out 4; have f5 := warm HRBq.out 5
        go_wp2
        have hX := put6_heap HRBq.out (.int .i64 (q : Int)) (.slice Av a1 cv) (.slice Ac a2 cc) (.slice Ai a3 ci) (.int .i64 S.sum) (.int .i64 S.most)
        have hBX := put6_below HBq.out (b := n0 + 1 + 1) (by have := HN0.out; omega) (.int .i64 (q : Int)) (.slice Av a1 cv) (.slice Ac a2 cc) (.slice Ai a3 ci) (.int .i64 S.sum) (.int .i64 S.most)
        have h1 := put6_moved HQq.out HRBq.out (by decide) (.int .i64 (q : Int)) (.slice Av a1 cv) (.slice Ac a2 cc) (.slice Ai a3 ci) (.int .i64 S.sum) (.int .i64 S.most)
        have h2 := put6_moved HMq.out HRBq.out (by decide) (.int .i64 (q : Int)) (.slice Av a1 cv) (.slice Ac a2 cc) (.slice Ai a3 ci) (.int .i64 S.sum) (.int .i64 S.most)
        have h3 := put6_moved HKq.out HRBq.out (by decide) (.int .i64 (q : Int)) (.slice Av a1 cv) (.slice Ac a2 cc) (.slice Ai a3 ci) (.int .i64 S.sum) (.int .i64 S.most)
        unfold put6 at hX hBX h1 h2 h3
        exact bodyPost_ret (v := .tuple #[.agg #[.int .i64 (q : Int), .slice Av a1 cv, .slice Ac a2 cc, .slice Ai a3 ci, .int .i64 S.sum, .int .i64 S.most], .int .i64 0]) (res2_s _ _ _ _ _ _ _ _ _ _ _ _ _ Tryz.results21 rfl rfl hX) rfl ⟨_, by rw [HZ.out], Lib.hid (by rw [HZ.out]; exact ⟨_, _, _, rfl, h1, h2, h3⟩), Lib.hid hBX⟩

  · have hq : runR k st so dm ep V L N = (0, zS, E) := by unfold runR; rw [if_neg (by rw [← HE.out]; exact hE0), ← HE.out]
    obtain ⟨r0, r1, r2, r3, r4, r5, rl⟩ := six HR4.out
    have f0 := warm HR4.out 0; have f1 := warm HR4.out 1; have f2 := warm HR4.out 2; have f3 := warm HR4.out 3; have f4 := warm HR4.out 4; have f5 := warm HR4.out 5
    have HQ := Lib.hid hq
    clear hq
    go_wp2
    obtain ⟨hX, hRes⟩ := bad_res HQ.out HB4.out (b := n0 + 1 + 1) (by have := HN0.out; omega) HR4.out
    unfold put6 at hX hRes
    exact bodyPost_ret (v := .tuple #[.agg #[.int .i64 0, .slice none 0 0, .slice none 0 0, .slice none 0 0, .int .i64 0, .int .i64 0], .int .i64 E]) (res2_s _ _ _ _ _ _ _ _ _ _ _ _ _ Tryz.results21 rfl rfl hX) rfl hRes

end Go.Proofs.YtbbmgandkmlojaaGreat.Sq

/-
  What is proved here: contracts of the law's own light, few and works(): the chapter's examples hold. No condition.
-/
namespace Go.Proofs.YtbbmgandkmlojaaGreat.Sq
open Go.RowKit Go.Shelf Gr Wd Ws Fx Rk Lb Al In
open Pa (vl bt vl_of vl_at bt_of bt_at)

def lightB (V : Int) (L : List Ed) : Bool := decide (L.length ≤ 80) && (decide (V ≤ 12) || !decide (chk V L = 0))
set_option maxRecDepth 100000 in
set_option maxHeartbeats 1000000 in
theorem light_all (V : Int) (A : Option Addr) (n c : Nat) (L : List Ed) (w : World) (hL : EAt w A L) (hn : L.length = n) (hm : n ≤ 9223372036854775807) :
    Calls Tryz.prog 10 #[.agg #[.int .i64 V, .slice A n c]] w fun e w' => e = .returned (.bool (lightB V L)) ∧ Below w.heap.size w w' := by
  have HL := Lib.hid hL; have HN := Lib.hid hn
  clear hL hn
  obtain ⟨W1, hW1⟩ : ∃ W1, W1 = w.alloc (.cells #[.int .i64 V, .slice A n c] 24) := ⟨_, rfl⟩
  have hb1 : Below w.heap.size w W1 := by rw [hW1]; exact (Below.refl _ w).alloc (Nat.le_refl _) _
  obtain ⟨n0, e0⟩ : ∃ n0, n0 = w.heap.size := ⟨_, rfl⟩
  have HG : Hid (W1.heap[n0]? = some (.cells #[.int .i64 V, .slice A n c] 24 (0, 0))) := Lib.hid (by rw [hW1, e0]; exact heap_alloc_new w _)
  have HB := Lib.hid hb1
  clear hb1
  obtain ⟨g0, g1, _⟩ := two HG.out
  go_enter Tryz.func10, Tryz.ntmps10
  go_upto_region 1 with fail
  rw [← hW1, show w.heap.size = n0 from e0.symm]
  clear hW1 e0
  have HL1 := Lib.hid (light_any V A n c 80 W1)
  go_wp2_with fail
  refine HL1.out.mono ?_
  rintro e w2 ⟨rfl, hg2⟩
  have hb2 := hg2.below
  have HG2 := Lib.hid (keep HG.out hb2)
  have HB2 := Lib.hid (step_below HB.out HB.out.size hb2)
  clear hg2 hb2 HL1 HG HB g0 g1
  obtain ⟨g0, g1, _⟩ := two HG2.out
  have HC : Hid (Calls Tryz.prog 33 #[.agg #[.int .i64 V, .slice A n c]] w2 fun e w' => e = .returned (.int .i64 (chk V L)) ∧ Below w2.heap.size w2 w') := Lib.hid (by
    have h := rcheck_any V A c L w2 (HL.out.below HB2.out) (by rw [HN.out]; exact hm)
    rw [HN.out] at h; exact h)
  obtain ⟨x, hx⟩ : ∃ x, chk V L = x := ⟨_, rfl⟩
  rw [hx] at HC
  have HX := Lib.hid hx
  clear hx
  by_cases h1 : n ≤ 80
  · by_cases h2 : V ≤ 12
    · go_wp2
      go_ret
      exact ⟨by unfold lightB; rw [HN.out]; simp [h1, h2], HB2.out⟩
    · go_wp2_with fail
      refine HC.out.mono ?_
      rintro e w3 ⟨rfl, hb3⟩
      have HB3 := Lib.hid (step_below HB2.out HB2.out.size hb3)
      clear hb3
      by_cases h3 : x = 0
      · subst h3
        go_wp2
        go_ret
        exact ⟨by unfold lightB; rw [HN.out, HX.out]; simp [h1], HB3.out⟩
      · go_wp2
        go_ret
        exact ⟨by unfold lightB; rw [HN.out, HX.out]; simp [h1, h3], HB3.out⟩
  · go_wp2
    go_ret
    exact ⟨by unfold lightB; rw [HN.out]; simp [h1], HB2.out⟩
theorem lightB_few {V : Int} {L : List Ed} (h : lightB V L = true) : L.length ≤ 80 := by unfold lightB at h; simp at h; exact h.1
def fewB (nv nc ni : Nat) : Bool := decide (nv ≤ 20) && decide (nc ≤ 20) && decide (ni ≤ 20)
set_option maxRecDepth 100000 in
set_option maxHeartbeats 1000000 in
theorem few_all (p sm mo : Int) (Av Ac Ai : Option Addr) (nv nc ni cv cc ci : Nat) (w : World) :
    Calls Tryz.prog 16 #[.agg #[.int .i64 p, .slice Av nv cv, .slice Ac nc cc, .slice Ai ni ci, .int .i64 sm, .int .i64 mo]] w fun e w' => e = .returned (.bool (fewB nv nc ni)) ∧ Below w.heap.size w w' := by
  obtain ⟨W1, hW1⟩ : ∃ W1, W1 = w.alloc (.cells #[.int .i64 p, .slice Av nv cv, .slice Ac nc cc, .slice Ai ni ci, .int .i64 sm, .int .i64 mo] 33) := ⟨_, rfl⟩
  have hb1 : Below w.heap.size w W1 := by rw [hW1]; exact (Below.refl _ w).alloc (Nat.le_refl _) _
  obtain ⟨n0, e0⟩ : ∃ n0, n0 = w.heap.size := ⟨_, rfl⟩
  have HG : Hid (W1.heap[n0]? = some (.cells #[.int .i64 p, .slice Av nv cv, .slice Ac nc cc, .slice Ai ni ci, .int .i64 sm, .int .i64 mo] 33 (0, 0))) := Lib.hid (by rw [hW1, e0]; exact heap_alloc_new w _)
  have HB := Lib.hid hb1
  clear hb1
  obtain ⟨s0, s1, s2, s3, s4, s5, _⟩ := six HG.out
  go_enter Tryz.func16, Tryz.ntmps16
  go_upto_region 1 with fail
  rw [← hW1, show w.heap.size = n0 from e0.symm]
  clear hW1 e0
  by_cases h1 : nv ≤ 20 <;> by_cases h2 : nc ≤ 20 <;> by_cases h3 : ni ≤ 20
  all_goals
    go_wp2
    go_ret
    exact ⟨by unfold fewB; simp [h1, h2, h3]; try omega, HB.out⟩

/- The chapter's examples. -/
def wkL : List Ed := [(0, 1, 4), (0, 2, 1), (2, 1, 2)]
theorem wk_at1 : atR 3 9 0 0 0 4 wkL 1 = (1, stS 3 0 0 4 wkL 1, 0) := by kernel_rfl
theorem wk_at2 : (stS 3 0 0 4 wkL 1).vals = [0, 4, 1, 4611686018427387904] := by kernel_rfl
theorem wk_run1 : runR 3 9 0 0 0 4 wkL 3 = (3, stS 3 0 0 4 wkL 3, 0) := by kernel_rfl
theorem wk_run2 : (stS 3 0 0 4 wkL 3).vals = [0, 3, 1, 4611686018427387904] := by kernel_rfl
theorem wk_run3 : runR 2 9 0 0 0 4 wkL 2 = (2, stS 2 0 0 4 wkL 2, 0) := by kernel_rfl
theorem wk_run4 : (stS 2 0 0 4 wkL 2).vals = [0, 0, 0, 3] := by kernel_rfl
theorem wk_run5 : runR 2 0 0 0 0 4 wkL 0 = (0, stS 2 0 0 4 wkL 0, 0) := by kernel_rfl
theorem wk_run6 : (stS 2 0 0 4 wkL 0).vals = [0, 1, 2, 3] := by kernel_rfl
theorem wk_d1 : donB 3 9 0 3 (stS 3 0 0 4 wkL 3).most = true ∧ (3 : Nat) ≤ 2000 ∧ ∀ i : Nat, i < 3 → donB 3 9 0 (i : Int) (stS 3 0 0 4 wkL i).most = false := by
  refine ⟨by kernel_rfl, by decide, fun i hi => ?_⟩
  rcases i with _ | _ | _ | i
  · kernel_rfl
  · kernel_rfl
  · kernel_rfl
  · omega
theorem wk_d2 : donB 2 9 0 2 (stS 2 0 0 4 wkL 2).most = true ∧ (2 : Nat) ≤ 2000 ∧ ∀ i : Nat, i < 2 → donB 2 9 0 (i : Int) (stS 2 0 0 4 wkL i).most = false := by
  refine ⟨by kernel_rfl, by decide, fun i hi => ?_⟩
  rcases i with _ | _ | i
  · kernel_rfl
  · kernel_rfl
  · omega
theorem wk_d3 : donB 2 0 0 0 (stS 2 0 0 4 wkL 0).most = true ∧ (0 : Nat) ≤ 2000 ∧ ∀ i : Nat, i < 0 → donB 2 0 0 (i : Int) (stS 2 0 0 4 wkL i).most = false :=
  ⟨by kernel_rfl, by decide, fun i hi => by omega⟩
def VRes (w w' : World) (e : Ending) (p : Int) (l : List Int) : Prop := ∃ Av cv Ac nc cc Ai ni ci sm mo, e = .returned (.tuple #[.agg #[.int .i64 p, .slice Av 4 cv, .slice Ac nc cc, .slice Ai ni ci, .int .i64 sm, .int .i64 mo], .int .i64 0]) ∧ Hid (IAt w' Av l) ∧ Hid (Below w.heap.size w w')
theorem vres_of {w w' : World} {e : Ending} {r : Int × Sq × Int} {p : Int} {S : Sq} {l : List Int} (h : Res w w' e r) (hr : r = (p, S, 0)) (hv : S.vals = l) (hl : l.length = 4) : VRes w w' e p l := by
  obtain ⟨x, rfl, hx, hb⟩ := h
  subst hr
  obtain ⟨Av, cv, Ac, cc, Ai, ci, rfl, h1, _, _⟩ := hx.out.form
  simp only at h1 ⊢
  rw [hv] at h1 ⊢
  rw [hl]
  exact ⟨Av, cv, Ac, _, cc, Ai, _, ci, _, _, rfl, Lib.hid h1, hb⟩
theorem wk_eat {w : World} {g : Nat} (h : w.heap[g]? = some (.cells #[.int .i64 0, .int .i64 1, .int .i64 4, .int .i64 0, .int .i64 2, .int .i64 1, .int .i64 2, .int .i64 1, .int .i64 2] 58 (0, 0))) : EAt w (some ⟨g, 0, none⟩) wkL := by
  intro k e hk
  rcases k with _ | _ | _ | k
  · simp only [wkL, List.getElem?_cons_zero, Option.some.injEq] at hk; subst hk
    exact ⟨_, _, rfl, by rw [Lib.cell_of_heap h]; rfl, by rw [Lib.cell_of_heap h]; rfl, by rw [Lib.cell_of_heap h]; rfl⟩
  · simp only [wkL, List.getElem?_cons_zero, List.getElem?_cons_succ, Option.some.injEq] at hk; subst hk
    exact ⟨_, _, rfl, by rw [Lib.cell_of_heap h]; rfl, by rw [Lib.cell_of_heap h]; rfl, by rw [Lib.cell_of_heap h]; rfl⟩
  · simp only [wkL, List.getElem?_cons_zero, List.getElem?_cons_succ, Option.some.injEq] at hk; subst hk
    exact ⟨_, _, rfl, by rw [Lib.cell_of_heap h]; rfl, by rw [Lib.cell_of_heap h]; rfl, by rw [Lib.cell_of_heap h]; rfl⟩
  · simp [wkL] at hk
theorem four_at {w : World} {g : Nat} {x0 x1 x2 x3 : Int} (h : w.heap[g]? = some (.cells #[.int .i64 x0, .int .i64 x1, .int .i64 x2, .int .i64 x3] 2 (0, 0))) : IAt w (some ⟨g, 0, none⟩) [x0, x1, x2, x3] := by
  intro k e hk
  rcases k with _ | _ | _ | _ | k
  · simp only [List.getElem?_cons_zero, Option.some.injEq] at hk; subst hk
    exact ⟨_, _, rfl, by rw [Lib.cell_of_heap h]; rfl⟩
  · simp only [List.getElem?_cons_zero, List.getElem?_cons_succ, Option.some.injEq] at hk; subst hk
    exact ⟨_, _, rfl, by rw [Lib.cell_of_heap h]; rfl⟩
  · simp only [List.getElem?_cons_zero, List.getElem?_cons_succ, Option.some.injEq] at hk; subst hk
    exact ⟨_, _, rfl, by rw [Lib.cell_of_heap h]; rfl⟩
  · simp only [List.getElem?_cons_zero, List.getElem?_cons_succ, Option.some.injEq] at hk; subst hk
    exact ⟨_, _, rfl, by rw [Lib.cell_of_heap h]; rfl⟩
  · simp at hk
theorem wk_same (x0 x1 x2 x3 : Int) (A : Option Addr) (c : Nat) (W : World) (h : IAt W A [x0, x1, x2, x3]) : Calls Tryz.prog 27 #[.slice A 4 c, .slice (some ⟨W.heap.size, 0, none⟩) 4 4] (W.alloc (.cells #[.int .i64 x0, .int .i64 x1, .int .i64 x2, .int .i64 x3] 2)) fun e w' => e = .returned (.bool true) ∧ Below W.heap.size W w' := by
  have hb : Below W.heap.size W (W.alloc (.cells #[.int .i64 x0, .int .i64 x1, .int .i64 x2, .int .i64 x3] 2)) := (Below.refl _ W).alloc (Nat.le_refl _) _
  refine (kitq_any A (some ⟨W.heap.size, 0, none⟩) 4 4 c 4 [x0, x1, x2, x3] [x0, x1, x2, x3] _ (h.below hb) (four_at (heap_alloc_new W _)) rfl rfl (by decide) (by decide)).mono ?_
  rintro e w' ⟨rfl, h2⟩
  exact ⟨by simp, step_below hb hb.size h2⟩
structure WkH (w W : World) (n0 : Nat) : Prop where
  below : Below w.heap.size w W
  row : EAt W (some ⟨n0, 0, none⟩) wkL
  gb : W.heap[n0 + 1]? = some (.cells #[.int .i64 4, .slice (some ⟨n0, 0, none⟩) 3 3] 24 (0, 0))
  jb : W.heap[n0 + 1 + 1]? = some (.cells #[.int .u8 3, .int .i64 9, .int .i64 0, .int .i64 0, .int .i64 0] 26 (0, 0))
theorem WkH.step {w W W' : World} {n0 : Nat} (h : WkH w W n0) (k : Below W.heap.size W W') : WkH w W' n0 := ⟨step_below h.below h.below.size k, h.row.below k, keep h.gb k, keep h.jb k⟩

theorem wk_c1 {w0 W : World} {n0 : Nat} (HH : WkH w0 W n0) : Calls Tryz.prog 19 #[.agg #[.int .i64 4, .slice (some ⟨n0, 0, none⟩) 3 3], .agg #[.int .u8 3, .int .i64 9, .int .i64 0, .int .i64 0, .int .i64 0], .int .i64 1] W fun e w' => VRes W w' e 1 [0, 4, 1, 4611686018427387904] :=
  (seqAt_any 3 9 0 0 0 4 (some ⟨n0, 0, none⟩) 3 3 wkL 1 W HH.row rfl (by decide)).mono fun _ _ h => vres_of h wk_at1 wk_at2 rfl
theorem wk_c2 {w0 W : World} {n0 : Nat} (HH : WkH w0 W n0) : Calls Tryz.prog 21 #[.agg #[.int .i64 4, .slice (some ⟨n0, 0, none⟩) 3 3], .agg #[.int .u8 3, .int .i64 9, .int .i64 0, .int .i64 0, .int .i64 0]] W fun e w' => VRes W w' e 3 [0, 3, 1, 4611686018427387904] :=
  (seqRun_any 3 9 0 0 0 4 (some ⟨n0, 0, none⟩) 3 3 wkL 3 W HH.row rfl (by decide) (fun _ => wk_d1)).mono fun _ _ h => vres_of h wk_run1 wk_run2 rfl
theorem wk_c3 {w0 W : World} {n0 : Nat} (HH : WkH w0 W n0) : Calls Tryz.prog 21 #[.agg #[.int .i64 4, .slice (some ⟨n0, 0, none⟩) 3 3], .agg #[.int .u8 2, .int .i64 9, .int .i64 0, .int .i64 0, .int .i64 0]] W fun e w' => VRes W w' e 2 [0, 0, 0, 3] :=
  (seqRun_any 2 9 0 0 0 4 (some ⟨n0, 0, none⟩) 3 3 wkL 2 W HH.row rfl (by decide) (fun _ => wk_d2)).mono fun _ _ h => vres_of h wk_run3 wk_run4 rfl
theorem wk_c4 {w0 W : World} {n0 : Nat} (HH : WkH w0 W n0) : Calls Tryz.prog 21 #[.agg #[.int .i64 4, .slice (some ⟨n0, 0, none⟩) 3 3], .agg #[.int .u8 2, .int .i64 0, .int .i64 0, .int .i64 0, .int .i64 0]] W fun e w' => VRes W w' e 0 [0, 1, 2, 3] :=
  (seqRun_any 2 0 0 0 0 4 (some ⟨n0, 0, none⟩) 3 3 wkL 0 W HH.row rfl (by decide) (fun _ => wk_d3)).mono fun _ _ h => vres_of h wk_run5 wk_run6 rfl
set_option maxRecDepth 100000 in
set_option maxHeartbeats 1000000 in
theorem works_any (w : World) : Calls Tryz.prog 11 #[] w fun e w' => e = .returned (.bool true) ∧ Below w.heap.size w w' := by
  obtain ⟨W3, hW3⟩ : ∃ W3, W3 = ((w.alloc (.cells #[.int .i64 0, .int .i64 1, .int .i64 4, .int .i64 0, .int .i64 2, .int .i64 1, .int .i64 2, .int .i64 1, .int .i64 2] 58)).alloc (.cells #[.int .i64 4, .slice (some ⟨w.heap.size, 0, none⟩) 3 3] 24)).alloc (.cells #[.int .u8 3, .int .i64 9, .int .i64 0, .int .i64 0, .int .i64 0] 26) := ⟨_, rfl⟩
  have hal := al3 w (.cells #[.int .i64 0, .int .i64 1, .int .i64 4, .int .i64 0, .int .i64 2, .int .i64 1, .int .i64 2, .int .i64 1, .int .i64 2] 58) (.cells #[.int .i64 4, .slice (some ⟨w.heap.size, 0, none⟩) 3 3] 24) (.cells #[.int .u8 3, .int .i64 9, .int .i64 0, .int .i64 0, .int .i64 0] 26)
  rw [← hW3] at hal
  have HH : Hid (WkH w W3 w.heap.size) := Lib.hid ⟨hal.2.2.2, wk_eat hal.1, hal.2.1, hal.2.2.1⟩
  obtain ⟨n0, e0⟩ : ∃ n0, n0 = w.heap.size := ⟨_, rfl⟩
  rw [show w.heap.size = n0 from e0.symm] at HH hW3
  clear hal
  go_enter Tryz.func11, Tryz.ntmps11
  go_upto_region 3 with fail
  rw [show w.heap.size = n0 from e0.symm, ← hW3]
  clear hW3 e0
  obtain ⟨g0, g1, _⟩ := two HH.out.gb
  obtain ⟨j0, j1, j2, j3, j4, _⟩ := jb_cells HH.out.jb
  go_wp2_with fail
  refine (wk_c1 HH.out).mono ?_
  rintro e v1 ⟨Av1, cv1, Ac1, nc1, cc1, Ai1, ni1, ci1, sm1, mo1, rfl, hv1, hb1⟩
  obtain ⟨X1, hX1⟩ : ∃ X, X = v1.alloc (.cells #[.int .i64 1, .slice Av1 4 cv1, .slice Ac1 nc1 cc1, .slice Ai1 ni1 ci1, .int .i64 sm1, .int .i64 mo1] 33) := ⟨_, rfl⟩
  obtain ⟨b1, eb1⟩ : ∃ b, b = v1.heap.size := ⟨_, rfl⟩
  have hb : Below W3.heap.size W3 X1 := by rw [hX1]; exact hb1.out.alloc hb1.out.size _
  replace HH := Lib.hid (HH.out.step hb)
  have HV1 : Hid (IAt X1 Av1 [0, 4, 1, 4611686018427387904]) := Lib.hid (by rw [hX1]; exact hv1.out.below ((Below.refl _ v1).alloc (Nat.le_refl _) _))
  have HB1 : Hid (X1.heap[b1]? = some (.cells #[.int .i64 1, .slice Av1 4 cv1, .slice Ac1 nc1 cc1, .slice Ai1 ni1 ci1, .int .i64 sm1, .int .i64 mo1] 33 (0, 0))) := Lib.hid (by rw [hX1, eb1]; exact heap_alloc_new v1 _)
  clear hb hv1 hb1 g0 g1 j0 j1 j2 j3 j4
  go_upto_region 4 with fail
  rw [← hX1, show v1.heap.size = b1 from eb1.symm]
  clear hX1 eb1
  obtain ⟨g0, g1, _⟩ := two HH.out.gb
  obtain ⟨j0, j1, j2, j3, j4, _⟩ := jb_cells HH.out.jb
  go_wp2_with fail
  refine (wk_c2 HH.out).mono ?_
  rintro e v2 ⟨Av2, cv2, Ac2, nc2, cc2, Ai2, ni2, ci2, sm2, mo2, rfl, hv2, hb2⟩
  obtain ⟨X2, hX2⟩ : ∃ X, X = v2.alloc (.cells #[.int .i64 3, .slice Av2 4 cv2, .slice Ac2 nc2 cc2, .slice Ai2 ni2 ci2, .int .i64 sm2, .int .i64 mo2] 33) := ⟨_, rfl⟩
  obtain ⟨b2, eb2⟩ : ∃ b, b = v2.heap.size := ⟨_, rfl⟩
  have hb : Below X1.heap.size X1 X2 := by rw [hX2]; exact hb2.out.alloc hb2.out.size _
  replace HH := Lib.hid (HH.out.step hb)
  replace HB1 := Lib.hid (keep HB1.out hb); replace HV1 := Lib.hid (HV1.out.below hb)
  have HV2 : Hid (IAt X2 Av2 [0, 3, 1, 4611686018427387904]) := Lib.hid (by rw [hX2]; exact hv2.out.below ((Below.refl _ v2).alloc (Nat.le_refl _) _))
  have HB2 : Hid (X2.heap[b2]? = some (.cells #[.int .i64 3, .slice Av2 4 cv2, .slice Ac2 nc2 cc2, .slice Ai2 ni2 ci2, .int .i64 sm2, .int .i64 mo2] 33 (0, 0))) := Lib.hid (by rw [hX2, eb2]; exact heap_alloc_new v2 _)
  clear hb hv2 hb2 g0 g1 j0 j1 j2 j3 j4
  go_upto_region 5 with fail
  rw [← hX2, show v2.heap.size = b2 from eb2.symm]
  clear hX2 eb2
  obtain ⟨g0, g1, _⟩ := two HH.out.gb
  obtain ⟨j0, j1, j2, j3, j4, _⟩ := jb_cells HH.out.jb
  go_wp2_with fail
  refine (wk_c3 HH.out).mono ?_
  rintro e v3 ⟨Av3, cv3, Ac3, nc3, cc3, Ai3, ni3, ci3, sm3, mo3, rfl, hv3, hb3⟩
  obtain ⟨X3, hX3⟩ : ∃ X, X = v3.alloc (.cells #[.int .i64 2, .slice Av3 4 cv3, .slice Ac3 nc3 cc3, .slice Ai3 ni3 ci3, .int .i64 sm3, .int .i64 mo3] 33) := ⟨_, rfl⟩
  obtain ⟨b3, eb3⟩ : ∃ b, b = v3.heap.size := ⟨_, rfl⟩
  have hb : Below X2.heap.size X2 X3 := by rw [hX3]; exact hb3.out.alloc hb3.out.size _
  replace HH := Lib.hid (HH.out.step hb)
  replace HB1 := Lib.hid (keep HB1.out hb); replace HV1 := Lib.hid (HV1.out.below hb)
  replace HB2 := Lib.hid (keep HB2.out hb); replace HV2 := Lib.hid (HV2.out.below hb)
  have HV3 : Hid (IAt X3 Av3 [0, 0, 0, 3]) := Lib.hid (by rw [hX3]; exact hv3.out.below ((Below.refl _ v3).alloc (Nat.le_refl _) _))
  have HB3 : Hid (X3.heap[b3]? = some (.cells #[.int .i64 2, .slice Av3 4 cv3, .slice Ac3 nc3 cc3, .slice Ai3 ni3 ci3, .int .i64 sm3, .int .i64 mo3] 33 (0, 0))) := Lib.hid (by rw [hX3, eb3]; exact heap_alloc_new v3 _)
  clear hb hv3 hb3 g0 g1 j0 j1 j2 j3 j4
  go_upto_region 6 with fail
  rw [← hX3, show v3.heap.size = b3 from eb3.symm]
  clear hX3 eb3
  obtain ⟨g0, g1, _⟩ := two HH.out.gb
  obtain ⟨j0, j1, j2, j3, j4, _⟩ := jb_cells HH.out.jb
  go_wp2_with fail
  refine (wk_c4 HH.out).mono ?_
  rintro e v4 ⟨Av4, cv4, Ac4, nc4, cc4, Ai4, ni4, ci4, sm4, mo4, rfl, hv4, hb4⟩
  obtain ⟨X4, hX4⟩ : ∃ X, X = v4.alloc (.cells #[.int .i64 0, .slice Av4 4 cv4, .slice Ac4 nc4 cc4, .slice Ai4 ni4 ci4, .int .i64 sm4, .int .i64 mo4] 33) := ⟨_, rfl⟩
  obtain ⟨b4, eb4⟩ : ∃ b, b = v4.heap.size := ⟨_, rfl⟩
  have hb : Below X3.heap.size X3 X4 := by rw [hX4]; exact hb4.out.alloc hb4.out.size _
  replace HH := Lib.hid (HH.out.step hb)
  replace HB1 := Lib.hid (keep HB1.out hb); replace HV1 := Lib.hid (HV1.out.below hb)
  replace HB2 := Lib.hid (keep HB2.out hb); replace HV2 := Lib.hid (HV2.out.below hb)
  replace HB3 := Lib.hid (keep HB3.out hb); replace HV3 := Lib.hid (HV3.out.below hb)
  have HV4 : Hid (IAt X4 Av4 [0, 1, 2, 3]) := Lib.hid (by rw [hX4]; exact hv4.out.below ((Below.refl _ v4).alloc (Nat.le_refl _) _))
  have HB4 : Hid (X4.heap[b4]? = some (.cells #[.int .i64 0, .slice Av4 4 cv4, .slice Ac4 nc4 cc4, .slice Ai4 ni4 ci4, .int .i64 sm4, .int .i64 mo4] 33 (0, 0))) := Lib.hid (by rw [hX4, eb4]; exact heap_alloc_new v4 _)
  clear hb hv4 hb4 g0 g1 j0 j1 j2 j3 j4
  go_upto_region 7 with fail
  rw [← hX4, show v4.heap.size = b4 from eb4.symm]
  clear hX4 eb4
  obtain ⟨x0_1, x1_1, _⟩ := six HB1.out
  go_wp2_with fail
  refine (wk_same 0 4 1 4611686018427387904 Av1 cv1 X4 HV1.out).mono ?_
  rintro e u1 ⟨rfl, hb⟩
  replace HH := Lib.hid (HH.out.step hb)
  replace HB2 := Lib.hid (keep HB2.out hb); replace HV2 := Lib.hid (HV2.out.below hb)
  replace HB3 := Lib.hid (keep HB3.out hb); replace HV3 := Lib.hid (HV3.out.below hb)
  replace HB4 := Lib.hid (keep HB4.out hb); replace HV4 := Lib.hid (HV4.out.below hb)
  clear hb x0_1 x1_1 HB1 HV1
  obtain ⟨x0_2, x1_2, _⟩ := six HB2.out
  go_wp2_with fail
  refine (wk_same 0 3 1 4611686018427387904 Av2 cv2 u1 HV2.out).mono ?_
  rintro e u2 ⟨rfl, hb⟩
  replace HH := Lib.hid (HH.out.step hb)
  replace HB3 := Lib.hid (keep HB3.out hb); replace HV3 := Lib.hid (HV3.out.below hb)
  replace HB4 := Lib.hid (keep HB4.out hb); replace HV4 := Lib.hid (HV4.out.below hb)
  clear hb x0_2 x1_2 HB2 HV2
  obtain ⟨x0_3, x1_3, _⟩ := six HB3.out
  go_wp2_with fail
  refine (wk_same 0 0 0 3 Av3 cv3 u2 HV3.out).mono ?_
  rintro e u3 ⟨rfl, hb⟩
  replace HH := Lib.hid (HH.out.step hb)
  replace HB4 := Lib.hid (keep HB4.out hb); replace HV4 := Lib.hid (HV4.out.below hb)
  clear hb x0_3 x1_3 HB3 HV3
  obtain ⟨x0_4, x1_4, _⟩ := six HB4.out
  go_wp2_with fail
  refine (wk_same 0 1 2 3 Av4 cv4 u3 HV4.out).mono ?_
  rintro e u4 ⟨rfl, hb⟩
  replace HH := Lib.hid (HH.out.step hb)
  clear hb x0_4 x1_4 HB4 HV4
  go_wp2
  go_ret
  exact ⟨rfl, HH.out.below⟩

end Go.Proofs.YtbbmgandkmlojaaGreat.Sq

