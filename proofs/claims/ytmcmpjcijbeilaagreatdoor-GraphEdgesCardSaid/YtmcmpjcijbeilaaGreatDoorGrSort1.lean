/-
  What is proved here: words for a row of edges while it is sorted, the contracts of graph.order's closure, and of the library's insertionSort_func over it. Conditions: the row is one that the call has made.
-/
import Derived.Test.YtmcmpjcijbeilaaGreatDoorGrW2
import Derived.Shelf.GgSortFunc.SmallK
import Derived.Shelf.SlSortFuncK.RowK2
import Derived.Maps.AppendAt
namespace Go.Proofs.YtmcmpjcijbeilaaGreatDoor.Gr
open Go.RowKit Wd Ws Go.Sort

/- The row in block g holds d; else nothing that was in w0 has changed. -/
structure SWd (w0 w : World) (g N : Nat) (d : Array Ed) : Prop where
  holds : HoldsK ec 3 w g 0 d
  grown : w0.grownBy w (some g)
  row : ∃ cur, w.heap[g]? = some (.cells cur 42 (0, 0)) ∧ cur.size = N
  lt : g < w0.heap.size
theorem SWd.size {w0 w : World} {g N : Nat} {d : Array Ed} (h : SWd w0 w g N d) : w0.heap.size ≤ w.heap.size := h.grown.size
theorem grown_below {w w' : World} (h : Below w.heap.size w w') (r : Option Nat) : w.grownBy w' r := ⟨h.os, h.tape, h.output, h.size, fun i hi _ => h.block i hi⟩
theorem holdsK_heap {w w' : World} {g : Nat} {d : Array Ed} (h : HoldsK ec 3 w g 0 d) (e : w'.heap[g]? = w.heap[g]?) : HoldsK ec 3 w' g 0 d := by
  intro j hj
  obtain ⟨h1, h2⟩ := h j hj
  exact ⟨by unfold World.cell? at h1 ⊢; rw [e]; exact h1, by unfold World.frozen? at h2 ⊢; rw [e]; exact h2⟩
theorem SWd.below {w0 w w' : World} {g N : Nat} {d : Array Ed} (h : SWd w0 w g N d) (hb : Below w.heap.size w w') : SWd w0 w' g N d := by
  have e := hb.block g (Nat.lt_of_lt_of_le h.lt h.size)
  obtain ⟨cur, h1, h2⟩ := h.row
  exact ⟨holdsK_heap h.holds e, h.grown.trans (grown_below hb _), ⟨cur, e.trans h1, h2⟩, h.lt⟩
theorem grown_set (w : World) (a : Addr) (u : Value) : w.grownBy (w.setCell a u) (some a.block) :=
  ⟨rfl, rfl, rfl, by simp, fun i _ hi => heap_setCell_other w a i u (fun e => hi (by rw [e]))⟩
theorem grown_sets (g : Nat) : ∀ (vs : List Value) (o : Nat) (w : World), w.grownBy (w.setCells g o vs) (some g)
  | [], _, _ => ⟨rfl, rfl, rfl, Nat.le_refl _, fun _ _ _ => rfl⟩
  | v :: vs, o, w => (grown_set w ⟨g, o, none⟩ v).trans (grown_sets g vs (o + 1) _)
theorem row_sets (g N : Nat) : ∀ (vs : List Value) (o : Nat) (w : World), (∃ cur, w.heap[g]? = some (.cells cur 42 (0, 0)) ∧ cur.size = N) → ∃ cur, (w.setCells g o vs).heap[g]? = some (.cells cur 42 (0, 0)) ∧ cur.size = N
  | [], _, _, h => h
  | v :: vs, o, w, ⟨cur, h1, h2⟩ => row_sets g N vs (o + 1) _ ⟨_, heap_setCell_same w g o cur _ v h1, by simpa using h2⟩
theorem SWd.swap {w0 w : World} {g N : Nat} {d : Array Ed} (h : SWd w0 w g N d) (i j : Nat) (hi : i < d.size) (hj : j < d.size) :
    SWd w0 ((w.setCells g (0 + i * 3) (ec d[j]!)).setCells g (0 + j * 3) (ec d[i]!)) g N (swp d i j) := by
  have e := putRowK_swp ec 3 ec_len w g 0 d i j hi hj
  rw [putRowK_self ec 3 w g 0 d h.holds] at e
  refine ⟨?_, h.grown.trans ((grown_sets g _ _ _).trans (grown_sets g _ _ _)), row_sets g N _ _ _ (row_sets g N _ _ _ h.row), h.lt⟩
  rw [e]
  exact holdsK_putRowK ec 3 w g 0 d (swp d i j) h.holds (by rw [size_swp])
theorem SWd.cells {w0 w : World} {g N : Nat} {d : Array Ed} (h : SWd w0 w g N d) (i : Nat) (hi : i < d.size) :
    w.cell? ⟨g, 0 + i * 3, none⟩ = some (.int .i64 d[i]!.1) ∧ w.cell? ⟨g, 0 + i * 3 + 1, none⟩ = some (.int .i64 d[i]!.2.1) ∧ w.cell? ⟨g, 0 + i * 3 + 2, none⟩ = some (.int .i64 d[i]!.2.2) :=
  ⟨(h.holds.cell hi (c := 0) (by omega)).1, (h.holds.cell hi (c := 1) (by omega)).1, (h.holds.cell hi (c := 2) (by omega)).1⟩

/- What lies beside the row: the variable that the closure has captured. -/
structure Bes (w0 : World) (g Bs n c : Nat) : Prop where
  at_ : w0.heap[Bs]? = some (.cells #[.slice (some ⟨g, 0, none⟩) n c] 22 (0, 0))
  ne : Bs ≠ g
theorem Bes.cell {w0 W : World} {g N Bs n c : Nat} {d : Array Ed} (h : Bes w0 g Bs n c) (k : SWd w0 W g N d) : W.cell? ⟨Bs, 0, none⟩ = some (.slice (some ⟨g, 0, none⟩) n c) ∧ Bs < W.heap.size := by
  have e := (k.grown.block Bs (lt_of_block h.at_) (fun e => h.ne (Option.some.inj e))).trans h.at_
  exact ⟨by rw [Lib.cell_of_heap e]; rfl, lt_of_block e⟩

/- The closure of order: is an edge ahead of another one? -/
set_option maxRecDepth 100000 in
set_option maxHeartbeats 400000 in
theorem less_any (w0 W : World) (g N Bs n c : Nat) (d : Array Ed) (i j : Nat) (I J : Int) (hI : I = (i : Int)) (hJ : J = (j : Int)) (r : Bool) (h : Hid (SWd w0 W g N d)) (hd : Hid (d.size = n)) (hB : Hid (Bes w0 g Bs n c)) (hi : i < n) (hj : j < n) (hr : Hid (ahd d[i]! d[j]! = r)) :
    Calls Tryz.prog 51 #[.int .i64 I, .int .i64 J, .pointer (some ⟨Bs, 0, none⟩)] W fun e w' => e = .returned (.bool r) ∧ Hid (SWd w0 w' g N d) := by
  subst hI hJ
  have mixed := mixedO
  obtain ⟨b0, hbs⟩ := hB.out.cell h.out
  obtain ⟨i0, i1, i2⟩ := h.out.cells i (by rw [hd.out]; exact hi)
  obtain ⟨j0, j1, j2⟩ := h.out.cells j (by rw [hd.out]; exact hj)
  have HR : Hid (ahd (d[i]!.1, d[i]!.2.1, d[i]!.2.2) (d[j]!.1, d[j]!.2.1, d[j]!.2.2) = r) := hr
  obtain ⟨a0, ha0⟩ : ∃ x, d[i]!.1 = x := ⟨_, rfl⟩
  obtain ⟨a1, ha1⟩ : ∃ x, d[i]!.2.1 = x := ⟨_, rfl⟩
  obtain ⟨a2, ha2⟩ : ∃ x, d[i]!.2.2 = x := ⟨_, rfl⟩
  obtain ⟨e0, he0⟩ : ∃ x, d[j]!.1 = x := ⟨_, rfl⟩
  obtain ⟨e1, he1⟩ : ∃ x, d[j]!.2.1 = x := ⟨_, rfl⟩
  obtain ⟨e2, he2⟩ : ∃ x, d[j]!.2.2 = x := ⟨_, rfl⟩
  rw [ha0, ha1, ha2, he0, he1, he2] at HR
  rw [ha0] at i0; rw [ha1] at i1; rw [ha2] at i2; rw [he0] at j0; rw [he1] at j1; rw [he2] at j2
  rw [Nat.zero_add] at i0 i1 i2 j0 j1 j2
  clear ha0 ha1 ha2 he0 he1 he2
  have fb := cell_grown hbs b0
  have fi0 := cell_grown (block_lt_of_cell i0) i0; have fi1 := cell_grown (block_lt_of_cell i1) i1; have fi2 := cell_grown (block_lt_of_cell i2) i2
  have fj0 := cell_grown (block_lt_of_cell j0) j0; have fj1 := cell_grown (block_lt_of_cell j1) j1; have fj2 := cell_grown (block_lt_of_cell j2) j2
  clear b0 i0 i1 i2 j0 j1 j2
  have HC := Lib.hid (fun n os => Grw.quiet (isAhead_at a0 a1 a2 e0 e1 e2 r (Sort.grow (W.drewN n) os) HR))
  go_enter Tryz.func51, Tryz.ntmps51
  go_wp2_with fail
  refine wp_region_quiet_grown mixed (by kernel_rfl) ?_
  repeat (go_big_quiet_step ((go_at_call 34; exact HC.out _ _)))
  refine wpQuiet_nil ?_
  intro _ hw'
  obtain ⟨⟨nq, osq⟩, hw''⟩ := hw'
  subst hw''
  go_wp2
  go_ret
  exact ⟨rfl, Lib.hid (h.out.below (grw_at _ _ _).below)⟩

/- The two functions as the library's sort hands them on. -/
noncomputable def less (Bs : Nat) : Value := .func (.func 51) #[] #[.pointer (some ⟨Bs, 0, none⟩)]
noncomputable def swapV (g n c : Nat) : Value := .func (.func 92) #[] #[.slice (some ⟨g, 0, none⟩) n c, typeHandle Tryz.prog 42]
noncomputable def dat (Bs g n c : Nat) : Value := .agg #[less Bs, swapV g n c]
noncomputable def ieE : TypeInfo := (Tryz.prog.info? 42).get (by kernel_rfl)
theorem ieE_is : Tryz.prog.info? 42 = some ieE := by kernel_rfl
theorem ieE_size : ieE.size = 3 := by kernel_rfl
theorem aggE (w : World) : (isAgg 42).run Tryz.prog w = .ok true w := by kernel_rfl
theorem ec_cells : ∀ x : Ed, ∀ v ∈ ec x, v.oneCell' = true := by
  intro x v hv
  simp only [ec, List.mem_cons, List.not_mem_nil, or_false] at hv
  rcases hv with rfl | rfl | rfl <;> rfl
theorem swap_run (g n c : Nat) (W : World) (d : Array Ed) (h : HoldsK ec 3 W g 0 d) (hd : d.size = n) (i j : Nat) (hi : i < n) (hj : j < n) (I J : Int) (hI : I = (i : Int)) (hJ : J = (j : Int)) :
    (callFunc 92 #[.int .i64 I, .int .i64 J, .slice (some ⟨g, 0, none⟩) n c, typeHandle Tryz.prog 42]).run Tryz.prog W = .ok (.value (.tuple #[])) ((W.setCells g (0 + i * 3) (ec d[j]!)).setCells g (0 + j * 3) (ec d[i]!)) := by
  subst hI hJ
  exact swapSwapsK_of_literal (P := Tryz.prog) false 92 (fun args W => run_callFunc_extern Tryz.func92 (by kernel_rfl) (by kernel_rfl) (by kernel_rfl) (e := Extern.ReflectliteSwapper.swap false) (by kernel_rfl) args W)
    42 ieE ieE_is ec 3 ec_len ieE_size aggE ec_cells g 0 n c W d h hd i j hi hj

end Go.Proofs.YtmcmpjcijbeilaaGreatDoor.Gr
