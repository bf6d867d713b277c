/-
  What is proved here: plain facts on a forest of vertices that is put together edge by edge (what stands at its roots are labels), and on ways that wait to be gone on from, in whatever order (what is told when none waits are distances). No program. What is proved here: plain facts on two ways to reckon: what is gone to from vertex to vertex, either way, gives the least vertices that hang together; the nearest one settled, over and over, gives the least sums. No program.
-/
import Derived.Test.YtdcaekmgfcpbmaaGreatQcMnMath
import Derived.Test.YtdcaekmgfcpbmaaGreatQcMnMem
namespace Go.Proofs.YtdcaekmgfcpbmaaGreat.Mn
open Gr Fx Rk Lb Al In Sq
open Pa (vl bt vl_of vl_at bt_of bt_at vl_ext far Abv Fits fits_of gv addI_mono far_tight Tight Rc fr rlx tot tot_set tot_pos)
structure Fo (V : Nat) (A : List Int) (R : Nat → Nat) : Prop where
  len : A.length = V
  up : ∀ v, v < V → ∃ u : Nat, vl A v = (u : Int) ∧ u ≤ v ∧ R u = R v
  top : ∀ v, v < V → vl A v = (v : Int) → R v = v
  rt : ∀ v, v < V → R v ≤ v ∧ R (R v) = R v
def own (V : Nat) : List Int := (List.range V).map fun (v : Nat) => (v : Int)
theorem own_len (V : Nat) : (own V).length = V := by unfold own; simp
theorem own_at {V v : Nat} (h : v < V) : vl (own V) v = (v : Int) := vl_of (by unfold own; rw [List.getElem?_map, List.getElem?_range h]; rfl)
theorem own_next (V : Nat) : own (V + 1) = own V ++ [(V : Int)] := by unfold own; rw [List.range_succ, List.map_append]; rfl
theorem fo_start (V : Nat) : Fo V (own V) (fun v => v) :=
  ⟨own_len V, fun v hv => ⟨v, own_at hv, Nat.le_refl _, rfl⟩, fun _ _ _ => rfl, fun _ _ => ⟨Nat.le_refl _, rfl⟩⟩
theorem Fo.put {V : Nat} {A : List Int} {R : Nat → Nat} (h : Fo V A R) {v : Nat} (hv : v < V) : Fo V (A.set v ((R v : Nat) : Int)) R := by
  have hl : v < A.length := by rw [h.len]; exact hv
  obtain ⟨h1, h2⟩ := h.rt v hv
  refine ⟨by rw [List.length_set]; exact h.len, fun j hj => ?_, fun j hj he => ?_, h.rt⟩
  · rw [Pa.vl_set _ _ _ _ hl]
    by_cases e : v = j
    · subst e; rw [if_pos rfl]; exact ⟨R v, rfl, h1, h2⟩
    · rw [if_neg e]; exact h.up j hj
  · rw [Pa.vl_set _ _ _ _ hl] at he
    by_cases e : v = j
    · subst e; rw [if_pos rfl] at he; omega
    · rw [if_neg e] at he; exact h.top j hj he
def jr (R : Nat → Nat) (a b : Nat) : Nat → Nat := fun v => if R v = max a b then min a b else R v
theorem jr_root {R : Nat → Nat} {a b : Nat} (ha : R a = a) (hb : R b = b) : jr R a b (min a b) = min a b := by
  unfold jr
  have : R (min a b) = min a b := by rcases Nat.le_total a b with h | h <;> simp [h, ha, hb]
  split <;> omega
theorem Fo.join {V : Nat} {A : List Int} {R : Nat → Nat} (h : Fo V A R) {a b : Nat} (hav : a < V) (hbv : b < V) (ha : R a = a) (hb : R b = b) : Fo V (A.set (max a b) ((min a b : Nat) : Int)) (jr R a b) := by
  have hm : max a b < V := by omega
  have hl : max a b < A.length := by rw [h.len]; exact hm
  have hhi : R (max a b) = max a b := by rcases Nat.le_total a b with h | h <;> simp [h, ha, hb]
  have hlo : R (min a b) = min a b := by rcases Nat.le_total a b with h | h <;> simp [h, ha, hb]
  refine ⟨by rw [List.length_set]; exact h.len, fun j hj => ?_, fun j hj he => ?_, fun j hj => ?_⟩
  · rw [Pa.vl_set _ _ _ _ hl]
    by_cases e : max a b = j
    · rw [if_pos e]
      refine ⟨min a b, rfl, by omega, ?_⟩
      rw [jr_root ha hb]; unfold jr; rw [← e, hhi, if_pos rfl]
    · rw [if_neg e]
      obtain ⟨u, h1, h2, h3⟩ := h.up j hj
      exact ⟨u, h1, h2, by unfold jr; rw [h3]⟩
  · rw [Pa.vl_set _ _ _ _ hl] at he
    by_cases e : max a b = j
    · rw [if_pos e] at he
      unfold jr; rw [← e, hhi, if_pos rfl]; omega
    · rw [if_neg e] at he
      have h1 := h.top j hj he
      unfold jr; rw [h1, if_neg (by omega)]
  · obtain ⟨h1, h2⟩ := h.rt j hj
    by_cases e : R j = max a b
    · have e1 : jr R a b j = min a b := by unfold jr; rw [if_pos e]
      rw [e1]; exact ⟨by omega, jr_root ha hb⟩
    · have e1 : jr R a b j = R j := by unfold jr; rw [if_neg e]
      rw [e1]; refine ⟨h1, ?_⟩
      unfold jr; rw [h2, if_neg e]
structure Fc (V : Nat) (L P : List Ed) (R : Nat → Nat) : Prop where
  con : ∀ v, v < V → Con L v (R v)
  one : ∀ e ∈ P, R (fr e) = R (Pa.to e)
theorem fc_start (V : Nat) (L : List Ed) : Fc V L [] (fun v => v) := ⟨fun v _ => .refl, fun e he => by cases he⟩
theorem Fc.join {V : Nat} {L P : List Ed} {R : Nat → Nat} (h : Fc V L P R) (hF : Fits V L) {e : Ed} (he : e ∈ L) : Fc V L (P ++ [e]) (jr R (R (fr e)) (R (Pa.to e))) := by
  obtain ⟨hf, ht⟩ := hF e he
  have c : Con L (R (fr e)) (R (Pa.to e)) := ((h.con _ hf).symm.trans (Con.fwd he .refl)).trans (h.con _ ht)
  have cm : Con L (max (R (fr e)) (R (Pa.to e))) (min (R (fr e)) (R (Pa.to e))) := by
    rcases Nat.le_total (R (fr e)) (R (Pa.to e)) with g | g
    · rw [Nat.max_eq_right g, Nat.min_eq_left g]; exact c.symm
    · rw [Nat.max_eq_left g, Nat.min_eq_right g]; exact c
  refine ⟨fun v hv => ?_, fun x hx => ?_⟩
  · unfold jr
    split
    · rename_i e1
      have := h.con v hv
      rw [e1] at this
      exact this.trans cm
    · exact h.con v hv
  · rcases List.mem_append.1 hx with hx | hx
    · unfold jr; rw [h.one x hx]
    · rw [List.mem_singleton.1 hx]
      unfold jr
      split <;> split <;> omega
theorem fo_labels {V : Nat} {L : List Ed} {A : List Int} {R : Nat → Nat} (hF : Fits V L) (h : Fo V A R) (hc : Fc V L L R) {l : List Int} (hl : l.length = V) (hv : ∀ v, v < V → vl l v = ((R v : Nat) : Int)) : LabC V L l := by
  refine ⟨hl, fun v hv1 => ⟨R v, by have := (h.rt v hv1).1; omega, hc.con v hv1, hv v hv1⟩, fun v hv1 u hu => ?_⟩
  have key : R v = R u := by
    induction hu with
    | refl => rfl
    | fwd he _ ih => exact ih.trans (hc.one _ he)
    | bwd he _ ih => exact ih.trans (hc.one _ he).symm
  have := (h.rt u (hu.lt hF hv1)).1
  rw [hv v hv1, key]; omega
def fin : List Int → Int
  | [] => 0
  | x :: l => (if x = 4611686018427387904 then 0 else 1) + fin l
theorem fin_le : ∀ l : List Int, 0 ≤ fin l ∧ fin l ≤ (l.length : Int)
  | [] => by simp [fin]
  | x :: l => by
    have := fin_le l
    rw [fin, List.length_cons]; split <;> omega
theorem fin_set : ∀ (l : List Int) (k : Nat) (x : Int), k < l.length → fin (l.set k x) = fin l - (if vl l k = 4611686018427387904 then 0 else 1) + (if x = 4611686018427387904 then 0 else 1)
  | [], k, _, h => by simp at h
  | y :: l, 0, x, _ => by
    show (if x = _ then (0 : Int) else 1) + fin l = (if y = _ then (0 : Int) else 1) + fin l - (if vl (y :: l) 0 = _ then 0 else 1) + _
    rw [show vl (y :: l) 0 = y from rfl]; omega
  | y :: l, k + 1, x, h => by
    show (if y = _ then (0 : Int) else 1) + fin (l.set k x) = (if y = _ then (0 : Int) else 1) + fin l - (if vl (y :: l) (k + 1) = _ then 0 else 1) + _
    rw [fin_set l k x (by simpa using h), Pa.vl_succ]; omega
def cp (x : Int) : Int := min x 88046829568
theorem cp_set (l : List Int) (k : Nat) (x : Int) (h : k < l.length) : tot ((l.set k x).map cp) = tot (l.map cp) - cp (vl l k) + cp x := by
  rw [List.map_set, tot_set _ _ _ (by simpa using h)]
  have : vl (l.map cp) k = cp (vl l k) := vl_of (by rw [List.getElem?_map, vl_at h]; rfl)
  rw [this]
theorem cp_at {l : List Int} {k : Nat} (h : k < l.length) : vl (l.map cp) k = cp (vl l k) := vl_of (by rw [List.getElem?_map, vl_at h]; rfl)
theorem cp_pos {l : List Int} (h : ∀ k, k < l.length → 0 ≤ vl l k) : 0 ≤ tot (l.map cp) := tot_pos _ fun k hk => by
  rw [List.length_map] at hk
  rw [cp_at hk]; have := h k hk; unfold cp; omega
theorem cp_le : ∀ l : List Int, tot (l.map cp) ≤ (l.length : Int) * 88046829568
  | [] => by simp [tot]
  | x :: l => by
    have := cp_le l
    rw [List.map_cons, tot, List.length_cons]
    have : cp x ≤ 88046829568 := by unfold cp; omega
    omega
structure Wl (V : Nat) (L : List Ed) (s : Nat) (l : List Int) (H : List Wy) : Prop where
  inv : Pa.Inv V L s l
  abv : Abv V (far V s L) l
  low : ∀ v, v < V → vl l v = 4611686018427387904 ∨ vl l v ≤ (fin l - 1) * 2147483648
  ways : ∀ p ∈ H, p.1 < V ∧ vl l p.1 ≤ p.2 ∧ p.2 < 4611686018427387904
  few : (H.length : Int) + tot (l.map cp) ≤ 1 + (V : Int) * 88046829568
def Pend (L : List Ed) (l : List Int) (H : List Wy) (U : List Ed) : Prop := ∀ e ∈ L, vl l (Pa.to e) ≤ gv l e ∨ (fr e, vl l (fr e)) ∈ H ∨ e ∈ U
def wn (l : List Int) (H : List Wy) : Nat := (2 * tot (l.map cp)).toNat + H.length
section
variable {V s : Nat} {L : List Ed} {l : List Int} {H : List Wy}
theorem Wl.some_ (h : Wl V L s l H) (hV : V ≤ 40) {v : Nat} (hv : v < V) (hn : vl l v ≠ 4611686018427387904) : 0 ≤ vl l v ∧ vl l v ≤ 39 * 2147483648 := by
  have h1 := h.inv.in_ v hv
  have h2 := (fin_le l).2
  rw [h.inv.len] at h2
  rcases h.low v hv with g | g
  · exact absurd g hn
  · omega
theorem Wl.len_le (h : Wl V L s l H) (hV : V ≤ 40) : H.length ≤ 3521873182721 := by
  have h1 := cp_pos (l := l) fun k hk => (h.inv.in_ k (by rw [h.inv.len] at hk; exact hk)).1
  have := h.few
  omega
theorem start_at (hs : s < V) {v : Nat} (hv : v < V) : vl (Pa.start V s) v = if s = v then 0 else 4611686018427387904 := by
  unfold Pa.start; rw [Pa.vl_set _ _ _ _ (by simp; exact hs)]
  split
  · rfl
  · exact vl_of (by rw [List.getElem?_replicate, if_pos hv])
theorem fin_rep : ∀ n : Nat, fin (List.replicate n 4611686018427387904) = 0
  | 0 => rfl
  | n + 1 => by rw [List.replicate_succ, fin, fin_rep n]; rfl
theorem wl_start (hF : Fits V L) (hs : s < V) : Wl V L s (Pa.start V s) [(s, 0)] ∧ Pend L (Pa.start V s) [(s, 0)] [] := by
  have hT := far_tight (L := L) hF hs
  have hl : s < (List.replicate V (4611686018427387904 : Int)).length := by simpa using hs
  have hfin : fin (Pa.start V s) = 1 := by
    unfold Pa.start; rw [fin_set _ _ _ hl, fin_rep]
    have : vl (List.replicate V 4611686018427387904) s = 4611686018427387904 := vl_of (by rw [List.getElem?_replicate, if_pos hs])
    rw [this]; rfl
  refine ⟨⟨Pa.inv_start L hs, fun k hk => ?_, fun v hv => ?_, fun p hp => ?_, ?_⟩, fun e he => ?_⟩
  · rw [start_at hs hk]; split
    · rename_i h; subst h; rw [hT.src]; omega
    · exact (hT.in_ k hk).2
  · rw [start_at hs hv, hfin]; split
    · right; omega
    · left; rfl
  · rw [List.mem_singleton.1 hp]
    exact ⟨hs, by rw [start_at hs hs, if_pos rfl]; omega, by show (0 : Int) < 4611686018427387904; decide⟩
  · have h1 := cp_le (List.replicate V (4611686018427387904 : Int))
    unfold Pa.start
    rw [cp_set _ _ _ hl]
    have : vl (List.replicate V 4611686018427387904) s = 4611686018427387904 := vl_of (by rw [List.getElem?_replicate, if_pos hs])
    rw [this]
    simp only [List.length_replicate] at h1
    simp only [List.length_singleton, cp]
    omega
  · obtain ⟨hf, ht⟩ := hF e he
    by_cases h : s = fr e
    · right; left; rw [start_at hs hf, if_pos h, h]; exact List.mem_cons_self
    · left
      have h1 : vl (Pa.start V s) (fr e) = 4611686018427387904 := by rw [start_at hs hf, if_neg h]
      have h2 : gv (Pa.start V s) e = 4611686018427387904 := by
        unfold gv; rw [h1]; unfold addI
        have := dst_in e.2.2
        rw [show dst 4611686018427387904 = 4611686018427387904 from by decide]
        split <;> omega
      rw [h2]
      rw [start_at hs ht]; split <;> omega
theorem Wl.perm {H' : List Wy} (h : Wl V L s l H) (hp : H'.Perm H) : Wl V L s l H' :=
  ⟨h.inv, h.abv, h.low, fun p g => h.ways p (hp.mem_iff.1 g), by rw [hp.length_eq]; exact h.few⟩
theorem Pend.perm {U : List Ed} {H' : List Wy} (h : Pend L l H U) (hp : H'.Perm H) : Pend L l H' U := fun e he => by
  rcases h e he with g | g | g
  · exact Or.inl g
  · exact Or.inr (Or.inl (hp.mem_iff.2 g))
  · exact Or.inr (Or.inr g)
theorem wn_perm {H' : List Wy} (hp : H'.Perm H) : wn l H' = wn l H := by unfold wn; rw [hp.length_eq]
theorem Wl.skip {p : Wy} (h : Wl V L s l (p :: H)) (hP : Pend L l (p :: H) []) (hg : vl l p.1 < p.2) : Wl V L s l H ∧ Pend L l H [] := by
  refine ⟨⟨h.inv, h.abv, h.low, fun q hq => h.ways q (List.mem_cons_of_mem _ hq), by have := h.few; rw [List.length_cons] at this; push_cast at this; omega⟩, fun e he => ?_⟩
  rcases hP e he with g | g | g
  · exact Or.inl g
  · rcases List.mem_cons.1 g with g | g
    · have e1 : p.1 = fr e := by rw [← g]
      have e2 : p.2 = vl l (fr e) := by rw [← g]
      rw [e1, e2] at hg; omega
    · exact Or.inr (Or.inl g)
  · exact Or.inr (Or.inr g)
theorem Wl.take {u : Nat} {d : Int} (h : Wl V L s l ((u, d) :: H)) (hP : Pend L l ((u, d) :: H) []) (hw : ∀ e ∈ L, 0 ≤ e.1) : Wl V L s l H ∧ Pend L l H (outE L (u : Int)) := by
  refine ⟨⟨h.inv, h.abv, h.low, fun q hq => h.ways q (List.mem_cons_of_mem _ hq), by have := h.few; rw [List.length_cons] at this; push_cast at this; omega⟩, fun e he => ?_⟩
  rcases hP e he with g | g | g
  · exact Or.inl g
  · rcases List.mem_cons.1 g with g | g
    · right; right
      have e1 : fr e = u := congrArg Prod.fst g
      refine List.mem_filter.2 ⟨he, ?_⟩
      have := hw e he
      unfold fr at e1
      simp; omega
    · exact Or.inr (Or.inl g)
  · cases g
theorem Pend.over {e : Ed} {U : List Ed} (hP : Pend L l H (e :: U)) (hg : vl l (Pa.to e) ≤ gv l e) : Pend L l H U := fun x hx => by
  rcases hP x hx with g | g | g
  · exact Or.inl g
  · exact Or.inr (Or.inl g)
  · rcases List.mem_cons.1 g with g | g
    · rw [g]; exact Or.inl hg
    · exact Or.inr (Or.inr g)
theorem wl_sum {a w : Int} (ha : 0 ≤ a) (hw : 0 ≤ w) (h : addI a w < 4611686018427387904) : addI a w = a + w := by
  revert h; unfold addI dst; (repeat' split) <;> omega
theorem Wl.relax (hF : Fits V L) (hs : s < V) {e : Ed} {U : List Ed} (h : Wl V L s l H) (hP : Pend L l H (e :: U)) (he : e ∈ L) (hw : 0 ≤ e.2.2 ∧ e.2.2 ≤ 2147483648) (hV : V ≤ 40) (hlt : gv l e < vl l (Pa.to e)) :
    Wl V L s (rlx l e) ((Pa.to e, gv l e) :: H) ∧ Pend L (rlx l e) ((Pa.to e, gv l e) :: H) U ∧ vl (rlx l e) (fr e) = vl l (fr e) ∧ rlx l e = l.set (Pa.to e) (gv l e) ∧ wn (rlx l e) ((Pa.to e, gv l e) :: H) < wn l H := by
  obtain ⟨hf, ht⟩ := hF e he
  have hT := far_tight (L := L) hF hs
  have htl : Pa.to e < l.length := by rw [h.inv.len]; exact ht
  have hgi := Pa.gv_in l e
  have hti := h.inv.in_ _ ht
  have hfi := h.inv.in_ _ hf
  have hsum : gv l e = vl l (fr e) + e.2.2 := wl_sum hfi.1 hw.1 (by unfold gv at hlt; omega)
  have hne : fr e ≠ Pa.to e := fun g => by rw [← g] at hlt; omega
  have hr : rlx l e = l.set (Pa.to e) (gv l e) := by unfold rlx; rw [show min (vl l (Pa.to e)) (gv l e) = gv l e by omega]
  have hat : ∀ k, vl (rlx l e) k = if Pa.to e = k then gv l e else vl l k := fun k => by rw [hr, Pa.vl_set _ _ _ _ htl]
  have hle : ∀ k, vl (rlx l e) k ≤ vl l k := fun k => by rw [hat]; split <;> (try subst_vars) <;> omega
  have hfr : vl (rlx l e) (fr e) = vl l (fr e) := by rw [hat, if_neg (fun g => hne g.symm)]
  have hflow : vl l (fr e) ≤ (fin l - 1) * 2147483648 := by
    rcases h.low _ hf with g | g
    · omega
    · exact g
  have hfin : fin (rlx l e) = fin l + (if vl l (Pa.to e) = 4611686018427387904 then 1 else 0) := by
    rw [hr, fin_set _ _ _ htl, if_neg (show ¬ gv l e = 4611686018427387904 by omega)]; split <;> omega
  have hf2 := (fin_le l).2
  rw [h.inv.len] at hf2
  have hcp : tot ((rlx l e).map cp) ≤ tot (l.map cp) - 1 := by
    rw [hr, cp_set _ _ _ htl]
    have h1 : gv l e ≤ 40 * 2147483648 := by omega
    unfold cp
    rcases h.low _ ht with g | g <;> omega
  have hpos := cp_pos (l := rlx l e) fun k hk => by
    rw [Pa.rlx_len, h.inv.len] at hk
    rw [hat]; have := h.inv.in_ k hk; split <;> omega
  refine ⟨⟨h.inv.rlx hF e he, h.abv.rlx hT hF h.inv.len e he, fun v hv => ?_, fun p hp => ?_, ?_⟩, fun x hx => ?_, hfr, hr, ?_⟩
  · rw [hat, hfin]
    split
    · right; subst_vars
      rcases h.low _ ht with g | g
      · rw [if_pos g]; omega
      · split <;> omega
    · rcases h.low v hv with g | g
      · exact Or.inl g
      · right; split <;> omega
  · rcases List.mem_cons.1 hp with rfl | hp
    · exact ⟨ht, by rw [hat, if_pos rfl]; exact Int.le_refl _, by show gv l e < _; omega⟩
    · obtain ⟨h1, h2, h3⟩ := h.ways p hp
      exact ⟨h1, by have := hle p.1; omega, h3⟩
  · have := h.few
    rw [List.length_cons]; push_cast; omega
  · obtain ⟨hxf, hxt⟩ := hF x hx
    by_cases hx1 : fr x = Pa.to e
    · right; left; rw [hat, if_pos hx1.symm, hx1]; exact List.mem_cons_self
    · have e1 : vl (rlx l e) (fr x) = vl l (fr x) := by rw [hat, if_neg (fun g => hx1 g.symm)]
      have e2 : gv (rlx l e) x = gv l x := by unfold gv; rw [e1]
      rcases hP x hx with g | g | g
      · left; rw [e2]; have := hle (Pa.to x); omega
      · right; left; rw [e1]; exact List.mem_cons_of_mem _ g
      · rcases List.mem_cons.1 g with g | g
        · subst g; left; rw [e2, hat, if_pos rfl]; exact Int.le_refl _
        · exact Or.inr (Or.inr g)
  · unfold wn; rw [List.length_cons]; omega
theorem wl_done (hF : Fits V L) (hs : s < V) (h : Wl V L s l []) (hP : Pend L l [] []) : l = far V s L :=
  far_is hF hs h.inv.len (by rw [h.inv.src]; omega) (fun v hv => (h.inv.in_ v hv).2) (fun e he => by
    rcases hP e he with g | g | g
    · exact g
    · cases g
    · cases g) h.abv
end
end Go.Proofs.YtdcaekmgfcpbmaaGreat.Mn
namespace Go.Proofs.YtdcaekmgfcpbmaaGreat.Mn
open Gr Fx Rk Lb Al In Sq
open Pa (vl bt vl_of vl_at bt_of bt_at vl_ext itr itr_next itr_keep itr_rest cnt cnt_le far Abv Fits fits_of gv addI_mono far_tight Tight Rc fr rlx rlxA)
structure Ext (p q : List Int × List Nat) : Prop where
  todo : ∃ n, q.2 = p.2 ++ n
  kept : ∀ u, 0 ≤ vl p.1 u → 0 ≤ vl q.1 u
theorem Ext.refl (p : List Int × List Nat) : Ext p p := ⟨⟨[], by simp⟩, fun _ h => h⟩
theorem Ext.trans {p q r : List Int × List Nat} (h : Ext p q) (g : Ext q r) : Ext p r := by
  obtain ⟨n, hn⟩ := h.todo
  obtain ⟨m, hm⟩ := g.todo
  exact ⟨⟨n ++ m, by rw [hm, hn, List.append_assoc]⟩, fun u hu => g.kept u (h.kept u hu)⟩
section
variable {V : Nat} {L : List Ed} {v : Nat} {l0 : List Int}
end
end Go.Proofs.YtdcaekmgfcpbmaaGreat.Mn
