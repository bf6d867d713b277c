/-
  What is proved here: contracts of graph.Out and graph.Back, and of the document's own Out and Back: the edges from, and to, a vertex. Conditions: at most 100000 edges. What is proved here: plain facts on parts: which worker has a vertex, which vertices a worker has, what a part is, what parts joined are; that the parts of a graph, joined, are it. No program.
-/
import Derived.Test.YtkbmmlombigkmaaGreatQbPtG5
import Derived.Test.YtkbmmlombigkmaaGreatQbPtGmx
namespace Go.Proofs.YtkbmmlombigkmaaGreat.Gr
open Go.RowKit Wd Ws
set_option maxRecDepth 100000 in
theorem out_any (V v : Int) (A : Option Addr) (c : Nat) (L : List Ed) (w : World) (hL : EAt w A L) (hm : L.length ≤ 100000) :
    Calls Tryz.prog 52 #[.agg #[.int .i64 V, .slice A L.length c], .int .i64 v] w fun e w' => ∃ x, e = .returned x ∧ EOwn w' w.heap.size x (L.filter fun e => decide (e.1 = v)) ∧ Below w.heap.size w w' := by
  have hz := two_boxes w (.cells #[.int .i64 V, .slice A L.length c] 24) (.cells #[.int .i64 v] 3)
  have HC := Lib.hid (chosen_any A c L 74 #[.pointer (some ⟨w.heap.size + 1, 0, none⟩)] (fun e => decide (e.1 = v)) _ (enters_of Tryz.func74 (by kernel_rfl) rfl) (hL.below hz) hm
    (out_closure (w.heap.size + 1) v ((w.alloc (.cells #[.int .i64 V, .slice A L.length c] 24)).alloc (.cells #[.int .i64 v] 3)) (by simp)))
  have HZ := Lib.hid hz; clear hz hL
  go_enter Tryz.func52, Tryz.ntmps52
  go_wp2_with fail
  refine HC.out.mono ?_
  rintro e w' ⟨x, rfl, ho, hb⟩
  have HO := Lib.hid ho; have HB := Lib.hid hb; clear ho hb HC
  go_wp2_with fail
  go_ret
  exact ⟨x, rfl, own_mono HO.out (by simp; omega), HZ.out.trans (HB.out.mono (by simp; omega))⟩
def RoRel (w : World) (V : Int) (A : Option Addr) (c : Nat) (L : List Ed) (p : Ed → Bool) (g : Nat) (v i : Value) (wr : World) : Prop :=
  ∃ k : Nat, k + g = L.length ∧ i = .int .i64 (k : Int) ∧ EOwn wr w.heap.size v ((L.take k).filter p) ∧ Below w.heap.size w wr ∧ wr.heap[w.heap.size]? = some (.cells #[.int .i64 V, .slice A L.length c] 24 (0, 0)) ∧ v.ownBlock ≠ some w.heap.size
set_option maxRecDepth 100000 in
set_option maxHeartbeats 600000 in
theorem rout_any (V v : Int) (A : Option Addr) (c : Nat) (L : List Ed) (w : World) (hL : EAt w A L) (hm : L.length ≤ 100000) :
    Calls Tryz.prog 29 #[.agg #[.int .i64 V, .slice A L.length c], .int .i64 v] w fun e w' => ∃ x, e = .returned x ∧ EOwn w' w.heap.size x (L.filter fun e => decide (e.1 = v)) ∧ Below w.heap.size w w' := by
  have HL := Lib.hid hL; clear hL
  go_enter Tryz.func29, Tryz.ntmps29
  go_wp2
  go_loopg [5, 6] L.length (fun g x i wr => RoRel w V A c L (fun e => decide (e.1 = v)) g x i wr)
  case atStart => exact ⟨0, by omega, rfl, EOwn.none_ _ _, (Below.refl _ w).alloc (Nat.le_refl _) _, heap_alloc_new w _, by simp [Value.ownBlock]⟩
  case round =>
    obtain ⟨k, hk, rfl, ho, hb, hbx, hne⟩ := hrel
    obtain ⟨x0, x1, hsz⟩ := Bx.cells hbx
    by_cases hlt : k < L.length
    · obtain ⟨e, he⟩ := at_lt L k hlt
      obtain ⟨bk, o, rfl, c0, c1, c2⟩ := (HL.out.below hb) k e he
      obtain ⟨e0, e1, e2⟩ := e
      have hlen := filter_len L (fun e => decide (e.1 = v)) k
      by_cases hq : e0 = v
      · subst hq
        have hnew := heap_alloc_new wr (.cells #[.int .i64 e0, .int .i64 e1, .int .i64 e2] 33)
        have HN := Lib.hid hnew; clear hnew
        have HO2 := Lib.hid (ho.alloc (.cells #[.int .i64 e0, .int .i64 e1, .int .i64 e2] 33))
        have HB2 := Lib.hid (hb.alloc hb.size (.cells #[.int .i64 e0, .int .i64 e1, .int .i64 e2] 33))
        have HX2 := Lib.hid ((Lib.alloc_old wr (.cells #[.int .i64 e0, .int .i64 e1, .int .i64 e2] 33) _ hsz).trans hbx)
        have HE := Lib.hid he; have HNE := Lib.hid hne
        clear ho hb hbx he hne
        go_wp2_with (at_builtin; refine app_e rfl (.tmp 22) (.tmp 28) rfl w.heap.size _ _ e0 e1 e2 rfl HO2.out _ rfl HN.out ?c1 ?c2 ?_)
        case c1 => omega
        case c2 => have := HB2.out.size; simpa using this
        intro v' w2 ho2 hg2
        have HB3 := Lib.hid (Below.grown HB2.out hg2 HB2.out.size fun j e => (own_lt HO2.out j e).1)
        have HX3 := Lib.hid ((hg2.block _ (lt_of_block HX2.out) (fun h => HNE.out h.symm)).trans HX2.out)
        have HNE3 : Hid (v'.ownBlock ≠ some w.heap.size) := Lib.hid (fun h => by
          obtain ⟨_, cc, hcc⟩ := own_lt ho2 _ h
          have := HX3.out
          rw [hcc] at this; simp at this)
        have HO3 := Lib.hid ho2; clear ho2 hg2
        go_wp2
        go_roundg (gk - 1)
        case measure => omega
        case rel => exact ⟨k + 1, by omega, by go_num, by rw [filter_yes HE.out (by simp)]; exact HO3.out, HB3.out, HX3.out, HNE3.out⟩
      · have HE := Lib.hid he; have HNE := Lib.hid hne; have HO := Lib.hid ho; have HB := Lib.hid hb; have HX := Lib.hid hbx
        clear ho hb hbx he hne
        go_wp2
        go_roundg (gk - 1)
        case measure => omega
        case rel => exact ⟨k + 1, by omega, by go_num, by rw [filter_no HE.out (by simp [hq])]; exact HO.out, HB.out, HX.out, HNE.out⟩
    · have HK : Hid (k = L.length) := Lib.hid (by omega)
      have HO := Lib.hid ho; have HB := Lib.hid hb; clear ho hb hbx hne
      go_wp2
      go_ret
      refine ⟨_, rfl, ?_, HB.out⟩
      have := HO.out
      rw [HK.out, List.take_length] at this
      exact this
end Go.Proofs.YtkbmmlombigkmaaGreat.Gr
namespace Go.Proofs.YtkbmmlombigkmaaGreat.Pt
open Go Go.Lib Gr
def ofI (v k : Int) : Int := if 0 ≤ v ∧ v < 512 ∧ 1 ≤ k ∧ k ≤ 64 then 2654435761 * v % 4294967296 * k / 4294967296 else -1
theorem ofI_range {v k : Int} (h0 : 0 ≤ v) (h1 : v < 512) (h2 : 1 ≤ k) (h3 : k ≤ 64) : 0 ≤ ofI v k ∧ ofI v k < k := by
  unfold ofI
  rw [if_pos ⟨h0, h1, h2, h3⟩]
  obtain ⟨x, hx⟩ : ∃ x, 2654435761 * v % 4294967296 = x := ⟨_, rfl⟩
  have hx0 : 0 ≤ x := by omega
  have hx1 : x < 4294967296 := by omega
  rw [hx]
  constructor
  · exact Int.ediv_nonneg (Int.mul_nonneg hx0 (by omega)) (by omega)
  · apply Int.ediv_lt_of_lt_mul (by omega)
    rw [Int.mul_comm k]
    exact Int.mul_lt_mul_of_pos_right hx1 (by omega)
def vs (n : Nat) : List Int := (List.range n).map fun (i : Nat) => (i : Int)
theorem vs_succ (n : Nat) : vs (n + 1) = vs n ++ [(n : Int)] := by simp [vs, List.range_succ]
def isW (k w : Int) (v : Int) : Bool := decide (0 ≤ w) && decide (ofI v k = w)
theorem isW_yes {k w v : Int} (h : 0 ≤ w) (e : ofI v k = w) : isW k w v = true := by unfold isW; rw [decide_eq_true h, decide_eq_true e]; rfl
def ow (k w : Int) (n : Nat) : List Int := (vs n).filter (isW k w)
theorem ow_succ (k w : Int) (n : Nat) : ow k w (n + 1) = ow k w n ++ (if isW k w n then [(n : Int)] else []) := by
  unfold ow; rw [vs_succ, List.filter_append]
  congr 1
  cases h : isW k w n <;> simp [h]
def nv (n : Int) : Nat := (min n 512).toNat
def owned (n k w : Int) : List Int := ow k w (nv n)
structure Pt where
  w : Int
  k : Int
  n : Int
  own : List Int
  out : List (List Ed)
  back : List (List Ed)
deriving DecidableEq
def frm (L : List Ed) (v : Int) : List Ed := L.filter fun e => decide (e.1 = v)
def tow (L : List Ed) (v : Int) : List Ed := L.filter fun e => decide (e.2.1 = v)
def cutP (V : Int) (L : List Ed) (k w : Int) : Pt := ⟨w, k, V, owned V k w, (owned V k w).map (frm L), (owned V k w).map (tow L)⟩
def hd (l : List Pt) : Int := match l[0]? with | none => 0 | some p => p.n
def Cuts (l : List Pt) (V : Int) (es : List Ed) (j : Nat) : Prop := ∀ i, i < j → l[i]? = some (cutP V es l.length i)
instance (l : List Pt) (V : Int) (es : List Ed) (j : Nat) : Decidable (Cuts l V es j) := by unfold Cuts; infer_instance
theorem ow_split (k w : Int) (j m : Nat) (h : isW k w j = true) : ∃ B : List Int, ow k w (j + (m + 1)) = ow k w j ++ ((j : Int) :: B) ∧ ∀ x ∈ B, (j : Int) < x := by
  induction m with
  | zero => exact ⟨[], by rw [ow_succ, h]; rfl, by simp⟩
  | succ m ih =>
    obtain ⟨B, h1, h2⟩ := ih
    refine ⟨B ++ (if isW k w ((j + (m + 1) : Nat) : Int) then [((j + (m + 1) : Nat) : Int)] else []), ?_, ?_⟩
    · rw [← Nat.add_assoc, ow_succ, h1]; simp
    · intro x hx
      rcases List.mem_append.1 hx with hx | hx
      · exact h2 x hx
      · split at hx
        · simp at hx; omega
        · simp at hx
structure Joins (l : List Pt) (V : Int) (L : List Ed) : Prop where
  one : 1 ≤ l.length
  most : l.length ≤ 64
  ok : chk V L = 0
  cuts : Cuts l V L l.length
theorem Joins.hd {l : List Pt} {V : Int} {L : List Ed} (h : Joins l V L) : Pt.hd l = V := by
  have := h.cuts 0 h.one
  unfold Pt.hd; rw [this]; rfl
theorem Joins.facts {l : List Pt} {V : Int} {L : List Ed} (h : Joins l V L) : 1 ≤ V ∧ V ≤ 512 ∧ L.length ≤ 8192 ∧ (∀ e ∈ L, fitE V e = true) ∧ Rise L := (chk_zero V L).1 h.ok
theorem Joins.at_ {l : List Pt} {V : Int} {L : List Ed} (h : Joins l V L) (j : Nat) (hj : (j : Int) < V) :
    ∃ B, l[(ofI j l.length).toNat]? = some (cutP V L l.length (ofI j l.length)) ∧ (ofI j l.length).toNat < l.length ∧ owned V l.length (ofI j l.length) = ow l.length (ofI j l.length) j ++ ((j : Int) :: B) ∧ ∀ x ∈ B, (j : Int) < x := by
  obtain ⟨f1, f2, _⟩ := h.facts
  have := h.one; have := h.most
  obtain ⟨r1, r2⟩ := ofI_range (v := j) (k := l.length) (by omega) (by omega) (by omega) (by omega)
  have hw : isW l.length (ofI j l.length) j = true := isW_yes r1 rfl
  have hn : nv V = j + ((V.toNat - j - 1) + 1) := by unfold nv; omega
  obtain ⟨B, h1, h2⟩ := ow_split l.length (ofI j l.length) j (V.toNat - j - 1) hw
  refine ⟨B, ?_, by omega, ?_, h2⟩
  · have := h.cuts (ofI j l.length).toNat (by omega)
    rw [this, Int.toNat_of_nonneg r1]
  · unfold owned; rw [hn]; exact h1
def cnt (f : Int → List Ed) (l : List Int) : Nat := (l.map fun v => (f v).length).sum
end Go.Proofs.YtkbmmlombigkmaaGreat.Pt
