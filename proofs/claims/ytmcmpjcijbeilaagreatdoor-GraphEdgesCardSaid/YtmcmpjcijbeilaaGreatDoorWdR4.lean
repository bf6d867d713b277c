/-
  What is proved here: the contract of the document's own Chars: the characters of a text, each with its rune, its width, and whether it is broken. Condition: at most 300000 bytes.
-/
import Derived.Test.YtmcmpjcijbeilaaGreatDoorWdW1
import Derived.Deep.QuietTactic
import Derived.BigQuiet
namespace Go.Proofs.YtmcmpjcijbeilaaGreatDoor.Ws
open Go.RowKit Wd

theorem info43 : (Tryz.prog.info? 87).map (fun i => (i.zero, i.size, i.bytes)) = some (some (.agg #[.int .i32 0, .int .i64 0, .bool false]), 3, 24) := by kernel_rfl

/- A character's three cells. -/
def ce (r n : Int) (b : Bool) : List Value := [.int .i32 r, .int .i64 n, .bool b]
def raw (c : Ch) : List Value := ce c.r c.bs.length false
def ful (c : Ch) : List Value := ce c.r c.bs.length (decide c.broken)
def cel (f : Ch → List Value) (cs : List Ch) : List Value := cs.flatMap f
theorem raw_len (c : Ch) : (raw c).length = 3 := rfl
theorem ful_len (c : Ch) : (ful c).length = 3 := rfl
theorem ful_fffd (c : Ch) (h : c.r = 65533) : ful c = ce 65533 c.bs.length ((c.bs.length : Int) == 1) := by
  have e : decide c.broken = ((c.bs.length : Int) == 1) := by
    rw [Bool.eq_iff_iff]; simp [Ch.broken, h]; omega
  unfold ful; rw [e, h]; rfl
theorem ful_other (c : Ch) (h : c.r ≠ 65533) : ful c = ce c.r c.bs.length false := by
  unfold ful; rw [decide_eq_false (show ¬ c.broken from fun hh => h hh.1)]
/- n characters' cells, in rows from block B on. -/
def COwn (w : World) (B : Nat) (v : Value) (n : Nat) (xs : List Value) : Prop := w.ownsRow B 87 3 v n xs

/- One character more. -/
theorem app_ch {w : World} {ops : Array Oper} {rest : List Oper} {o : Oper} {a : Act} {Q : Exit → Act → World → Prop} (hgd : o.guard = none) (s x : Operand)
    (ho : o.op = .call { callee := .builtin .append, args := #[s, x], argTypes := #[84, 84] }) (B : Nat) (v : Value) (n : Nat) (xs : List Value) (r m : Int) (b : Bool) (hs : a.eval s = v) (hown : COwn w B v n xs)
    (g : Nat) (hx : a.eval x = .slice (some ⟨g, 0, none⟩) 1 1) (hg : w.heap[g]? = some (.cells #[.int .i32 r, .int .i64 m, .bool b] 87 (0, 0))) (hn : n < 1000000000) (hB : B ≤ w.heap.size)
    (h : ∀ v' w', COwn w' B v' (n + 1) (xs ++ ce r m b) → w.grownBy w' v.ownBlock → wpList Tryz.prog ops Q rest (a.put o.dst v') w') : wpList Tryz.prog ops Q (o :: rest) a w := by
  obtain ⟨i0, hi, hz0, hz1, hz2⟩ := info_parts info43
  refine wpList_append_own w hgd s x 84 ho B 87 i0 _ 3 24 Tryz.underlying84 hi hz0 hz1 hz2 rfl (by decide) v n xs hs hown ⟨g, 0, none⟩ 1 1 (ce r m b) hx rfl ?_ ?_ ?_ ?_ hB ?_
  · intro j u hu
    rw [add_plain, Lib.cell_of_heap hg]
    rcases j with _ | _ | _ | j
    · simpa [ce] using hu
    · simpa [ce] using hu
    · simpa [ce] using hu
    · simp [ce] at hu
  · intro u hu
    simp only [ce, List.mem_cons, List.not_mem_nil, or_false] at hu
    rcases hu with rfl | rfl | rfl <;> rfl
  · unfold maxLen; omega
  · omega
  · intro v' w' h1 h2 _
    exact h v' w' h1 h2

structure Las (w : World) (b : Nat) (r n : Int) (f : Bool) : Prop where
  at_ : w.heap[b]? = some (.cells #[.int .i32 r, .int .i64 n, .bool f] 87 (0, 0))
theorem Las.cells {w : World} {b : Nat} {r n : Int} {f : Bool} (h : Las w b r n f) : w.cell? ⟨b, 0, none⟩ = some (.int .i32 r) ∧ w.cell? ⟨b, 1, none⟩ = some (.int .i64 n) ∧ w.cell? ⟨b, 2, none⟩ = some (.bool f) ∧ ∀ j, w.frozen? ⟨b, j, none⟩ = false :=
  ⟨by rw [Lib.cell_of_heap h.at_]; rfl, by rw [Lib.cell_of_heap h.at_]; rfl, by rw [Lib.cell_of_heap h.at_]; rfl, fun j => Lib.frozen_of_heap h.at_ j⟩

theorem Las.put3 {w : World} {b : Nat} {r n : Int} {f : Bool} (h : Las w b r n f) (r' n' : Int) (f' : Bool) :
    Las (((w.setCell ⟨b, 0, none⟩ (.int .i32 r')).setCell ⟨b, 1, none⟩ (.int .i64 n')).setCell ⟨b, 2, none⟩ (.bool f')) b r' n' f' :=
  ⟨by
    have e1 := heap_setCell_same w b 0 _ 87 (.int .i32 r') h.at_
    have e2 := heap_setCell_same _ b 1 _ 87 (.int .i64 n') e1
    have e3 := heap_setCell_same _ b 2 _ 87 (.bool f') e2
    exact e3⟩
theorem Las.put1 {w : World} {b : Nat} {r n : Int} {f : Bool} (h : Las w b r n f) (n' : Int) : Las (w.setCell ⟨b, 1, none⟩ (.int .i64 n')) b r n' f :=
  ⟨heap_setCell_same w b 1 _ 87 (.int .i64 n') h.at_⟩
theorem Las.alloc {w : World} {b : Nat} {r n : Int} {f : Bool} (h : Las w b r n f) (o : Obj) : Las (w.alloc o) b r n f :=
  ⟨(Lib.alloc_old w o b (lt_of_block h.at_)).trans h.at_⟩
theorem Las.grown {w w' : World} {B b : Nat} {r n : Int} {f : Bool} (h : Las w b r n f) {v : Value} {m : Nat} {xs : List Value} (ho : COwn w B v m xs) (hb : b < B) (hg : w.grownBy w' v.ownBlock) : Las w' b r n f :=
  ⟨(hg.block b (lt_of_block h.at_) fun e => by have := (own_lt ho b e.symm).1; omega).trans h.at_⟩
theorem Itr.set {w0 w : World} {B k : Nat} {l p : List UInt8} (h : Itr w0 w B k l p) {b : Nat} (hb : B ≤ b) (hk : k ≠ b) (j : Nat) (u : Value) : Itr w0 (w.setCell ⟨b, j, none⟩ u) B k l p :=
  ⟨(heap_setCell_other w ⟨b, j, none⟩ k u hk).trans h.1, h.2.1, h.2.2.setCell (p := ⟨b, j, none⟩) hb u⟩
theorem Itr.alloc {w0 w : World} {B k : Nat} {l p : List UInt8} (h : Itr w0 w B k l p) (o : Obj) : Itr w0 (w.alloc o) B k l p :=
  ⟨(Lib.alloc_old w o k h.lt).trans h.1, h.2.1, h.2.2.alloc (Nat.le_of_lt h.size) o⟩
theorem COwn.set {w : World} {B : Nat} {v : Value} {n : Nat} {xs : List Value} (h : COwn w B v n xs) {b : Nat} (hb : b < B) (j : Nat) (u : Value) : COwn (w.setCell ⟨b, j, none⟩ u) B v n xs := ownsRow_setCell_below h (a := ⟨b, j, none⟩) hb u
theorem COwn.alloc {w : World} {B : Nat} {v : Value} {n : Nat} {xs : List Value} (h : COwn w B v n xs) (o : Obj) : COwn (w.alloc o) B v n xs := World.ownsRow.alloc h o
theorem own_mono {w : World} {B B' : Nat} {e : TypeId} {s : Nat} {v : Value} {n : Nat} {xs : List Value} (h : w.ownsRow B e s v n xs) (hb : B' ≤ B) : w.ownsRow B' e s v n xs := by
  obtain ⟨h0, h1 | ⟨g, cap, cur, h1, h2, h3, h4⟩⟩ := h
  · exact ⟨h0, Or.inl h1⟩
  · exact ⟨h0, Or.inr ⟨g, cap, cur, h1, by omega, h3, h4⟩⟩
theorem cel_snoc (f : Ch → List Value) (D : List Ch) (c : Ch) : cel f (D ++ [c]) = cel f D ++ f c := by simp [cel]
theorem cel_len (f : Ch → List Value) (hf : ∀ c, (f c).length = 3) : ∀ D : List Ch, (cel f D).length = 3 * D.length
  | [] => rfl
  | c :: D => by
    show (f c ++ cel f D).length = _
    rw [List.length_append, hf, cel_len f hf D, List.length_cons]; omega

theorem own_form {w : World} {B : Nat} {v : Value} {n : Nat} {xs : List Value} (h : COwn w B v (n + 1) xs) : ∃ g cap, v = .slice (some ⟨g, 0, none⟩) (n + 1) cap ∧ g < w.heap.size := by
  obtain ⟨h0, h1 | ⟨g, cap, cur, h1, h2, h3, h4⟩⟩ := h
  · omega
  · exact ⟨g, cap, h1, lt_of_block h3⟩
theorem cel_at (A R : List Value) (r n : Int) (b : Bool) (k : Nat) (hA : A.length = k) : (A ++ (ce r n b ++ R))[k]? = some (.int .i32 r) ∧ (A ++ (ce r n b ++ R))[k + 1]? = some (.int .i64 n) ∧ (A ++ (ce r n b ++ R))[k + 2]? = some (.bool b) := by
  subst hA
  refine ⟨?_, ?_, ?_⟩
  · rw [List.getElem?_append_right (Nat.le_refl _), Nat.sub_self]; rfl
  · rw [List.getElem?_append_right (by omega), show A.length + 1 - A.length = 1 by omega]; rfl
  · rw [List.getElem?_append_right (by omega), show A.length + 2 - A.length = 2 by omega]; rfl
theorem cel_set (A R : List Value) (r n r' n' : Int) (b b' : Bool) (k : Nat) (hA : A.length = k) : (((A ++ (ce r n b ++ R)).set k (.int .i32 r')).set (k + 1) (.int .i64 n')).set (k + 2) (.bool b') = A ++ (ce r' n' b' ++ R) := by
  subst hA
  have key : ∀ (j : Nat) (X : List Value) (u : Value), (A ++ X).set (A.length + j) u = A ++ X.set j u := by
    intro j X u; rw [List.set_append_right _ _ (by omega)]; congr 2; omega
  have h0 := key 0 (ce r n b ++ R) (.int .i32 r')
  rw [Nat.add_zero] at h0
  rw [h0, key 1, key 2]; rfl

theorem COwn.put3 {w0 w : World} {B : Nat} {g n cap : Nat} {A R : List Value} {r m : Int} {b : Bool} (h : w.ownsRow (B + 2) 87 3 (.slice (some ⟨g, 0, none⟩) n cap) n (A ++ (ce r m b ++ R))) (hb : Below B w0 w) (hs : B + 2 ≤ w.heap.size) (_hk : 0 < n) (r' m' : Int) (b' : Bool) (j : Nat) (hA : A.length = j) :
    (((w.setCell ⟨g, j, none⟩ (.int .i32 r')).setCell ⟨g, j + 1, none⟩ (.int .i64 m')).setCell ⟨g, j + 2, none⟩ (.bool b')).ownsRow (B + 2) 87 3 (.slice (some ⟨g, 0, none⟩) n cap) n (A ++ (ce r' m' b' ++ R)) ∧
    Below B w0 (((w.setCell ⟨g, j, none⟩ (.int .i32 r')).setCell ⟨g, j + 1, none⟩ (.int .i64 m')).setCell ⟨g, j + 2, none⟩ (.bool b')) ∧
    B + 2 ≤ (((w.setCell ⟨g, j, none⟩ (.int .i32 r')).setCell ⟨g, j + 1, none⟩ (.int .i64 m')).setCell ⟨g, j + 2, none⟩ (.bool b')).heap.size := by
  have hg := (World.ownsRow.lt h g rfl).1
  have h1 := (World.ownsRow.stored h j (.int .i32 r')).1
  have h2 := (World.ownsRow.stored h1 (j + 1) (.int .i64 m')).1
  have h3 := (World.ownsRow.stored h2 (j + 2) (.bool b')).1
  rw [cel_set A R r m r' m' b b' j hA] at h3
  exact ⟨h3, ((hb.setCell (p := ⟨g, j, none⟩) (by show B ≤ g; omega) _).setCell (p := ⟨g, j + 1, none⟩) (by show B ≤ g; omega) _).setCell (p := ⟨g, j + 2, none⟩) (by show B ≤ g; omega) _, by simpa using hs⟩

/- Behind the loops: the characters' cells, each whole. -/
def Chars (w : World) (B : Nat) (v : Value) (cs : List Ch) : Prop := COwn w B v cs.length (cel ful cs)

def C2Rel (w : World) (cs : List Ch) (v : Value) (g : Nat) (i : Value) (wr : World) : Prop :=
  ∃ k : Nat, k + g = cs.length ∧ i = .int .i64 (k : Int) ∧ COwn wr (w.heap.size + 2) v cs.length (cel ful (cs.take k) ++ cel raw (cs.drop k)) ∧ Below w.heap.size w wr ∧ w.heap.size + 2 ≤ wr.heap.size

def ChRel (w : World) (l : List UInt8) (cs : List Ch) (g : Nat) (v f : Value) (wr : World) : Prop :=
  ∃ (p : List UInt8) (ds : List Ch), ds.length = g ∧ Rng l p ds ∧ Itr w wr w.heap.size (w.heap.size + 1) l p ∧
    ((p = [] ∧ ds = cs ∧ v = .slice none 0 0 ∧ f = .int .i64 0 ∧ Las wr w.heap.size 0 0 false) ∨
     ∃ (D : List Ch) (c : Ch), cs = D ++ c :: ds ∧ p = flat D ++ c.bs ∧ f = .int .i64 ((flat D).length : Int) ∧ COwn wr (w.heap.size + 2) v D.length (cel raw D) ∧ Las wr w.heap.size c.r 0 false)

set_option maxRecDepth 100000 in
set_option maxHeartbeats 4000000 in
theorem chars_any (l : List UInt8) (cs : List Ch) (w : World) (h : Rg l cs) (hl : l.length ≤ 300000) :
    Calls Tryz.prog 59 #[.string (sb l)] w fun e w' => ∃ v, e = .returned v ∧ Chars w' (w.heap.size + 2) v cs ∧ Below w.heap.size w w' := by
  have hsz := sb_size l
  have HR := Lib.hid (Rng.start l cs h)
  have HW := Lib.hid h; clear h
  go_enter Tryz.func59, Tryz.ntmps59
  go_wp2
  go_loopg [3, 4] cs.length (fun g v f wr => ChRel w l cs g v f wr)
  case atStart =>
    have hal : Below w.heap.size w (w.alloc (.cells #[.int .i32 0, .int .i64 0, .bool false] 87)) := (Below.refl _ w).alloc (Nat.le_refl _) _
    have hst := Itr.start hal (by simp) l
    have hz : (w.alloc (.cells #[.int .i32 0, .int .i64 0, .bool false] 87)).heap.size = w.heap.size + 1 := by simp
    rw [hz] at hst
    refine ⟨[], cs, rfl, HR.out, hst, Or.inl ⟨rfl, rfl, rfl, rfl, ⟨?_⟩⟩⟩
    exact (Lib.alloc_old _ _ _ (by rw [hz]; omega)).trans (heap_alloc_new w _)
  case round =>
    clear HR
    obtain ⟨p, ds, hg, hr, hi, hcase⟩ := hrel
    have hBs := hi.lt
    rcases ds with _ | ⟨c, ds⟩
    · have hnx := fun ty => hr.fin (P := Tryz.prog) wr (w.heap.size + 1) hi.1 ty
      have hge : p = l := hr.ge
      clear hr hg
      rcases hcase with ⟨hp, hds, rfl, rfl, hlas⟩ | ⟨D, c0, hD, hp, rfl, ho, hlas⟩
      · have hl0 : l.length ≤ 0 := by rw [← hge, hp]; simp
        have HI := Lib.hid hi; clear hi
        have HP := Lib.hid hp; clear hp
        have HG := Lib.hid hge; clear hge
        have HD := Lib.hid hds; clear hds hlas
        go_wp2
        all_goals (try (exfalso; omega))
        go_loopg [8] 0 (fun g i wr => g = 0 ∧ i = .int .i64 0 ∧ Below w.heap.size w wr)
        case atStart => exact ⟨rfl, rfl, HI.out.2.2⟩
        case round =>
          obtain ⟨hg, rfl, hb⟩ := hrel
          have HB := Lib.hid hb; clear hb
          go_wp2
          go_ret
          refine ⟨_, rfl, ?_, HB.out⟩
          rw [← HD.out]; exact World.ownsRow_nil _ _ _ _
      · have hpl : p.length = (flat D).length + c0.bs.length := by rw [hp, List.length_append]
        have hc0 : 1 ≤ c0.bs.length := by
          have := rg_ne _ _ HW.out c0 (by rw [hD]; simp)
          cases hb : c0.bs with
          | nil => exact absurd hb this
          | cons a t => simp
        obtain ⟨F, hF⟩ : ∃ F, F = (flat D).length := ⟨_, rfl⟩
        rw [← hF] at hpl
        obtain ⟨M, hM⟩ : ∃ M, M = c0.bs.length := ⟨_, rfl⟩
        rw [← hM] at hpl hc0
        have hll : l.length = F + M := by rw [← hge]; exact hpl
        have hsub : (l.length : Int) - (F : Int) = (M : Int) := by omega
        have hp1 : 1 ≤ l.length := by omega
        have hp2 : F ≤ l.length := by omega
        have hDl : D.length ≤ l.length := by have := rg_len _ _ HW.out; have := congrArg List.length hD; simp at this; omega
        rw [← hF]
        obtain ⟨k0, k1, k2, f0⟩ := hlas.cells
        clear hpl hll
        have HF := Lib.hid hF; clear hF
        have HM := Lib.hid hM; clear hM
        have HP := Lib.hid hp; clear hp
        have HG := Lib.hid hge; clear hge
        have HD := Lib.hid hD; clear hD
        have hl2 := (hlas.put1 (M : Int)).alloc (.cells #[.int .i32 (c0.r : Int), .int .i64 (M : Int), .bool false] 87)
        have hI2 := (hi.set (b := w.heap.size) (Nat.le_refl _) (by omega) 1 (.int .i64 (M : Int))).alloc (.cells #[.int .i32 (c0.r : Int), .int .i64 (M : Int), .bool false] 87)
        have hO2 := (COwn.set ho (b := w.heap.size) (by omega) 1 (.int .i64 (M : Int))).alloc (.cells #[.int .i32 (c0.r : Int), .int .i64 (M : Int), .bool false] 87)
        have hz1 : (wr.setCell ⟨w.heap.size, 1, none⟩ (.int .i64 (M : Int))).heap.size = wr.heap.size := by simp
        have hnew := heap_alloc_new (wr.setCell ⟨w.heap.size, 1, none⟩ (.int .i64 (M : Int))) (.cells #[.int .i32 (c0.r : Int), .int .i64 (M : Int), .bool false] 87)
        rw [hz1] at hnew
        have HL2 := Lib.hid hl2; have HI2 := Lib.hid hI2; have HO2 := Lib.hid hO2; have HN := Lib.hid hnew; clear hl2 hI2 hO2 hz1 hnew hi ho hlas
        go_wp2_with (at_builtin; refine app_ch rfl (.tmp 38) (.tmp 40) rfl (w.heap.size + 2) _ D.length (cel raw D) c0.r M false rfl HO2.out _ rfl HN.out ?c1 ?c2 ?_)
        all_goals (try (exfalso; omega))
        case c1 => omega
        case c2 => have := HI2.out.lt; omega
        intro v' w2 ho2 hg2
        have hb2 := (HI2.out.grown (own_mono HO2.out (by omega : w.heap.size ≤ w.heap.size + 2)) hg2).2.2
        have hs2 : w.heap.size + 2 ≤ w2.heap.size := by have := (HI2.out.grown (own_mono HO2.out (by omega : w.heap.size ≤ w.heap.size + 2)) hg2).lt; omega
        obtain ⟨gg, cap, rfl, _⟩ := own_form ho2
        obtain ⟨n, hn⟩ : ∃ n, n = D.length + 1 := ⟨_, rfl⟩
        rw [← hn] at ho2
        rw [← hn]
        have HN2 := Lib.hid (show n = cs.length by rw [HD.out, hn]; simp)
        have HCS := Lib.hid (show cel raw cs = cel raw D ++ ce c0.r M false by rw [HD.out, cel_snoc, HM.out]; rfl)
        have hnl : n ≤ l.length + 1 := by omega
        clear hn
        have HB3 := Lib.hid hb2; have HO3 := Lib.hid ho2; clear ho2 hg2 hb2 HN HL2 HI2 HO2
        go_wp2
        go_loopg [8] n (fun g i wr => C2Rel w cs (.slice (some ⟨gg, 0, none⟩) n cap) g i wr)
        case atStart => exact ⟨0, by rw [← HN2.out]; omega, rfl, by rw [List.take_zero, List.drop_zero, HCS.out, ← HN2.out]; exact HO3.out, HB3.out, hs2⟩
        case round =>
          obtain ⟨k, hk, rfl, ho, hb, hs⟩ := hrel
          rw [← HN2.out] at hk ho
          by_cases hkn : k < n
          · obtain ⟨c, hc⟩ : ∃ c, cs[k]? = some c := ⟨_, List.getElem?_eq_getElem (by rw [← HN2.out]; exact hkn)⟩
            have hdrop : cs.drop k = c :: cs.drop (k + 1) := by
              obtain ⟨h1, h2⟩ := List.getElem?_eq_some_iff.1 hc
              rw [List.drop_eq_getElem_cons h1, h2]
            have htake : cs.take (k + 1) = cs.take k ++ [c] := by
              obtain ⟨h1, h2⟩ := List.getElem?_eq_some_iff.1 hc
              rw [List.take_succ_eq_append_getElem h1, h2]
            have hlen : (cel ful (cs.take k)).length = k * 3 := by rw [cel_len _ ful_len, List.length_take]; have := HN2.out; omega
            rw [hdrop] at ho
            have hsp : cel raw (c :: cs.drop (k + 1)) = ce c.r c.bs.length false ++ cel raw (cs.drop (k + 1)) := rfl
            rw [hsp] at ho
            obtain ⟨a0, a1, a2⟩ := cel_at (cel ful (cs.take k)) (cel raw (cs.drop (k + 1))) c.r c.bs.length false (k * 3) hlen
            have b0 := World.ownsRow.cellAt ho (k * 3) (by omega)
            have b1 := World.ownsRow.cellAt ho (k * 3 + 1) (by omega)
            have b2 := World.ownsRow.cellAt ho (k * 3 + 2) (by omega)
            rw [a0] at b0; rw [a1] at b1; rw [a2] at b2
            have fz := World.ownsRow.frozenAt ho
            have hggl : gg < wr.heap.size := ((World.ownsRow.lt ho) gg rfl).2
            have HO := Lib.hid ho; have HB := Lib.hid hb; have HT := Lib.hid htake; have HLn := Lib.hid hlen
            clear ho hb hc hdrop htake hlen hsp a0 a1 a2
            by_cases hr : c.r = 65533
            · go_wp2
              all_goals (try (exfalso; omega))
              have HFU := Lib.hid (ful_fffd c hr)
              have HW3 := Lib.hid (COwn.put3 HO.out HB.out hs (by omega) 65533 c.bs.length ((c.bs.length : Int) == 1) (k * 3) HLn.out)
              go_roundg (gk - 1)
              case measure => omega
              case rel =>
                refine ⟨k + 1, by have := HN2.out; omega, by go_num, ?_, HW3.out.2.1.alloc (by have := HW3.out.2.2; omega) _, by have := HW3.out.2.2; simp; omega⟩
                have := (COwn.alloc HW3.out.1 (.cells #[.int .i32 65533, .int .i64 (c.bs.length : Int), .bool ((c.bs.length : Int) == 1)] 87))
                rw [HT.out, cel_snoc, List.append_assoc, ← HN2.out]
                rw [show ful c = ce 65533 c.bs.length ((c.bs.length : Int) == 1) from HFU.out]
                exact this
            · have HFU := Lib.hid (ful_other c hr)
              go_wp2
              all_goals (try (exfalso; omega))
              have HW3 := Lib.hid (COwn.put3 HO.out HB.out hs (by omega) c.r c.bs.length false (k * 3) HLn.out)
              go_roundg (gk - 1)
              case measure => omega
              case rel =>
                refine ⟨k + 1, by have := HN2.out; omega, by go_num, ?_, HW3.out.2.1.alloc (by have := HW3.out.2.2; omega) _, by have := HW3.out.2.2; simp; omega⟩
                have := (COwn.alloc HW3.out.1 (.cells #[.int .i32 c.r, .int .i64 (c.bs.length : Int), .bool false] 87))
                rw [HT.out, cel_snoc, List.append_assoc, ← HN2.out]
                rw [show ful c = ce c.r c.bs.length false from HFU.out]
                exact this
          · have HO := Lib.hid ho; have HB := Lib.hid hb; clear ho hb
            have hkn2 : k = n := by omega
            have HK := Lib.hid hkn2; clear hkn2
            go_wp2
            all_goals (try (exfalso; omega))
            go_ret
            refine ⟨_, rfl, ?_, HB.out⟩
            have := HO.out
            rw [HK.out, HN2.out, List.take_length, List.drop_length, show cel raw [] = [] from rfl, List.append_nil] at this
            unfold Chars
            rw [← HN2.out] at this ⊢
            exact this
    · have hnx := fun ty => hr.run (P := Tryz.prog) wr (w.heap.size + 1) hi.1 ty
      have h1 := hr.lt
      have h2 := hr.rune
      have hpos := hr.pos
      have hg' : ds.length + 1 = gk := by simpa using hg
      have HR := Lib.hid hr; clear hr hg
      rcases hcase with ⟨hp, hds, rfl, rfl, hlas⟩ | ⟨D, c0, hD, hp, rfl, ho, hlas⟩
      · have hlas : Las (wr.iterAt (w.heap.size + 1) (sb l) (p.length + c.bs.length)) w.heap.size 0 0 false := ⟨(Lib.iterAt_other wr _ _ _ _ (by omega)).trans hlas.at_⟩
        obtain ⟨c0, c1, c2, f0⟩ := hlas.cells
        have HI := Lib.hid (hi.next c.bs); clear hi
        have hp0 : p.length ≤ 0 := by rw [hp]; simp
        have HP := Lib.hid hp; clear hp
        have HD := Lib.hid hds; clear hds
        go_wp2
        all_goals (try (exfalso; omega))
        have HL3 := Lib.hid (hlas.put3 c.r 0 false)
        have HI3 := Lib.hid (((HI.out.set (b := w.heap.size) (Nat.le_refl _) (by omega) 0 (.int .i32 (c.r : Int))).set (b := w.heap.size) (Nat.le_refl _) (by omega) 1 (.int .i64 0)).set (b := w.heap.size) (Nat.le_refl _) (by omega) 2 (.bool false))
        go_roundg (gk - 1)
        case measure => omega
        case rel =>
          refine ⟨p ++ c.bs, ds, by omega, HR.out.next, HI3.out, Or.inr ⟨[], c, by rw [← HD.out]; rfl, by rw [HP.out]; rfl, ?_, World.ownsRow_nil _ _ _ _, HL3.out⟩⟩
          rw [HP.out]; rfl
      · have hlas : Las (wr.iterAt (w.heap.size + 1) (sb l) (p.length + c.bs.length)) w.heap.size c0.r 0 false := ⟨(Lib.iterAt_other wr _ _ _ _ (by omega)).trans hlas.at_⟩
        obtain ⟨k0, k1, k2, f0⟩ := hlas.cells
        have HC0 := Lib.hid (rg_ne _ _ HW.out c0 (by rw [hD]; simp))
        have ho : COwn (wr.iterAt (w.heap.size + 1) (sb l) (p.length + c.bs.length)) _ _ _ _ := own_iter ho hi.1 _
        have HO := Lib.hid ho; clear ho
        have HI := Lib.hid (hi.next c.bs); clear hi
        have hpl : p.length = (flat D).length + c0.bs.length := by rw [hp, List.length_append]
        have hc0 : 1 ≤ c0.bs.length := by
          have := HC0.out
          cases hb : c0.bs with
          | nil => exact absurd hb this
          | cons a t => simp
        obtain ⟨F, hF⟩ : ∃ F, F = (flat D).length := ⟨_, rfl⟩
        rw [← hF] at hpl
        obtain ⟨M, hM⟩ : ∃ M, M = c0.bs.length := ⟨_, rfl⟩
        rw [← hM] at hpl hc0
        have hsub : (p.length : Int) - (F : Int) = (M : Int) := by omega
        have hp1 : 1 ≤ p.length := by omega
        have hp2 : F ≤ p.length := by omega
        have hDl : D.length ≤ l.length := by have := rg_len _ _ HW.out; have := congrArg List.length hD; simp at this; omega
        have HPL := Lib.hid hpl; clear hpl
        rw [← hF]
        have HF := Lib.hid hF; clear hF
        have HM := Lib.hid hM; clear hM
        have HP := Lib.hid hp; clear hp
        have HD := Lib.hid hD; clear hD
        have hl1 := hlas.put1 (M : Int)
        have hI1 := HI.out.set (b := w.heap.size) (Nat.le_refl _) (by omega) 1 (.int .i64 (M : Int))
        have hO1 := HO.out.set (b := w.heap.size) (by omega) 1 (.int .i64 (M : Int))
        have hl2 := hl1.alloc (.cells #[.int .i32 (c0.r : Int), .int .i64 (M : Int), .bool false] 87)
        have hI2 := hI1.alloc (.cells #[.int .i32 (c0.r : Int), .int .i64 (M : Int), .bool false] 87)
        have hO2 := hO1.alloc (.cells #[.int .i32 (c0.r : Int), .int .i64 (M : Int), .bool false] 87)
        have hz1 : ((wr.iterAt (w.heap.size + 1) (sb l) (p.length + c.bs.length)).setCell ⟨w.heap.size, 1, none⟩ (.int .i64 (M : Int))).heap.size = (wr.iterAt (w.heap.size + 1) (sb l) (p.length + c.bs.length)).heap.size := by simp
        have hnew := heap_alloc_new ((wr.iterAt (w.heap.size + 1) (sb l) (p.length + c.bs.length)).setCell ⟨w.heap.size, 1, none⟩ (.int .i64 (M : Int))) (.cells #[.int .i32 (c0.r : Int), .int .i64 (M : Int), .bool false] 87)
        rw [hz1] at hnew
        have HL2 := Lib.hid hl2; have HI2 := Lib.hid hI2; have HO2 := Lib.hid hO2; have HN := Lib.hid hnew; clear hl1 hI1 hO1 hl2 hI2 hO2 hz1 hnew
        go_wp2_with (at_builtin; refine app_ch rfl (.tmp 23) (.tmp 25) rfl (w.heap.size + 2) _ D.length (cel raw D) c0.r M false rfl HO2.out _ rfl HN.out ?c1 ?c2 ?_)
        case c1 => omega
        case c2 => have := HI2.out.lt; omega
        intro v' w2 ho2 hg2
        have HL3 := Lib.hid (HL2.out.grown HO2.out (by omega) hg2)
        have HI3 := Lib.hid (HI2.out.grown (own_mono HO2.out (by omega : w.heap.size ≤ w.heap.size + 2)) hg2)
        have HO3 := Lib.hid ho2; clear ho2 hg2
        obtain ⟨m0, m1, m2, g0⟩ := HL3.out.cells
        go_wp2
        have HL4 := Lib.hid (HL3.out.put3 c.r 0 false)
        have HI4 := Lib.hid (((HI3.out.set (b := w.heap.size) (Nat.le_refl _) (by omega) 0 (.int .i32 (c.r : Int))).set (b := w.heap.size) (Nat.le_refl _) (by omega) 1 (.int .i64 0)).set (b := w.heap.size) (Nat.le_refl _) (by omega) 2 (.bool false))
        have HO4 := Lib.hid (((HO3.out.set (b := w.heap.size) (by omega) 0 (.int .i32 (c.r : Int))).set (b := w.heap.size) (by omega) 1 (.int .i64 0)).set (b := w.heap.size) (by omega) 2 (.bool false))
        go_roundg (gk - 1)
        case measure => omega
        case rel =>
          refine ⟨p ++ c.bs, ds, by omega, HR.out.next, HI4.out, Or.inr ⟨D ++ [c0], c, by rw [HD.out]; simp, ?_, ?_, ?_, HL4.out⟩⟩
          · rw [HP.out, flat_append]; simp [flat]
          · rw [HP.out, flat_append]; simp [flat]
          · rw [cel_snoc, List.length_append]
            have := HO4.out
            rw [HM.out] at this
            exact this

end Go.Proofs.YtmcmpjcijbeilaaGreatDoor.Ws
