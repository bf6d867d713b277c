/-
  What is proved here: words for texts in memory: a text by its bytes, an iterator over its characters, a slice of texts. No condition.
-/
import Derived.Test.YtmcmpjcijbeilaaGreatDoorRows
import Derived.Test.YtmcmpjcijbeilaaGreatDoorWdMath3
import Derived.WalkKit
import Derived.WalkSpells
import Derived.Deep.LoopGhost
import Derived.Lib.Hide
import Derived.Laws.CopyOwn
import Derived.Deep.OwnRows
import Derived.Lib.OthersKept
namespace Go.Proofs.YtmcmpjcijbeilaaGreatDoor.Ws
open Go.RowKit Wd

theorem below_trans {a b c : World} (h : Below a.heap.size a b) (k : Below b.heap.size b c) : Below a.heap.size a c := h.trans (k.mono h.size)
theorem add_plain (g o k : Nat) : (⟨g, o, none⟩ : Addr).add k = ⟨g, o + k, none⟩ := by unfold Addr.add; split <;> simp_all
theorem add_block (a : Addr) (n : Nat) : (a.add n).block = a.block := by unfold Addr.add; split <;> rfl

/- A text by its bytes. -/
def sb (l : List UInt8) : ByteArray := ⟨l.toArray⟩
theorem sb_size (l : List UInt8) : (sb l).size = l.length := by show l.toArray.size = _; simp
theorem sb_list (s : ByteArray) : s = sb s.data.toList := by cases s; simp [sb]
theorem sb_data (l : List UInt8) : (sb l).data.toList = l := by simp [sb]
theorem sb_toList (l : List UInt8) : (sb l).toList = l := by rw [ByteArray.toList_eq, sb_data]
theorem sb_inj {a b : List UInt8} (h : sb a = sb b) : a = b := by rw [← sb_data a, h, sb_data]
theorem sb_append (a b : List UInt8) : sb a ++ sb b = sb (a ++ b) := by
  apply ByteArray.ext; simp [sb]
theorem sb_extract (l : List UInt8) (a b : Nat) : (sb l).extract a b = sb ((l.drop a).take (b - a)) := by
  apply ByteArray.ext; simp [sb]
theorem sb_decode (l : List UInt8) (i : Nat) : Utf8.decode (sb l) i = dec (l.drop i) := by rw [dec_at, sb_data]
theorem sb_dec {l : List UInt8} {p : List UInt8} {c : Ch} {cs : List Ch} (h : Rg (l.drop p.length) (c :: cs)) : Utf8.decode (sb l) p.length = (c.r, c.bs.length) := by
  obtain ⟨_, _, _, h3, _⟩ := h
  rw [sb_decode]; exact h3

/- Ranging over a text l: p is through, the characters cs are to come. -/
structure Rng (l p : List UInt8) (cs : List Ch) : Prop where
  all : l = p ++ flat cs
  rg : Rg (flat cs) cs
theorem Rng.start (l : List UInt8) (cs : List Ch) (h : Rg l cs) : Rng l [] cs := ⟨rg_flat _ _ h, by rw [← rg_flat _ _ h]; exact h⟩
theorem Rng.dec {l p : List UInt8} {c : Ch} {cs : List Ch} (h : Rng l p (c :: cs)) : Utf8.decode (sb l) p.length = (c.r, c.bs.length) := by
  obtain ⟨_, _, _, h3, _⟩ := h.rg
  rw [sb_decode, h.all, List.drop_left]; exact h3
theorem Rng.next {l p : List UInt8} {c : Ch} {cs : List Ch} (h : Rng l p (c :: cs)) : Rng l (p ++ c.bs) cs := by
  obtain ⟨rest, h1, _, _, h4⟩ := h.rg
  have e : rest = flat cs := rg_flat _ _ h4
  refine ⟨by rw [h.all, flat_cons, List.append_assoc], by rw [← e]; exact h4⟩
theorem Rng.pos {l p : List UInt8} {c : Ch} {cs : List Ch} (h : Rng l p (c :: cs)) : 1 ≤ c.bs.length := by
  obtain ⟨_, _, h2, _, _⟩ := h.rg
  cases hb : c.bs with
  | nil => exact absurd hb h2
  | cons a t => simp
theorem Rng.lt {l p : List UInt8} {c : Ch} {cs : List Ch} (h : Rng l p (c :: cs)) : p.length + c.bs.length ≤ l.length := by
  rw [h.all, flat_cons]; simp
theorem Rng.ge {l p : List UInt8} (h : Rng l p []) : p = l := by rw [h.all]; simp [flat]
theorem Rng.rune {l p : List UInt8} {c : Ch} {cs : List Ch} (h : Rng l p (c :: cs)) : c.r ≤ 1114111 := by
  obtain ⟨_, _, _, h3, _⟩ := h.rg
  have := dec_le (flat (c :: cs))
  rw [h3] at this; exact this
theorem Rng.len {l p : List UInt8} {cs : List Ch} (h : Rng l p cs) : p.length + cs.length ≤ l.length := by
  have := rg_len _ _ h.rg
  rw [h.all, List.length_append]; omega

/- What 'next' answers. -/
theorem Rng.run {P : Program} {l p : List UInt8} {c : Ch} {cs : List Ch} (h : Rng l p (c :: cs)) (w : World) (k : Nat) (hk : w.heap[k]? = some (.stringIter (sb l) p.length)) (ty : TypeId) :
    (Instr.next (.pointer (some ⟨k, 0, none⟩)) true ty).run P w = .ok (.tuple #[.bool true, .int .i64 (p.length : Int), .int .i32 (c.r : Int)]) (w.iterAt k (sb l) (p.length + c.bs.length)) := by
  have h1 := h.lt; have h2 := h.pos
  rw [Lib.run_next_any_at w k (sb l) p.length ty hk (by rw [sb_size]; omega), h.dec]
theorem Rng.fin {P : Program} {l p : List UInt8} (h : Rng l p []) (w : World) (k : Nat) (hk : w.heap[k]? = some (.stringIter (sb l) p.length)) (ty : TypeId) :
    (Instr.next (.pointer (some ⟨k, 0, none⟩)) true ty).run P w = .ok (.tuple #[.bool false]) w :=
  Lib.run_next_end_at w k (sb l) p.length ty hk (by rw [sb_size, h.ge]; omega)

/- The iterator over l in block k stands behind p; nothing below B has changed. -/
def Itr (w0 w : World) (B k : Nat) (l p : List UInt8) : Prop := w.heap[k]? = some (.stringIter (sb l) p.length) ∧ B ≤ k ∧ Below B w0 w
theorem Itr.start {w0 w : World} {B : Nat} (h : Below B w0 w) (hB : B ≤ w.heap.size) (l : List UInt8) : Itr w0 (w.alloc (.stringIter (sb l) 0)) B w.heap.size l [] :=
  ⟨heap_alloc_new w _, hB, h.alloc hB _⟩
theorem Itr.next {w0 w : World} {B k : Nat} {l p : List UInt8} (h : Itr w0 w B k l p) (q : List UInt8) : Itr w0 (w.iterAt k (sb l) (p.length + q.length)) B k l (p ++ q) :=
  ⟨by rw [List.length_append]; exact Lib.iterAt_heap w k (sb l) _ _ h.1, h.2.1, Lib.below_iterAt h.2.2 h.2.1 _ _⟩
theorem Itr.below {w0 w w' : World} {B k : Nat} {l p : List UInt8} (h : Itr w0 w B k l p) (hb : Below w.heap.size w w') (hB : B ≤ w.heap.size) : Itr w0 w' B k l p :=
  ⟨(hb.block k (lt_of_block h.1)).trans h.1, h.2.1, h.2.2.trans (hb.mono hB)⟩
theorem Itr.lt {w0 w : World} {B k : Nat} {l p : List UInt8} (h : Itr w0 w B k l p) : k < w.heap.size := lt_of_block h.1

theorem Itr.size {w0 w : World} {B k : Nat} {l p : List UInt8} (h : Itr w0 w B k l p) : B < w.heap.size := Nat.lt_of_le_of_lt h.2.1 h.lt

/- A slice of texts that a call has made from block B on. -/
def strs (L : List (List UInt8)) : List Value := L.map fun x => Value.string (sb x)
theorem strs_len (L : List (List UInt8)) : (strs L).length = L.length := by simp [strs]
theorem strs_append (a b : List (List UInt8)) : strs (a ++ b) = strs a ++ strs b := by simp [strs]
theorem strs_at (L : List (List UInt8)) (k : Nat) : (strs L)[k]? = (L[k]?).map fun x => Value.string (sb x) := by simp [strs]
theorem strs_one (L : List (List UInt8)) : ∀ u ∈ strs L, u.oneCell' = true := by
  intro u hu
  simp only [strs, List.mem_map] at hu
  obtain ⟨x, _, rfl⟩ := hu
  rfl
def Own (w : World) (B : Nat) (v : Value) (L : List (List UInt8)) : Prop := w.ownsRow B 9 1 v L.length (strs L)
theorem Own.none_ (w : World) (B : Nat) : Own w B (.slice none 0 0) [] := World.ownsRow_nil _ _ _ _
theorem own_kept {w w' : World} {B : Nat} {e : TypeId} {s : Nat} {v : Value} {n : Nat} {xs : List Value} (h : w.ownsRow B e s v n xs) (hk : ∀ g c fz, v.ownBlock = some g → w.heap[g]? = some (.cells c e fz) → w'.heap[g]? = w.heap[g]?) : w'.ownsRow B e s v n xs := by
  obtain ⟨h0, h1 | ⟨g, cap, cur, h1, h2, h3, h4⟩⟩ := h
  · exact ⟨h0, Or.inl h1⟩
  · exact ⟨h0, Or.inr ⟨g, cap, cur, h1, h2, (hk g cur (0, 0) (by rw [h1]; rfl) h3).trans h3, h4⟩⟩
theorem own_lt {w : World} {B : Nat} {e : TypeId} {s : Nat} {v : Value} {n : Nat} {xs : List Value} (h : w.ownsRow B e s v n xs) : ∀ g, v.ownBlock = some g → B ≤ g ∧ ∃ c, w.heap[g]? = some (.cells c e (0, 0)) := by
  intro g hg
  obtain ⟨_, h1 | ⟨g', cap, cur, h1, h2, h3, _⟩⟩ := h
  · rw [h1.1] at hg; cases hg
  · rw [h1] at hg
    have : g' = g := by simpa [Value.ownBlock] using hg
    subst this
    exact ⟨h2, cur, h3⟩
theorem own_below {w w' : World} {B : Nat} {e : TypeId} {s : Nat} {v : Value} {n : Nat} {xs : List Value} (h : w.ownsRow B e s v n xs) (hb : Below w.heap.size w w') : w'.ownsRow B e s v n xs :=
  own_kept h fun g _ _ _ hc => hb.block g (lt_of_block hc)
theorem own_iter {w : World} {B : Nat} {e : TypeId} {s : Nat} {v : Value} {n : Nat} {xs : List Value} (h : w.ownsRow B e s v n xs) {k : Nat} {t : ByteArray} {q : Nat} (hk : w.heap[k]? = some (.stringIter t q)) (q' : Nat) : (w.iterAt k t q').ownsRow B e s v n xs :=
  own_kept h fun g _ _ _ hc => Lib.iterAt_other w k g t q' (fun e => by rw [e, hk] at hc; cases hc)
theorem Own.below {w w' : World} {B : Nat} {v : Value} {L : List (List UInt8)} (h : Own w B v L) (hb : Below w.heap.size w w') : Own w' B v L := own_below h hb
theorem Own.iter {w : World} {B : Nat} {v : Value} {L : List (List UInt8)} (h : Own w B v L) {k : Nat} {t : ByteArray} {q : Nat} (hk : w.heap[k]? = some (.stringIter t q)) (q' : Nat) : Own (w.iterAt k t q') B v L := own_iter h hk q'
theorem Own.push {w w' : World} {B : Nat} {v v' : Value} {L : List (List UInt8)} {x : List UInt8} (_ : Own w B v L) (h : w'.ownsRow B 9 1 v' (L.length + 1) (strs L ++ strs [x])) : Own w' B v' (L ++ [x]) := by
  unfold Own; rw [strs_append, List.length_append]; exact h
theorem Itr.grown {w0 w w' : World} {B k : Nat} {l p : List UInt8} {e : TypeId} {s : Nat} {v : Value} {n : Nat} {xs : List Value} (h : Itr w0 w B k l p) (ho : w.ownsRow B e s v n xs) (hg : w.grownBy w' v.ownBlock) : Itr w0 w' B k l p := by
  refine ⟨(hg.block k h.lt fun e => ?_).trans h.1, h.2.1, Below.grown h.2.2 hg (Nat.le_of_lt h.size) fun g e => (own_lt ho g e).1⟩
  obtain ⟨_, c, hc⟩ := own_lt ho k e.symm
  rw [h.1] at hc; cases hc

/- A slice of texts reads as a list. -/
def At (w : World) (A : Option Addr) (L : List (List UInt8)) : Prop := ∀ (k : Nat) (x : List UInt8), L[k]? = some x → ∃ ad, A = some ad ∧ w.cell? (ad.add k) = some (.string (sb x))
def Txt (w : World) (v : Value) (L : List (List UInt8)) : Prop := ∃ (A : Option Addr) (c : Nat), v = .slice A L.length c ∧ At w A L
theorem At.kept {w w' : World} {A : Option Addr} {L : List (List UInt8)} (h : At w A L) (hk : ∀ p : Addr, p.block < w.heap.size → w'.cell? p = w.cell? p) : At w' A L := by
  intro k x hx
  obtain ⟨ad, e, h2⟩ := h k x hx
  exact ⟨ad, e, (hk _ (block_lt_of_cell h2)).trans h2⟩
theorem At.below {w w' : World} {A : Option Addr} {L : List (List UInt8)} (h : At w A L) (hb : Below w.heap.size w w') : At w' A L := h.kept fun _ hp => hb.cell hp
theorem Txt.below {w w' : World} {v : Value} {L : List (List UInt8)} (h : Txt w v L) (hb : Below w.heap.size w w') : Txt w' v L := by
  obtain ⟨A, c, e, h⟩ := h
  exact ⟨A, c, e, h.below hb⟩
theorem Own.txt {w : World} {B : Nat} {v : Value} {L : List (List UInt8)} (h : Own w B v L) : Txt w v L := by
  obtain ⟨h0, h1 | ⟨g, cap, cur, h1, h2, h3, h4, h5, h6, h7⟩⟩ := h
  · have : L = [] := List.eq_nil_of_length_eq_zero h1.2
    subst this
    exact ⟨none, 0, h1.1, fun k x hx => by simp at hx⟩
  · refine ⟨some ⟨g, 0, none⟩, cap, h1, fun k x hx => ⟨_, rfl, ?_⟩⟩
    rw [add_plain, Nat.zero_add, cell_of_row w g k _ 9 (0, 0) h3]
    have hk : k < L.length := by
      rcases Nat.lt_or_ge k L.length with hh | hh
      · exact hh
      · rw [List.getElem?_eq_none hh] at hx; cases hx
    have e1 : cur[k]? = (cur.toList.take (L.length * 1))[k]? := by
      rw [List.getElem?_take, if_pos (by omega), Array.getElem?_toList]
    rw [e1, h7, strs_at, hx]; rfl

theorem info9 : (Tryz.prog.info? 9).map (fun i => (i.zero, i.size, i.bytes)) = some (some (.string ⟨#[]⟩), 1, 16) := by kernel_rfl

/- One text more is put behind a slice of texts. -/
theorem app_str {w : World} {ops : Array Oper} {rest : List Oper} {o : Oper} {a : Act} {Q : Exit → Act → World → Prop} (hgd : o.guard = none) (s x : Operand)
    (ho : o.op = .call { callee := .builtin .append, args := #[s, x], argTypes := #[45, 45] }) (B : Nat) (v : Value) (L : List (List UInt8)) (y : List UInt8) (hs : a.eval s = v) (hown : Own w B v L)
    (g : Nat) (hx : a.eval x = .slice (some ⟨g, 0, none⟩) 1 1) (hg : w.cell? ⟨g, 0, none⟩ = some (.string (sb y))) (hn : L.length < 1000000000) (hB : B ≤ w.heap.size)
    (h : ∀ v' w', Own w' B v' (L ++ [y]) → w.grownBy w' v.ownBlock → wpList Tryz.prog ops Q rest (a.put o.dst v') w') : wpList Tryz.prog ops Q (o :: rest) a w := by
  obtain ⟨i0, hi, hz0, hz1, hz2⟩ := info_parts info9
  refine wpList_append_own w hgd s x 45 ho B 9 i0 (.string ⟨#[]⟩) 1 16 Tryz.underlying45 hi hz0 hz1 hz2 rfl (by decide) v L.length (strs L) hs hown ⟨g, 0, none⟩ 1 1 (strs [y]) hx rfl ?_ (strs_one _) ?_ ?_ hB ?_
  · intro j u hu
    rw [strs_at] at hu
    rcases j with _ | j
    · simp at hu; rw [← hu, add_plain]; exact hg
    · simp at hu
  · unfold maxLen; omega
  · omega
  · intro v' w' h1 h2 _
    exact h v' w' (hown.push h1) h2

end Go.Proofs.YtmcmpjcijbeilaaGreatDoor.Ws
