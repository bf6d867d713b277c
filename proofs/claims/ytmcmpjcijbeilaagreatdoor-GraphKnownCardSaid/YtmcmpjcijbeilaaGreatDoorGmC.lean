/-
  What is proved here: the texts WdR5 of this seat, laid together (each says itself what it proves; no condition beyond theirs).
-/
import Derived.Test.YtmcmpjcijbeilaaGreatDoorGmA
/-
  What is proved here: the contract of the document's own Words: the words of a line, or that it is refused. Condition: at most 300000 bytes.
-/
namespace Go.Proofs.YtmcmpjcijbeilaaGreatDoor.Ws
open Go.RowKit Wd

/- Characters that can be read. -/
def CAt (w : World) (A : Option Addr) (cs : List Ch) : Prop := ∀ (k : Nat) (c : Ch), cs[k]? = some c → ∃ g, A = some ⟨g, 0, none⟩ ∧ g < w.heap.size ∧
  w.cell? ⟨g, k * 3, none⟩ = some (.int .i32 (c.r : Int)) ∧ w.cell? ⟨g, k * 3 + 1, none⟩ = some (.int .i64 (c.bs.length : Int)) ∧ w.cell? ⟨g, k * 3 + 2, none⟩ = some (.bool (decide c.broken))
theorem CAt.below {w w' : World} {A : Option Addr} {cs : List Ch} (h : CAt w A cs) (hb : Below w.heap.size w w') : CAt w' A cs := by
  intro k c hc
  obtain ⟨g, e, hl, h0, h1, h2⟩ := h k c hc
  exact ⟨g, e, Nat.lt_of_lt_of_le hl hb.size, (hb.cell (p := ⟨g, _, none⟩) hl).trans h0, (hb.cell (p := ⟨g, _, none⟩) hl).trans h1, (hb.cell (p := ⟨g, _, none⟩) hl).trans h2⟩
theorem Chars.at_ {w : World} {B : Nat} {v : Value} {cs : List Ch} (h : Chars w B v cs) : ∃ A cap, v = .slice A cs.length cap ∧ CAt w A cs := by
  rcases hn : cs.length with _ | n
  · have : cs = [] := List.eq_nil_of_length_eq_zero hn
    subst this
    obtain ⟨_, h1 | ⟨g, cap, cur, h1, _⟩⟩ := h
    · exact ⟨none, 0, h1.1, fun k c hc => by simp at hc⟩
    · exact ⟨_, cap, h1, fun k c hc => by simp at hc⟩
  · unfold Chars at h
    rw [hn] at h
    obtain ⟨g, cap, rfl, hg⟩ := own_form h
    refine ⟨_, cap, rfl, fun k c hc => ⟨g, rfl, hg, ?_⟩⟩
    obtain ⟨hk, hkc⟩ := List.getElem?_eq_some_iff.1 hc
    have hs : cel ful cs = cel ful (cs.take k) ++ (ce c.r c.bs.length (decide c.broken) ++ cel ful (cs.drop (k + 1))) := by
      conv => lhs; rw [← List.take_append_drop k cs, List.drop_eq_getElem_cons hk, hkc]
      simp [cel, ful]
    have hlen : (cel ful (cs.take k)).length = k * 3 := by rw [cel_len _ ful_len, List.length_take]; omega
    obtain ⟨a0, a1, a2⟩ := cel_at (cel ful (cs.take k)) (cel ful (cs.drop (k + 1))) c.r c.bs.length (decide c.broken) (k * 3) hlen
    rw [← hs] at a0 a1 a2
    exact ⟨(World.ownsRow.cellAt h _ (by omega)).trans a0, (World.ownsRow.cellAt h _ (by omega)).trans a1, (World.ownsRow.cellAt h _ (by omega)).trans a2⟩

/- How far the document's Words has come: D is through, ds are to come; L are words, cur is one that has begun. -/
structure Wo (l : List UInt8) (cs D ds : List Ch) (L : List (List Ch)) (cur : List Ch) : Prop where
  all : cs = D ++ ds
  txt : l = flat D ++ flat ds
  wds : wd [] (tw cs) = L ++ wd cur (tw ds)
  oks : (tw cs).all okC = (tw ds).all okC
  len : L.length ≤ D.length
  ne : ∀ c ∈ cur, c.bs ≠ []
theorem tw_hash (c : Ch) (ds : List Ch) (h : c.r = 35) : tw (c :: ds) = [] := by simp [tw, h]
theorem tw_other (c : Ch) (ds : List Ch) (h : c.r ≠ 35) : tw (c :: ds) = c :: tw ds := by simp [tw, h]
theorem Wo.start (l : List UInt8) (cs : List Ch) (h : Rg l cs) : Wo l cs [] cs [] [] := ⟨rfl, rg_flat _ _ h, rfl, rfl, Nat.le_refl _, by simp⟩
theorem Wo.last0 {l : List UInt8} {cs D ds : List Ch} {L : List (List Ch)} (h : Wo l cs D ds L []) (he : tw ds = []) : wordsOf cs = (L.map flat, 0) := by
  unfold wordsOf; rw [h.oks, h.wds, he]; simp [wd]
theorem Wo.last1 {l : List UInt8} {cs D ds : List Ch} {L : List (List Ch)} {cur : List Ch} (h : Wo l cs D ds L cur) (hc : cur ≠ []) (he : tw ds = []) : wordsOf cs = (L.map flat ++ [flat cur], 0) := by
  unfold wordsOf; rw [h.oks, h.wds, he]; simp [wd, hc]
theorem Wo.bad {l : List UInt8} {cs D ds : List Ch} {c : Ch} {L : List (List Ch)} {cur : List Ch} (h : Wo l cs D (c :: ds) L cur) (h35 : c.r ≠ 35) (hc : okC c = false) : wordsOf cs = ([], 30) := by
  unfold wordsOf; rw [h.oks, tw_other c ds h35, List.all_cons, hc]; rfl
theorem Wo.gap0 {l : List UInt8} {cs D ds : List Ch} {c : Ch} {L : List (List Ch)} (h : Wo l cs D (c :: ds) L []) (h35 : c.r ≠ 35) (hc : okC c = true) (hb : Wd.blank c = true) : Wo l cs (D ++ [c]) ds L [] :=
  ⟨by rw [h.all]; simp, by rw [h.txt, flat_append, flat_cons]; simp [flat], by rw [h.wds, tw_other c ds h35, wd, if_pos hb, if_pos rfl], by rw [h.oks, tw_other c ds h35, List.all_cons, hc]; rfl, by have := h.len; simp; omega, by simp⟩
theorem Wo.gap1 {l : List UInt8} {cs D ds : List Ch} {c : Ch} {L : List (List Ch)} {cur : List Ch} (h : Wo l cs D (c :: ds) L cur) (hn : cur ≠ []) (h35 : c.r ≠ 35) (hc : okC c = true) (hb : Wd.blank c = true) : Wo l cs (D ++ [c]) ds (L ++ [cur]) [] :=
  ⟨by rw [h.all]; simp, by rw [h.txt, flat_append, flat_cons]; simp [flat], by rw [h.wds, tw_other c ds h35, wd, if_pos hb, if_neg hn]; simp, by rw [h.oks, tw_other c ds h35, List.all_cons, hc]; rfl, by have := h.len; simp; omega, by simp⟩
theorem Wo.more {l : List UInt8} {cs D ds : List Ch} {c : Ch} {L : List (List Ch)} {cur : List Ch} (h : Wo l cs D (c :: ds) L cur) (h35 : c.r ≠ 35) (hc : okC c = true) (hb : Wd.blank c = false) (hne : c.bs ≠ []) : Wo l cs (D ++ [c]) ds L (cur ++ [c]) :=
  ⟨by rw [h.all]; simp, by rw [h.txt, flat_append, flat_cons]; simp [flat], by rw [h.wds, tw_other c ds h35, wd, if_neg (by rw [hb]; simp)], by rw [h.oks, tw_other c ds h35, List.all_cons, hc]; rfl, by have := h.len; simp; omega,
    by intro x hx; rcases List.mem_append.1 hx with g | g; exact h.ne x g; simp at g; rw [g]; exact hne⟩
theorem Wo.text {l : List UInt8} {cs D ds : List Ch} {c : Ch} {L : List (List Ch)} {cur : List Ch} (h : Wo l cs D (c :: ds) L cur) : (sb l).extract (flat D).length ((flat D).length + c.bs.length) = sb c.bs ∧ (flat D).length + c.bs.length ≤ l.length := by
  have e : l = flat D ++ c.bs ++ flat ds := by rw [h.txt, flat_cons, List.append_assoc]
  refine ⟨?_, by rw [e]; simp⟩
  rw [sb_extract, e]; congr 1; simp
theorem flat_ne {cur : List Ch} (h : ∀ c ∈ cur, c.bs ≠ []) (hn : cur ≠ []) : flat cur ≠ [] := by
  cases cur with
  | nil => exact absurd rfl hn
  | cons c t => rw [flat_cons]; simp [h c List.mem_cons_self]
theorem Wo.curlen {l : List UInt8} {cs D ds : List Ch} {L : List (List Ch)} {cur : List Ch} (h : Wo l cs D ds L cur) : D.length ≤ l.length ∨ ∃ c ∈ D, c.bs = [] := by
  have : ∀ E : List Ch, E.length ≤ (flat E).length ∨ ∃ c ∈ E, c.bs = [] := by
    intro E
    induction E with
    | nil => left; simp
    | cons c E ih =>
      by_cases hb : c.bs = []
      · exact Or.inr ⟨c, List.mem_cons_self, hb⟩
      · rcases ih with ih | ⟨d, hd, h⟩
        · left
          have : 1 ≤ c.bs.length := by cases hc : c.bs with | nil => exact absurd hc hb | cons a t => simp
          rw [flat_cons, List.length_append, List.length_cons]; omega
        · exact Or.inr ⟨d, List.mem_cons_of_mem _ hd, h⟩
  rcases this D with g | g
  · left; rw [h.txt, List.length_append]; omega
  · exact Or.inr g

theorem at_snoc (D : List Ch) (c : Ch) : Value.int .i64 (((flat D).length : Int) + (c.bs.length : Int)) = .int .i64 ((flat (D ++ [c])).length : Int) := by
  rw [flat_append, List.length_append]; simp [flat]
theorem kept43 {w w' : World} {B : Nat} {v : Value} {n : Nat} {xs : List Value} (ho : w.ownsRow B 9 1 v n xs) (hg : w.grownBy w' v.ownBlock) {b : Nat} {cs : Array Value} (hb : w.heap[b]? = some (.cells cs 87 (0, 0))) : w'.heap[b]? = some (.cells cs 87 (0, 0)) := by
  refine (hg.block b (lt_of_block hb) fun e => ?_).trans hb
  obtain ⟨_, c, hc⟩ := own_lt ho b e.symm
  rw [hb] at hc; cases hc
theorem two_new (w : World) (o o' : Obj) : ((w.alloc o).alloc o').heap[w.heap.size]? = some o := (Lib.alloc_old _ o' _ (by simp)).trans (heap_alloc_new w o)

def RwRel (w0 : World) (l : List UInt8) (cs : List Ch) (g : Nat) (v s a i : Value) (wr : World) : Prop :=
  ∃ (D ds : List Ch) (L : List (List Ch)) (cur : List Ch), Wo l cs D ds L cur ∧ ds.length = g ∧ i = .int .i64 (D.length : Int) ∧ a = .int .i64 ((flat D).length : Int) ∧ s = .string (sb (flat cur)) ∧ (flat cur).length ≤ (flat D).length ∧
    Own wr w0.heap.size v (L.map flat) ∧ Below w0.heap.size w0 wr

set_option maxRecDepth 100000 in
set_option maxHeartbeats 4000000 in
theorem rwords_any (l : List UInt8) (cs : List Ch) (w : World) (h : Rg l cs) (hl : l.length ≤ 300000) :
    Calls Tryz.prog 40 #[.string (sb l)] w fun e w' => ∃ v, e = .returned (.tuple #[v, .int .i64 (wordsOf cs).2]) ∧ Own w' w.heap.size v (wordsOf cs).1 ∧ Below w.heap.size w w' := by
  have hsz := sb_size l
  have HW := Lib.hid h; clear h
  go_enter Tryz.func40, Tryz.ntmps40
  go_wp2_with fail
  refine (chars_any l cs _ HW.out hl).mono ?_
  rintro e w1 ⟨v, rfl, hch, hb1⟩
  obtain ⟨A, cap, rfl, hca⟩ := hch.at_
  have HCA := Lib.hid hca; have HB1 := Lib.hid hb1; clear hch hca hb1
  obtain ⟨n, hn⟩ : ∃ n, n = cs.length := ⟨_, rfl⟩
  have hnl : n ≤ l.length := by rw [hn]; exact rg_len _ _ HW.out
  rw [← hn]
  have HN := Lib.hid hn; clear hn
  go_wp2
  go_loopg [4, 5, 6, 8] n (fun g v s a i wr => RwRel w1 l cs g v s a i wr)
  case atStart => exact ⟨[], cs, [], [], Wo.start l cs HW.out, HN.out.symm, rfl, rfl, rfl, Nat.le_refl _, Own.none_ _ _, Below.refl _ _⟩
  case round =>
    obtain ⟨D, ds, L, cur, hwo, hg, rfl, rfl, rfl, hcl, ho, hb⟩ := hrel
    have hsum : D.length + ds.length = n := by rw [HN.out, hwo.all, List.length_append]
    have hLl := hwo.len
    have hs1 := hb.size
    have HB := Lib.hid hb; have HO := Lib.hid ho; clear hb ho
    rcases ds with _ | ⟨c, ds⟩
    · have hDn : n ≤ D.length := by simp at hsum; omega
      have hDn2 : D.length ≤ n := by simp at hsum; omega
      have HWO := Lib.hid hwo; clear hwo
      by_cases hcur : cur = []
      · subst hcur
        have HE := Lib.hid (HWO.out.last0 (show tw [] = [] from rfl)); 
        have t1 : (sb (flat [])).toList = [] := by rw [sb_toList]; rfl
        go_wp2
        all_goals (try (exfalso; omega))
        go_ret2
        have HB2 := Lib.hid (below_trans HB1.out HB.out)
        rw [HE.out]
        refine ⟨_, rfl, own_mono HO.out HB1.out.size, HB2.out⟩
      · have HE := Lib.hid (HWO.out.last1 hcur (show tw [] = [] from rfl)); 
        have t1 : (sb (flat cur)).toList ≠ [] := by rw [sb_toList]; exact flat_ne HWO.out.ne hcur
        have t2 : (sb (flat cur)).toList.isEmpty = false := by simpa using t1
        have HNC := Lib.hid hcur; clear hcur
        have hal2 : Below wr.heap.size wr (wr.alloc (.cells #[.string (sb (flat cur))] 9)) := (Below.refl _ _).alloc (Nat.le_refl _) _
        have HO2 := Lib.hid (HO.out.below hal2)
        have HB2 := Lib.hid (below_trans HB.out hal2); clear hal2
        have hcell : (wr.alloc (.cells #[.string (sb (flat cur))] 9)).cell? ⟨wr.heap.size, 0, none⟩ = some (.string (sb (flat cur))) := by
          rw [cell_of_row _ _ 0 _ 9 (0, 0) (heap_alloc_new _ _)]; rfl
        have HC := Lib.hid hcell; clear hcell
        go_wp2_with (at_builtin; refine app_str rfl (.tmp 76) (.tmp 78) rfl w1.heap.size _ (L.map flat) (flat cur) rfl HO2.out _ rfl HC.out ?c1 ?c2 ?_)
        all_goals (try (exfalso; omega))
        case c1 => rw [List.length_map]; omega
        case c2 => exact HB2.out.size
        intro v' w2 ho2 hg2
        have HB3 := Lib.hid (Below.grown HB2.out hg2 HB2.out.size fun g e => (own_lt HO2.out g e).1)
        have HO3 := Lib.hid ho2; clear ho2 hg2
        go_wp2
        go_ret2
        rw [HE.out]
        refine ⟨_, rfl, own_mono HO3.out HB1.out.size, below_trans HB1.out HB3.out⟩
    · have hlt : D.length < n := by simp at hsum; omega
      obtain ⟨gg, hA, hgg, b0, b1, b2⟩ := HCA.out.below HB.out D.length c (by rw [hwo.all]; simp)
      subst hA
      by_cases h35 : c.r = 35
      · have HWO := Lib.hid hwo; clear hwo
        rw [h35] at b0
        have hbr : decide c.broken = false := by rw [decide_eq_false]; intro hh; have := hh.1; omega
        by_cases hcur : cur = []
        · subst hcur
          have HE := Lib.hid (HWO.out.last0 (tw_hash c ds h35)); 
          have t1 : (sb (flat [])).toList = [] := by rw [sb_toList]; rfl
          go_wp2
          all_goals (try (exfalso; omega))
          go_ret2
          have HB2 := Lib.hid (below_trans HB1.out HB.out)
          rw [HE.out]
          refine ⟨_, rfl, own_mono (World.ownsRow.alloc HO.out _) HB1.out.size, HB2.out.alloc (by have := HB1.out.size; omega) _⟩
        · have HE := Lib.hid (HWO.out.last1 hcur (tw_hash c ds h35)); 
          have t1 : (sb (flat cur)).toList ≠ [] := by rw [sb_toList]; exact flat_ne HWO.out.ne hcur
          have t2 : (sb (flat cur)).toList.isEmpty = false := by simpa using t1
          have HNC := Lib.hid hcur; clear hcur
          have hal : Below wr.heap.size wr (wr.alloc (.cells #[.int .i32 35, .int .i64 (c.bs.length : Int), .bool false] 87)) := (Below.refl _ _).alloc (Nat.le_refl _) _
          have hal2 : Below wr.heap.size wr ((wr.alloc (.cells #[.int .i32 35, .int .i64 (c.bs.length : Int), .bool false] 87)).alloc (.cells #[.string (sb (flat cur))] 9)) := hal.alloc (by simp) _
          have HO2 := Lib.hid (HO.out.below hal2)
          have HB2 := Lib.hid (below_trans HB.out hal2); clear hal hal2
          have hcell : ((wr.alloc (.cells #[.int .i32 35, .int .i64 (c.bs.length : Int), .bool false] 87)).alloc (.cells #[.string (sb (flat cur))] 9)).cell? ⟨wr.heap.size + 1, 0, none⟩ = some (.string (sb (flat cur))) := by
            rw [show wr.heap.size + 1 = (wr.alloc (.cells #[.int .i32 35, .int .i64 (c.bs.length : Int), .bool false] 87)).heap.size by simp, cell_of_row _ _ 0 _ 9 (0, 0) (heap_alloc_new _ _)]; rfl
          have HC := Lib.hid hcell; clear hcell
          go_wp2_with (at_builtin; refine app_str rfl (.tmp 76) (.tmp 78) rfl w1.heap.size _ (L.map flat) (flat cur) rfl HO2.out _ rfl HC.out ?c1 ?c2 ?_)
          all_goals (try (exfalso; omega))
          case c1 => rw [List.length_map]; omega
          case c2 => exact HB2.out.size
          intro v' w2 ho2 hg2
          have HB3 := Lib.hid (Below.grown HB2.out hg2 HB2.out.size fun g e => (own_lt HO2.out g e).1)
          have HO3 := Lib.hid ho2; clear ho2 hg2
          go_wp2
          go_ret2
          rw [HE.out]
          refine ⟨_, rfl, own_mono HO3.out HB1.out.size, below_trans HB1.out HB3.out⟩
      · by_cases hok : okC c = true
        · have hnb : ¬ c.broken := fun hh => by simp [okC, hh] at hok
          have hrr : ¬ ((c.r < 32 ∧ c.r ≠ 9) ∨ c.r = 127) := fun hh => by rw [ok_bad1 c hh] at hok; cases hok
          have hbd : decide c.broken = false := decide_eq_false hnb
          rw [hbd] at b2
          have HOK := Lib.hid hok; clear hok hnb hbd
          have H35 := Lib.hid h35
          have hx := hwo.text.1
          have hx2 := hwo.text.2
          have hne : c.bs ≠ [] := rg_ne _ _ HW.out c (by rw [hwo.all]; simp)
          have HNE := Lib.hid hne; clear hne
          have HWO := Lib.hid hwo; clear hwo
          have hal : Below wr.heap.size wr (wr.alloc (.cells #[.int .i32 (c.r : Int), .int .i64 (c.bs.length : Int), .bool false] 87)) := (Below.refl _ _).alloc (Nat.le_refl _) _
          by_cases hbl : Wd.blank c = true
          · have hbr : c.r = 32 ∨ c.r = 9 ∨ c.r = 160 := by simpa [Wd.blank, or_assoc] using hbl
            have HBL := Lib.hid hbl; clear hbl hx
            by_cases hcur : cur = []
            · subst hcur
              have t1 : (sb (flat [])).toList = [] := by rw [sb_toList]; rfl
              have HO2 := Lib.hid (HO.out.below hal)
              have HB2 := Lib.hid (below_trans HB.out hal); clear hal
              rcases hbr with hbr | hbr | hbr
              all_goals
                rw [hbr] at b0 HO2 HB2
                go_wp2
                all_goals (try (exfalso; omega))
                go_roundg (gk - 1)
                case measure => simp at hg; omega
                case rel =>
                  exact ⟨D ++ [c], ds, L, [], HWO.out.gap0 H35.out HOK.out HBL.out, by simp at hg; omega, by rw [List.length_append]; go_num, at_snoc D c, rfl, by simp [flat], HO2.out, HB2.out⟩
            · have t1 : (sb (flat cur)).toList ≠ [] := by rw [sb_toList]; exact flat_ne HWO.out.ne hcur
              have t2 : (sb (flat cur)).toList.isEmpty = false := by simpa using t1
              have HNC := Lib.hid hcur; clear hcur hal
              rcases hbr with hbr | hbr | hbr
              all_goals
                rw [hbr] at b0
                have hal : Below wr.heap.size wr (wr.alloc (.cells #[.int .i32 (c.r : Int), .int .i64 (c.bs.length : Int), .bool false] 87)) := (Below.refl _ _).alloc (Nat.le_refl _) _
                have hal2 : Below wr.heap.size wr ((wr.alloc (.cells #[.int .i32 (c.r : Int), .int .i64 (c.bs.length : Int), .bool false] 87)).alloc (.cells #[.string (sb (flat cur))] 9)) := hal.alloc (by simp) _
                have HO2 := Lib.hid (HO.out.below hal2)
                have HB2 := Lib.hid (below_trans HB.out hal2); clear hal hal2
                have hcell : ((wr.alloc (.cells #[.int .i32 (c.r : Int), .int .i64 (c.bs.length : Int), .bool false] 87)).alloc (.cells #[.string (sb (flat cur))] 9)).cell? ⟨wr.heap.size + 1, 0, none⟩ = some (.string (sb (flat cur))) := by
                  rw [show wr.heap.size + 1 = (wr.alloc (.cells #[.int .i32 (c.r : Int), .int .i64 (c.bs.length : Int), .bool false] 87)).heap.size by simp, cell_of_row _ _ 0 _ 9 (0, 0) (heap_alloc_new _ _)]; rfl
                have HC := Lib.hid hcell; clear hcell
                rw [hbr] at HO2 HB2 HC
                go_wp2_with (at_builtin; refine app_str rfl (.tmp 57) (.tmp 59) rfl w1.heap.size _ (L.map flat) (flat cur) rfl HO2.out _ rfl HC.out ?c1 ?c2 ?_)
                all_goals (try (exfalso; omega))
                case c1 => rw [List.length_map]; omega
                case c2 => exact HB2.out.size
                intro v' w2 ho2 hg2
                have HB3 := Lib.hid (Below.grown HB2.out hg2 HB2.out.size fun g e => (own_lt HO2.out g e).1)
                have HO3 := Lib.hid ho2; clear ho2
                have q1 : w2.cell? ⟨wr.heap.size, 1, none⟩ = some (.int .i64 (c.bs.length : Int)) := by rw [Lib.cell_of_heap (kept43 HO2.out hg2 (two_new wr _ _))]; rfl
                clear hg2
                go_wp2
                go_roundg (gk - 1)
                case measure => simp at hg; omega
                case rel =>
                  exact ⟨D ++ [c], ds, L ++ [cur], [], HWO.out.gap1 HNC.out H35.out HOK.out HBL.out, by simp at hg; omega, by rw [List.length_append]; go_num, at_snoc D c, rfl, by simp [flat], by rw [List.map_append]; exact HO3.out, HB3.out⟩
          · have hbr : ¬ (c.r = 32 ∨ c.r = 9 ∨ c.r = 160) := by simpa [Wd.blank, or_assoc] using hbl
            have HBL := Lib.hid (show Wd.blank c = false by simpa using hbl); clear hbl
            have HO2 := Lib.hid (HO.out.below hal)
            have HB2 := Lib.hid (below_trans HB.out hal); clear hal
            have e1 : ((c.r : Int) == 32) = false := by simp; omega
            have e2 : ((c.r : Int) == 9) = false := by simp; omega
            have e3 : ((c.r : Int) == 160) = false := by simp; omega
            have hz1 : (sb (flat cur)).size ≤ 300000 := by rw [sb_size]; omega
            have hz2 : (sb c.bs).size ≤ 300000 := by rw [sb_size]; omega
            go_wp2
            all_goals (try (exfalso; omega))
            all_goals go_roundg (gk - 1)
            all_goals first
              | (simp at hg; omega)
              | exact ⟨D ++ [c], ds, L, cur ++ [c], HWO.out.more H35.out HOK.out HBL.out HNE.out, by simp at hg; omega, by rw [List.length_append]; go_num, at_snoc D c, by rw [sb_append, flat_append]; simp [flat], by rw [flat_append, flat_append, List.length_append, List.length_append]; omega, HO2.out, HB2.out⟩
        · have hok2 : okC c = false := by simpa using hok
          have HE := Lib.hid (hwo.bad h35 hok2)
          have hcase : c.broken ∨ (¬ c.broken ∧ ((c.r < 32 ∧ c.r ≠ 9) ∨ c.r = 127)) := by
            by_cases hb : c.broken
            · exact Or.inl hb
            · by_cases hr : (c.r < 32 ∧ c.r ≠ 9) ∨ c.r = 127
              · exact Or.inr ⟨hb, hr⟩
              · rw [ok_good c hr hb] at hok2; cases hok2
          clear hwo hok hok2
          have HB2 := Lib.hid (below_trans HB1.out HB.out)
          have hsb := HB1.out.size
          rcases hcase with hb | ⟨hb, hr⟩
          · rw [decide_eq_true hb] at b2
            have HBR := Lib.hid hb; clear hb
            go_wp2
            all_goals (try (exfalso; omega))
            go_ret2
            rw [HE.out]
            exact ⟨_, rfl, Own.none_ _ _, HB2.out.alloc (by omega) _⟩
          · rw [decide_eq_false hb] at b2
            have HBR := Lib.hid hb; clear hb
            go_wp2
            all_goals (try (exfalso; omega))
            all_goals
              go_ret2
              rw [HE.out]
              exact ⟨_, rfl, Own.none_ _ _, HB2.out.alloc (by omega) _⟩

end Go.Proofs.YtmcmpjcijbeilaaGreatDoor.Ws
