/-
  What is proved here: contracts of maps.Keys and slices.Sorted over a map of mail: all vertices to which something came, rising. Condition: fewer than 10^9 messages came.
-/
import Derived.Test.YtgkmmjlhphinhaaInShelf
import Derived.Test.YtgkmmjlhphinhaaInT
import Derived.Sort.OwnSortedInts
namespace Go.Proofs.Ytgkmmjlhphinhaa.In
open Go.RowKit Go.Maps Gr Wd Ws Fx Rk Lb Al

/- Plain: a row that rises tells what comes to whom. -/
theorem up_mail (k x y : Int) : ∀ {l : List Ms}, UpM l → (mailM k x l = some y ↔ (x, y) ∈ l)
  | [], _ => by simp [mailM_nil]
  | a :: l, h => by
    obtain ⟨h1, h2⟩ := List.pairwise_cons.1 h
    rw [mailM_cons]
    by_cases e : a.1 = x
    · rw [if_pos e, mailM_off k x (fun z hz => by have := h1 z hz; omega)]
      show some a.2 = some y ↔ _
      constructor
      · intro g
        have : a = (x, y) := Prod.ext e (Option.some.inj g)
        rw [this]; exact List.mem_cons_self
      · intro g
        rcases List.mem_cons.1 g with rfl | g
        · rfl
        · have := h1 _ g; simp only at this; omega
    · rw [if_neg e]
      show mailM k x l = some y ↔ _
      rw [up_mail k x y h2]
      constructor
      · exact List.mem_cons_of_mem _
      · intro g
        rcases List.mem_cons.1 g with rfl | g
        · exact absurd rfl e
        · exact g
theorem up_nodup {l : List Ms} (h : UpM l) : l.Nodup := List.Pairwise.imp (fun {a b} g e => by rw [e] at g; omega) h
theorem up_ext {l m : List Ms} (hl : UpM l) (hm : UpM m) (h : ∀ x : Ms, x ∈ l ↔ x ∈ m) : l = m :=
  List.Perm.eq_of_pairwise (le := fun a b : Ms => a.1 < b.1) (fun a b _ _ h1 h2 => by omega) hl hm ((List.perm_ext_iff_of_nodup (up_nodup hl) (up_nodup hm)).2 h)
/- The vertices, rising, and what came to each: all messages, folded. -/
def vlM (k x : Int) (L : List Ms) : Int := (mlOf (mailM k x L)).2
theorem vlM_of {k x y : Int} {L : List Ms} (h : mailM k x L = some y) : vlM k x L = y := by unfold vlM; rw [h]; rfl
def Rsn (S : List Int) : Prop := S.Pairwise fun a b => a < b
theorem fold_keys (k : Int) (L : List Ms) {S : List Int} (hS : Rsn S) (hm : ∀ x, x ∈ S ↔ (mailM k x L).isSome = true) : (S.map fun x => (x, vlM k x L)) = putM k [] L := by
  have hu : UpM (putM k [] L) := up_putM k L (by simp [UpM])
  refine up_ext ?_ hu fun p => ?_
  · exact List.pairwise_map.2 hS
  · obtain ⟨x, y⟩ := p
    rw [← up_mail k x y hu, mailM_fold, List.mem_map]
    constructor
    · rintro ⟨z, hz, e⟩
      obtain ⟨u, hu⟩ := Option.isSome_iff_exists.1 ((hm z).1 hz)
      have e1 : z = x := congrArg Prod.fst e
      have e2 : vlM k z L = y := congrArg Prod.snd e
      subst e1
      rw [hu, ← e2, vlM_of hu]
    · intro h
      exact ⟨x, (hm x).2 (by rw [h]; rfl), by rw [vlM_of h]⟩

theorem keys_mem {H : Type} {P : Program} {kt : TypeId} {R : Value → Option (DataW H × List MemPlace)} {w : World} {b n : Nat} {D : DataW H} (hown : w.ownsMap P kt R b n D) (K : Keyed P kt) (hk : P.underlying kt = some (.int .i64)) :
    (intKeys D).Nodup ∧ ∀ x : Int, x ∈ intKeys D ↔ has D (.int .i64 x) = true := by
  obtain ⟨es, hD, hpw, _⟩ := hown.entries K
  obtain ⟨es', hD', hko⟩ := hown.keysOf
  obtain rfl : es = es' := by rw [hD] at hD'; simpa using hD'
  subst hD
  have hx : ∀ p ∈ es, ∃ x, p.1 = .int .i64 x := fun p hp => by
    obtain ⟨v, hv⟩ := hko p hp
    obtain ⟨x, _, hx, _⟩ := Maps.keyOf_i64 hk hv
    exact ⟨x, hx⟩
  constructor
  · show (es.map fun p => _root_.Go.intOf p.1).Nodup
    refine List.pairwise_map.2 (hpw.imp_of_mem fun {p q} hp hq hne e => hne ?_)
    obtain ⟨a, ha⟩ := hx p hp
    obtain ⟨b, hb⟩ := hx q hq
    rw [ha, hb] at e ⊢
    exact congrArg _ e
  · intro x
    rw [has_eq, List.any_eq_true]
    show x ∈ es.map (fun p => _root_.Go.intOf p.1) ↔ _
    rw [List.mem_map]
    constructor
    · rintro ⟨p, hp, rfl⟩
      obtain ⟨a, ha⟩ := hx p hp
      exact ⟨p, hp, by rw [ha]; simp [Lit.sameKey, _root_.Go.intOf]⟩
    · rintro ⟨p, hp, hs⟩
      obtain ⟨a, ha⟩ := hx p hp
      rw [ha] at hs
      exact ⟨p, hp, by rw [ha]; simpa [Lit.sameKey, _root_.Go.intOf] using hs⟩
theorem own_size {H : Type} {P : Program} {kt : TypeId} {R : Value → Option (DataW H × List MemPlace)} {w : World} {b n : Nat} {D : DataW H} (hown : w.ownsMap P kt R b n D) : Maps.size D ≤ n := by
  obtain ⟨es, clock, hb, F, hs, hD⟩ := hown
  subst hD
  rw [size_eq, length_sorted]
  simpa using hs
theorem sorts_in (n : Nat) : AnyZI.SortsIn Try.prog Try.seq_ren Fence.wide n :=
  ⟨fun blk off cap ss W hH hl hn => callsIn_wide.2 (Any.slices_Sort_int Try.lays189 blk off cap ss W hH hl hn), fun p cap W => callsIn_wide.2 (Any.slices_Sort_int_none Try.lays189 p cap W)⟩
theorem keys_any (M : Nat) (w : World) : Calls Try.prog 21 #[.map (some M)] w fun e w' => e = .returned (.func (.func 31) #[] #[.pointer (some ⟨w.heap.size, 0, none⟩)]) ∧ w' = w.alloc (.cells #[.map (some M)] 44) :=
  callsIn_wide.1 (AnyZI.keys_in Try.seq7 Fence.wide 1 trivial rfl (some M) w)
theorem sorted_any (k : Int) (L : List Ms) (M b : Nat) (W : World) (hb : W.cell? ⟨b, 0, none⟩ = some (.map (some M))) (hbl : b < W.heap.size) (hM : CM W M k L) (hn : L.length < 1000000000) :
    Calls Try.prog 20 #[.func (.func 31) #[] #[.pointer (some ⟨b, 0, none⟩)]] W fun e w' =>
      ∃ v S, e = .returned v ∧ Hid (IOwn w' W.heap.size v S) ∧ Hid (Rsn S) ∧ Hid (∀ x, x ∈ S ↔ (mailM k x L).isSome = true) ∧ Hid (Below W.heap.size W w') := by
  obtain ⟨D, h1, h2⟩ := hM
  have hsz := own_size h1
  obtain ⟨hnd, hmem⟩ := keys_mem h1 keyedI Try.underlying3
  have hseq := AnyZI.keys_gives Try.seq10 Fence.wide 1 trivial rfl (Nat.le_refl _) b M L.length D W hbl hb h1
  have e9 : ∀ args w, (callFunc (Try.seq_ren.f 9) args).run Try.prog w = .ok (.enter (Try.seq_ren.f 9) args) w := enters_of Try.func30 (by kernel_rfl) rfl
  have eg : ∀ args w, (callFunc (Try.seq_ren.f 10) args).run Try.prog w = .ok (.enter (Try.seq_ren.f 10) args) w := (Try.seq10).f10.enters rfl
  have := AnyZI.sorted_in Try.seq6 Fence.wide 4 trivial trivial trivial trivial rfl (Nat.le_refl _) (sorts_in 3) e9 (Try.seq_ren.f 10) #[.pointer (some ⟨b, 0, none⟩)] trivial eg (fun ss => ss.Perm (intKeys D)) (Maps.size D) (by unfold maxLen; omega) (by omega) W hseq
  refine (callsIn_wide.1 this).mono fun e w' ⟨v, ss, he, hp, hown, _, hbel⟩ => ⟨v, ss.mergeSort (fun x y => decide (x ≤ y)), he, ?_, ?_, ?_, Lib.hid hbel⟩
  · refine Lib.hid ?_
    unfold IOwn
    rw [List.length_mergeSort]
    exact hown
  · refine Lib.hid ?_
    have tr : ∀ a b c : Int, decide (a ≤ b) = true → decide (b ≤ c) = true → decide (a ≤ c) = true := fun a b c h1 h2 => by simp only [decide_eq_true_eq] at *; omega
    have tot : ∀ a b : Int, (decide (a ≤ b) || decide (b ≤ a)) = true := fun a b => by simp only [Bool.or_eq_true, decide_eq_true_eq]; omega
    have hpw := List.pairwise_mergeSort tr tot ss
    have hnd2 : (ss.mergeSort (fun x y => decide (x ≤ y))).Nodup := ((List.mergeSort_perm ss _).trans hp).nodup_iff.2 hnd
    unfold Rsn
    refine (hpw.and hnd2).imp fun {a b} g => ?_
    have g1 := of_decide_eq_true g.1
    have g2 := g.2
    omega
  · refine Lib.hid fun x => ?_
    rw [((List.mergeSort_perm ss _).trans hp).mem_iff, hmem x, h2.has_ x]

end Go.Proofs.Ytgkmmjlhphinhaa.In
